/-
  The chapter's document, as the law builds it.
-/
import Derived.WalkKit
import Derived.IntWalk
import Derived.Great.BuildSlice
import Derived.Laws.Rows
import Derived.Test.YtmodegkpfdlccaaProg
import Derived.Test.YtmodegkpfdlccaaNodes
namespace Go.Proofs.Ytmodegkpfdlccaa
open Go.RowKit

def noLen : List Lit := [.int .u8 0, .int .i64 0]
def noStyle : List Lit := [.int .u8 0, .bool false] ++ (noLen ++ noLen ++ noLen ++ noLen ++ noLen ++ noLen ++ noLen ++ noLen ++ noLen ++ noLen) ++ List.replicate 11 (.int .i64 0) ++ List.replicate 5 (.int .u8 0) ++ [.bool false, .int .u8 0] ++
  List.replicate 4 (.int .i64 0) ++ noLen ++ [.int .i64 0]
/-- a box with a key and a depth, no style -/
def box (k d : Int) : RN := ⟨k, d, 0, noStyle, []⟩
theorem box_ok {k d : Int} (hk : -9223372036854775808 ≤ k ∧ k ≤ 9223372036854775807) (hd : -9223372036854775808 ≤ d ∧ d ≤ 9223372036854775807) : (box k d).ok := by
  have h1 : IntKind.i64.min = -9223372036854775808 := by decide
  have h2 : IntKind.i64.max = 9223372036854775807 := by decide
  have wk : (Lit.int .i64 k).wf = true := by simp only [Lit.wf, h1, h2, Bool.and_eq_true, decide_eq_true_eq]; exact hk
  have wd : (Lit.int .i64 d).wf = true := by simp only [Lit.wf, h1, h2, Bool.and_eq_true, decide_eq_true_eq]; exact hd
  have hs : Try.prog.keyLits 5 30 (noStyle.map Lit.toCell) = some noStyle := by kernel_rfl
  have fk : Try.prog.keyLits 5 3 [.int .i64 k] = some [.int .i64 k] := by simp [Program.keyLits, Try.underlying3, wk]
  have fd : Try.prog.keyLits 5 3 [.int .i64 d] = some [.int .i64 d] := by simp [Program.keyLits, Try.underlying3, wd]
  have fu : Try.prog.keyLits 5 5 [.int .u8 0] = some [.int .u8 0] := by kernel_rfl
  have ft : Try.prog.keyLits 5 9 [.string ⟨#[]⟩] = some [.string []] := by kernel_rfl
  have c1 : Try.prog.cellsOf 3 = 1 := by kernel_rfl
  have c2 : Try.prog.cellsOf 5 = 1 := by kernel_rfl
  have c3 : Try.prog.cellsOf 9 = 1 := by kernel_rfl
  have hl : (noStyle.map Lit.toCell).length = 47 := by kernel_rfl
  refine ⟨?_, hs, hk, hd, by show (0 : Int) ≤ 0 ∧ (0 : Int) < 256; omega, by show 0 ≤ _; omega⟩
  unfold RN.cells RN.lits box
  rw [show (6 : Nat) = 5 + 1 from rfl]
  unfold Program.keyLits
  rw [Try.underlying32]
  generalize noStyle = s at hs hl ⊢
  simp only [List.map_cons, List.map_append, List.map_nil, Lit.toCell]
  rw [if_pos ⟨by simp only [List.length_cons, List.length_append, hl, List.length_nil, node_cells], by kernel_rfl⟩]
  simp [c1, c2, c3, style_cells, fk, fd, fu, ft, hl, hs]

theorem results_row5 {P : Program} {fn : Func} {p : Tmp} {ty : TypeId} (h : fn.results = #[.cell p ty]) (tmps : Array Value) (w : World) (g : Nat) (t : TypeId) (cs : Array Value) (fr : Nat × Nat) (d : TypeDesc)
    (hp : tmps.getD p undef = .pointer (some ⟨g, 0, none⟩)) (hg : w.heap[g]? = some (.cells cs t fr))
    (hu : P.underlying ty = some d) (hd : (match d with | .struct _ | .array _ _ => true | _ => false) = true) (hi : (P.info? ty).map (·.size) = some cs.size) :
    (results fn tmps).run P w = .ok (.agg cs) w := by
  have hr := run_loadVar_row w g t ty cs fr d hg hu hd hi
  have hp' : tmps[p]?.getD undef = .pointer (some ⟨g, 0, none⟩) := by simpa using hp
  simp only [results, h]
  simp [Sem.run_bind, Result.andThen]
  rw [hp']
  simp [asAddr, hr]
def fourN (j : Nat) : RN := if j = 0 then box 1 0 else if j = 1 then box 2 1 else if j = 2 then box 3 2 else box 4 1
def fourCells : List Value := (fourN 0).cells ++ (fourN 1).cells ++ (fourN 2).cells ++ (fourN 3).cells

end Go.Proofs.Ytmodegkpfdlccaa
