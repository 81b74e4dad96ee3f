/-
  A new variable that holds a change; what the cells of a document say.
-/
import Derived.Test.YtmodegkpfdlccaaMutKeeps
import Derived.Test.YtmodegkpfdlccaaRefTree
import Derived.Test.YtmodegkpfdlccaaNodeVar
import Derived.Test.YtmodegkpfdlccaaCopy5
import Derived.Test.YtmodegkpfdlccaaMutA
namespace Go.Proofs.Ytmodegkpfdlccaa
open Go.RowKit

theorem not_odd7 : ¬ StyOK oddStyle := by
  unfold StyOK
  have : mayB (canonL oddStyle) = false := by kernel_rfl
  rw [this]
  intro h
  cases h
/-- no change -/
def exZ : RC := ⟨0, 0, 0, 0, noNode⟩
theorem ok_z : exZ.ok := RC.ok_of (by omega) (by omega) (by omega) (by omega) noNode_ok
theorem build_z (W : World) : (Instr.build 34 #[]).run Try.prog W = .ok (changeV exZ) W := by kernel_rfl
/-- the noughts of a new change -/
def changeZero : Array Value := exZ.cells.toArray
theorem changeZero_size : changeZero.size = 55 := by kernel_rfl
theorem wpList_alloc_change {w : World} {ops : Array Oper} {rest : List Oper} {o : Oper} {a : Act} {Q : Exit → Act → World → Prop} (hgd : o.guard = none) (ho : o.op = .alloc 34)
    (h : wpList Try.prog ops Q rest (a.put o.dst (.pointer (some ⟨w.heap.size, 0, none⟩))) (w.alloc (.cells changeZero 34))) : wpList Try.prog ops Q (o :: rest) a w := by
  refine wpList_plain hgd fun K hK => ?_
  unfold Oper.wp execOp
  have hr : (Instr.alloc 34 true (.tuple #[])).run Try.prog w = .ok (.pointer (some ⟨w.heap.size, 0, none⟩)) (w.alloc (.cells changeZero 34)) := by
    simp [Instr.alloc, Sem.run_bind, go_sem, Result.andThen, Value.cells]
    exact congrArg (fun z => w.alloc (.cells z 34)) (by kernel_rfl)
  simp only [ho, Sem.run_bind, hr, Result.andThen_ok, Sem.run_pure]
  exact hK _ _ h
theorem RC.cells_one (c : RC) : ∀ u ∈ c.cells, u.oneCell' = true := by
  intro u hu
  unfold RC.cells at hu
  rcases List.mem_cons.1 hu with rfl | hu
  · rfl
  rcases List.mem_cons.1 hu with rfl | hu
  · rfl
  rcases List.mem_cons.1 hu with rfl | hu
  · rfl
  rcases List.mem_cons.1 hu with rfl | hu
  · rfl
  exact c.node.cells_one u hu
theorem wpList_store_change {w : World} {ops : Array Oper} {rest : List Oper} {o : Oper} {a : Act} {Q : Exit → Act → World → Prop} (hgd : o.guard = none) (x y : Operand) (ho : o.op = .store 34 x y) (X : Array Value)
    (hx : a.eval x = .pointer (some ⟨w.heap.size, 0, none⟩)) (hy : a.eval y = .agg X) (hX : X.size = 55) (h1 : ∀ v ∈ X.toList, v.oneCell' = true)
    (h : wpList Try.prog ops Q rest (a.put o.dst undef) (w.alloc (.cells X 34))) : wpList Try.prog ops Q (o :: rest) a (w.alloc (.cells changeZero 34)) :=
  wpList_store_new hgd 34 x y ho changeZero X hx hy (by rw [changeZero_size, hX]) (by rw [hX]; exact change_size) h1 h
/-- what a node's cells say -/
theorem node_told {W : World} {A : Option Addr} {n : Nat} {N : Nat → RN} (h : Nodes W A n N) {j : Nat} (hj : j < n) :
    ∃ b off, A = some ⟨b, off, none⟩ ∧ b < W.heap.size ∧ W.cell? ⟨b, off + j * 51, none⟩ = some (.int .i64 (N j).key) ∧ W.cell? ⟨b, off + j * 51 + 1, none⟩ = some (.int .i64 (N j).depth) ∧ W.cell? ⟨b, off + j * 51 + 2, none⟩ = some (.int .u8 (N j).kind) ∧
      W.cell? ⟨b, off + j * 51 + 3, none⟩ = some (.int .u8 (dispOf (N j))) ∧ W.cell? ⟨b, off + j * 51 + 50, none⟩ = some (.string ⟨(N j).text.toArray⟩) := by
  obtain ⟨b, off, e, hb, hc⟩ := h.2 (by omega)
  exact ⟨b, off, e, hb, (hc j hj 0 (by omega)).trans rfl, (hc j hj 1 (by omega)).trans rfl, (hc j hj 2 (by omega)).trans rfl, (hc j hj 3 (by omega)).trans (lits_disp (h.1 j hj)).1, (hc j hj 50 (by omega)).trans (h.1 j hj).last⟩
theorem int64_in7 {x : Int} (h : (Lit.int .i64 x).wf = true) : -9223372036854775808 ≤ x ∧ x ≤ 9223372036854775807 := by
  have h1 : IntKind.i64.min = -9223372036854775808 := by decide
  have h2 : IntKind.i64.max = 9223372036854775807 := by decide
  simpa only [Lit.wf, h1, h2, Bool.and_eq_true, decide_eq_true_eq] using h
end Go.Proofs.Ytmodegkpfdlccaa
