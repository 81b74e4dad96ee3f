/-
  What is around a box's content: style.sides, Edges, Font, and the document's Edges and Font.
-/
import Derived.Test.YtdadlhkbngopaaaStyleContent
import Derived.Deep.QuietTactic
import Derived.BigQuiet
namespace Go.Proofs.Ytdadlhkbngopaaa
open Go.RowKit

/-- a side's number -/
def Side (n : Int) : Prop := 0 ≤ n ∧ n ≤ 274877906944
set_option maxRecDepth 100000 in
set_option maxHeartbeats 4000000 in
theorem sides_any (X : Array Value) (p0 p1 p2 p3 b0 b1 b2 b3 : Int) (x0 : X[22]? = some (.int .i64 p0)) (x1 : X[23]? = some (.int .i64 p1)) (x2 : X[24]? = some (.int .i64 p2)) (x3 : X[25]? = some (.int .i64 p3))
    (y0 : X[26]? = some (.int .i64 b0)) (y1 : X[27]? = some (.int .i64 b1)) (y2 : X[28]? = some (.int .i64 b2)) (y3 : X[29]? = some (.int .i64 b3))
    (hp : Side p0 ∧ Side p1 ∧ Side p2 ∧ Side p3) (hb : Side b0 ∧ Side b1 ∧ Side b2 ∧ Side b3) (w : World) :
    Calls Try.prog 34 #[.agg X] w fun e w' => e = .returned (.agg #[.int .i64 (p0 + b0), .int .i64 (p1 + b1), .int .i64 (p2 + b2), .int .i64 (p3 + b3)]) ∧ Below w.heap.size w w' := by
  obtain ⟨⟨h1, h2⟩, ⟨h3, h4⟩, ⟨h5, h6⟩, h7, h8⟩ := hp
  obtain ⟨⟨g1, g2⟩, ⟨g3, g4⟩, ⟨g5, g6⟩, g7, g8⟩ := hb
  have i0 : ∀ W, (Instr.index 25 (.agg #[.int .i64 b0, .int .i64 b1, .int .i64 b2, .int .i64 b3]) (.int .i64 0)).run Try.prog W = .ok (.int .i64 b0) W := fun _ => by kernel_rfl
  have i1 : ∀ W, (Instr.index 25 (.agg #[.int .i64 b0, .int .i64 b1, .int .i64 b2, .int .i64 b3]) (.int .i64 1)).run Try.prog W = .ok (.int .i64 b1) W := fun _ => by kernel_rfl
  have i2 : ∀ W, (Instr.index 25 (.agg #[.int .i64 b0, .int .i64 b1, .int .i64 b2, .int .i64 b3]) (.int .i64 2)).run Try.prog W = .ok (.int .i64 b2) W := fun _ => by kernel_rfl
  have i3 : ∀ W, (Instr.index 25 (.agg #[.int .i64 b0, .int .i64 b1, .int .i64 b2, .int .i64 b3]) (.int .i64 3)).run Try.prog W = .ok (.int .i64 b3) W := fun _ => by kernel_rfl
  have B0 : Hid (∀ P Q : Array Value, Below w.heap.size w (((w.alloc (.cells X 27)).alloc (.cells P 25)).alloc (.cells Q 25))) := Lib.hid (fun P Q => (((Below.refl _ _).alloc (Nat.le_refl _) _).alloc (by simp) _).alloc (by simp; omega) _)
  have G0 : Hid (∀ P Q : Array Value, (((w.alloc (.cells X 27)).alloc (.cells P 25)).alloc (.cells Q 25)).heap[w.heap.size + 1]? = some (.cells P 25 (0, 0))) := Lib.hid (fun P Q => by
    have := heap_alloc2_old (w.alloc (.cells X 27)) (.cells P 25) (.cells Q 25)
    rwa [World.size_alloc] at this)
  go_enter Try.func34, Try.ntmps34
  go_wp2_with fail
  refine wp_loop_rounds 5 ?_
  iterate 5
    rw [rounds_succ]
    go_wp2_with fail
  refine bodyPost_ret (results_cell_row rfl _ _ (w.heap.size + 1) _ _ _ _ rfl (G0.out _ _) Try.underlying25 rfl (by kernel_rfl)) rfl ?_
  exact ⟨rfl, B0.out _ _⟩

theorem below_q {B : Nat} {a w : World} (h : Below B a w) (n : Nat) : Below B a (w.drewN n) := ⟨h.os, h.tape, h.output, h.size, h.block⟩
def acrossV (s : RS) : Int := s.pad 3 + s.bord 3 + (s.pad 1 + s.bord 1)
def upV (s : RS) : Int := s.pad 0 + s.bord 0 + (s.pad 2 + s.bord 2)
def edgesR (s : RS) : Int × Int × Int := if mayB s = true then (acrossV s, upV s, 0) else (0, 0, 60)
theorem may_part {s : RS} (h : mayB s = true) {i : Nat} (hi : i < 17) : part s i = true := by
  unfold mayB allB at h
  exact of_decide_eq_true h i hi
theorem may_pad {s : RS} (h : mayB s = true) {i : Nat} (hi : i < 4) : Side (s.pad i) := by
  have := may_part h (i := 10) (by omega)
  unfold part withinB at this
  exact of_decide_eq_true this i hi
theorem may_bord {s : RS} (h : mayB s = true) {i : Nat} (hi : i < 4) : Side (s.bord i) := by
  have := may_part h (i := 11) (by omega)
  unfold part withinB at this
  exact of_decide_eq_true this i hi
theorem across_bd {s : RS} (h : mayB s = true) : 0 ≤ acrossV s ∧ acrossV s ≤ 1099511627776 := by
  have h1 := may_pad h (i := 3) (by omega)
  have h2 := may_pad h (i := 1) (by omega)
  have h3 := may_bord h (i := 3) (by omega)
  have h4 := may_bord h (i := 1) (by omega)
  unfold Side at *; unfold acrossV; omega
theorem up_bd6 {s : RS} (h : mayB s = true) : 0 ≤ upV s ∧ upV s ≤ 1099511627776 := by
  have h1 := may_pad h (i := 0) (by omega)
  have h2 := may_pad h (i := 2) (by omega)
  have h3 := may_bord h (i := 0) (by omega)
  have h4 := may_bord h (i := 2) (by omega)
  unfold Side at *; unfold upV; omega
set_option maxRecDepth 100000 in
set_option maxHeartbeats 2000000 in
theorem edges_any (s : RS) (hs : s.ok) (w : World) (p : Int × Int × Int) (hp : edgesR s = p) :
    Calls Try.prog 17 #[.agg s.cells.toArray] w fun e w' => e = .returned (.tuple #[.int .i64 p.1, .int .i64 p.2.1, .int .i64 p.2.2]) ∧ Below w.heap.size w w' := by
  have BX := Lib.hid (Box27.new w s.cells.toArray)
  have SZ : Hid ((Try.prog.info? 27).map (·.size) = some s.cells.toArray.size) := Lib.hid style_size
  by_cases hm : mayB s = true
  · have C := Lib.hid (fun W => smay_any s hs W true hm)
    have D := Lib.hid (fun W => sides_any s.cells.toArray (s.pad 0) (s.pad 1) (s.pad 2) (s.pad 3) (s.bord 0) (s.bord 1) (s.bord 2) (s.bord 3) rfl rfl rfl rfl rfl rfl rfl rfl
      ⟨may_pad hm (by omega), may_pad hm (by omega), may_pad hm (by omega), may_pad hm (by omega)⟩ ⟨may_bord hm (by omega), may_bord hm (by omega), may_bord hm (by omega), may_bord hm (by omega)⟩ W)
    have Q : Hid (p = (acrossV s, upV s, 0)) := Lib.hid (by rw [← hp]; unfold edgesR; rw [if_pos hm])
    have A1 : acrossV s = s.pad 3 + s.bord 3 + (s.pad 1 + s.bord 1) := rfl
    have A2 : upV s = s.pad 0 + s.bord 0 + (s.pad 2 + s.bord 2) := rfl
    rw [A1, A2] at Q
    have h0 := may_pad hm (i := 0) (by omega)
    have h1 := may_pad hm (i := 1) (by omega)
    have h2 := may_pad hm (i := 2) (by omega)
    have h3 := may_pad hm (i := 3) (by omega)
    have g0 := may_bord hm (i := 0) (by omega)
    have g1 := may_bord hm (i := 1) (by omega)
    have g2 := may_bord hm (i := 2) (by omega)
    have g3 := may_bord hm (i := 3) (by omega)
    clear hp hm A1 A2
    generalize s.cells.toArray = X at BX SZ C D ⊢
    unfold Side at h0 h1 h2 h3 g0 g1 g2 g3
    generalize ha0 : s.pad 0 + s.bord 0 = a0 at *
    generalize ha1 : s.pad 1 + s.bord 1 = a1 at *
    generalize ha2 : s.pad 2 + s.bord 2 = a2 at *
    generalize ha3 : s.pad 3 + s.bord 3 = a3 at *
    have q0 : 0 ≤ a0 ∧ a0 ≤ 549755813888 := by omega
    have q1 : 0 ≤ a1 ∧ a1 ≤ 549755813888 := by omega
    have q2 : 0 ≤ a2 ∧ a2 ≤ 549755813888 := by omega
    have q3 : 0 ≤ a3 ∧ a3 ≤ 549755813888 := by omega
    clear ha0 ha1 ha2 ha3 h0 h1 h2 h3 g0 g1 g2 g3 hs
    obtain ⟨q01, q02⟩ := q0
    obtain ⟨q11, q12⟩ := q1
    obtain ⟨q21, q22⟩ := q2
    obtain ⟨q31, q32⟩ := q3
    have v1 : IntKind.i64.wrap (a3 + a1) = a3 + a1 := IntWalk.i64_in _ (by omega)
    have v2 : IntKind.i64.wrap (a0 + a2) = a0 + a2 := IntWalk.i64_in _ (by omega)
    have V1 := Lib.hid v1
    have V2 := Lib.hid v2
    clear v1 v2
    go_enter Try.func17, Try.ntmps17
    go_wp2_with (refine wpList_load_row (o := ⟨some 6, _, _, _, _, _⟩) rfl 27 _ rfl w.heap.size rfl _ X _ _ BX.out.2 Try.underlying27 rfl SZ.out ?_)
    refine (C.out _).mono ?_
    rintro e w1 ⟨rfl, hb1⟩
    have B1 : Hid (Below w.heap.size w w1) := Lib.hid (((Below.refl w.heap.size w).alloc (Nat.le_refl _) _).trans (hb1.mono (by simp)))
    have BX1 := Lib.hid (BX.out.below hb1)
    clear hb1
    go_wp2_with (refine wpList_load_row (o := ⟨some 9, _, _, _, _, _⟩) rfl 27 _ rfl w.heap.size rfl _ X _ _ BX1.out.2 Try.underlying27 rfl SZ.out ?_)
    refine (D.out _).mono ?_
    rintro e w2 ⟨rfl, hb2⟩
    have B2 : Hid (Below w.heap.size w w2) := Lib.hid (B1.out.trans (hb2.mono B1.out.size))
    clear hb2
    go_wp2_with fail
    have v1 := V1.out
    have v2 := V2.out
    go_quiet (fail)
    go_wp2_with fail
    go_ret3
    exact ⟨ret_two3 Q.out, below_q (B2.out.alloc B2.out.size _) _⟩
  · have hm' : mayB s = false := by simpa using hm
    have C := Lib.hid (fun W => smay_any s hs W false hm')
    have Q : Hid (p = (0, 0, 60)) := Lib.hid (by rw [← hp]; unfold edgesR; rw [if_neg hm])
    clear hp hm hm' hs
    generalize s.cells.toArray = X at BX SZ C ⊢
    go_enter Try.func17, Try.ntmps17
    go_wp2_with (refine wpList_load_row (o := ⟨some 6, _, _, _, _, _⟩) rfl 27 _ rfl w.heap.size rfl _ X _ _ BX.out.2 Try.underlying27 rfl SZ.out ?_)
    refine (C.out _).mono ?_
    rintro e w1 ⟨rfl, hb1⟩
    have B1 : Hid (Below w.heap.size w w1) := Lib.hid (((Below.refl w.heap.size w).alloc (Nat.le_refl _) _).trans (hb1.mono (by simp)))
    clear hb1
    go_wp2_with fail
    go_ret3
    exact ⟨ret_two3 Q.out, B1.out⟩
end Go.Proofs.Ytdadlhkbngopaaa
