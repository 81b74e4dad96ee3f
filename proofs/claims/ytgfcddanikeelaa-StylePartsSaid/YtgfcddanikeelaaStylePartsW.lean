/-
  The walk of StyleParts.
-/
import Derived.Test.YtgfcddanikeelaaAwake6
import Derived.Test.YtgfcddanikeelaaStyleMath
import Derived.Test.YtgfcddanikeelaaStyleArg
namespace Go.Proofs.Ytgfcddanikeelaa
open Go.RowKit

set_option maxRecDepth 100000 in
set_option maxHeartbeats 8000000 in
theorem walkStyleParts (z0 : RS) (a1 : Int) (a2 : Int) (w : World) (w0 : z0.ok) (w1 : (Lit.int .i64 a1).wf = true) (w2 : (Lit.int .i64 a2).wf = true) :
    Calls Try.prog 7 #[styleV z0, .int .i64 a1, .int .i64 a2] w fun e w' => e = .returned (.bool true) ∧ Below w.heap.size w w' := by
  unfold styleV
  have BL0 : Hid (Blocks w (w.alloc (.cells z0.cells.toArray 27)) [(w.heap.size, z0)]) := Lib.hid ((Blocks.nil w).grew (grew_alloc w _) z0 rfl)
  have AW := Lib.hid (fun W => awake_any W)
  have HM : Hid (mayB z0 = true → LenMay z0.width 0 ∧ LenMay z0.minW 0 ∧ LenMay z0.maxW 0) := Lib.hid (fun h => by
    have := ((may_iff z0 w0).1 h).d9
    exact ⟨this.1, this.2.1, this.2.2.1⟩)
  have CW := Lib.hid (fun x (hx : Big x) W p (hp : widthR z0 x = p) => width_any z0 w0 x hx W p hp)
  have CL := Lib.hid (fun x (hx : Big x) W p (hp : widthsR z0 x = p) => widths_any z0 w0 x hx W p hp)
  obtain ⟨r, hr⟩ : ∃ r, mayB z0 = r := ⟨_, rfl⟩
  have CM := Lib.hid (fun W => may_any z0 w0 W r hr)
  have HR := Lib.hid hr
  have X1 := Lib.hid (i64_in w1)
  have X2 := Lib.hid (i64_in w2)
  clear w0 w1 w2 hr
  go_enter Try.func7, Try.ntmps7
  go_wp2_with fail
  refine (AW.out _).mono ?_
  rintro e wq0 ⟨rfl, hb⟩
  have BL1 := Lib.hid (BL0.out.call hb)
  clear hb
  by_cases h1 : a1 < 0
  · have d1 := decide_eq_true h1
    go_wp2_with fail
    go_ret
    exact ⟨rfl, BL1.out.below⟩
  · have d1 := decide_eq_false h1
    by_cases h2 : a2 < a1
    · have d2 := decide_eq_true h2
      go_wp2_with fail
      go_ret
      exact ⟨rfl, BL1.out.below⟩
    · have d2 := decide_eq_false h2
      by_cases h3 : 68719476736 < a2
      · have d3 := decide_eq_true h3
        go_wp2_with fail
        go_ret
        exact ⟨rfl, BL1.out.below⟩
      · have d3 := decide_eq_false h3
        go_wp2_with (refine wpList_load_style (o := ⟨some 33, _, _, _, _, _⟩) rfl _ rfl w.heap.size rfl _ (BL1.out.box 0 rfl) (style_cellsz _).1 ?_)
        refine (CM.out _).mono ?_
        rintro e wq1 ⟨rfl, hb⟩
        have BL2 := Lib.hid (BL1.out.call hb)
        clear hb
        cases r with
        | false =>
          go_wp2_with fail
          go_ret
          exact ⟨rfl, BL2.out.below⟩
        | true =>
          obtain ⟨n, m, is, e1, e2, q1, q2, _⟩ := content_part (HM.out HR.out).1 (x := a1) (y := a2) (by omega) (by omega) (by omega) z0.whole (across_bd HR.out).1
          obtain ⟨n', m', p', q', e3, e4, q3, q4, q5, q6⟩ := limits_part (HM.out HR.out).2.1 (HM.out HR.out).2.2 (x := a1) (y := a2) (by omega) (by omega) (by omega) z0.whole (across_bd HR.out).1
          have C1 := Lib.hid (fun W => CW.out a1 X1.out W (n, is, 0) (by unfold widthR; rw [if_pos HR.out]; exact e1))
          have C2 := Lib.hid (fun W => CW.out a2 X2.out W (m, is, 0) (by unfold widthR; rw [if_pos HR.out]; exact e2))
          have C3 := Lib.hid (fun W => CL.out a1 X1.out W (n', m', 0) (by unfold widthsR; rw [if_pos HR.out]; exact e3))
          have C4 := Lib.hid (fun W => CL.out a2 X2.out W (p', q', 0) (by unfold widthsR; rw [if_pos HR.out]; exact e4))
          have q0 : 0 ≤ q' := by omega
          have q7 : 0 ≤ m := by omega
          clear e1 e2 e3 e4
          go_wp2_with (refine wpList_load_style (o := ⟨some 38, _, _, _, _, _⟩) rfl _ rfl w.heap.size rfl _ (BL2.out.box 0 rfl) (style_cellsz _).1 ?_)
          refine (C1.out _).mono ?_
          rintro e wq2 ⟨rfl, hb⟩
          have BL3 := Lib.hid (BL2.out.call hb)
          clear hb
          go_wp2_with (refine wpList_load_style (o := ⟨some 45, _, _, _, _, _⟩) rfl _ rfl w.heap.size rfl _ (BL3.out.box 0 rfl) (style_cellsz _).1 ?_)
          refine (C2.out _).mono ?_
          rintro e wq3 ⟨rfl, hb⟩
          have BL4 := Lib.hid (BL3.out.call hb)
          clear hb
          go_wp2_with (refine wpList_load_style (o := ⟨some 52, _, _, _, _, _⟩) rfl _ rfl w.heap.size rfl _ (BL4.out.box 0 rfl) (style_cellsz _).1 ?_)
          refine (C3.out _).mono ?_
          rintro e wq4 ⟨rfl, hb⟩
          have BL5 := Lib.hid (BL4.out.call hb)
          clear hb
          go_wp2_with (refine wpList_load_style (o := ⟨some 59, _, _, _, _, _⟩) rfl _ rfl w.heap.size rfl _ (BL5.out.box 0 rfl) (style_cellsz _).1 ?_)
          refine (C4.out _).mono ?_
          rintro e wq5 ⟨rfl, hb⟩
          have BL6 := Lib.hid (BL5.out.call hb)
          clear hb
          go_wp2_with fail
          go_ret
          exact ⟨by simp, BL6.out.below⟩
end Go.Proofs.Ytgfcddanikeelaa
