/-
  The walk of StyleWhole.
-/
import Derived.Test.YtgfcddanikeelaaAwake6
import Derived.Test.YtgfcddanikeelaaStyleMath
import Derived.Test.YtgfcddanikeelaaStyleArg
namespace Go.Proofs.Ytgfcddanikeelaa
open Go.RowKit

theorem whole_any (X : Array Value) (wh : Bool) (hX : X[1]? = some (.bool wh)) (n asked ed : Int) (he : 0 ≤ ed ∧ ed ≤ 1099511627776) (hf : Fit asked) (h1 : wh = false → n = asked) (h2 : wh = true → n = max (asked - ed) 0) (w : World) :
    Calls Try.prog 27 #[.agg X, .int .i64 n, .int .i64 asked, .int .i64 ed] w fun e w' => e = .returned (.bool true) ∧ Below w.heap.size w w' := by
  have BX := Box27.new w X
  have c1 := BX.cell hX
  obtain ⟨he1, he2⟩ := he
  unfold Fit at hf
  obtain ⟨hf1, hf2⟩ := hf
  clear BX hX
  cases wh with
  | false =>
    obtain rfl := h1 rfl
    clear h1 h2
    go_enter Try.func27, Try.ntmps27
    go_wp2_with fail
    go_ret
    exact ⟨by simp, (Below.refl _ _).alloc (Nat.le_refl _) _⟩
  | true =>
    have hn := h2 rfl
    clear h1 h2
    by_cases h : ed ≤ asked
    · rw [Int.max_eq_left (by omega)] at hn
      have hs : n + ed = asked := by omega
      have hb : (n + ed == asked) = true := by simpa using hs
      have l1 : -9223372036854775808 ≤ n := by omega
      have l2 : n ≤ 1099511627776 := by omega
      clear hn hs
      go_enter Try.func27, Try.ntmps27
      go_wp2_with fail
      go_ret
      exact ⟨by simp, (Below.refl _ _).alloc (Nat.le_refl _) _⟩
    · rw [Int.max_eq_right (by omega)] at hn
      subst hn
      have hb : (0 + ed == asked) = false := by simp; omega
      have hb' : (ed == asked) = false := by simp; omega
      have h' : asked ≤ ed := by omega
      go_enter Try.func27, Try.ntmps27
      go_wp2_with fail
      go_ret
      exact ⟨by simp, (Below.refl _ _).alloc (Nat.le_refl _) _⟩
set_option maxRecDepth 100000 in
set_option maxHeartbeats 8000000 in
theorem walkStyleWhole (z0 : RS) (a1 : Int) (w : World) (w0 : z0.ok) (w1 : (Lit.int .i64 a1).wf = true) :
    Calls Try.prog 6 #[styleV z0, .int .i64 a1] w fun e w' => e = .returned (.bool true) ∧ Below w.heap.size w w' := by
  unfold styleV
  have BL0 : Hid (Blocks w (w.alloc (.cells z0.cells.toArray 27)) [(w.heap.size, z0)]) := Lib.hid ((Blocks.nil w).grew (grew_alloc w _) z0 rfl)
  have AW := Lib.hid (fun W => awake_any W)
  have x2 : Hid (z0.cells.toArray[2]? = some (.int .u8 z0.width.kind)) := Lib.hid rfl
  have x3 : Hid (z0.cells.toArray[3]? = some (.int .i64 z0.width.n)) := Lib.hid rfl
  have x8 : Hid (z0.cells.toArray[8]? = some (.int .u8 z0.height.kind)) := Lib.hid rfl
  have x9 : Hid (z0.cells.toArray[9]? = some (.int .i64 z0.height.n)) := Lib.hid rfl
  by_cases hm : mayB z0 = true
  · obtain ⟨n1, s1, r1, hq1⟩ : ∃ n s r, resolveR z0.width a1 = (n, s, r) := ⟨_, _, _, rfl⟩
    obtain ⟨v1, hv1⟩ : ∃ v, (contentR z0.whole z0.width a1 (acrossV z0)).1 = v := ⟨_, rfl⟩
    have P1 : widthR z0 a1 = (v1, s1, r1) := by
      obtain ⟨g1, g2, _⟩ := @content_same z0.whole z0.width a1 (acrossV z0)
      rw [hq1] at g1 g2
      show widthR z0 a1 = _
      unfold widthR
      rw [if_pos hm]
      exact Prod.ext hv1 (Prod.ext g1 g2)
    have Y1 : Hid (s1 = true → r1 = 0 ∧ ∀ W, Calls Try.prog 27 #[.agg z0.cells.toArray, .int .i64 v1, .int .i64 n1, .int .i64 (acrossV z0)] W fun e w' => e = .returned (.bool true) ∧ Below W.heap.size W w') := Lib.hid (fun hs => by
      obtain ⟨_, _, g3⟩ := @content_same z0.whole z0.width a1 (acrossV z0)
      have y := @resolve_yes z0.width a1
      rw [hq1] at g3 y
      obtain ⟨y1, y2⟩ := y hs
      obtain ⟨g4, g5⟩ := g3 hs
      rw [hv1] at g4 g5
      exact ⟨y2, fun W => whole_any _ z0.whole rfl v1 n1 (acrossV z0) (across_bd hm) y1 g4 g5 W⟩)
    have D1 := Lib.hid (fun W => resolve_any z0.width.kind z0.width.n a1 w0.width (i64_in w1) W (n1, s1, r1) hq1)
    obtain ⟨n2, s2, r2, hq2⟩ : ∃ n s r, resolveR z0.height 0 = (n, s, r) := ⟨_, _, _, rfl⟩
    obtain ⟨v2, hv2⟩ : ∃ v, (contentR z0.whole z0.height 0 (upV z0)).1 = v := ⟨_, rfl⟩
    have P2 : heightR z0 = (v2, s2, r2) := by
      obtain ⟨g1, g2, _⟩ := @content_same z0.whole z0.height 0 (upV z0)
      rw [hq2] at g1 g2
      show heightR z0 = _
      unfold heightR
      rw [if_pos hm]
      exact Prod.ext hv2 (Prod.ext g1 g2)
    have Y2 : Hid (s2 = true → r2 = 0 ∧ ∀ W, Calls Try.prog 27 #[.agg z0.cells.toArray, .int .i64 v2, .int .i64 n2, .int .i64 (upV z0)] W fun e w' => e = .returned (.bool true) ∧ Below W.heap.size W w') := Lib.hid (fun hs => by
      obtain ⟨_, _, g3⟩ := @content_same z0.whole z0.height 0 (upV z0)
      have y := @resolve_yes z0.height 0
      rw [hq2] at g3 y
      obtain ⟨y1, y2⟩ := y hs
      obtain ⟨g4, g5⟩ := g3 hs
      rw [hv2] at g4 g5
      exact ⟨y2, fun W => whole_any _ z0.whole rfl v2 n2 (upV z0) (up_bd6 hm) y1 g4 g5 W⟩)
    have D2 := Lib.hid (fun W => resolve_any z0.height.kind z0.height.n 0 w0.height (by unfold Big; omega) W (n2, s2, r2) hq2)
    have R0 : Hid (r2 = 0) := Lib.hid (by
      have m := (may_iff z0 w0).1 hm
      have := resolve_may m.d9.2.2.2.2.1 (fun e => m.d11 (.inl e)) 0
      rw [hq2] at this
      exact this)
    have E := Lib.hid (fun W => edges_any z0 w0 W (acrossV z0, upV z0, 0) (by unfold edgesR; rw [if_pos hm]))
    have C1 := Lib.hid (fun W => width_any z0 w0 a1 (i64_in w1) W _ P1)
    have C2 := Lib.hid (fun W => height_any z0 w0 W _ P2)
    clear P1 P2 hq1 hq2 hv1 hv2 hm w0 w1
    generalize acrossV z0 = ac at *
    generalize upV z0 = up at *
    generalize z0.width.kind = K1 at *
    generalize z0.width.n = N1 at *
    generalize z0.height.kind = K2 at *
    generalize z0.height.n = N2 at *
    obtain rfl := R0.out
    go_enter Try.func6, Try.ntmps6
    go_wp2_with fail
    refine (AW.out _).mono ?_
    rintro e wq0 ⟨rfl, hb⟩
    have BL1 := Lib.hid (BL0.out.call hb)
    clear hb
    go_wp2_with (refine wpList_load_style (o := ⟨some 17, _, _, _, _, _⟩) rfl _ rfl w.heap.size rfl _ (BL1.out.box 0 rfl) (style_cellsz _).1 ?_)
    refine (E.out _).mono ?_
    rintro e wq1 ⟨rfl, hb⟩
    have BL2 := Lib.hid (BL1.out.call hb)
    clear hb
    have c2 := (BL2.out.box 0 rfl).cell x2.out
    have c3 := (BL2.out.box 0 rfl).cell x3.out
    go_wp2_with fail
    refine (D1.out _).mono ?_
    rintro e wq2 ⟨rfl, hb⟩
    have BL3 := Lib.hid (BL2.out.call hb)
    clear hb
    clear c2 c3
    go_wp2_with (refine wpList_load_style (o := ⟨some 36, _, _, _, _, _⟩) rfl _ rfl w.heap.size rfl _ (BL3.out.box 0 rfl) (style_cellsz _).1 ?_)
    refine (C1.out _).mono ?_
    rintro e wq3 ⟨rfl, hb⟩
    have BL4 := Lib.hid (BL3.out.call hb)
    clear hb
    cases s1 with
    | false =>
      have c8 := (BL4.out.box 0 rfl).cell x8.out
      have c9 := (BL4.out.box 0 rfl).cell x9.out
      go_wp2_with fail
      refine (D2.out _).mono ?_
      rintro e wq4 ⟨rfl, hb⟩
      have BLa := Lib.hid (BL4.out.call hb)
      clear hb
      clear c8 c9
      go_wp2_with (refine wpList_load_style (o := ⟨some 69, _, _, _, _, _⟩) rfl _ rfl w.heap.size rfl _ (BLa.out.box 0 rfl) (style_cellsz _).1 ?_)
      refine (C2.out _).mono ?_
      rintro e wq5 ⟨rfl, hb⟩
      have BLb := Lib.hid (BLa.out.call hb)
      clear hb
      cases s2 with
      | false =>
        go_wp2_with fail
        go_ret
        exact ⟨by simp, BLb.out.below⟩
      | true =>
        go_wp2_with (refine wpList_load_style (o := ⟨some 86, _, _, _, _, _⟩) rfl _ rfl w.heap.size rfl _ (BLb.out.box 0 rfl) (style_cellsz _).1 ?_)
        refine ((Lib.hid ((Y2.out (by trivial)).2)).out _).mono ?_
        rintro e wq6 ⟨rfl, hb⟩
        have BLc := Lib.hid (BLb.out.call hb)
        clear hb
        go_wp2_with fail
        go_ret
        exact ⟨by simp, BLc.out.below⟩
    | true =>
      obtain rfl := (Y1.out (by trivial)).1
      go_wp2_with (refine wpList_load_style (o := ⟨some 53, _, _, _, _, _⟩) rfl _ rfl w.heap.size rfl _ (BL4.out.box 0 rfl) (style_cellsz _).1 ?_)
      refine ((Lib.hid ((Y1.out (by trivial)).2)).out _).mono ?_
      rintro e wq4 ⟨rfl, hb⟩
      have BL5 := Lib.hid (BL4.out.call hb)
      clear hb
      have c8 := (BL5.out.box 0 rfl).cell x8.out
      have c9 := (BL5.out.box 0 rfl).cell x9.out
      go_wp2_with fail
      refine (D2.out _).mono ?_
      rintro e wq5 ⟨rfl, hb⟩
      have BLa := Lib.hid (BL5.out.call hb)
      clear hb
      clear c8 c9
      go_wp2_with (refine wpList_load_style (o := ⟨some 69, _, _, _, _, _⟩) rfl _ rfl w.heap.size rfl _ (BLa.out.box 0 rfl) (style_cellsz _).1 ?_)
      refine (C2.out _).mono ?_
      rintro e wq6 ⟨rfl, hb⟩
      have BLb := Lib.hid (BLa.out.call hb)
      clear hb
      cases s2 with
      | false =>
        go_wp2_with fail
        go_ret
        exact ⟨by simp, BLb.out.below⟩
      | true =>
        go_wp2_with (refine wpList_load_style (o := ⟨some 86, _, _, _, _, _⟩) rfl _ rfl w.heap.size rfl _ (BLb.out.box 0 rfl) (style_cellsz _).1 ?_)
        refine ((Lib.hid ((Y2.out (by trivial)).2)).out _).mono ?_
        rintro e wq7 ⟨rfl, hb⟩
        have BLc := Lib.hid (BLb.out.call hb)
        clear hb
        go_wp2_with fail
        go_ret
        exact ⟨by simp, BLc.out.below⟩
  · have hm' : mayB z0 = false := by simpa using hm
    have E := Lib.hid (fun W => edges_any z0 w0 W (0, 0, 60) (by unfold edgesR; rw [if_neg hm]))
    have CM := Lib.hid (fun W => may_any z0 w0 W false hm')
    clear hm hm' w0
    go_enter Try.func6, Try.ntmps6
    go_wp2_with fail
    refine (AW.out _).mono ?_
    rintro e wq0 ⟨rfl, hb⟩
    have BL1 := Lib.hid (BL0.out.call hb)
    clear hb
    go_wp2_with (refine wpList_load_style (o := ⟨some 17, _, _, _, _, _⟩) rfl _ rfl w.heap.size rfl _ (BL1.out.box 0 rfl) (style_cellsz _).1 ?_)
    refine (E.out _).mono ?_
    rintro e wq1 ⟨rfl, hb⟩
    have BL2 := Lib.hid (BL1.out.call hb)
    clear hb
    go_wp2_with (refine wpList_load_style (o := ⟨some 24, _, _, _, _, _⟩) rfl _ rfl w.heap.size rfl _ (BL2.out.box 0 rfl) (style_cellsz _).1 ?_)
    refine (CM.out _).mono ?_
    rintro e wq2 ⟨rfl, hb⟩
    have BL3 := Lib.hid (BL2.out.call hb)
    clear hb
    go_wp2_with fail
    go_ret
    exact ⟨rfl, BL3.out.below⟩
end Go.Proofs.Ytgfcddanikeelaa
