/-
  The laws MetricFonts and MetricRunes.
-/
import Derived.Test.YtcphjmfiiodbhaaMetricB
import Derived.Laws.BytesString
namespace Go.Proofs.Ytcphjmfiiodbhaa
open Go.RowKit Go.Lib

set_option maxRecDepth 100000 in
set_option maxHeartbeats 4000000 in
theorem walkMetricFonts (a0 : ByteArray) (a1 : Int) (a2 : Int) (w0 : a0.size ≤ maxLen) (_w1 : (Lit.int .i64 a1).wf = true) (_w2 : (Lit.int .i64 a2).wf = true) (w : World) :
    Calls Try.prog 6 #[.string a0, .int .i64 a1, .int .i64 a2] w fun e w' => e = .returned (.bool true) ∧ Below w.heap.size w w' := by
  unfold maxLen at w0
  have KA := Lib.hid (fun W => awake_any8 W)
  have B := Lib.hid (Below.refl w.heap.size w)
  obtain ⟨p, hp⟩ : ∃ p, a1 * a2 = p := ⟨_, rfl⟩
  have wp : (¬ a1 < 1 ∧ ¬ a2 < 1 ∧ ¬ 1000 < a1 ∧ ¬ 1000 < a2) → IntKind.i64.wrap (a1 * a2) = p := fun h => by
    have := mul_bd (a := a1) (f := a2) (k := 1000) ⟨by omega, by omega⟩ ⟨by omega, by omega⟩
    rw [hp] at this ⊢
    exact IntWalk.i64_in _ (by omega)
  have cs : ((2000 : Int) < a0.size) ∨ (¬ (2000 : Int) < a0.size ∧ a1 < 1) ∨ (¬ (2000 : Int) < a0.size ∧ ¬ a1 < 1 ∧ a2 < 1) ∨ (¬ (2000 : Int) < a0.size ∧ ¬ a1 < 1 ∧ ¬ a2 < 1 ∧ 1000 < a1) ∨
      (¬ (2000 : Int) < a0.size ∧ ¬ a1 < 1 ∧ ¬ a2 < 1 ∧ ¬ 1000 < a1 ∧ 1000 < a2) ∨ (¬ (2000 : Int) < a0.size ∧ ¬ a1 < 1 ∧ ¬ a2 < 1 ∧ ¬ 1000 < a1 ∧ ¬ 1000 < a2 ∧ 1000 < p) ∨ (¬ (2000 : Int) < a0.size ∧ ¬ a1 < 1 ∧ ¬ a2 < 1 ∧ ¬ 1000 < a1 ∧ ¬ 1000 < a2 ∧ ¬ 1000 < p) := by omega
  have HP := Lib.hid hp
  clear w0 hp
  rcases cs with h1 | ⟨h1, h2⟩ | ⟨h1, h2, h3⟩ | ⟨h1, h2, h3, h4⟩ | ⟨h1, h2, h3, h4, h5⟩ | ⟨h1, h2, h3, h4, h5, h6⟩ | ⟨h1, h2, h3, h4, h5, h6⟩
  iterate 5
    · clear wp
      go_enter Try.func6, Try.ntmps6
      go_wp2_with (go_at_call 19; (with_reducible refine (KA.out _).mono ?_); rintro e w' ⟨rfl, hb⟩; replace B := Lib.hid (B.out.trans (hb.mono B.out.size)); clear hb)
      go_ret
      exact ⟨rfl, B.out⟩
  · replace wp := wp ⟨h2, h3, h4, h5⟩
    go_enter Try.func6, Try.ntmps6
    go_wp2_with (go_at_call 19; (with_reducible refine (KA.out _).mono ?_); rintro e w' ⟨rfl, hb⟩; replace B := Lib.hid (B.out.trans (hb.mono B.out.size)); clear hb)
    go_ret
    exact ⟨rfl, B.out⟩
  · replace wp := wp ⟨h2, h3, h4, h5⟩
    have hf : 1 ≤ a1 ∧ a1 ≤ 1000 := by omega
    have ht : 1 ≤ a2 ∧ a2 ≤ 1000 := by omega
    have p1 : 1 ≤ p := by
      rw [← HP.out]
      have : a1 * 1 ≤ a1 * a2 := Int.mul_le_mul (Int.le_refl _) ht.1 (by omega) (by omega)
      omega
    have hg : 1 ≤ p ∧ p ≤ 1000 := by omega
    have hs : a0.size ≤ 2000 := by omega
    have v1 := wide_bd a0 hf
    have K1 := Lib.hid (fun W => width_any8 a0 a1 W (by omega) _ _ (widthA_in hf))
    have K2 := Lib.hid (fun W => width_any8 a0 p W (by omega) _ _ (widthA_in hg))
    have K3 := Lib.hid (fun W => up_any8 a1 W (60 * a1) 0 (if_pos hf))
    have K4 := Lib.hid (fun W => down_any8 a1 W (20 * a1) 0 (if_pos hf))
    have K5 := Lib.hid (fun W => count_any a0 W (by omega))
    have bb := wideR_bd (runesOf a0)
    have ll := runes_len a0
    have le : wideR (runesOf a0) * a1 ≤ 64 * a1 * ((runesOf a0).length : Nat) := by
      rw [Int.mul_assoc, Int.mul_comm a1, ← Int.mul_assoc]
      exact Int.mul_le_mul_of_nonneg_right (by omega) (by omega)
    have nb : 0 ≤ 64 * a1 * ((runesOf a0).length : Nat) ∧ 64 * a1 * ((runesOf a0).length : Nat) ≤ 64000 * 2000 := ⟨Int.mul_nonneg (by omega) (by omega), Int.mul_le_mul (by omega) (by omega) (by omega) (by omega)⟩
    have mm : wideR (runesOf a0) * a1 * a2 = wideR (runesOf a0) * p := by rw [Int.mul_assoc, HP.out]
    have tb : 0 ≤ wideR (runesOf a0) * p ∧ wideR (runesOf a0) * p ≤ 64000 * a0.size := wide_bd a0 hg
    have e1 : IntKind.i64.wrap (wideR (runesOf a0) * a1 * a2) = wideR (runesOf a0) * p := by rw [mm]; exact IntWalk.i64_in _ (by omega)
    have e2 : IntKind.i64.wrap (64 * a1) = 64 * a1 := IntWalk.i64_in _ (by omega)
    have e3 : IntKind.i64.wrap (64 * a1 * ((runesOf a0).length : Nat)) = 64 * a1 * ((runesOf a0).length : Nat) := IntWalk.i64_in _ (by omega)
    have e4 : IntKind.i64.wrap (60 * a1 + 20 * a1) = 80 * a1 := by rw [show 60 * a1 + 20 * a1 = 80 * a1 by omega]; exact IntWalk.i64_in _ (by omega)
    have e5 : IntKind.i64.wrap (80 * a1) = 80 * a1 := IntWalk.i64_in _ (by omega)
    have e6 : IntKind.i64.wrap (3 * (20 * a1)) = 60 * a1 := by rw [show 3 * (20 * a1) = 60 * a1 by omega]; exact IntWalk.i64_in _ (by omega)
    have g0 := v1.1
    generalize wideR (runesOf a0) * p = x2 at K2 e1
    generalize wideR (runesOf a0) * a1 = x1 at K1 e1 le g0
    generalize (runesOf a0).length = n at K5 le e3
    obtain ⟨z64, h64⟩ : ∃ z, 64 * a1 = z := ⟨_, rfl⟩
    replace e2 := e2.trans h64
    rw [h64] at e3 le
    obtain ⟨z3, hz3⟩ : ∃ z, z64 * (n : Int) = z := ⟨_, rfl⟩
    replace e3 := e3.trans hz3
    rw [hz3] at le
    obtain ⟨z80, h80⟩ : ∃ z, 80 * a1 = z := ⟨_, rfl⟩
    replace e5 := e5.trans h80
    rw [h80] at e4
    generalize 60 * a1 = u at K3 e4 e6
    generalize 20 * a1 = d at K4 e4 e6
    clear hf ht p1 hg hs v1 bb ll nb mm tb h64 hz3 h80
    go_enter Try.func6, Try.ntmps6
    go_wp2_with (first
      | (go_at_call 19; (with_reducible refine (KA.out _).mono ?_); rintro e w' ⟨rfl, hb⟩; replace B := Lib.hid (B.out.trans (hb.mono B.out.size)); clear hb)
      | (go_at_call 15; (first | with_reducible refine (K1.out _).mono ?_ | with_reducible refine (K2.out _).mono ?_); rintro e w' ⟨rfl, hb⟩; replace B := Lib.hid (B.out.trans (hb.mono B.out.size)); clear hb)
      | (go_at_call 9; (with_reducible refine (K3.out _).mono ?_); rintro e w' ⟨rfl, rfl⟩)
      | (go_at_call 11; (with_reducible refine (K4.out _).mono ?_); rintro e w' ⟨rfl, rfl⟩)
      | (go_at_call 17; (with_reducible refine (K5.out _).mono ?_); rintro e w' ⟨rfl, hb⟩; replace B := Lib.hid (B.out.trans (hb.mono B.out.size)); clear hb))
    go_ret
    exact ⟨rfl, B.out⟩
end Go.Proofs.Ytcphjmfiiodbhaa
