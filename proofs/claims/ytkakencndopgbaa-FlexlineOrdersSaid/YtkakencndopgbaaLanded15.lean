/-
  What the landed flexline answers: Order and Split as is asked.
-/
import Derived.Test.YtkakencndopgbaaLandSplit15
import Derived.Test.YtkakencndopgbaaLandOrder15
namespace Go.Proofs.Ytkakencndopgbaa
open Go.RowKit

theorem order15_any : OrderOK 11 := Ord15.order_ok
set_option maxRecDepth 100000 in
set_option maxHeartbeats 4000000 in
theorem split15_any : SplitOK 14 := by
  intro A n c f gap room wrap w h hn hc
  have H := Lib.hid h
  by_cases h1 : 2048 < n ∨ gap < 0 ∨ room < -1
  · have E : splitE f n gap room = 2 := by unfold splitE; rw [if_pos h1]
    have E2 : splitL f n gap room wrap = [] := by unfold splitL; rw [if_neg (by rw [E]; decide)]
    rw [E, E2]
    by_cases a1 : 2048 < n
    · have hz : (2048 : Int) < n := by omega
      go_enter Try.func14, Try.ntmps14
      go_wp2_with fail
      go_ret2
      exact ⟨_, rfl, ownsL15.nil _ _, Below.refl _ _⟩
    · have hz : decide ((2048 : Int) < n) = false := decide_eq_false (by omega)
      have hz' : ¬ (2048 : Int) < n := by omega
      by_cases a2 : gap < 0
      · go_enter Try.func14, Try.ntmps14
        go_wp2_with fail
        go_ret2
        exact ⟨_, rfl, ownsL15.nil _ _, Below.refl _ _⟩
      · have a3 : room < -1 := by omega
        go_enter Try.func14, Try.ntmps14
        go_wp2_with fail
        go_ret2
        exact ⟨_, rfl, ownsL15.nil _ _, Below.refl _ _⟩
  · have n1 : ¬ (2048 : Int) < n := by omega
    have n2 : ¬ gap < 0 := by omega
    have n3 : ¬ room < -1 := by omega
    by_cases fa : ∀ i, i < n → Fit (f i)
    · by_cases fb : Fit gap ∧ Fit room
      · have E : splitE f n gap room = 0 := by
          unfold splitE
          rw [if_neg h1, if_neg]
          rintro (c | c | c)
          · unfold allFit at c; exact of_decide_eq_false c fa
          · exact c fb.1
          · exact c fb.2
        have F : ∀ k, k < n → -1099511627776 ≤ f k ∧ f k ≤ 1099511627776 := fun k hk => by have := fa k hk; unfold Fit at this; omega
        have G : 0 ≤ gap ∧ gap ≤ 1099511627776 := by have := fb.1; unfold Fit at this; omega
        have R : -1 ≤ room ∧ room ≤ 1099511627776 := by have := fb.2; unfold Fit at this; omega
        rw [E, splitL_room E (by omega) G F]
        exact split_main A n c f gap room wrap w h (by omega) hc G R F _ rfl
      · have E : splitE f n gap room = 10 := by
          unfold splitE
          rw [if_neg h1, if_pos]
          by_cases c : Fit gap
          · exact .inr (.inr (fun d => fb ⟨c, d⟩))
          · exact .inr (.inl c)
        have E2 : splitL f n gap room wrap = [] := by unfold splitL; rw [if_neg (by rw [E]; decide)]
        rw [E, E2]
        have K1 := Lib.hid (fits_any A n c f w h (by omega) true (by unfold allFit; exact decide_eq_true fa))
        have K2 := Lib.hid (fun g W h0 h1 => fits2_15 g gap room W h0 h1 false (decide_eq_false fb))
        clear E E2 fa fb h1 h
        go_enter Try.func14, Try.ntmps14
        go_wp2_with (first
          | (go_at_call 25; refine K1.out.mono ?_; rintro e w1 ⟨rfl, rfl⟩; clear K1)
          | (go_at_call 25; refine (K2.out _ _ (by simp) (by simp)).mono ?_; rintro e w2 ⟨rfl, rfl⟩; clear K2))
        go_ret2
        exact ⟨_, rfl, ownsL15.nil _ _, (Below.refl _ _).alloc (Nat.le_refl _) _⟩
    · have E : splitE f n gap room = 10 := by
        unfold splitE
        rw [if_neg h1, if_pos]
        exact .inl (by unfold allFit; exact decide_eq_false fa)
      have E2 : splitL f n gap room wrap = [] := by unfold splitL; rw [if_neg (by rw [E]; decide)]
      rw [E, E2]
      have K1 := Lib.hid (fits_any A n c f w h (by omega) false (by unfold allFit; exact decide_eq_false fa))
      clear E E2 fa h1 h
      go_enter Try.func14, Try.ntmps14
      go_wp2_with (go_at_call 25; refine K1.out.mono ?_; rintro e w1 ⟨rfl, rfl⟩; clear K1)
      go_ret2
      exact ⟨_, rfl, ownsL15.nil _ _, Below.refl _ _⟩
end Go.Proofs.Ytkakencndopgbaa
