/-
  What the law FixedGiven asks of shares; the law's sign.
-/
import Derived.Test.YtcipphmijdibjaaAwake
import Derived.Test.YtcipphmijdibjaaDiv
import Derived.Test.YtcipphmijdibjaaFixedBack
import Derived.Test.YtcipphmijdibjaaGivenMath
import Derived.Test.YtcipphmijdibjaaGivenTbl
namespace Go.Proofs.Ytcipphmijdibjaa
open Go.RowKit

theorem sign_neg (x : Int) (hx : x < 0) (w : World) : Calls Try.prog 30 #[.int .i64 x] w fun e w' => e = .returned (.int .i64 (-1)) ∧ w' = w := by
  go_enter Try.func30, Try.ntmps30
  go_wp2
  go_ret
  exact ⟨rfl, rfl⟩
theorem sign_pos (x : Int) (hx : ¬ x < 0) (w : World) : Calls Try.prog 30 #[.int .i64 x] w fun e w' => e = .returned (.int .i64 1) ∧ w' = w := by
  go_enter Try.func30, Try.ntmps30
  go_wp2
  go_ret
  exact ⟨rfl, rfl⟩
theorem quiet_join {P : Program} {f : FuncId} {args : Array Value} {W : World} {a n : Nat} {v : Value} (h : Calls P f args (W.drewN (a + n)) fun e w' => e = .returned v ∧ w' = W.drewN (a + n)) :
    Calls P f args (W.drewN (a + n)) fun e w' => e = .returned v ∧ ∃ m, w' = W.drewN (a + m) := h.mono fun _ _ ⟨he, hm⟩ => ⟨he, n, hm⟩
/-- what the law asks of the shares -/
structure Fair (x : Int) (v : Nat → Nat) (n : Nat) (X : Nat → Int) : Prop where
  sum : sumZ X n = if sumN v n = 0 then 0 else x
  bd : ∀ i, i < n → -1099511629824 ≤ X i ∧ X i ≤ 1099511629824
  none_ : ∀ i, i < n → v i = 0 → X i = 0
  side : ∀ i, i < n → (0 ≤ x → 0 ≤ X i) ∧ (x < 0 → X i ≤ 0)
  gt : ∀ i j, i < n → j < n → v i < v j → (0 ≤ x → X i ≤ X j) ∧ (x < 0 → X j ≤ X i)
  eq : ∀ i j, j < i → i < n → v i = v j → (0 ≤ x → X i ≤ X j ∧ X j ≤ X i + 1) ∧ (x < 0 → X j ≤ X i ∧ X i ≤ X j + 1)
theorem ShareOf.fair {x : Int} {v : Nat → Nat} {n : Nat} {X : Nat → Int} (h : ShareOf x v n X) (hx : Fit x) (hn : n ≤ 2048) : Fair x v n X := by
  obtain ⟨Y, hG, hX⟩ := h
  obtain ⟨x1, x2⟩ := hx
  have hb := hG.bd (by omega) hn
  by_cases hneg : x < 0
  · have e : ∀ i, i < n → X i = - Y i := fun i hi => by rw [hX i hi, if_pos hneg]
    refine ⟨?_, fun i hi => ?_, fun i hi hv => ?_, fun i hi => ?_, fun i j hi hj hv => ?_, fun i j hj hi hv => ?_⟩
    · rw [sumZ_congr e, sumZ_neg, hG.sum]
      split <;> omega
    · have := hb i hi; rw [e i hi]; omega
    · have := hG.nothing hi hv; rw [e i hi]; omega
    · have := hb i hi; rw [e i hi]; omega
    · have := hG.more hi hj (.inl hv); rw [e i hi, e j hj]; omega
    · have a := hG.more hi (show j < n by omega) (.inr ⟨hv, hj⟩)
      have b := hG.near hi (show j < n by omega) hv
      rw [e i hi, e j (by omega)]; omega
  · have e : ∀ i, i < n → X i = Y i := fun i hi => by rw [hX i hi, if_neg hneg]
    refine ⟨?_, fun i hi => ?_, fun i hi hv => ?_, fun i hi => ?_, fun i j hi hj hv => ?_, fun i j hj hi hv => ?_⟩
    · rw [sumZ_congr e, hG.sum]
      split <;> omega
    · have := hb i hi; rw [e i hi]; omega
    · have := hG.nothing hi hv; rw [e i hi]; omega
    · have := hb i hi; rw [e i hi]; omega
    · have := hG.more hi hj (.inl hv); rw [e i hi, e j hj]; omega
    · have a := hG.more hi (show j < n by omega) (.inr ⟨hv, hj⟩)
      have b := hG.near hi (show j < n by omega) hv
      rw [e i hi, e j (by omega)]; omega
theorem sumZ_bd {X : Nat → Int} {n : Nat} (h : ∀ i, i < n → -1099511629824 ≤ X i ∧ X i ≤ 1099511629824) (k : Nat) (hk : k ≤ n) : -1099511629824 * k ≤ sumZ X k ∧ sumZ X k ≤ 1099511629824 * k := by
  induction k with
  | zero => simp [sumZ]
  | succ k ih =>
    have := ih (by omega)
    have := h k (by omega)
    rw [sumZ]; omega

end Go.Proofs.Ytcipphmijdibjaa
