/-
  What the document's Fits answers: whether a number is from -2^40 to 2^40.
-/
import Derived.Test.YtnhbegdoedbpeaaProg
import Derived.WalkKit
import Derived.ProofKit
import Derived.Lib.Hide
namespace Go.Proofs.Ytnhbegdoedbpeaa
open Go.RowKit

/-- a number is a length -/
def Fit (x : Int) : Prop := -1099511627776 ≤ x ∧ x ≤ 1099511627776
instance (x : Int) : Decidable (Fit x) := by unfold Fit; infer_instance
theorem refFits_any (x : Int) (w : World) (b : Bool) (hb : decide (Fit x) = b) :
    Calls Try.prog 24 #[.int .i64 x] w fun e w' => e = .returned (.bool b) ∧ w = w' := by
  subst hb
  by_cases h1 : -1099511627776 ≤ x
  · by_cases h2 : x ≤ 1099511627776
    · have e : decide (Fit x) = true := by simp [Fit, h1, h2]
      rw [e]
      clear e
      go_enter Try.func24, Try.ntmps24
      go_wp2
      go_ret
      exact ⟨rfl, rfl⟩
    · have e : decide (Fit x) = false := by simp [Fit, h1, h2]
      rw [e]
      clear e
      go_enter Try.func24, Try.ntmps24
      go_wp2
      go_ret
      exact ⟨rfl, rfl⟩
  · have e : decide (Fit x) = false := by simp [Fit, h1]
    rw [e]
    clear e
    go_enter Try.func24, Try.ntmps24
    go_wp2
    go_ret
    exact ⟨rfl, rfl⟩
end Go.Proofs.Ytnhbegdoedbpeaa
