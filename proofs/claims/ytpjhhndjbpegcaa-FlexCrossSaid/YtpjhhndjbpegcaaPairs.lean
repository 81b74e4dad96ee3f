/-
  What fixed.Sub, Mul, Part and Clamp answer, and that the document's do the same.
-/
import Derived.Test.YtpjhhndjbpegcaaLists
namespace Go.Proofs.Ytpjhhndjbpegcaa
open Go.RowKit

theorem ret_int {k : IntKind} {a b : Int} (h : a = b) : Ending.returned (.int k a) = .returned (.int k b) := by rw [h]
theorem ret_pair {a b : Int} {p : Int × Int} (h : p = (a, b)) : Ending.returned (.tuple #[.int .i64 a, .int .i64 b]) = .returned (.tuple #[.int .i64 p.1, .int .i64 p.2]) := by rw [h]
def two (a b : Int) (i : Nat) : Int := if i = 0 then a else b
theorem Ints.two (w : World) (a b : Int) (ha : -9223372036854775808 ≤ a ∧ a ≤ 9223372036854775807) (hb : -9223372036854775808 ≤ b ∧ b ≤ 9223372036854775807) (t : TypeId) :
    Ints (w.alloc (.cells #[.int .i64 a, .int .i64 b] t)) (some ⟨w.heap.size, 0, none⟩) 2 (two a b) := by
  refine ⟨fun i hi => ?_, fun _ => ⟨_, _, rfl, by simp, fun i hi => ?_⟩⟩
  · unfold Proofs.Ytpjhhndjbpegcaa.two; split <;> assumption
  · rcases (show i = 0 ∨ i = 1 by omega) with rfl | rfl <;> simp [World.cell?_alloc_at, Proofs.Ytpjhhndjbpegcaa.two]
theorem allFit_two (a b : Int) : allFit (two a b) 2 = decide (Fit a ∧ Fit b) := by
  unfold allFit
  rw [decide_eq_decide]
  constructor
  · intro h
    exact ⟨h 0 (by omega), h 1 (by omega)⟩
  · rintro ⟨h1, h2⟩ i hi
    rcases (show i = 0 ∨ i = 1 by omega) with rfl | rfl
    · exact h1
    · exact h2
def Big (x : Int) : Prop := -9223372036854775808 ≤ x ∧ x ≤ 9223372036854775807

/-! ### the difference -/
def subRes (a b : Int) : Int × Int := if Fit a ∧ Fit b then pair (a - b) else (0, 10)
/-! ### a number between two -/
def clampV (n l m : Int) : Int := max (min n m) l
end Go.Proofs.Ytpjhhndjbpegcaa
