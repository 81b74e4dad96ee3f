/-
  What fixed.size, Mul and Part answer, and that the document's Mul and Part do the same.
-/
import Derived.Test.YtdadlhkbngopaaaPairs
namespace Go.Proofs.Ytdadlhkbngopaaa
open Go.RowKit

theorem fit_abs (x : Int) : Fit x ↔ (x.natAbs : Int) ≤ 1099511627776 := by unfold Fit; omega
theorem over_iff (a b : Int) (ha : a ≠ 0) : 1099511627776 / (a.natAbs : Int) < (b.natAbs : Int) ↔ ¬ Fit (a * b) := by
  rw [Int.ediv_lt_iff_lt_mul (by omega), fit_abs, Int.natAbs_mul, Int.natCast_mul, Int.mul_comm (b.natAbs : Int)]
  omega
def mulRes (a b : Int) : Int × Int := if Fit a ∧ Fit b then pair (a * b) else (0, 10)
end Go.Proofs.Ytdadlhkbngopaaa
