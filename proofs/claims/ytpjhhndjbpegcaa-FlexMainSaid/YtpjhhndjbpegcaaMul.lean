/-
  What fixed.size, Mul and Part answer, and that the document's Mul and Part do the same.
-/
import Derived.Test.YtpjhhndjbpegcaaPairs
namespace Go.Proofs.Ytpjhhndjbpegcaa
open Go.RowKit

theorem size_any (n : Int) (hn : -9223372036854775807 ≤ n ∧ n ≤ 9223372036854775807) (w : World) (x : Int) (hx : (n.natAbs : Int) = x) :
    Calls Try.prog 35 #[.int .i64 n] w fun e w' => e = .returned (.int .i64 x) ∧ w = w' := by
  have X := Lib.hid hx
  clear hx
  by_cases h : n < -n
  all_goals
    go_enter Try.func35, Try.ntmps35
    go_wp2
    go_ret
    exact ⟨ret_int (by rw [← X.out]; omega), rfl⟩

theorem fit_abs (x : Int) : Fit x ↔ (x.natAbs : Int) ≤ 1099511627776 := by unfold Fit; omega
theorem over_iff (a b : Int) (ha : a ≠ 0) : 1099511627776 / (a.natAbs : Int) < (b.natAbs : Int) ↔ ¬ Fit (a * b) := by
  rw [Int.ediv_lt_iff_lt_mul (by omega), fit_abs, Int.natAbs_mul, Int.natCast_mul, Int.mul_comm (b.natAbs : Int)]
  omega
def mulRes (a b : Int) : Int × Int := if Fit a ∧ Fit b then pair (a * b) else (0, 10)
end Go.Proofs.Ytpjhhndjbpegcaa
