/-
  The law FixedGiven: if a weight is not 0, the shares are the total together; a weight of 0 gets nothing; a greater weight gets no less, and equal ones differ by 1 at most.
-/
import Derived.Test.YtcipphmijdibjaaGivenNeg
import Derived.Test.YtcipphmijdibjaaGivenPos
namespace Go.Proofs.Ytcipphmijdibjaa
open Go.RowKit

theorem walkFixedGiven (t : Int) (A : Option Addr) (n c : Nat) (z : List Int) (w : World) (ht : (Lit.int .i64 t).wf = true) (h : RowIn w A n c z) :
    Calls Try.prog 8 #[.int .i64 t, .slice A n c] w fun e w' => e = .returned (.bool true) ∧ Below w.heap.size w w' := by
  by_cases hx0 : len t < 0
  · exact givenNeg t A n c z w ht h hx0
  · exact givenPos t A n c z w ht h hx0
end Go.Proofs.Ytcipphmijdibjaa
