/-
  The laws FlexibleSizes, of the landed code.
-/
import Derived.Test.YtjlnaadpiohbnaaLandB16
import Derived.Test.YtjlnaadpiohbnaaSizesW16
import Derived.Test.YtjlnaadpiohbnaaOpenItems16
namespace Go.Proofs.Ytjlnaadpiohbnaa
open Go.RowKit

theorem walkFlexibleSizes (a0 : Option Addr) (len0 cap0 : Nat) (z0 : List It16) (a1 : Int) (a2 : Int) (w : World) (w0 : BoxesIn w a0 len0 cap0 z0) (w1 : (Lit.int .i64 a1).wf = true) (w2 : (Lit.int .i64 a2).wf = true) :
    Calls Try.prog 3 #[.slice a0 len0 cap0, .int .i64 a1, .int .i64 a2] w fun e w' => e = .returned (.bool true) ∧ Below w.heap.size w w' :=
  sizesW16 sizes16_ok first16_ok a0 len0 cap0 z0 a1 a2 w w0.1 w0.2.1 w0.2.2.2.2 (i64_in16 w1) (i64_in16 w2)
end Go.Proofs.Ytjlnaadpiohbnaa
