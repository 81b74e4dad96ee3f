/-
  The laws FlexibleFull, FlexibleWay, of the landed code.
-/
import Derived.Test.YtjlnaadpiohbnaaLandB16
import Derived.Test.YtjlnaadpiohbnaaFullW16
import Derived.Test.YtjlnaadpiohbnaaWayW16
import Derived.Test.YtjlnaadpiohbnaaOpenItems16
namespace Go.Proofs.Ytjlnaadpiohbnaa
open Go.RowKit

theorem awake16_ok : AwakeOK16 15 := awake16_any sizes16_ok first16_ok
theorem walkFlexibleFull (a0 : Option Addr) (len0 cap0 : Nat) (z0 : List It16) (a1 : Int) (a2 : Int) (w : World) (w0 : BoxesIn w a0 len0 cap0 z0) (_ : (Lit.int .i64 a1).wf = true) (_ : (Lit.int .i64 a2).wf = true) :
    Calls Try.prog 4 #[.slice a0 len0 cap0, .int .i64 a1, .int .i64 a2] w fun e w' => e = .returned (.bool true) ∧ Below w.heap.size w w' :=
  full16 sizes16_ok first16_ok awake16_ok a0 len0 cap0 z0 a1 a2 w w0.1 w0.2.1 w0.2.2.2.2
theorem walkFlexibleWay (a0 : Option Addr) (len0 cap0 : Nat) (z0 : List It16) (a1 : Int) (a2 : Int) (w : World) (w0 : BoxesIn w a0 len0 cap0 z0) (_ : (Lit.int .i64 a1).wf = true) (_ : (Lit.int .i64 a2).wf = true) :
    Calls Try.prog 5 #[.slice a0 len0 cap0, .int .i64 a1, .int .i64 a2] w fun e w' => e = .returned (.bool true) ∧ Below w.heap.size w w' :=
  way16 sizes16_ok first16_ok awake16_ok a0 len0 cap0 z0 a1 a2 w w0.1 w0.2.1 w0.2.2.2.2
end Go.Proofs.Ytjlnaadpiohbnaa
