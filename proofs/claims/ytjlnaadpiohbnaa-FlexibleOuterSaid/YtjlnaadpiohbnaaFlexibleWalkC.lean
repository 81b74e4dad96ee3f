/-
  The laws FlexibleStiff, FlexibleOuter, FlexibleAlike, of the landed code.
-/
import Derived.Test.YtjlnaadpiohbnaaLandB16
import Derived.Test.YtjlnaadpiohbnaaStiffW16
import Derived.Test.YtjlnaadpiohbnaaOuterW16
import Derived.Test.YtjlnaadpiohbnaaAlikeW16
import Derived.Test.YtjlnaadpiohbnaaOpenItems16
namespace Go.Proofs.Ytjlnaadpiohbnaa
open Go.RowKit

theorem awake16_ok : AwakeOK16 15 := awake16_any sizes16_ok first16_ok
theorem walkFlexibleStiff (a0 : Option Addr) (len0 cap0 : Nat) (z0 : List It16) (a1 : Int) (a2 : Int) (w : World) (w0 : BoxesIn w a0 len0 cap0 z0) (_ : (Lit.int .i64 a1).wf = true) (_ : (Lit.int .i64 a2).wf = true) :
    Calls Try.prog 6 #[.slice a0 len0 cap0, .int .i64 a1, .int .i64 a2] w fun e w' => e = .returned (.bool true) ∧ Below w.heap.size w w' :=
  stiffW16 sizes16_ok first16_ok awake16_ok a0 len0 cap0 z0 a1 a2 w w0.1 w0.2.1 w0.2.2.2.2
theorem walkFlexibleOuter (a0 : Option Addr) (len0 cap0 : Nat) (z0 : List It16) (a1 : Int) (a2 : Int) (a3 : Int) (w : World) (w0 : BoxesIn w a0 len0 cap0 z0) (_ : (Lit.int .i64 a1).wf = true) (_ : (Lit.int .i64 a2).wf = true) (_ : (Lit.int .i64 a3).wf = true) :
    Calls Try.prog 7 #[.slice a0 len0 cap0, .int .i64 a1, .int .i64 a2, .int .i64 a3] w fun e w' => e = .returned (.bool true) ∧ Below w.heap.size w w' :=
  outer16 sizes16_ok awake16_ok a0 len0 cap0 z0 a1 a2 a3 w w0.1 w0.2.1 w0.2.2.2.2
theorem walkFlexibleAlike (z0 : It16) (a1 : Int) (a2 : Int) (w : World) (_ : BigI z0) (_ : (Lit.int .i64 a1).wf = true) (_ : (Lit.int .i64 a2).wf = true) :
    Calls Try.prog 8 #[tmV z0, .int .i64 a1, .int .i64 a2] w fun e w' => e = .returned (.bool true) ∧ Below w.heap.size w w' :=
  alikeW16 sizes16_ok first16_ok awake16_ok z0 a1 a2 w
end Go.Proofs.Ytjlnaadpiohbnaa
