/-
  The laws InlineTurned, InlineMore, of the landed code.
-/
import Derived.Test.YtnhbegdoedbpeaaPlaceOK11
import Derived.Test.YtnhbegdoedbpeaaTurnedW11
import Derived.Test.YtnhbegdoedbpeaaMoreW11
namespace Go.Proofs.Ytnhbegdoedbpeaa
open Go.RowKit

theorem walkInlineTurned (a0 : Option Addr) (len0 cap0 : Nat) (z0 : List Sp) (z1 : RO) (a2 : Int) (w : World) (w0 : SpotsIn w a0 len0 cap0 z0) (_w1 : z1.ok) (_w2 : (Lit.int .i64 a2).wf = true) :
    Calls Try.prog 6 #[.slice a0 len0 cap0, ownV z1, .int .i64 a2] w fun e w' => e = .returned (.bool true) ∧ Below w.heap.size w w' := turned11_in place_ok (awake11_any place_ok) a0 len0 cap0 z0 z1 a2 w w0
theorem walkInlineMore (a0 : Option Addr) (len0 cap0 : Nat) (z0 : List Sp) (z1 : RO) (a2 : Int) (w : World) (w0 : SpotsIn w a0 len0 cap0 z0) (_w1 : z1.ok) (_w2 : (Lit.int .i64 a2).wf = true) :
    Calls Try.prog 7 #[.slice a0 len0 cap0, ownV z1, .int .i64 a2] w fun e w' => e = .returned (.bool true) ∧ Below w.heap.size w w' := more11_in place_ok (awake11_any place_ok) a0 len0 cap0 z0 z1 a2 w w0
end Go.Proofs.Ytnhbegdoedbpeaa
