/-
  The laws InlineBeside, InlineBase, of the landed code.
-/
import Derived.Test.YtnhbegdoedbpeaaPlaceOK11
import Derived.Test.YtnhbegdoedbpeaaBesideW11
import Derived.Test.YtnhbegdoedbpeaaBaseW11
namespace Go.Proofs.Ytnhbegdoedbpeaa
open Go.RowKit

theorem walkInlineBeside (a0 : Option Addr) (len0 cap0 : Nat) (z0 : List Sp) (z1 : RO) (w : World) (w0 : SpotsIn w a0 len0 cap0 z0) (_w1 : z1.ok) :
    Calls Try.prog 4 #[.slice a0 len0 cap0, ownV z1] w fun e w' => e = .returned (.bool true) ∧ Below w.heap.size w w' := beside11_in place_ok (awake11_any place_ok) a0 len0 cap0 z0 z1 w w0
theorem walkInlineBase (a0 : Option Addr) (len0 cap0 : Nat) (z0 : List Sp) (z1 : RO) (w : World) (w0 : SpotsIn w a0 len0 cap0 z0) (_w1 : z1.ok) :
    Calls Try.prog 5 #[.slice a0 len0 cap0, ownV z1] w fun e w' => e = .returned (.bool true) ∧ Below w.heap.size w w' := base11_in place_ok (awake11_any place_ok) a0 len0 cap0 z0 z1 w w0
end Go.Proofs.Ytnhbegdoedbpeaa
