/-
  The law InlinePlaces, of the landed code.
-/
import Derived.Test.YtnhbegdoedbpeaaPlaceOK11
import Derived.Test.YtnhbegdoedbpeaaPlacesW11
namespace Go.Proofs.Ytnhbegdoedbpeaa
open Go.RowKit

theorem walkInlinePlaces (a0 : Option Addr) (len0 cap0 : Nat) (z0 : List Sp) (z1 : RO) (w : World) (w0 : SpotsIn w a0 len0 cap0 z0) (w1 : z1.ok) :
    Calls Try.prog 3 #[.slice a0 len0 cap0, ownV z1] w fun e w' => e = .returned (.bool true) ∧ Below w.heap.size w w' := places11_in place_ok a0 len0 cap0 z0 z1 w w0 w1
end Go.Proofs.Ytnhbegdoedbpeaa
