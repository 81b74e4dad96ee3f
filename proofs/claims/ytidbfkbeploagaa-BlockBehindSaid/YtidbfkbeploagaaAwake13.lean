/-
  The chapter's examples, of any Join, One, Value, May that answer as is asked.
-/
import Derived.Test.YtidbfkbeploagaaRefJoin13
import Derived.Deep.RegionHeld3
import Derived.Deep.Cut
namespace Go.Proofs.Ytidbfkbeploagaa
open Go.RowKit

def AwakeOK13 (f : Nat) : Prop := ∀ w : World, Calls Try.prog f #[] w fun e w' => e = .returned (.bool true) ∧ Below w.heap.size w w'
end Go.Proofs.Ytidbfkbeploagaa
