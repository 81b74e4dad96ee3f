/-
  The law TreeParents' walk of the landed code.
-/
import Derived.Test.YtlkcmfohmkblfaaTreeParents
import Derived.Test.YtlkcmfohmkblfaaTreeAll
namespace Go.Proofs.Ytlkcmfohmkblfaa
open Go.RowKit

theorem walkTreeParents (a0 : Option Addr) (len0 cap0 : Nat) (x0 : Int) (z0 : Nat → RN) (w : World) (w0 : DocIn w a0 len0 cap0 x0 z0) :
    Calls Try.prog 3 #[docV a0 len0 cap0 x0] w fun e w' => e = .returned (.bool true) ∧ Below w.heap.size w w' :=
  parents5 may_any same_any5 copy_any5 find_any end_any parent_any kids_any kids_fresh a0 len0 cap0 x0 z0 w w0
end Go.Proofs.Ytlkcmfohmkblfaa
