/-
  The law TreeSame's walk of the landed code.
-/
import Derived.Test.YtlkcmfohmkblfaaTreeSame
import Derived.Test.YtlkcmfohmkblfaaTreeAll
namespace Go.Proofs.Ytlkcmfohmkblfaa
open Go.RowKit

theorem walkTreeSame (a0 : Option Addr) (len0 cap0 : Nat) (x0 : Int) (z0 : Nat → RN) (a1 : Option Addr) (len1 cap1 : Nat) (x1 : Int) (z1 : Nat → RN) (w : World) (w0 : DocIn w a0 len0 cap0 x0 z0) (w1 : DocIn w a1 len1 cap1 x1 z1) :
    Calls Try.prog 7 #[docV a0 len0 cap0 x0, docV a1 len1 cap1 x1] w fun e w' => e = .returned (.bool true) ∧ Below w.heap.size w w' :=
  same5 may_any same_any5 copy_any5 find_any end_any parent_any kids_any a0 len0 cap0 x0 z0 a1 len1 cap1 x1 z1 w w0 w1
end Go.Proofs.Ytlkcmfohmkblfaa
