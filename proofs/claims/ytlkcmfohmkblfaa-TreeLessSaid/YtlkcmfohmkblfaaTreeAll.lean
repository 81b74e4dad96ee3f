/-
  The laws' walks of the landed code: TreeNested, TreeBeside.
-/
import Derived.Test.YtlkcmfohmkblfaaTreeBeside
import Derived.Test.YtlkcmfohmkblfaaMay5
import Derived.Test.YtlkcmfohmkblfaaSame5
import Derived.Test.YtlkcmfohmkblfaaCopy5
import Derived.Test.YtlkcmfohmkblfaaFind
import Derived.Test.YtlkcmfohmkblfaaKids
namespace Go.Proofs.Ytlkcmfohmkblfaa
open Go.RowKit

theorem walkTreeNested (a0 : Option Addr) (len0 cap0 : Nat) (x0 : Int) (z0 : Nat → RN) (a1 a2 : Int) (w : World) (w0 : DocIn w a0 len0 cap0 x0 z0) (w1 : (Lit.int .i64 a1).wf = true) (w2 : (Lit.int .i64 a2).wf = true) :
    Calls Try.prog 4 #[docV a0 len0 cap0 x0, .int .i64 a1, .int .i64 a2] w fun e w' => e = .returned (.bool true) ∧ Below w.heap.size w w' :=
  nested5 may_any same_any5 copy_any5 find_any end_any parent_any kids_any a0 len0 cap0 x0 z0 a1 a2 w w0 w1 w2
theorem walkTreeBeside (a0 : Option Addr) (len0 cap0 : Nat) (x0 : Int) (z0 : Nat → RN) (a1 : Int) (w : World) (w0 : DocIn w a0 len0 cap0 x0 z0) (w1 : (Lit.int .i64 a1).wf = true) :
    Calls Try.prog 5 #[docV a0 len0 cap0 x0, .int .i64 a1] w fun e w' => e = .returned (.bool true) ∧ Below w.heap.size w w' :=
  beside5 may_any same_any5 copy_any5 find_any end_any parent_any kids_any a0 len0 cap0 x0 z0 a1 w w0 w1
end Go.Proofs.Ytlkcmfohmkblfaa
