/-
  The law TreeLess' walk of the landed code.
-/
import Derived.Test.YtlkcmfohmkblfaaTreeLess
import Derived.Test.YtlkcmfohmkblfaaTreeAll
namespace Go.Proofs.Ytlkcmfohmkblfaa
open Go.RowKit

theorem walkTreeLess (a0 : Option Addr) (len0 cap0 : Nat) (x0 : Int) (z0 : Nat → RN) (a1 a2 : Int) (w : World) (w0 : DocIn w a0 len0 cap0 x0 z0) (w1 : (Lit.int .i64 a1).wf = true) (w2 : (Lit.int .i64 a2).wf = true) :
    Calls Try.prog 6 #[docV a0 len0 cap0 x0, .int .i64 a1, .int .i64 a2] w fun e w' => e = .returned (.bool true) ∧ Below w.heap.size w w' :=
  less5 may_any same_any5 copy_any5 find_any end_any parent_any kids_any a0 len0 cap0 x0 z0 a1 a2 w w0 w1 w2
end Go.Proofs.Ytlkcmfohmkblfaa
