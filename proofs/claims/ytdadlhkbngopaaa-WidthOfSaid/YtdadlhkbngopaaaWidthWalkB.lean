/-
  The laws WidthStyles, WidthOf, of the landed code.
-/
import Derived.Test.YtdadlhkbngopaaaSolveOK12
import Derived.Test.YtdadlhkbngopaaaOfOK12
import Derived.Test.YtdadlhkbngopaaaStylesW12
import Derived.Test.YtdadlhkbngopaaaOfW12
import Derived.Test.YtdadlhkbngopaaaAwake12
import Derived.Test.YtdadlhkbngopaaaAskedArg
namespace Go.Proofs.Ytdadlhkbngopaaa
open Go.RowKit

theorem walkWidthStyles (z0 : RS) (a1 : Int) (w : World) (w0 : z0.ok) (w1 : (Lit.int .i64 a1).wf = true) :
    Calls Try.prog 3 #[styleV z0, .int .i64 a1] w fun e w' => e = .returned (.bool true) ∧ Below w.heap.size w w' := styles12 of_ok z0 a1 w w0 (i64_in12 w1)
theorem walkWidthOf (z0 : RS) (a1 : Int) (w : World) (w0 : z0.ok) (w1 : (Lit.int .i64 a1).wf = true) :
    Calls Try.prog 9 #[styleV z0, .int .i64 a1] w fun e w' => e = .returned (.bool true) ∧ Below w.heap.size w w' := of12 of_ok solve_ok (awake12_any solve_ok fit_ok) z0 a1 w w0 (i64_in12 w1)
end Go.Proofs.Ytdadlhkbngopaaa
