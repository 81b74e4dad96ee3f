/-
  The laws WidthSolves, WidthEquation, WidthStays, WidthMiddle, WidthShifted, of the landed code.
-/
import Derived.Test.YtdadlhkbngopaaaSolveOK12
import Derived.Test.YtdadlhkbngopaaaSolvesW12
import Derived.Test.YtdadlhkbngopaaaEquationW12
import Derived.Test.YtdadlhkbngopaaaStaysW12
import Derived.Test.YtdadlhkbngopaaaMiddleW12
import Derived.Test.YtdadlhkbngopaaaShiftedW12
import Derived.Test.YtdadlhkbngopaaaAwake12
import Derived.Test.YtdadlhkbngopaaaAskedArg
namespace Go.Proofs.Ytdadlhkbngopaaa
open Go.RowKit

theorem walkWidthSolves (a0 : Int) (z1 : RA) (w : World) (w0 : (Lit.int .i64 a0).wf = true) (w1 : z1.ok) :
    Calls Try.prog 4 #[.int .i64 a0, askedV z1] w fun e w' => e = .returned (.bool true) ∧ Below w.heap.size w w' := solves12 solve_ok fit_ok a0 z1 w (i64_in12 w0) w1
theorem walkWidthEquation (a0 : Int) (z1 : RA) (w : World) (w0 : (Lit.int .i64 a0).wf = true) (w1 : z1.ok) :
    Calls Try.prog 5 #[.int .i64 a0, askedV z1] w fun e w' => e = .returned (.bool true) ∧ Below w.heap.size w w' := equation12 solve_ok (awake12_any solve_ok fit_ok) a0 z1 w (i64_in12 w0) w1
theorem walkWidthStays (a0 : Int) (z1 : RA) (w : World) (w0 : (Lit.int .i64 a0).wf = true) (w1 : z1.ok) :
    Calls Try.prog 6 #[.int .i64 a0, askedV z1] w fun e w' => e = .returned (.bool true) ∧ Below w.heap.size w w' := stays12 solve_ok (awake12_any solve_ok fit_ok) a0 z1 w (i64_in12 w0) w1
theorem walkWidthMiddle (a0 : Int) (z1 : RA) (w : World) (w0 : (Lit.int .i64 a0).wf = true) (w1 : z1.ok) :
    Calls Try.prog 7 #[.int .i64 a0, askedV z1] w fun e w' => e = .returned (.bool true) ∧ Below w.heap.size w w' := middle12 solve_ok (awake12_any solve_ok fit_ok) a0 z1 w (i64_in12 w0) w1
theorem walkWidthShifted (a0 : Int) (z1 : RA) (a2 : Int) (w : World) (w0 : (Lit.int .i64 a0).wf = true) (w1 : z1.ok) (w2 : (Lit.int .i64 a2).wf = true) :
    Calls Try.prog 8 #[.int .i64 a0, askedV z1, .int .i64 a2] w fun e w' => e = .returned (.bool true) ∧ Below w.heap.size w w' := shifted12 solve_ok (awake12_any solve_ok fit_ok) a0 z1 a2 w (i64_in12 w0) w1 (i64_in12 w2)
end Go.Proofs.Ytdadlhkbngopaaa
