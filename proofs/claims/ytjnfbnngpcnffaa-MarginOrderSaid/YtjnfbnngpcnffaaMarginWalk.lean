/-
  The laws MarginJoins, MarginOrder, MarginComes, MarginMore, MarginOpposite, of the landed code.
-/
import Derived.Test.YtjnfbnngpcnffaaJoin13
import Derived.Test.YtjnfbnngpcnffaaJoinsW13
import Derived.Test.YtjnfbnngpcnffaaComesW13
import Derived.Test.YtjnfbnngpcnffaaMoreW13
import Derived.Test.YtjnfbnngpcnffaaOrderW13
import Derived.Test.YtjnfbnngpcnffaaOppositeW13
import Derived.Test.YtjnfbnngpcnffaaOpenMargins
namespace Go.Proofs.Ytjnfbnngpcnffaa
open Go.RowKit

theorem awake13_ok : AwakeOK13 16 := awake13_any join13_any one13_any may13_any value13_any
theorem walkMarginJoins (a0 : Int) (a1 : Option Addr) (len1 cap1 : Nat) (z1 : List Mg) (w : World) (_ : (Lit.int .i64 a0).wf = true) (w1 : MarginsIn w a1 len1 cap1 z1) :
    Calls Try.prog 3 #[.int .i64 a0, .slice a1 len1 cap1] w fun e w' => e = .returned (.bool true) ∧ Below w.heap.size w w' :=
  joins13 join13_any one13_any may13_any value13_any a0 z1 _ w w1.1 (fun n c e => by injection e with e1 e2 e3; subst e2 e3; exact w1.2.2.1 e1)
theorem walkMarginOrder (a0 : Option Addr) (len0 cap0 : Nat) (z0 : List Mg) (a1 : Int) (a2 : Int) (w : World) (w0 : MarginsIn w a0 len0 cap0 z0) (_ : (Lit.int .i64 a1).wf = true) (_ : (Lit.int .i64 a2).wf = true) :
    Calls Try.prog 4 #[.slice a0 len0 cap0, .int .i64 a1, .int .i64 a2] w fun e w' => e = .returned (.bool true) ∧ Below w.heap.size w w' :=
  order13 join13_any may13_any awake13_ok a0 len0 cap0 z0 a1 a2 w w0.1 w0.2.1
theorem walkMarginComes (a0 : Option Addr) (len0 cap0 : Nat) (z0 : List Int) (w : World) (w0 : RowIn w a0 len0 cap0 z0) :
    Calls Try.prog 5 #[.slice a0 len0 cap0] w fun e w' => e = .returned (.bool true) ∧ Below w.heap.size w w' := by
  have hf := w0.ints
  exact comes13 join13_any one13_any may13_any value13_any awake13_ok a0 len0 cap0 _ w hf
theorem walkMarginMore (z0 : Mg) (z1 : Mg) (a2 : Int) (w : World) (_ : MgOK z0) (_ : MgOK z1) (_ : (Lit.int .i64 a2).wf = true) :
    Calls Try.prog 6 #[mgV z0, mgV z1, .int .i64 a2] w fun e w' => e = .returned (.bool true) ∧ Below w.heap.size w w' :=
  more13 join13_any one13_any may13_any awake13_ok z0 z1 a2 w
theorem walkMarginOpposite (a0 : Option Addr) (len0 cap0 : Nat) (z0 : List Int) (w : World) (w0 : RowIn w a0 len0 cap0 z0) :
    Calls Try.prog 7 #[.slice a0 len0 cap0] w fun e w' => e = .returned (.bool true) ∧ Below w.heap.size w w' := by
  have hf := w0.ints
  exact opposite13 join13_any one13_any value13_any awake13_ok a0 len0 cap0 _ w hf
end Go.Proofs.Ytjnfbnngpcnffaa
