/-
  The laws BlockStacks, BlockBelow, BlockTurned, BlockOpen, BlockThrough, BlockBehind, of the landed code.
-/
import Derived.Test.YtidbfkbeploagaaStack14
import Derived.Test.YtidbfkbeploagaaJoin13
import Derived.Test.YtidbfkbeploagaaStacksW14
import Derived.Test.YtidbfkbeploagaaBelowW14
import Derived.Test.YtidbfkbeploagaaTurnedW14
import Derived.Test.YtidbfkbeploagaaOpenW14
import Derived.Test.YtidbfkbeploagaaThroughW14
import Derived.Test.YtidbfkbeploagaaBehindW14
import Derived.Test.YtidbfkbeploagaaOpenKids
namespace Go.Proofs.Ytidbfkbeploagaa
open Go.RowKit

theorem awake14_ok : AwakeOK14 12 := fun w => awake14_any stack14_any one13_any w
theorem walkBlockStacks (a0 : Option Addr) (len0 cap0 : Nat) (z0 : List Kd) (a1 : Bool) (a2 : Bool) (w : World) (w0 : KidsIn w a0 len0 cap0 z0) :
    Calls Try.prog 3 #[.slice a0 len0 cap0, .bool a1, .bool a2] w fun e w' => e = .returned (.bool true) ∧ Below w.heap.size w w' :=
  stacks14 stack14_any a0 len0 cap0 z0 a1 a2 w w0.1 w0.2.1 w0.2.2.2.2
theorem walkBlockBelow (a0 : Option Addr) (len0 cap0 : Nat) (z0 : List Kd) (w : World) (w0 : KidsIn w a0 len0 cap0 z0) :
    Calls Try.prog 4 #[.slice a0 len0 cap0] w fun e w' => e = .returned (.bool true) ∧ Below w.heap.size w w' :=
  below14 stack14_any join13_any value13_any may13_any awake14_ok a0 len0 cap0 z0 w w0.1 w0.2.1 w0.2.2.2.1
theorem walkBlockTurned (a0 : Option Addr) (len0 cap0 : Nat) (z0 : List Kd) (w : World) (w0 : KidsIn w a0 len0 cap0 z0) :
    Calls Try.prog 5 #[.slice a0 len0 cap0] w fun e w' => e = .returned (.bool true) ∧ Below w.heap.size w w' :=
  turned14 stack14_any may13_any awake14_ok a0 len0 cap0 z0 w w0.1 w0.2.1 w0.2.2.2.1
theorem walkBlockOpen (a0 : Option Addr) (len0 cap0 : Nat) (z0 : List Kd) (w : World) (w0 : KidsIn w a0 len0 cap0 z0) :
    Calls Try.prog 6 #[.slice a0 len0 cap0] w fun e w' => e = .returned (.bool true) ∧ Below w.heap.size w w' :=
  open14 stack14_any join13_any value13_any may13_any awake14_ok a0 len0 cap0 z0 w w0.1 w0.2.1 w0.2.2.2.1
theorem walkBlockThrough (a0 : Option Addr) (len0 cap0 : Nat) (z0 : List Kd) (w : World) (w0 : KidsIn w a0 len0 cap0 z0) :
    Calls Try.prog 7 #[.slice a0 len0 cap0] w fun e w' => e = .returned (.bool true) ∧ Below w.heap.size w w' :=
  through14 stack14_any join13_any value13_any may13_any awake14_ok a0 len0 cap0 z0 w w0.1 w0.2.1 w0.2.2.2.1
theorem walkBlockBehind (a0 : Option Addr) (len0 cap0 : Nat) (z0 : List Kd) (z1 : Kd) (a2 : Option Addr) (len2 cap2 : Nat) (z2 : List Kd) (w : World) (w0 : KidsIn w a0 len0 cap0 z0) (_ : BigOne z1) (w2 : KidsIn w a2 len2 cap2 z2) :
    Calls Try.prog 8 #[.slice a0 len0 cap0, kdV z1, .slice a2 len2 cap2] w fun e w' => e = .returned (.bool true) ∧ Below w.heap.size w w' :=
  behind14 stack14_any may13_any awake14_ok a0 len0 cap0 z0 z1 a2 len2 cap2 z2 w w0.1 w0.2.1 w0.2.2.2.1 w2.1 w2.2.1 w2.2.2.2.1
end Go.Proofs.Ytidbfkbeploagaa
