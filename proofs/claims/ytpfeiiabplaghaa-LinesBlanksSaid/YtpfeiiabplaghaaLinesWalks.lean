/-
  The laws of stage 10, of the landed code.
-/
import Derived.Test.YtpfeiiabplaghaaFillOK10
import Derived.Test.YtpfeiiabplaghaaOpenItems
import Derived.Test.YtpfeiiabplaghaaLinesFill
import Derived.Test.YtpfeiiabplaghaaLinesAll
import Derived.Test.YtpfeiiabplaghaaLinesLong
import Derived.Test.YtpfeiiabplaghaaLinesWider
import Derived.Test.YtpfeiiabplaghaaLinesBlanks
import Derived.Test.YtpfeiiabplaghaaLinesApart
import Derived.Test.YtpfeiiabplaghaaAwake10
namespace Go.Proofs.Ytpfeiiabplaghaa
open Go.RowKit

theorem awake_ok10 : AwakeOK10 15 := awake10_any fill_ok widest_ok
theorem walkLinesFill (a0 : Option Addr) (len0 cap0 : Nat) (z0 : List It) (a1 : Int) (w : World) (w0 : ItemsIn w a0 len0 cap0 z0) (w1 : (Lit.int .i64 a1).wf = true) :
    Calls Try.prog 3 #[.slice a0 len0 cap0, .int .i64 a1] w fun e w' => e = .returned (.bool true) ∧ Below w.heap.size w w' := fill10_in fill_ok widest_ok a0 len0 cap0 z0 a1 w w0 w1
theorem walkLinesAll (a0 : Option Addr) (len0 cap0 : Nat) (z0 : List It) (a1 : Int) (w : World) (w0 : ItemsIn w a0 len0 cap0 z0) (w1 : (Lit.int .i64 a1).wf = true) :
    Calls Try.prog 4 #[.slice a0 len0 cap0, .int .i64 a1] w fun e w' => e = .returned (.bool true) ∧ Below w.heap.size w w' := all10_in fill_ok awake_ok10 a0 len0 cap0 z0 a1 w w0 w1
theorem walkLinesLong (a0 : Option Addr) (len0 cap0 : Nat) (z0 : List It) (a1 : Int) (w : World) (w0 : ItemsIn w a0 len0 cap0 z0) (w1 : (Lit.int .i64 a1).wf = true) :
    Calls Try.prog 5 #[.slice a0 len0 cap0, .int .i64 a1] w fun e w' => e = .returned (.bool true) ∧ Below w.heap.size w w' := long10_in fill_ok awake_ok10 a0 len0 cap0 z0 a1 w w0 w1
theorem walkLinesWider (a0 : Option Addr) (len0 cap0 : Nat) (z0 : List It) (a1 a2 : Int) (w : World) (w0 : ItemsIn w a0 len0 cap0 z0) (_w1 : (Lit.int .i64 a1).wf = true) (_w2 : (Lit.int .i64 a2).wf = true) :
    Calls Try.prog 6 #[.slice a0 len0 cap0, .int .i64 a1, .int .i64 a2] w fun e w' => e = .returned (.bool true) ∧ Below w.heap.size w w' := wider10_in fill_ok widest_ok awake_ok10 a0 len0 cap0 z0 a1 a2 w w0
theorem walkLinesBlanks (a0 : Option Addr) (len0 cap0 : Nat) (z0 : List It) (a1 a2 : Int) (w : World) (w0 : ItemsIn w a0 len0 cap0 z0) (_w1 : (Lit.int .i64 a1).wf = true) (_w2 : (Lit.int .i64 a2).wf = true) :
    Calls Try.prog 8 #[.slice a0 len0 cap0, .int .i64 a1, .int .i64 a2] w fun e w' => e = .returned (.bool true) ∧ Below w.heap.size w w' := blanks10_in fill_ok widest_ok awake_ok10 a0 len0 cap0 z0 a1 a2 w w0
theorem walkLinesApart (a0 : Option Addr) (len0 cap0 : Nat) (z0 : List It) (a1 : Option Addr) (len1 cap1 : Nat) (z1 : List It) (a2 : Int) (w : World) (w0 : ItemsIn w a0 len0 cap0 z0) (w1 : ItemsIn w a1 len1 cap1 z1) (_w2 : (Lit.int .i64 a2).wf = true) :
    Calls Try.prog 7 #[.slice a0 len0 cap0, .slice a1 len1 cap1, .int .i64 a2] w fun e w' => e = .returned (.bool true) ∧ Below w.heap.size w w' := apart10_in fill_ok awake_ok10 a0 len0 cap0 z0 a1 len1 cap1 z1 a2 w w0 w1
end Go.Proofs.Ytpfeiiabplaghaa
