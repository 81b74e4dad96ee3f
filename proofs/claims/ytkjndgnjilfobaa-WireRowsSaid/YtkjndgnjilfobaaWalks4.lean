/-
  The walks of the laws WirePuts, WireTorn, WireBack, WireRows, of the landed program.
-/
import Derived.Test.YtkjndgnjilfobaaTakeW
import Derived.Test.YtkjndgnjilfobaaWirePuts
import Derived.Test.YtkjndgnjilfobaaWireBack
import Derived.Test.YtkjndgnjilfobaaWireTorn
namespace Go.Proofs.Ytkjndgnjilfobaa
open Go.RowKit

theorem walkWirePuts (a0 : ByteArray) (a1 : Option Addr) (len1 cap1 : Nat) (z1 : Nat → RV) (a2 : Option Addr) (len2 cap2 : Nat) (z2 : Nat → RV) (w : World) (w0 : a0.size ≤ maxLen) (w1 : ValsIn w a1 len1 cap1 z1) (w2 : ValsIn w a2 len2 cap2 z2) :
    Calls Try.prog 3 #[.string a0, .slice a1 len1 cap1, .slice a2 len2 cap2] w fun e w' => e = .returned (.bool true) ∧ Below w.heap.size w w' :=
  putsOf putW_any sameW_any a0 a1 len1 cap1 z1 a2 len2 cap2 z2 w w0 w1 w2
theorem walkWireTorn (a0 : ByteArray) (a1 : Option Addr) (len1 cap1 : Nat) (z1 : Nat → RV) (a2 : Int) (a3 : Int) (w : World) (w0 : a0.size ≤ maxLen) (w1 : ValsIn w a1 len1 cap1 z1) (w2 : (Lit.int .i64 a2).wf = true) (w3 : (Lit.int .u8 a3).wf = true) :
    Calls Try.prog 8 #[.string a0, .slice a1 len1 cap1, .int .i64 a2, .int .u8 a3] w fun e w' => e = .returned (.bool true) ∧ Below w.heap.size w w' :=
  tornOf putW_any takeW_any wholeW_any a0 a1 len1 cap1 z1 a2 a3 w w0 w1 w2 w3
theorem walkWireBack (a0 : ByteArray) (a1 : Option Addr) (len1 cap1 : Nat) (z1 : Nat → RV) (a2 : Option Addr) (len2 cap2 : Nat) (z2 : List Int) (w : World) (w0 : a0.size ≤ maxLen) (w1 : ValsIn w a1 len1 cap1 z1) (w2 : RowIn .u8 w a2 len2 cap2 z2) :
    Calls Try.prog 6 #[.string a0, .slice a1 len1 cap1, .slice a2 len2 cap2] w fun e w' => e = .returned (.bool true) ∧ Below w.heap.size w w' :=
  backOf putW_any takeW_any wholeW_any sameW_any a0 a1 len1 cap1 z1 a2 len2 cap2 z2 w w0 w1 w2
theorem walkWireRows (a0 a1 : ByteArray) (a2 : Option Addr) (len2 cap2 : Nat) (z2 : Nat → RV) (a3 : Option Addr) (len3 cap3 : Nat) (z3 : Nat → RV) (w : World) (w0 : a0.size ≤ maxLen) (w1 : a1.size ≤ maxLen) (w2 : ValsIn w a2 len2 cap2 z2) (w3 : ValsIn w a3 len3 cap3 z3) :
    Calls Try.prog 7 #[.string a0, .string a1, .slice a2 len2 cap2, .slice a3 len3 cap3] w fun e w' => e = .returned (.bool true) ∧ Below w.heap.size w w' :=
  rowsOf putW_any takeW_any wholeW_any sameW_any a0 a1 a2 len2 cap2 z2 a3 len3 cap3 z3 w w0 w1 w2 w3
end Go.Proofs.Ytkjndgnjilfobaa
