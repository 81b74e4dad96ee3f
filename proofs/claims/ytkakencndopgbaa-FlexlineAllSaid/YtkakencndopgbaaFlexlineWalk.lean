/-
  The laws FlexlineOrders, FlexlineSplits, FlexlineAll, FlexlineOne, FlexlineWider, FlexlineStable, of the landed code.
-/
import Derived.Test.YtkakencndopgbaaLanded15
import Derived.Test.YtkakencndopgbaaAwake15
import Derived.Test.YtkakencndopgbaaAllW15
import Derived.Test.YtkakencndopgbaaOneW15
import Derived.Test.YtkakencndopgbaaWiderW15
import Derived.Test.YtkakencndopgbaaStableW15
import Derived.Test.YtkakencndopgbaaSplitsW15
namespace Go.Proofs.Ytkakencndopgbaa
open Go.RowKit

theorem awake15_ok : AwakeOK15 16 := awake15_any order15_any split15_any
theorem row_cap15 {w : World} {A : Option Addr} {n c : Nat} {z : List Int} (h : RowIn w A n c z) : n ≤ c ∧ c ≤ 9223372036854775807 := by
  rcases h with ⟨-, rfl, rfl, -⟩ | ⟨x, -, h1, h2, -⟩
  · exact ⟨Nat.le_refl _, by omega⟩
  · exact ⟨h1, by unfold maxLen at h2; omega⟩
theorem walkFlexlineOrders (a0 : Option Addr) (len0 cap0 : Nat) (z0 : List Int) (w : World) (w0 : RowIn w a0 len0 cap0 z0) :
    Calls Try.prog 3 #[.slice a0 len0 cap0] w fun e w' => e = .returned (.bool true) ∧ Below w.heap.size w w' :=
  orders15 order15_any a0 len0 cap0 _ w w0.ints (row_cap15 w0) w0.nil
theorem walkFlexlineSplits (a0 : Option Addr) (len0 cap0 : Nat) (z0 : List Int) (a1 : Int) (a2 : Int) (a3 : Bool) (w : World) (w0 : RowIn w a0 len0 cap0 z0) (_ : (Lit.int .i64 a1).wf = true) (_ : (Lit.int .i64 a2).wf = true) :
    Calls Try.prog 4 #[.slice a0 len0 cap0, .int .i64 a1, .int .i64 a2, .bool a3] w fun e w' => e = .returned (.bool true) ∧ Below w.heap.size w w' :=
  splits15 split15_any a0 len0 cap0 _ a1 a2 a3 w w0.ints (row_cap15 w0) w0.nil
theorem walkFlexlineStable (a0 : Option Addr) (len0 cap0 : Nat) (z0 : List Int) (w : World) (w0 : RowIn w a0 len0 cap0 z0) :
    Calls Try.prog 8 #[.slice a0 len0 cap0] w fun e w' => e = .returned (.bool true) ∧ Below w.heap.size w w' :=
  stable15 order15_any awake15_ok a0 len0 cap0 _ w w0.ints (row_cap15 w0)
theorem walkFlexlineAll (a0 : Option Addr) (len0 cap0 : Nat) (z0 : List Int) (a1 : Int) (a2 : Int) (w : World) (w0 : RowIn w a0 len0 cap0 z0) (_ : (Lit.int .i64 a1).wf = true) (_ : (Lit.int .i64 a2).wf = true) :
    Calls Try.prog 5 #[.slice a0 len0 cap0, .int .i64 a1, .int .i64 a2] w fun e w' => e = .returned (.bool true) ∧ Below w.heap.size w w' :=
  all15 split15_any awake15_ok a0 len0 cap0 _ a1 a2 w w0.ints (row_cap15 w0)
theorem walkFlexlineOne (a0 : Option Addr) (len0 cap0 : Nat) (z0 : List Int) (a1 : Int) (a2 : Int) (w : World) (w0 : RowIn w a0 len0 cap0 z0) (_ : (Lit.int .i64 a1).wf = true) (_ : (Lit.int .i64 a2).wf = true) :
    Calls Try.prog 6 #[.slice a0 len0 cap0, .int .i64 a1, .int .i64 a2] w fun e w' => e = .returned (.bool true) ∧ Below w.heap.size w w' :=
  one15 split15_any awake15_ok a0 len0 cap0 _ a1 a2 w w0.ints (row_cap15 w0)
theorem walkFlexlineWider (a0 : Option Addr) (len0 cap0 : Nat) (z0 : List Int) (a1 : Int) (a2 : Int) (a3 : Int) (w : World) (w0 : RowIn w a0 len0 cap0 z0) (_ : (Lit.int .i64 a1).wf = true) (_ : (Lit.int .i64 a2).wf = true) (_ : (Lit.int .i64 a3).wf = true) :
    Calls Try.prog 7 #[.slice a0 len0 cap0, .int .i64 a1, .int .i64 a2, .int .i64 a3] w fun e w' => e = .returned (.bool true) ∧ Below w.heap.size w w' :=
  wider15 split15_any awake15_ok a0 len0 cap0 _ a1 a2 a3 w w0.ints (row_cap15 w0)
end Go.Proofs.Ytkakencndopgbaa
