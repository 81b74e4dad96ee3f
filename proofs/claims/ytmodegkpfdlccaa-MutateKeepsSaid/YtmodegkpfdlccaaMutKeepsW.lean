/-
  The law MutateKeeps' walk of the landed code.
-/
import Derived.Test.YtmodegkpfdlccaaMutKeeps
import Derived.Test.YtmodegkpfdlccaaMutE
namespace Go.Proofs.Ytmodegkpfdlccaa
open Go.RowKit

theorem not_odd : ¬ StyOK oddStyle := by
  unfold StyOK
  have : mayB (canonL oddStyle) = false := by kernel_rfl
  rw [this]
  intro h
  cases h
theorem walkMutateKeeps (a0 : Option Addr) (len0 cap0 : Nat) (x0 : Int) (z0 : Nat → RN) (z1 : RC) (w : World) (w0 : DocIn w a0 len0 cap0 x0 z0) (w1 : z1.ok) :
    Calls Try.prog 3 #[docV a0 len0 cap0 x0, changeV z1] w fun e w' => e = .returned (.bool true) ∧ Below w.heap.size w w' :=
  keeps7 sty_none not_odd apply_any mutMay_any a0 len0 cap0 x0 z0 z1 w w0 w1
end Go.Proofs.Ytmodegkpfdlccaa
