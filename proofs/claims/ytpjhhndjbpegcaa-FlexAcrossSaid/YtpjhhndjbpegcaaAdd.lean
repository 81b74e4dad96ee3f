/-
  What fixed.length and fixed.Add answer: a number, if it is a length; the sum of numbers, if all are lengths and it is one; else ErrOver.
-/
import Derived.Test.YtpjhhndjbpegcaaFits
import Derived.Laws.BitsAllLaws
import Derived.Laws.BitsLemmas
namespace Go.Proofs.Ytpjhhndjbpegcaa
open Go.RowKit

/-- a number and an error's number: what a call answers that refuses what is no length -/
def pair (x : Int) : Int × Int := if Fit x then (x, 0) else (0, 10)
theorem pair_yes {x : Int} (h : Fit x) : pair x = (x, 0) := by simp [pair, h]
theorem pair_no {x : Int} (h : ¬ Fit x) : pair x = (0, 10) := by simp [pair, h]
def sumI (f : Nat → Int) : Nat → Int
  | 0 => 0
  | k + 1 => sumI f k + f k
theorem and_mask (x : Int) : bits BinOp.and IntKind.i64 x 1048575 = x % 1048576 := by
  show IntKind.i64.wrap ((BitVec.ofInt 64 x &&& BitVec.ofInt 64 1048575).toNat : Int) = _
  rw [BitVec.toNat_and]
  have e : (BitVec.ofInt 64 1048575).toNat = 2 ^ 20 - 1 := by decide
  rw [e, Nat.and_two_pow_sub_one_eq_mod, BitVec.toNat_ofInt, IntKind.wrap_i64]
  omega
def up (f : Nat → Int) (k : Nat) : Int := sumI (fun i => f i / 1048576) k
def low (f : Nat → Int) (k : Nat) : Int := sumI (fun i => f i % 1048576) k
theorem up_low (f : Nat → Int) (k : Nat) : up f k * 1048576 + low f k = sumI f k := by
  induction k with
  | zero => simp [up, low, sumI]
  | succ k ih => simp only [up, low, sumI] at *; omega
theorem up_bd (f : Nat → Int) (k : Nat) (h : ∀ i, i < k → Fit (f i)) : -1048576 * k ≤ up f k ∧ up f k ≤ 1048576 * k := by
  induction k with
  | zero => simp [up, sumI]
  | succ k ih =>
    have := ih fun i hi => h i (by omega)
    have hk := h k (by omega)
    simp only [up, sumI, Fit] at *
    omega
theorem low_bd (f : Nat → Int) (k : Nat) : 0 ≤ low f k ∧ low f k ≤ 1048575 * k := by
  induction k with
  | zero => simp [low, sumI]
  | succ k ih => simp only [low, sumI] at *; omega
theorem up_step (f : Nat → Int) (k : Nat) : up f (k + 1) = up f k + f k / 1048576 := rfl
theorem low_step (f : Nat → Int) (k : Nat) : low f (k + 1) = low f k + f k % 1048576 := rfl

/-- what a sum of numbers comes to: ErrOver, unless all are lengths, and it is -/
def addRes (f : Nat → Int) (n : Nat) : Int × Int := if allFit f n then pair (sumI f n) else (0, 10)
end Go.Proofs.Ytpjhhndjbpegcaa
