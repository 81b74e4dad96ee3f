/-
  How long some boxes are: what the document's long, and the laws' long, answer.
-/
import Derived.Test.YtpjhhndjbpegcaaLinesM15
import Derived.IntWalk
import Derived.Deep.LoopGhost
import Derived.Lib.Hide
namespace Go.Proofs.Ytpjhhndjbpegcaa
open Go.RowKit

/-- the sum of the first so many -/
def sumQ (f : Nat → Int) : Nat → Int
  | 0 => 0
  | k + 1 => sumQ f k + f k
theorem sumF_sumQ (f : Nat → Int) (i k : Nat) : sumF f i k = sumQ (fun j => f (i + j)) k := by
  induction k with
  | zero => rfl
  | succ k ih => rw [sumF, sumQ, ih]
theorem sumQ_bd15 {f : Nat → Int} {c : Int} (k : Nat) (h : ∀ j, j < k → -c ≤ f j ∧ f j ≤ c) : -(k * c) ≤ sumQ f k ∧ sumQ f k ≤ k * c := by
  have := sumF_bd (f := f) (c := c) 0 k (fun j _ hj => h j (by omega))
  have e : sumF f 0 k = sumQ f k := by rw [sumF_sumQ]; congr 1; funext j; rw [Nat.zero_add]
  rwa [e] at this
theorem gap_bd {gap : Int} {n : Nat} (h0 : 0 ≤ gap) (h1 : gap ≤ 1099511627776) (hn : n ≤ 100000) : -1099511627776 ≤ gap * ((n : Int) - 1) ∧ gap * ((n : Int) - 1) ≤ 109951162777600000 := by
  cases n with
  | zero => simp; omega
  | succ n =>
    have e : ((n + 1 : Nat) : Int) - 1 = (n : Int) := by omega
    rw [e]
    have a : gap * (n : Int) ≤ 1099511627776 * (n : Int) := Int.mul_le_mul_of_nonneg_right h1 (by omega)
    have b : 0 ≤ gap * (n : Int) := Int.mul_nonneg h0 (by omega)
    omega
/-- part of a row of numbers -/
theorem Ints.part {w : World} {b off n : Nat} {f : Nat → Int} (h : Ints w (some ⟨b, off, none⟩) n f) {i j : Nat} (hi : i ≤ j) (hj : j ≤ n) : Ints w (some ⟨b, off + i, none⟩) (j - i) (fun k => f (i + k)) := by
  refine ⟨fun k hk => h.1 (i + k) (by omega), fun h0 => ?_⟩
  obtain ⟨b', off', e, hb, hc⟩ := h.2 (by omega)
  injection e with e
  injection e with e1 e2
  subst e1 e2
  exact ⟨b, off + i, rfl, hb, fun k hk => by have := hc (i + k) (by omega); rwa [← Nat.add_assoc] at this⟩
end Go.Proofs.Ytpjhhndjbpegcaa
