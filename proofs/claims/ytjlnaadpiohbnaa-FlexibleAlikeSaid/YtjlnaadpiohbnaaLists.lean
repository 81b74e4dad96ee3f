/-
  What the document's Add, Copy and Same answer: the sum of numbers, if all are lengths and it is one; a list in memory of its own; whether two lists are the same.
-/
import Derived.Test.YtjlnaadpiohbnaaAdd
import Derived.Laws.AppendOwnNone
import Derived.BigQuiet
import Derived.Deep.QuietTactic
namespace Go.Proofs.Ytjlnaadpiohbnaa
open Go.RowKit

theorem sum_bd (f : Nat → Int) (k : Nat) (h : ∀ i, i < k → Fit (f i)) : -1099511627776 * k ≤ sumI f k ∧ sumI f k ≤ 1099511627776 * k := by
  induction k with
  | zero => simp [sumI]
  | succ k ih =>
    have := ih fun i hi => h i (by omega)
    have hk := h k (by omega)
    simp only [sumI, Fit] at *
    omega
theorem sum_step (f : Nat → Int) (k : Nat) : sumI f (k + 1) = sumI f k + f k := rfl
theorem info_int : (Try.prog.info? 3).map (fun i => (i.zero, i.size, i.bytes)) = some (some (.int .i64 0), 1, 8) := by kernel_rfl
/-- a slice, of which nothing more is said than that it reads so -/
def Made (f : Nat → Int) (n : Nat) (w : World) (e : Ending) (w' : World) : Prop := ∃ A c, e = .returned (.slice A n c) ∧ Ints w' A n f ∧ Below w.heap.size w w' ∧ (∀ b off sp, A = some ⟨b, off, sp⟩ → w.heap.size ≤ b)
end Go.Proofs.Ytjlnaadpiohbnaa
