/-
  Numbers in a new row.
-/
import Derived.Test.YtieaoebphlcmpaaFits
namespace Go.Proofs.Ytieaoebphlcmpaa
open Go.RowKit

def pk (l : List Int) (i : Nat) : Int := l[i]?.getD 0
theorem pk_at (l : List Int) (i : Nat) (h : i < l.length) : l[i]? = some (pk l i) := by unfold pk; rw [List.getElem?_eq_getElem h]; rfl
theorem pk_all (l : List Int) : allFit (pk l) l.length = decide (∀ y ∈ l, Fit y) := by
  unfold allFit
  refine decide_eq_decide.2 ⟨fun h y hy => ?_, fun h i hi => ?_⟩
  · obtain ⟨i, hi⟩ := List.getElem?_of_mem hy
    have hl := (List.getElem?_eq_some_iff.1 hi).1
    have := h i hl
    unfold pk at this
    rw [hi] at this
    exact this
  · have := pk_at l i hi
    exact h _ (List.mem_of_getElem? this)
theorem pk_new (w : World) (T : TypeId) (l : List Int) (hb : ∀ y ∈ l, -9223372036854775808 ≤ y ∧ y ≤ 9223372036854775807) : Ints (w.alloc (.cells (l.map (Value.int .i64)).toArray T)) (some ⟨w.heap.size, 0, none⟩) l.length (pk l) :=
  ⟨fun i hi => hb _ (List.mem_of_getElem? (pk_at l i hi)), fun _ => ⟨_, 0, rfl, by rw [World.size_alloc]; omega, fun i hi => by
    rw [World.cell?_alloc_new, Nat.zero_add]
    simp [pk_at l i hi]⟩⟩
end Go.Proofs.Ytieaoebphlcmpaa
