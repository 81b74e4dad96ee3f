/-
  A row of bytes of a call's own, in a block of its own: read, and written.
-/
import Derived.Test.YtfdjedhbbbdeiaaBytes
namespace Go.Proofs.Ytfdjedhbbbdeiaa
open Go.RowKit

/-- a row of bytes from the block 'base' on, or an empty one -/
def OwnB (w : World) (base : Nat) (A : Option Addr) (m : Nat) (f : Nat → Nat) : Prop :=
  (∀ i, i < m → f i < 256) ∧ (m = 0 ∨ ∃ g cur, A = some ⟨g, 0, none⟩ ∧ base ≤ g ∧ w.heap[g]? = some (.cells cur 5) ∧ ∀ i, i < m → cur[i]? = some (.int .u8 (f i : Nat)))
theorem OwnB.bytes {w : World} {base : Nat} {A : Option Addr} {m : Nat} {f : Nat → Nat} (h : OwnB w base A m f) : Bytes w A m f := by
  rcases h with ⟨hf, rfl | ⟨g, cur, rfl, hg, hh, hc⟩⟩
  · exact Nums.zero _ _
  · refine ⟨hf, fun _ => ⟨g, 0, rfl, (Array.getElem?_eq_some_iff.1 hh).1, fun i hi => ?_⟩⟩
    rw [Nat.zero_add, cell_of_row w g i cur 5 (0, 0) hh]
    exact hc i hi
theorem OwnB.below {w w' : World} {base : Nat} {A : Option Addr} {m : Nat} {f : Nat → Nat} (h : OwnB w base A m f) (hb : Below w.heap.size w w') : OwnB w' base A m f := by
  rcases h with ⟨hf, rfl | ⟨g, cur, rfl, hg, hh, hc⟩⟩
  · exact ⟨hf, .inl rfl⟩
  · exact ⟨hf, .inr ⟨g, cur, rfl, hg, (hb.block g (Array.getElem?_eq_some_iff.1 hh).1).trans hh, hc⟩⟩
theorem OwnB.at_ {w : World} {base : Nat} {A : Option Addr} {m : Nat} {f : Nat → Nat} (h : OwnB w base A m f) {i : Nat} (hi : i < m) :
    ∃ g, A = some ⟨g, 0, none⟩ ∧ base ≤ g ∧ w.cell? ⟨g, i, none⟩ = some (.int .u8 (f i : Nat)) ∧ w.frozen? ⟨g, i, none⟩ = false ∧ f i < 256 ∧
      ∀ x, x < 256 → OwnB (w.setCell ⟨g, i, none⟩ (.int .u8 (x : Nat))) base A m (fun j => if j = i then x else f j) := by
  rcases h with ⟨hf, rfl | ⟨g, cur, rfl, hg, hh, hc⟩⟩
  · omega
  · refine ⟨g, rfl, hg, (cell_of_row w g i cur 5 (0, 0) hh).trans (hc i hi), ?_, hf i hi, fun x hx => ⟨fun j hj => ?_, .inr ⟨g, cur.setIfInBounds i (.int .u8 (x : Nat)), rfl, hg, ?_, fun j hj => ?_⟩⟩⟩
    · simp [World.frozen?, hh]
    · dsimp only; split
      · exact hx
      · exact hf j hj
    · simp [World.setCell, Array.getElem?_modify, hh]
    · have := (Array.getElem?_eq_some_iff.1 (hc i hi)).1
      by_cases e : j = i
      · subst e; simp [this]
      · rw [Array.getElem?_setIfInBounds_ne (by omega)]; dsimp only; rw [if_neg e]; exact hc j hj
end Go.Proofs.Ytfdjedhbbbdeiaa
