/-
  Rows of numbers sorted: the least, the greatest, and whether one comes twice: plain mathematics.
-/
import Derived.WalkKit
import Derived.Lib.SlicesCompact
namespace Go.Proofs.Ytmodegkpfdlccaa
open Go.Lib

def srt (l : List Int) : List Int := l.mergeSort fun x y => decide (x ≤ y)
theorem srt_len (l : List Int) : (srt l).length = l.length := List.length_mergeSort l
theorem srt_perm (l : List Int) : (srt l).Perm l := List.mergeSort_perm l _
theorem srt_rise (l : List Int) : (srt l).Pairwise (· ≤ ·) := by
  have h := List.pairwise_mergeSort (le := fun x y : Int => decide (x ≤ y)) (by intro a b c; simp; omega) (by intro a b; simp; omega) l
  exact h.imp fun h => by simpa using h
theorem srt_at {l : List Int} {i j : Nat} (hij : i ≤ j) (hj : j < (srt l).length) : (srt l)[i]'(by omega) ≤ (srt l)[j] := by
  rcases Nat.lt_or_ge i j with h | h
  · exact List.pairwise_iff_getElem.1 (srt_rise l) i j (by omega) hj h
  · obtain rfl : i = j := by omega
    exact Int.le_refl _
theorem srt_all {l : List Int} {p : Int → Prop} : (∀ a ∈ srt l, p a) ↔ ∀ a ∈ l, p a := ⟨fun h a ha => h a ((srt_perm l).mem_iff.2 ha), fun h a ha => h a ((srt_perm l).mem_iff.1 ha)⟩
theorem least_iff {l : List Int} {lo b : Int} (h : (srt l)[0]? = some lo) : b ≤ lo ↔ ∀ a ∈ l, b ≤ a := by
  obtain ⟨h0, rfl⟩ := List.getElem?_eq_some_iff.1 h
  rw [← srt_all (p := fun a => b ≤ a)]
  constructor
  · intro hb a ha
    obtain ⟨i, hi, rfl⟩ := List.getElem_of_mem ha
    exact Int.le_trans hb (srt_at (Nat.zero_le i) hi)
  · intro hb
    exact hb _ (List.getElem_mem h0)
theorem most_iff {l : List Int} {hi b : Int} (h : (srt l)[l.length - 1]? = some hi) : hi < b ↔ ∀ a ∈ l, a < b := by
  obtain ⟨h0, rfl⟩ := List.getElem?_eq_some_iff.1 h
  rw [← srt_all (p := fun a => a < b)]
  constructor
  · intro hb a ha
    obtain ⟨i, hi, rfl⟩ := List.getElem_of_mem ha
    have hl := srt_len l
    exact Int.lt_of_le_of_lt (srt_at (show i ≤ l.length - 1 by omega) h0) hb
  · intro hb
    exact hb _ (List.getElem_mem h0)
theorem compact_le (l : List Int) : (compact l).length ≤ l.length := by
  unfold compact compactUpTo
  rw [List.length_map]
  exact Nat.le_trans (List.length_filter_le _ _) (by simp)
theorem compact_iff (l : List Int) : (compact (srt l)).length = l.length ↔ l.Nodup := by
  have hl := srt_len l
  rw [← (srt_perm l).nodup_iff]
  unfold compact compactUpTo
  rw [List.length_map]
  have e : ((List.range (srt l).length).filter (keeps (srt l).toArray)).length = l.length ↔ ∀ j, j < (srt l).length → keeps (srt l).toArray j = true := by
    have := List.length_filter_eq_length_iff (l := List.range (srt l).length) (p := keeps (srt l).toArray)
    rw [List.length_range, hl] at this
    rw [hl, this]
    simp
  rw [e]
  have g : ∀ j (hj : j < (srt l).length), (srt l).toArray[j]! = (srt l)[j] := fun j hj => by simp [hj]
  constructor
  · intro h
    unfold List.Nodup
    rw [List.pairwise_iff_getElem]
    intro i j hi hj hij heq
    have h1 := h j hj
    unfold keeps at h1
    rw [decide_eq_true_iff, g j hj, g (j - 1) (by omega)] at h1
    have h2 := srt_at (l := l) (show i ≤ j - 1 by omega) (by omega)
    have h3 := srt_at (l := l) (show j - 1 ≤ j by omega) hj
    rcases h1 with h1 | h1
    · omega
    · exact h1 (by omega)
  · intro h j hj
    unfold keeps
    rw [decide_eq_true_iff]
    rcases Nat.eq_zero_or_pos j with h0 | h0
    · exact .inl h0
    · right
      rw [g j hj, g (j - 1) (by omega)]
      unfold List.Nodup at h
      rw [List.pairwise_iff_getElem] at h
      exact fun e => h (j - 1) j (by omega) hj (by omega) e.symm
theorem nodup_map {f : Nat → Int} {n : Nat} : ((List.range n).map f).Nodup ↔ ∀ i j, i < j → j < n → f i ≠ f j := by
  unfold List.Nodup
  rw [List.pairwise_iff_getElem]
  simp only [List.length_map, List.length_range, List.getElem_map, List.getElem_range]
  exact ⟨fun h i j hij hj => h i j (by omega) hj hij, fun h i j _ hj hij => h i j hij hj⟩
theorem all_map {f : Nat → Int} {n : Nat} {p : Int → Prop} : (∀ a ∈ (List.range n).map f, p a) ↔ ∀ i, i < n → p (f i) := by simp
end Go.Proofs.Ytmodegkpfdlccaa
