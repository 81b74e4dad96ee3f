/-
  What is told of boxes near 0: of any Sizes that answers as is asked.
-/
import Derived.Test.YtjlnaadpiohbnaaAwaking16
namespace Go.Proofs.Ytjlnaadpiohbnaa
open Go.RowKit

/-- all that the laws ask of sizes -/
structure Told16 (l : List It16) (n : Nat) (gap room : Int) (f : Nat → Int) : Prop where
  first : room < 0 → ∀ i, i < n → f i = firstI (itA l i)
  gfull : 0 ≤ room → growI l n gap room = true → sumB f n ≤ room - aroundI l gap n ∧ (sumB f n = room - aroundI l gap n ∨ ∀ i, i < n → (itA l i).grow ≠ 0 → (itA l i).most ≤ f i)
  sfull : 0 ≤ room → growI l n gap room = false → room - aroundI l gap n ≤ sumB f n ∧ (sumB f n = room - aroundI l gap n ∨ ∀ i, i < n → (itA l i).shrink ≠ 0 → (itA l i).base ≠ 0 → f i ≤ (itA l i).least)
  gway : 0 ≤ room → growI l n gap room = true → ∀ i, i < n → firstI (itA l i) ≤ f i ∧ ((itA l i).grow = 0 → f i = firstI (itA l i))
  sway : 0 ≤ room → growI l n gap room = false → ∀ i, i < n → f i ≤ firstI (itA l i) ∧ ((itA l i).shrink = 0 → f i = firstI (itA l i))
  between : ∀ i, i < n → ∃ y, f i = cI (itA l i) y
theorem near_told16 {l : List It16} {gap room : Int} (h : NearR l gap room) {o : List Int} {z : Int} (hs : SizesIs l gap room o z) : ∃ f, o = listF f l.length ∧ z = 0 ∧ Told16 l l.length gap room f := by
  have hI : ∀ i, i < l.length → NearI (itA l i) := fun i hi => (h.hI i hi).1
  by_cases hr : 0 ≤ room
  · obtain ⟨f, rfl, rfl, hx⟩ := near_sizes h.hn h.hgap ⟨hr, by have := h.hroom; omega⟩ hI hs
    obtain ⟨o, h1, a, b, c, d, e⟩ := sizes16 h.hn h.hgap ⟨hr, by have := h.hroom; omega⟩ hI hx
    cases h1
    exact ⟨f, rfl, rfl, ⟨fun hn => by omega, fun _ => a, fun _ => b, fun _ => c, fun _ => d, e⟩⟩
  · have ha := near_ask h.hn h.hgap ⟨h.hroom.1, by have := h.hroom; omega⟩ hI
    have hm : room = -1 := by have := h.hroom; omega
    have w : SizesIs l gap room (listF (out0 l) l.length) 0 := .wide ha hm
    obtain ⟨rfl, rfl⟩ := hs.uniq w
    exact ⟨out0 l, rfl, rfl, ⟨fun _ i _ => rfl, fun h => absurd h hr, fun h => absurd h hr, fun h => absurd h hr, fun h => absurd h hr, fun i _ => ⟨_, rfl⟩⟩⟩
theorem Told16.bd {l : List It16} {n : Nat} {gap room : Int} {f : Nat → Int} (h : Told16 l n gap room f) (hI : ∀ i, i < n → NearI (itA l i)) : ∀ i, i < n → 0 ≤ f i ∧ f i ≤ 1099511627776 := fun i hi => by
  obtain ⟨y, hy⟩ := h.between i hi
  have h1 := (hI i hi).hleast
  have h2 := (hI i hi).hmost
  rw [hy]
  unfold cI
  omega
/-- how long all are, as a law sums it up -/
def fullS (l : List It16) (f : Nat → Int) (gap : Int) (k : Nat) : Int := sumB f k + aroundI l gap k
theorem fullS_zero (l : List It16) (f : Nat → Int) (gap : Int) : fullS l f gap 0 = 0 := by simp [fullS, aroundI, sumB]
theorem fullS_succ (l : List It16) (f : Nat → Int) (gap : Int) (k : Nat) : fullS l f gap (k + 1) = fullS l f gap k + f k + (itA l k).outer + (if 0 < k then gap else 0) := by
  unfold fullS aroundI
  rw [sumB, sumB]
  by_cases h : k = 0
  · subst h; simp; omega
  · have e : gap * (((k + 1 : Nat) : Int) - 1) = gap * ((k : Int) - 1) + gap := by
      rw [show ((k + 1 : Nat) : Int) - 1 = ((k : Int) - 1) + 1 by omega, Int.mul_add]; omega
    rw [if_neg (by omega), if_neg h, if_pos (by omega), e]
    omega
theorem fullS_bd {l : List It16} {f : Nat → Int} {gap : Int} {k : Nat} (hk : k ≤ 100) (hg : 0 ≤ gap ∧ gap ≤ 268435456) (hI : ∀ i, i < k → NearI (itA l i)) (hf : ∀ i, i < k → 0 ≤ f i ∧ f i ≤ 1099511627776) : -53687091200 ≤ fullS l f gap k ∧ fullS l f gap k ≤ 219902325555200 := by
  have h1 := around_bd hk hg hI
  have h2 := sumB_bd (f := f) (c := 1099511627776) (n := k) (fun i hi => by have := hf i hi; omega)
  have h3 : 0 ≤ sumB f k := sumB_nn (fun i hi => (hf i hi).1)
  unfold fullS
  omega
/-- the sizes in a row of the call's own, read -/
theorem own_at16 {w : World} {B : Nat} {v : Value} {f : Nat → Int} {n : Nat} (h : ownsI16 w B v (listF f n)) {i : Nat} (hi : i < n) : ∃ g c, v = .slice (some ⟨g, 0, none⟩) n c ∧ n ≤ c ∧ g < w.heap.size ∧ w.cell? ⟨g, i, none⟩ = some (.int .i64 (f i)) := by
  have h' := h
  unfold ownsI16 at h'
  rw [listF_len] at h'
  obtain ⟨g, c, rfl, h1, h2, -, h5, h6, -⟩ := own_at h' (by omega)
  refine ⟨g, c, rfl, h1, h5, h6 i _ ?_⟩
  rw [List.getElem?_map, listF_get f hi]
  rfl
theorem own_row16 {w : World} {B : Nat} {v : Value} {f : Nat → Int} {n : Nat} (h : ownsI16 w B v (listF f n)) : ∃ A c, v = .slice A n c := by
  have h' := h
  unfold ownsI16 at h'
  rw [listF_len] at h'
  obtain ⟨A, c, e, -⟩ := own_form h'
  exact ⟨A, c, e⟩
theorem firstS_near {l : List It16} {gap room : Int} {n : Nat} : decide (firstS l gap n < room) = growI l n gap room := rfl
theorem NearR.ig {l : List It16} {gap room : Int} (h : NearR l gap room) : I64 gap := by have := h.hgap; exact ⟨by omega, by omega⟩
theorem NearR.ir {l : List It16} {gap room : Int} (h : NearR l gap room) : I64 room := by have := h.hroom; exact ⟨by omega, by omega⟩
theorem NearR.zero {l : List It16} {gap room : Int} (h : NearR l gap room) : NearR l gap 0 := ⟨h.hn, h.hgap, ⟨by omega, by omega⟩, h.hI⟩
end Go.Proofs.Ytjlnaadpiohbnaa
