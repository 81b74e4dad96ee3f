/-
  Whose kid each node is, as far as the law TreeParents has come: mathematics over the shape; a row of numbers of the law's own.
-/
import Derived.Test.YtlkcmfohmkblfaaTreeNested
import Derived.Test.YtlkcmfohmkblfaaKids
import Derived.Test.YtlkcmfohmkblfaaCopy5
namespace Go.Proofs.Ytlkcmfohmkblfaa
open Go.RowKit

/-- behind i nodes, and k kids of the next one -/
def whoseTo (N : Nat → RN) (n i k : Nat) (j : Nat) : Int := if 0 ≤ parOf (dps N) j ∧ parOf (dps N) j < i then parOf (dps N) j else if j ∈ (kidsOf (dps N) n i).take k then i else -1
theorem whose_start (N : Nat → RN) (n j : Nat) : whoseTo N n 0 0 j = -1 := by
  unfold whoseTo
  rw [if_neg (by omega), List.take_zero, if_neg (by simp)]
theorem whose_next {N : Nat → RN} {n i j : Nat} (hs : Steps (dps N) n) (hi : i < n) (hj : j < n) : whoseTo N n i (kidsOf (dps N) n i).length j = whoseTo N n (i + 1) 0 j := by
  unfold whoseTo
  rw [List.take_length, List.take_zero]
  by_cases h : 0 ≤ parOf (dps N) j ∧ parOf (dps N) j < i
  · rw [if_pos h, if_pos (by omega)]
  · rw [if_neg h]
    by_cases hm : j ∈ kidsOf (dps N) n i
    · have hp := kid_parent (dps N) hi hm
      rw [if_pos hm, if_pos (by omega), hp]
    · rw [if_neg hm]
      by_cases he : 0 ≤ parOf (dps N) j ∧ parOf (dps N) j < ((i + 1 : Nat) : Int)
      · exact absurd (parent_kid (dps N) hs hj (show parOf (dps N) j = i by omega)) hm
      · rw [if_neg he, if_neg (by simp)]
theorem kids_get {N : Nat → RN} {n i k p : Nat} (hi : i < n) (h : (kidsOf (dps N) n i)[k]? = some p) : i < p ∧ p < n ∧ parOf (dps N) p = i := by
  have hm := List.mem_of_getElem? h
  have h1 := (kids_iff (dps N)).1 hm
  have h2 := (endOf_gt (dps N) hi).2
  exact ⟨h1.1, by omega, kid_parent (dps N) hi hm⟩
theorem kid_fresh {N : Nat → RN} {n i k p : Nat} (h : (kidsOf (dps N) n i)[k]? = some p) : p ∉ (kidsOf (dps N) n i).take k := by
  intro hm
  obtain ⟨j, hj⟩ := List.mem_iff_getElem?.1 hm
  have hjk : j < k := by
    have := (List.getElem?_eq_some_iff.1 hj).1
    rw [List.length_take] at this
    omega
  rw [List.getElem?_take_of_lt hjk] at hj
  obtain ⟨l1, e1⟩ := List.getElem?_eq_some_iff.1 hj
  obtain ⟨l2, e2⟩ := List.getElem?_eq_some_iff.1 h
  have := List.pairwise_iff_getElem.1 (kids_rise (dps N) n i) j k l1 l2 hjk
  omega
theorem whose_kid {N : Nat → RN} {n i k p : Nat} (hi : i < n) (h : (kidsOf (dps N) n i)[k]? = some p) : whoseTo N n i k p = -1 ∧ ∀ j, whoseTo N n i (k + 1) j = if j = p then (i : Int) else whoseTo N n i k j := by
  have hg := kids_get hi h
  refine ⟨?_, fun j => ?_⟩
  · unfold whoseTo
    rw [if_neg (by rw [hg.2.2]; omega), if_neg (kid_fresh h)]
  · unfold whoseTo
    by_cases e : j = p
    · subst e
      rw [if_neg (by rw [hg.2.2]; omega), if_pos rfl, if_pos]
      rw [List.take_add_one, h]
      simp
    · rw [if_neg e]
      have : j ∈ (kidsOf (dps N) n i).take (k + 1) ↔ j ∈ (kidsOf (dps N) n i).take k := by
        rw [List.take_add_one, h]
        simp [e]
      simp only [this]
theorem whose_all {N : Nat → RN} {n j : Nat} (hj : j < n) : whoseTo N n n 0 j = parOf (dps N) j := by
  unfold whoseTo
  rw [List.take_zero]
  rcases parFrom_cases (dps N) (dps N j) j with ⟨h1, -⟩ | ⟨q, h1, h2, -, -⟩
  · have h1' : parOf (dps N) j = -1 := h1
    rw [h1', if_neg (by omega), if_neg (by simp)]
  · have h1' : parOf (dps N) j = q := h1
    rw [h1', if_pos (by omega)]

/-- a row of numbers of the law's own: so many of them are told -/
structure Fill (W : World) (g n k : Nat) (f : Nat → Int) : Prop where
  there : ∀ j, j < n → (W.cell? ⟨g, j, none⟩).isSome = true ∧ W.frozen? ⟨g, j, none⟩ = false
  done : ∀ j, j < k → W.cell? ⟨g, j, none⟩ = some (.int .i64 (f j))
theorem Fill.put {W : World} {g n k p : Nat} {f f' : Nat → Int} {v : Int} {k' : Nat} (h : Fill W g n k f) (hp : p < n) (hf : ∀ j, j < k' → f' j = if j = p then v else f j) (hk : ∀ j, j < k' → j ≠ p → j < k) : Fill (W.setCell ⟨g, p, none⟩ (.int .i64 v)) g n k' f' := by
  have same : (W.setCell ⟨g, p, none⟩ (.int .i64 v)).cell? ⟨g, p, none⟩ = some (.int .i64 v) := by
    obtain ⟨u, hu⟩ := Option.isSome_iff_exists.1 (h.there p hp).1
    exact World.cell?_setCell_same _ _ _ hu
  have other : ∀ j, j ≠ p → (W.setCell ⟨g, p, none⟩ (.int .i64 v)).cell? ⟨g, j, none⟩ = W.cell? ⟨g, j, none⟩ := fun j e => World.cell?_setCell_other _ _ _ _ (fun e' => by injection e'; omega)
  refine ⟨fun j hj => ⟨?_, by rw [World.frozen?_setCell]; exact (h.there j hj).2⟩, fun j hj => ?_⟩
  · by_cases e : j = p
    · subst e; rw [same]; rfl
    · rw [other j e]; exact (h.there j hj).1
  · rw [hf j hj]
    by_cases e : j = p
    · subst e; rw [if_pos rfl]; exact same
    · rw [if_neg e, other j e]; exact h.done j (hk j hj e)
theorem Fill.of_own {W : World} {base g n : Nat} {xs : List Value} {f : Nat → Int} (h : W.ownsRow base 3 1 (.slice (some ⟨g, 0, none⟩) n n) n xs) : Fill W g n 0 f := by
  obtain ⟨cur, hc, hs⟩ := own_cells h
  exact ⟨fun j hj => ⟨by simp [World.cell?, hc]; omega, by simp [World.frozen?, hc]⟩, fun j hj => absurd hj (by omega)⟩
theorem Fill.below {W W' : World} {g n k : Nat} {f : Nat → Int} (h : Fill W g n k f) (hb : Below W.heap.size W W') (hg : g < W.heap.size) : Fill W' g n k f :=
  ⟨fun j hj => by rw [hb.cell (p := ⟨g, j, none⟩) hg, hb.frozen (p := ⟨g, j, none⟩) hg]; exact h.there j hj, fun j hj => (hb.cell (p := ⟨g, j, none⟩) hg).trans (h.done j hj)⟩
theorem Fill.congr {W : World} {g n k : Nat} {f f' : Nat → Int} (h : Fill W g n k f) (e : ∀ j, j < k → f' j = f j) : Fill W g n k f' := ⟨h.there, fun j hj => by rw [e j hj]; exact h.done j hj⟩

/-- the document stands while such a row is written -/
theorem One.put {H g j : Nat} {A : Option Addr} {n c : Nat} {x : Int} {N : Nat → RN} {w W : World} (hA : ∀ b off, A = some ⟨b, off, none⟩ → 0 < n → b < H) (hg : H < g) (h : One H H A n c x N w W) (v : Value) : One H H A n c x N w (W.setCell ⟨g, j, none⟩ v) := by
  have k : ∀ {q o : Nat}, q ≠ g → (W.setCell ⟨g, j, none⟩ v).cell? ⟨q, o, none⟩ = W.cell? ⟨q, o, none⟩ := fun {q o} e => World.cell?_setCell_other _ _ _ _ (fun e' => by injection e'; omega)
  refine ⟨h.below.setCell (p := ⟨g, j, none⟩) (by show H ≤ g; omega) v, by simpa using h.size, ⟨⟨⟨h.doc.1.1.1, fun hn => ?_⟩, h.doc.1.2⟩, h.doc.2⟩, (k (by omega)).trans h.x0, (k (by omega)).trans h.x1⟩
  obtain ⟨b, off, e, hb, hc⟩ := h.doc.1.1.2 hn
  have := hA b off e hn
  exact ⟨b, off, e, by simpa using hb, fun i hi => (hc i hi).keep fun o => k (by omega)⟩
theorem Places.put {W : World} {B : Option Addr} {d : Nat} {l : List Nat} {g j : Nat} {v : Value} (h : Places W B d l) (hB : ∀ b off, B = some ⟨b, off, none⟩ → g < b) : Places (W.setCell ⟨g, j, none⟩ v) B d l :=
  ⟨h.1, h.2.1, h.2.2.1, fun hl => by
    obtain ⟨b, off, e, hb, hc⟩ := h.2.2.2 hl
    have := hB b off e
    exact ⟨b, off, e, by simpa using hb, fun k p hk => (World.cell?_setCell_other _ _ _ _ (fun e' => by injection e'; omega)).trans (hc k p hk)⟩⟩
end Go.Proofs.Ytlkcmfohmkblfaa
