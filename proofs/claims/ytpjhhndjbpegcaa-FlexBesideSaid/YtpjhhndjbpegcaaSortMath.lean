/-
  Plain words for a stable sort of places: nothing of the program. 'T L x y': place x comes ahead of y: it holds more, or as much and stands ahead.
-/
namespace Go.Proofs.Ytpjhhndjbpegcaa

def T (L : Nat → Int) (x y : Nat) : Prop := L y < L x ∨ (L x = L y ∧ x < y)
theorem T.trans {L : Nat → Int} {x y z : Nat} (h : T L x y) (k : T L y z) : T L x z := by
  unfold T at *; omega
theorem T.irr {L : Nat → Int} {x : Nat} (h : T L x x) : False := by
  unfold T at *; omega
theorem T.tot {L : Nat → Int} {x y : Nat} (h : x ≠ y) : T L x y ∨ T L y x := by
  unfold T; omega

def swp (p : Nat → Nat) (i j : Nat) : Nat → Nat := fun k => if k = i then p j else if k = j then p i else p k
theorem swp_l (p : Nat → Nat) (i j : Nat) : swp p i j i = p j := by simp [swp]
theorem swp_r (p : Nat → Nat) (i j : Nat) : swp p i j j = p i := by
  unfold swp; split
  · rename_i h; rw [h]
  · simp
theorem swp_o (p : Nat → Nat) {i j k : Nat} (h1 : k ≠ i) (h2 : k ≠ j) : swp p i j k = p k := by simp [swp, h1, h2]

/-- q is p, but for an order within a .. b -/
def Rearr (p q : Nat → Nat) (a b : Nat) : Prop :=
  (∀ k, ¬ (a ≤ k ∧ k < b) → q k = p k) ∧ (∀ k, a ≤ k → k < b → ∃ m, a ≤ m ∧ m < b ∧ q k = p m) ∧ (∀ k, a ≤ k → k < b → ∃ m, a ≤ m ∧ m < b ∧ p k = q m)
theorem Rearr.refl (p : Nat → Nat) (a b : Nat) : Rearr p p a b := ⟨fun _ _ => rfl, fun k h1 h2 => ⟨k, h1, h2, rfl⟩, fun k h1 h2 => ⟨k, h1, h2, rfl⟩⟩
theorem Rearr.trans {p q r : Nat → Nat} {a b : Nat} (h : Rearr p q a b) (k : Rearr q r a b) : Rearr p r a b := by
  refine ⟨fun i hi => (k.1 i hi).trans (h.1 i hi), fun i h1 h2 => ?_, fun i h1 h2 => ?_⟩
  · obtain ⟨m, m1, m2, e⟩ := k.2.1 i h1 h2
    obtain ⟨l, l1, l2, e'⟩ := h.2.1 m m1 m2
    exact ⟨l, l1, l2, e.trans e'⟩
  · obtain ⟨m, m1, m2, e⟩ := h.2.2 i h1 h2
    obtain ⟨l, l1, l2, e'⟩ := k.2.2 m m1 m2
    exact ⟨l, l1, l2, e.trans e'⟩
theorem Rearr.wide {p q : Nat → Nat} {a b c d : Nat} (h : Rearr p q a b) (h1 : c ≤ a) (h2 : b ≤ d) : Rearr p q c d := by
  refine ⟨fun k hk => h.1 k (by omega), fun k k1 k2 => ?_, fun k k1 k2 => ?_⟩
  · by_cases hk : a ≤ k ∧ k < b
    · obtain ⟨m, m1, m2, e⟩ := h.2.1 k hk.1 hk.2
      exact ⟨m, by omega, by omega, e⟩
    · exact ⟨k, k1, k2, h.1 k hk⟩
  · by_cases hk : a ≤ k ∧ k < b
    · obtain ⟨m, m1, m2, e⟩ := h.2.2 k hk.1 hk.2
      exact ⟨m, by omega, by omega, e⟩
    · exact ⟨k, k1, k2, (h.1 k hk).symm⟩
theorem Rearr.swp (p : Nat → Nat) {a b i j : Nat} (hi : a ≤ i ∧ i < b) (hj : a ≤ j ∧ j < b) : Rearr p (swp p i j) a b := by
  refine ⟨fun k hk => swp_o p (by omega) (by omega), fun k k1 k2 => ?_, fun k k1 k2 => ?_⟩
  · by_cases e1 : k = i
    · exact ⟨j, hj.1, hj.2, by rw [e1, swp_l]⟩
    · by_cases e2 : k = j
      · exact ⟨i, hi.1, hi.2, by rw [e2, swp_r]⟩
      · exact ⟨k, k1, k2, swp_o p e1 e2⟩
  · by_cases e1 : k = i
    · exact ⟨j, hj.1, hj.2, by rw [e1, swp_r]⟩
    · by_cases e2 : k = j
      · exact ⟨i, hi.1, hi.2, by rw [e2, swp_l]⟩
      · exact ⟨k, k1, k2, (swp_o p e1 e2).symm⟩

def Sorted (L : Nat → Int) (p : Nat → Nat) (a b : Nat) : Prop := ∀ j k, a ≤ j → j < k → k < b → T L (p j) (p k)
/-- p's numbers rise from a to b -/
def Rises (p : Nat → Nat) (a b : Nat) : Prop := ∀ j k, a ≤ j → j < k → k < b → p j < p k

/-- the outer loop of the sort by insertion, at i -/
def InsO (L : Nat → Int) (p q : Nat → Nat) (a i : Nat) : Prop := Rearr p q a i ∧ Sorted L q a i
/-- the inner one: what stood at i has come to j -/
def InsI (L : Nat → Int) (p q : Nat → Nat) (a i j : Nat) : Prop :=
  Rearr p q a (i + 1) ∧ q j = p i ∧ (∀ u, a ≤ u → u ≤ i → u ≠ j → q u < p i) ∧ (∀ u v, a ≤ u → u < v → v ≤ i → u ≠ j → v ≠ j → T L (q u) (q v)) ∧ (∀ v, j < v → v ≤ i → T L (p i) (q v))
theorem InsO.start (L : Nat → Int) (p : Nat → Nat) (a : Nat) : InsO L p p a (a + 1) := ⟨Rearr.refl _ _ _, fun j k h1 h2 h3 => absurd h2 (by omega)⟩
theorem InsI.start {L : Nat → Int} {p q : Nat → Nat} {a i b : Nat} (hp : Rises p a b) (hi : a < i ∧ i < b) (h : InsO L p q a i) : InsI L p q a i i := by
  refine ⟨h.1.wide (Nat.le_refl _) (by omega), h.1.1 i (by omega), fun u h1 h2 h3 => ?_, fun u v h1 h2 h3 h4 h5 => h.2 u v h1 h2 (by omega), fun v h1 h2 => absurd h1 (by omega)⟩
  obtain ⟨m, m1, m2, e⟩ := h.1.2.1 u h1 (by omega)
  rw [e]
  exact hp m i m1 m2 hi.2
theorem InsI.step {L : Nat → Int} {p q : Nat → Nat} {a i j : Nat} (h : InsI L p q a i j) (haj : a < j) (hji : j ≤ i) (hl : L (q (j - 1)) < L (q j)) : InsI L p (swp q j (j - 1)) a i (j - 1) := by
  obtain ⟨h1, h2, h3, h4, h5⟩ := h
  have hx : T L (p i) (q (j - 1)) := by rw [← h2]; exact .inl hl
  refine ⟨h1.trans (Rearr.swp q (by omega) (by omega)), by rw [swp_r]; exact h2, fun u u1 u2 u3 => ?_, fun u v u1 u2 u3 u4 u5 => ?_, fun v v1 v2 => ?_⟩
  · by_cases e : u = j
    · rw [e, swp_l]; exact h3 (j - 1) (by omega) (by omega) (by omega)
    · rw [swp_o q e u3]; exact h3 u u1 u2 e
  · by_cases e : u = j
    · rw [e, swp_l, swp_o q (by omega) (by omega)]
      exact h4 (j - 1) v (by omega) (by omega) u3 (by omega) (by omega)
    · rw [swp_o q e u4]
      by_cases e' : v = j
      · rw [e', swp_l]
        exact h4 u (j - 1) u1 (by omega) (by omega) e (by omega)
      · rw [swp_o q e' u5]
        exact h4 u v u1 u2 u3 e e'
  · by_cases e : v = j
    · rw [e, swp_l]; exact hx
    · rw [swp_o q e (by omega)]; exact h5 v (by omega) v2
theorem InsI.stop {L : Nat → Int} {p q : Nat → Nat} {a i j : Nat} (h : InsI L p q a i j) (haj : a ≤ j) (hji : j ≤ i) (hl : j = a ∨ ¬ L (q (j - 1)) < L (q j)) : InsO L p q a (i + 1) := by
  obtain ⟨h1, h2, h3, h4, h5⟩ := h
  refine ⟨h1, fun u v u1 u2 u3 => ?_⟩
  by_cases e : u = j
  · rw [e, h2]; exact h5 v (by omega) (by omega)
  · by_cases e' : v = j
    · rcases hl with hl | hl
      · omega
      · have hb := h3 (j - 1) (by omega) (by omega) (by omega)
        have ht : T L (q (j - 1)) (q j) := by
          rw [h2] at hl ⊢
          unfold T; omega
        rw [e']
        by_cases e3 : u = j - 1
        · rw [e3]; exact ht
        · exact (h4 u (j - 1) u1 (by omega) (by omega) e (by omega)).trans ht
    · exact h4 u v u1 u2 (by omega) e e'
end Go.Proofs.Ytpjhhndjbpegcaa
