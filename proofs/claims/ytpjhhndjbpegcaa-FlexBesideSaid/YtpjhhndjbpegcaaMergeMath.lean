/-
  Plain words for a stable merge in place: ranges that change places, a rotation, and where two sorted rows are cut. Nothing of the program.
-/
import Derived.Test.YtpjhhndjbpegcaaSortMath
namespace Go.Proofs.Ytpjhhndjbpegcaa

/-- the first n of a and of b have changed places -/
def sr (p : Nat → Nat) (a b n : Nat) : Nat → Nat := fun k => if a ≤ k ∧ k < a + n then p (k + (b - a)) else if b ≤ k ∧ k < b + n then p (k - (b - a)) else p k
theorem sr_zero (p : Nat → Nat) (a b : Nat) : sr p a b 0 = p := by
  funext k; unfold sr; rw [if_neg (by omega), if_neg (by omega)]
theorem sr_step (p : Nat → Nat) {a b n : Nat} (h : a + n < b) : swp (sr p a b n) (a + n) (b + n) = sr p a b (n + 1) := by
  funext k
  by_cases e1 : k = a + n
  · subst e1
    rw [swp_l]; unfold sr
    rw [if_neg (by omega), if_neg (by omega), if_pos (by omega)]; congr 1; omega
  · by_cases e2 : k = b + n
    · subst e2
      rw [swp_r]; unfold sr
      rw [if_neg (by omega), if_neg (by omega), if_neg (by omega), if_pos (by omega)]; congr 1; omega
    · rw [swp_o _ e1 e2]; unfold sr
      by_cases c1 : a ≤ k ∧ k < a + n
      · rw [if_pos c1, if_pos (by omega)]
      · rw [if_neg c1, if_neg (c := a ≤ k ∧ k < a + (n + 1)) (by omega)]
        by_cases c2 : b ≤ k ∧ k < b + n
        · rw [if_pos c2, if_pos (by omega)]
        · rw [if_neg c2, if_neg (by omega)]

/-- what stands from m to b comes ahead of what stands from a to m -/
def rot (p : Nat → Nat) (a m b : Nat) : Nat → Nat := fun k => if a ≤ k ∧ k < a + (b - m) then p (k + (m - a)) else if a + (b - m) ≤ k ∧ k < b then p (k - (b - m)) else p k
theorem rot_l (p : Nat → Nat) {a m b k : Nat} (h1 : a ≤ k) (h2 : k < a + (b - m)) : rot p a m b k = p (k + (m - a)) := by unfold rot; rw [if_pos ⟨h1, h2⟩]
theorem rot_r (p : Nat → Nat) {a m b k : Nat} (h1 : a + (b - m) ≤ k) (h2 : k < b) : rot p a m b k = p (k - (b - m)) := by unfold rot; rw [if_neg (by omega), if_pos ⟨h1, h2⟩]
theorem rot_o (p : Nat → Nat) {a m b k : Nat} (ham : a ≤ m) (hmb : m ≤ b) (h : ¬ (a ≤ k ∧ k < b)) : rot p a m b k = p k := by unfold rot; rw [if_neg (by omega), if_neg (by omega)]
theorem rot_nil_l (p : Nat → Nat) (m b : Nat) (h : m ≤ b) : rot p m m b = p := by
  funext k
  by_cases c : m ≤ k ∧ k < b
  · rw [rot_l p c.1 (by omega)]; congr 1; omega
  · exact rot_o p (Nat.le_refl _) h c
theorem rot_nil_r (p : Nat → Nat) (a m : Nat) (h : a ≤ m) : rot p a m m = p := by
  funext k
  by_cases c : a ≤ k ∧ k < m
  · rw [rot_r p (by omega) c.2]; congr 1; omega
  · exact rot_o p h (Nat.le_refl _) c
theorem rot_gt (c : Nat → Nat) {m i j : Nat} (hi : i ≤ m) (h : j < i) : rot (sr c (m - i) m j) (m - i + j) m (m + j) = rot c (m - i) m (m + j) := by
  funext k
  by_cases o : m - i ≤ k ∧ k < m + j
  · by_cases c1 : k < m - i + j
    · rw [rot_o _ (by omega) (by omega) (by omega), rot_l _ o.1 (by omega)]
      unfold sr; rw [if_pos (by omega)]
    · by_cases c2 : k < m - i + j + j
      · rw [rot_l _ (by omega) (by omega), rot_r _ (by omega) o.2]
        unfold sr
        rw [if_neg (by omega), if_pos (by omega)]; congr 1; omega
      · rw [rot_r _ (by omega) o.2, rot_r _ (by omega) o.2]
        unfold sr
        rw [if_neg (by omega), if_neg (by omega)]
  · rw [rot_o _ (by omega) (by omega) (by omega), rot_o _ (by omega) (by omega) o]
    unfold sr; rw [if_neg (by omega), if_neg (by omega)]
theorem rot_lt (c : Nat → Nat) {m i j : Nat} (hi : i ≤ m) (h : i < j) : rot (sr c (m - i) (m + j - i) i) (m - i) m (m + (j - i)) = rot c (m - i) m (m + j) := by
  funext k
  by_cases o : m - i ≤ k ∧ k < m + j
  · by_cases c1 : m + (j - i) ≤ k
    · rw [rot_o _ (by omega) (by omega) (by omega), rot_r _ (by omega) o.2]
      unfold sr; rw [if_neg (by omega), if_pos (by omega)]; congr 1; omega
    · by_cases c2 : k < m - i + (j - i)
      · rw [rot_l _ (by omega) (by omega), rot_l _ (by omega) (by omega)]
        unfold sr
        rw [if_neg (by omega), if_neg (by omega)]
      · rw [rot_r _ (by omega) (by omega), rot_l _ (by omega) (by omega)]
        unfold sr
        rw [if_pos (by omega)]; congr 1; omega
  · rw [rot_o _ (by omega) (by omega) (by omega), rot_o _ (by omega) (by omega) o]
    unfold sr; rw [if_neg (by omega), if_neg (by omega)]
theorem rot_eq (c : Nat → Nat) {m i : Nat} (hi : i ≤ m) : sr c (m - i) m i = rot c (m - i) m (m + i) := by
  funext k
  by_cases o : m - i ≤ k ∧ k < m + i
  · by_cases c1 : k < m
    · rw [rot_l _ o.1 (by omega)]; unfold sr; rw [if_pos (by omega)]
    · rw [rot_r _ (by omega) o.2]; unfold sr; rw [if_neg (by omega), if_pos (by omega)]; congr 1; omega
  · rw [rot_o _ (by omega) (by omega) o]; unfold sr; rw [if_neg (by omega), if_neg (by omega)]
theorem rot_up (p : Nat → Nat) {a k : Nat} (h : a ≤ k) : swp (rot p a (a + 1) (k + 1)) k (k + 1) = rot p a (a + 1) (k + 2) := by
  funext x
  by_cases e1 : x = k
  · subst e1
    rw [swp_l, rot_o _ (by omega) (by omega) (by omega), rot_l _ h (by omega)]; congr 1; omega
  · by_cases e2 : x = k + 1
    · subst e2
      rw [swp_r, rot_r _ (by omega) (by omega), rot_r _ (by omega) (by omega)]; congr 1; omega
    · rw [swp_o _ e1 e2]
      by_cases o : a ≤ x ∧ x < k
      · rw [rot_l _ o.1 (by omega), rot_l _ o.1 (by omega)]
      · rw [rot_o _ (by omega) (by omega) (by omega), rot_o _ (by omega) (by omega) (by omega)]
theorem rot_down (p : Nat → Nat) {k m : Nat} (h : k < m) : swp (rot p (k + 1) m (m + 1)) (k + 1) k = rot p k m (m + 1) := by
  funext x
  by_cases e1 : x = k + 1
  · subst e1
    rw [swp_l, rot_o _ (by omega) (by omega) (by omega), rot_r _ (by omega) (by omega)]; congr 1; omega
  · by_cases e2 : x = k
    · subst e2
      rw [swp_r, rot_l _ (by omega) (by omega), rot_l _ (by omega) (by omega)]; congr 1; omega
    · rw [swp_o _ e1 e2]
      by_cases o : k + 1 < x ∧ x < m + 1
      · rw [rot_r _ (by omega) o.2, rot_r _ (by omega) o.2]
      · rw [rot_o _ (by omega) (by omega) (by omega), rot_o _ (by omega) (by omega) (by omega)]
theorem rot_rearr (p : Nat → Nat) {a m b : Nat} (h1 : a ≤ m) (h2 : m ≤ b) : Rearr p (rot p a m b) a b := by
  refine ⟨fun k hk => rot_o p h1 h2 hk, fun k k1 k2 => ?_, fun k k1 k2 => ?_⟩
  · by_cases c : k < a + (b - m)
    · exact ⟨k + (m - a), by omega, by omega, rot_l p k1 c⟩
    · exact ⟨k - (b - m), by omega, by omega, rot_r p (by omega) k2⟩
  · by_cases c : k < m
    · refine ⟨k + (b - m), by omega, by omega, ?_⟩
      rw [rot_r p (by omega) (by omega)]; congr 1; omega
    · refine ⟨k - (m - a), by omega, by omega, ?_⟩
      rw [rot_l p (by omega) (by omega)]; congr 1; omega

/-- what a merge is given: two sorted rows, one behind the other, all of the first ahead of all of the second at first -/
def Two (L : Nat → Int) (p : Nat → Nat) (a m b : Nat) : Prop := Sorted L p a m ∧ Sorted L p m b ∧ ∀ j k, a ≤ j → j < m → m ≤ k → k < b → p j < p k
def Merged (L : Nat → Int) (p q : Nat → Nat) (a b : Nat) : Prop := Rearr p q a b ∧ Sorted L q a b

theorem T.of_not {L : Nat → Int} {x y : Nat} (h : ¬ L x < L y) (k : x < y) : T L x y := by unfold T; omega
theorem T.of_lt {L : Nat → Int} {x y : Nat} (h : L y < L x) : T L x y := .inl h

theorem merged_left {L : Nat → Int} {p : Nat → Nat} {a b i : Nat} (h : Two L p a (a + 1) b) (h1 : a + 1 ≤ i) (h2 : i ≤ b)
    (hi : a + 1 < i → L (p a) < L (p (i - 1))) (hj : i < b → ¬ L (p a) < L (p i)) : Merged L p (rot p a (a + 1) i) a b := by
  refine ⟨(rot_rearr p (by omega) h1).wide (Nat.le_refl _) h2, ?_⟩
  have back : ∀ v, i ≤ v → v < b → T L (p a) (p v) := fun v v1 v2 => by
    have e : T L (p a) (p i) := T.of_not (hj (by omega)) (h.2.2 a i (Nat.le_refl _) (by omega) h1 (by omega))
    by_cases c : v = i
    · rw [c]; exact e
    · exact e.trans (h.2.1 i v h1 (by omega) v2)
  have front : ∀ u, a + 1 ≤ u → u < i → T L (p u) (p a) := fun u u1 u2 => by
    have e : T L (p (i - 1)) (p a) := T.of_lt (hi (by omega))
    by_cases c : u = i - 1
    · rw [c]; exact e
    · exact (h.2.1 u (i - 1) u1 (by omega) (by omega)).trans e
  intro u v u1 u2 u3
  by_cases cu : u < i - 1
  · rw [rot_l p u1 (by omega)]
    by_cases cv : v < i - 1
    · rw [rot_l p (by omega) (by omega)]
      exact h.2.1 _ _ (by omega) (by omega) (by omega)
    · by_cases cw : v < i
      · rw [rot_r p (by omega) cw, show v - (i - (a + 1)) = a by omega]
        exact front _ (by omega) (by omega)
      · rw [rot_o p (by omega) h1 (by omega)]
        exact h.2.1 _ _ (by omega) (by omega) u3
  · by_cases cw : u < i
    · rw [rot_r p (by omega) cw, show u - (i - (a + 1)) = a by omega, rot_o p (by omega) h1 (by omega)]
      exact back v (by omega) u3
    · rw [rot_o p (by omega) h1 (by omega), rot_o p (by omega) h1 (by omega)]
      exact h.2.1 _ _ (by omega) u2 u3
theorem merged_right {L : Nat → Int} {p : Nat → Nat} {a m i : Nat} (h : Two L p a m (m + 1)) (h1 : a ≤ i) (h2 : i ≤ m)
    (hi : a < i → ¬ L (p (i - 1)) < L (p m)) (hj : i < m → L (p i) < L (p m)) : Merged L p (rot p i m (m + 1)) a (m + 1) := by
  refine ⟨(rot_rearr p h2 (by omega)).wide h1 (Nat.le_refl _), ?_⟩
  have front : ∀ u, a ≤ u → u < i → T L (p u) (p m) := fun u u1 u2 => by
    have e : T L (p (i - 1)) (p m) := T.of_not (hi (by omega)) (h.2.2 (i - 1) m (by omega) (by omega) (Nat.le_refl _) (by omega))
    by_cases c : u = i - 1
    · rw [c]; exact e
    · exact (h.1 u (i - 1) u1 (by omega) (by omega)).trans e
  have back : ∀ v, i ≤ v → v < m → T L (p m) (p v) := fun v v1 v2 => by
    have e : T L (p m) (p i) := T.of_lt (hj (by omega))
    by_cases c : v = i
    · rw [c]; exact e
    · exact e.trans (h.1 i v h1 (by omega) v2)
  intro u v u1 u2 u3
  by_cases cu : u < i
  · rw [rot_o p h2 (by omega) (by omega)]
    by_cases cv : v < i
    · rw [rot_o p h2 (by omega) (by omega)]
      exact h.1 _ _ u1 u2 (by omega)
    · by_cases cw : v = i
      · rw [rot_l p (by omega) (by omega), show v + (m - i) = m by omega]
        exact front _ u1 cu
      · rw [rot_r p (by omega) u3]
        exact h.1 _ _ u1 (by omega) (by omega)
  · by_cases cw : u = i
    · rw [rot_l p (by omega) (by omega), show u + (m - i) = m by omega, rot_r p (by omega) u3]
      exact back _ (by omega) (by omega)
    · rw [rot_r p (by omega) (by omega), rot_r p (by omega) u3]
      exact h.1 _ _ (by omega) (by omega) (by omega)

/-- where the two rows are cut: s in the first, e in the second; what is ahead of the cuts comes ahead of what is behind -/
structure Cut (L : Nat → Int) (p : Nat → Nat) (a m b s e mid : Nat) : Prop where
  as : a ≤ s
  sm : s ≤ m
  me : m ≤ e
  eb : e ≤ b
  mid : mid + m = s + e
  lo : a < s → e < b → ¬ L (p (s - 1)) < L (p e)
  hi : m < e → s < m → L (p s) < L (p (e - 1))
section
variable {L : Nat → Int} {p : Nat → Nat} {a m b s e mid : Nat}
theorem Cut.two_l (c : Cut L p a m b s e mid) (h : Two L p a m b) : Two L (rot p s m e) a s mid := by
  obtain ⟨c1, c2, c3, c4, c5, _, _⟩ := c
  refine ⟨fun j k j1 j2 j3 => ?_, fun j k j1 j2 j3 => ?_, fun j k j1 j2 k1 k2 => ?_⟩
  · rw [rot_o p c2 c3 (by omega), rot_o p c2 c3 (by omega)]; exact h.1 j k j1 j2 (by omega)
  · rw [rot_l p j1 (by omega), rot_l p (by omega) (by omega)]; exact h.2.1 _ _ (by omega) (by omega) (by omega)
  · rw [rot_o p c2 c3 (by omega), rot_l p k1 (by omega)]; exact h.2.2 _ _ j1 (by omega) (by omega) (by omega)
theorem Cut.two_r (c : Cut L p a m b s e mid) (h : Two L p a m b) : Two L (rot p s m e) mid e b := by
  obtain ⟨c1, c2, c3, c4, c5, _, _⟩ := c
  refine ⟨fun j k j1 j2 j3 => ?_, fun j k j1 j2 j3 => ?_, fun j k j1 j2 k1 k2 => ?_⟩
  · rw [rot_r p (by omega) (by omega), rot_r p (by omega) j3]; exact h.1 _ _ (by omega) (by omega) (by omega)
  · rw [rot_o p c2 c3 (by omega), rot_o p c2 c3 (by omega)]; exact h.2.1 j k (by omega) j2 j3
  · rw [rot_r p (by omega) j2, rot_o p c2 c3 (by omega)]; exact h.2.2 _ _ (by omega) (by omega) (by omega) k2
theorem Cut.cross (c : Cut L p a m b s e mid) (h : Two L p a m b) {x y : Nat} (hx : (a ≤ x ∧ x < s) ∨ (m ≤ x ∧ x < e)) (hy : (s ≤ y ∧ y < m) ∨ (e ≤ y ∧ y < b)) : T L (p x) (p y) := by
  obtain ⟨c1, c2, c3, c4, c5, c6, c7⟩ := c
  rcases hx with ⟨x1, x2⟩ | ⟨x1, x2⟩
  · rcases hy with ⟨y1, y2⟩ | ⟨y1, y2⟩
    · exact h.1 x y x1 (by omega) y2
    · have t : T L (p (s - 1)) (p e) := T.of_not (c6 (by omega) (by omega)) (h.2.2 _ _ (by omega) (by omega) c3 (by omega))
      have t1 : T L (p x) (p e) := by
        by_cases q : x = s - 1
        · rw [q]; exact t
        · exact (h.1 x (s - 1) x1 (by omega) (by omega)).trans t
      by_cases q : y = e
      · rw [q]; exact t1
      · exact t1.trans (h.2.1 e y c3 (by omega) y2)
  · rcases hy with ⟨y1, y2⟩ | ⟨y1, y2⟩
    · have t : T L (p (e - 1)) (p s) := T.of_lt (c7 (by omega) (by omega))
      have t1 : T L (p x) (p s) := by
        by_cases q : x = e - 1
        · rw [q]; exact t
        · exact (h.2.1 x (e - 1) x1 (by omega) (by omega)).trans t
      by_cases q : y = s
      · rw [q]; exact t1
      · exact t1.trans (h.1 s y c1 (by omega) y2)
    · exact h.2.1 x y x1 (by omega) y2
theorem Cut.merged (c : Cut L p a m b s e mid) (h : Two L p a m b) {q r : Nat → Nat} (h1 : Merged L (rot p s m e) q a mid) (h2 : Merged L q r mid b) : Merged L p r a b := by
  have c' := c
  obtain ⟨c1, c2, c3, c4, c5, _, _⟩ := c'
  have R1 : Rearr p (rot p s m e) a b := (rot_rearr p c2 c3).wide c1 c4
  refine ⟨(R1.trans (h1.1.wide (Nat.le_refl _) (by omega))).trans (h2.1.wide (by omega) (Nat.le_refl _)), fun u v u1 u2 u3 => ?_⟩
  by_cases cu : u < mid
  · have eu : r u = q u := h2.1.1 u (by omega)
    by_cases cv : v < mid
    · rw [eu, h2.1.1 v (by omega)]; exact h1.2 u v u1 u2 cv
    · obtain ⟨x, x1, x2, ex⟩ := h1.1.2.1 u u1 cu
      obtain ⟨y, y1, y2, ey⟩ := h2.1.2.1 v (by omega) u3
      rw [eu, ex, ey, h1.1.1 y (by omega)]
      have ex' : ∃ x', ((a ≤ x' ∧ x' < s) ∨ (m ≤ x' ∧ x' < e)) ∧ rot p s m e x = p x' := by
        by_cases k : x < s
        · exact ⟨x, .inl ⟨x1, k⟩, rot_o p c2 c3 (by omega)⟩
        · exact ⟨x + (m - s), .inr ⟨by omega, by omega⟩, rot_l p (by omega) (by omega)⟩
      have ey' : ∃ y', ((s ≤ y' ∧ y' < m) ∨ (e ≤ y' ∧ y' < b)) ∧ rot p s m e y = p y' := by
        by_cases k : y < e
        · exact ⟨y - (e - m), .inl ⟨by omega, by omega⟩, rot_r p (by omega) k⟩
        · exact ⟨y, .inr ⟨by omega, y2⟩, rot_o p c2 c3 (by omega)⟩
      obtain ⟨x', hx', e1⟩ := ex'
      obtain ⟨y', hy', e2⟩ := ey'
      rw [e1, e2]
      exact c.cross h hx' hy'
  · exact h2.2 u v (by omega) u2 u3
end
theorem Merged.none_l {L : Nat → Int} {p : Nat → Nat} {a b : Nat} (h : Two L p a a b) : Merged L p p a b := ⟨Rearr.refl _ _ _, h.2.1⟩
theorem Merged.none_r {L : Nat → Int} {p : Nat → Nat} {a b : Nat} (h : Two L p a b b) : Merged L p p a b := ⟨Rearr.refl _ _ _, h.1⟩
theorem Two.stay {L : Nat → Int} {p q : Nat → Nat} {a m b c d : Nat} (h : Two L p a m b) (am : a ≤ m) (k : Rearr p q c d) (hd : d ≤ a) : Two L q a m b := by
  have e : ∀ x, a ≤ x → q x = p x := fun x hx => k.1 x (by omega)
  refine ⟨fun i j i1 i2 i3 => ?_, fun i j i1 i2 i3 => ?_, fun i j i1 i2 j1 j2 => ?_⟩
  · rw [e i i1, e j (by omega)]; exact h.1 i j i1 i2 i3
  · rw [e i (by omega), e j (by omega)]; exact h.2.1 i j i1 i2 i3
  · rw [e i i1, e j (by omega)]; exact h.2.2 i j i1 i2 j1 j2
end Go.Proofs.Ytpjhhndjbpegcaa
