/-
  Nodes of a document by their depths: where a node's tree ends, its parent, its kids: plain mathematics.
-/
import Derived.WalkKit
namespace Go.Proofs.Ytmodegkpfdlccaa

/-- where the depths that are greater than d end, from a place on, so many further ones being there -/
def endFrom (dp : Nat → Int) (d : Int) : Nat → Nat → Nat
  | 0, e => e
  | k + 1, e => if d < dp e then endFrom dp d k (e + 1) else e
/-- the place behind the last one of a node's tree -/
def endOf (dp : Nat → Int) (n at_ : Nat) : Nat := endFrom dp (dp at_) (n - (at_ + 1)) (at_ + 1)
def IsEnd (dp : Nat → Int) (d : Int) (n a e : Nat) : Prop := a ≤ e ∧ e ≤ n ∧ (∀ j, a ≤ j → j < e → d < dp j) ∧ (e = n ∨ dp e ≤ d)
theorem endFrom_is (dp : Nat → Int) (d : Int) (k e : Nat) : IsEnd dp d (e + k) e (endFrom dp d k e) := by
  induction k generalizing e with
  | zero => exact ⟨Nat.le_refl _, Nat.le_refl _, fun j h1 h2 => absurd h2 (by simp [endFrom]; omega), .inl rfl⟩
  | succ k ih =>
    unfold endFrom
    split
    · rename_i h
      obtain ⟨h1, h2, h3, h4⟩ := ih (e + 1)
      refine ⟨by omega, by omega, fun j hj1 hj2 => ?_, ?_⟩
      · rcases Nat.lt_or_ge e j with hlt | hge
        · exact h3 j (by omega) hj2
        · obtain rfl : j = e := by omega
          exact h
      · rcases h4 with h4 | h4
        · exact .inl (by omega)
        · exact .inr h4
    · rename_i h
      exact ⟨Nat.le_refl _, by omega, fun j h1 h2 => by omega, .inr (by omega)⟩
theorem IsEnd.uniq {dp : Nat → Int} {d : Int} {n a e e' : Nat} (h : IsEnd dp d n a e) (h' : IsEnd dp d n a e') : e = e' := by
  obtain ⟨h1, h2, h3, h4⟩ := h
  obtain ⟨k1, k2, k3, k4⟩ := h'
  rcases Nat.lt_trichotomy e e' with hl | hl | hl
  · have := k3 e h1 hl
    rcases h4 with h4 | h4 <;> omega
  · exact hl
  · have := h3 e' k1 hl
    rcases k4 with k4 | k4 <;> omega
theorem endOf_is (dp : Nat → Int) {n a : Nat} (h : a < n) : IsEnd dp (dp a) n (a + 1) (endOf dp n a) := by
  have := endFrom_is dp (dp a) (n - (a + 1)) (a + 1)
  rwa [show a + 1 + (n - (a + 1)) = n by omega] at this
theorem endOf_gt (dp : Nat → Int) {n a : Nat} (h : a < n) : a < endOf dp n a ∧ endOf dp n a ≤ n := by
  have := endOf_is dp h
  exact ⟨this.1, this.2.1⟩
theorem endOf_deep (dp : Nat → Int) {n a j : Nat} (h : a < n) (h1 : a < j) (h2 : j < endOf dp n a) : dp a < dp j := (endOf_is dp h).2.2.1 j h1 h2
theorem endOf_stop (dp : Nat → Int) {n a : Nat} (h : a < n) : endOf dp n a = n ∨ dp (endOf dp n a) ≤ dp a := (endOf_is dp h).2.2.2
theorem endOf_eq (dp : Nat → Int) {n a e : Nat} (h : a < n) (he : IsEnd dp (dp a) n (a + 1) e) : endOf dp n a = e := (endOf_is dp h).uniq he
/-- two nodes' trees lie within one another, or apart -/
theorem nested (dp : Nat → Int) {n a b : Nat} (hb : b < n) (hab : a ≤ b) : endOf dp n a ≤ b ∨ endOf dp n b ≤ endOf dp n a := by
  rcases Nat.lt_or_ge b (endOf dp n a) with h | h
  · right
    rcases Nat.lt_or_ge (endOf dp n a) (endOf dp n b) with h2 | h2
    · have ha : a < n := by omega
      have h3 := (endOf_gt dp hb).2
      rcases endOf_stop dp ha with h4 | h4
      · omega
      · have h5 := endOf_deep dp hb h h2
        rcases Nat.lt_or_ge a b with hl | hl
        · have := endOf_deep dp ha hl h
          omega
        · obtain rfl : a = b := by omega
          omega
    · exact h2
  · exact .inl h

/-- the last place below k whose depth is one less than d, or -1 -/
def parFrom (dp : Nat → Int) (d : Int) : Nat → Int
  | 0 => -1
  | k + 1 => if dp k + 1 = d then (k : Int) else parFrom dp d k
/-- a node's parent, or -1 -/
def parOf (dp : Nat → Int) (a : Nat) : Int := parFrom dp (dp a) a
theorem parFrom_cases (dp : Nat → Int) (d : Int) (k : Nat) : (parFrom dp d k = -1 ∧ ∀ j, j < k → dp j + 1 ≠ d) ∨ ∃ p : Nat, parFrom dp d k = p ∧ p < k ∧ dp p + 1 = d ∧ ∀ j, p < j → j < k → dp j + 1 ≠ d := by
  induction k with
  | zero => exact .inl ⟨rfl, fun j hj => by omega⟩
  | succ k ih =>
    unfold parFrom
    split
    · rename_i h
      exact .inr ⟨k, rfl, by omega, h, fun j h1 h2 => by omega⟩
    · rename_i h
      rcases ih with ⟨h1, h2⟩ | ⟨p, h1, h2, h3, h4⟩
      · refine .inl ⟨h1, fun j hj => ?_⟩
        rcases Nat.lt_or_ge j k with hl | hl
        · exact h2 j hl
        · obtain rfl : j = k := by omega
          exact h
      · refine .inr ⟨p, h1, by omega, h3, fun j hj1 hj2 => ?_⟩
        rcases Nat.lt_or_ge j k with hl | hl
        · exact h4 j hj1 hl
        · obtain rfl : j = k := by omega
          exact h
theorem parOf_eq (dp : Nat → Int) {a p : Nat} (h1 : p < a) (h2 : dp p + 1 = dp a) (h3 : ∀ j, p < j → j < a → dp j + 1 ≠ dp a) : parOf dp a = p := by
  rcases parFrom_cases dp (dp a) a with ⟨_, k2⟩ | ⟨q, k1, k2, k3, k4⟩
  · exact absurd h2 (k2 p h1)
  · have : p = q := by
      rcases Nat.lt_trichotomy p q with hl | hl | hl
      · exact absurd k3 (h3 q hl k2)
      · exact hl
      · exact absurd h2 (k4 p hl h1)
    rw [this]; exact k1
/-- a node's kids -/
def kidsOf (dp : Nat → Int) (n a : Nat) : List Nat := (List.range' (a + 1) (endOf dp n a - (a + 1))).filter fun i => decide (dp a + 1 = dp i)
theorem kids_iff (dp : Nat → Int) {n a j : Nat} : j ∈ kidsOf dp n a ↔ a < j ∧ j < endOf dp n a ∧ dp a + 1 = dp j := by
  unfold kidsOf
  simp only [List.mem_filter, List.mem_range'_1, decide_eq_true_eq]
  constructor
  · rintro ⟨⟨h1, h2⟩, h3⟩
    exact ⟨by omega, by omega, h3⟩
  · rintro ⟨h1, h2, h3⟩
    exact ⟨⟨by omega, by omega⟩, h3⟩
theorem kids_rise (dp : Nat → Int) (n a : Nat) : (kidsOf dp n a).Pairwise (· < ·) := List.Pairwise.filter _ (List.pairwise_lt_range' ..)
theorem kids_rise_at (dp : Nat → Int) {n a k : Nat} {x y : Nat} (h1 : (kidsOf dp n a)[k]? = some x) (h2 : (kidsOf dp n a)[k + 1]? = some y) : x < y := by
  obtain ⟨l1, rfl⟩ := List.getElem?_eq_some_iff.1 h1
  obtain ⟨l2, rfl⟩ := List.getElem?_eq_some_iff.1 h2
  exact List.pairwise_iff_getElem.1 (kids_rise dp n a) k (k + 1) l1 l2 (by omega)
/-- a kid's parent -/
theorem kid_parent (dp : Nat → Int) {n a j : Nat} (ha : a < n) (h : j ∈ kidsOf dp n a) : parOf dp j = a := by
  obtain ⟨h1, h2, h3⟩ := (kids_iff dp).1 h
  exact parOf_eq dp h1 h3 fun k hk1 hk2 e => by
    have := endOf_deep dp ha hk1 (by omega)
    omega

/-- the depths go on by one at most, and are from 1 on but for the first one's -/
def Steps (dp : Nat → Int) (n : Nat) : Prop := dp 0 = 0 ∧ ∀ i, 0 < i → i < n → 1 ≤ dp i ∧ dp i ≤ dp (i - 1) + 1
/-- between a place and a later one that is deeper than d there is none that isn't, if none is just d deep -/
theorem between (dp : Nat → Int) {n : Nat} (hs : Steps dp n) {d : Int} : ∀ (m i : Nat), i + m < n → d < dp (i + m) → (∀ k, i ≤ k → k < i + m → dp k ≠ d) → ∀ k, i ≤ k → k ≤ i + m → d < dp k
  | 0, i, _, hd, _, k, h1, h2 => by
    obtain rfl : k = i + 0 := by omega
    exact hd
  | m + 1, i, hn, hd, hne, k, h1, h2 => by
    have h3 := (hs.2 (i + (m + 1)) (by omega) hn).2
    rw [show i + (m + 1) - 1 = i + m by omega] at h3
    have h4 := hne (i + m) (by omega) (by omega)
    rcases Nat.lt_or_ge k (i + (m + 1)) with hk | hk
    · exact between dp hs m i (by omega) (by omega) (fun j hj1 hj2 => hne j hj1 (by omega)) k h1 (by omega)
    · obtain rfl : k = i + (m + 1) := by omega
      exact hd
theorem parent_kid (dp : Nat → Int) {n a j : Nat} (hs : Steps dp n) (hj : j < n) (h : parOf dp j = a) : j ∈ kidsOf dp n a := by
  rcases parFrom_cases dp (dp j) j with ⟨k1, _⟩ | ⟨q, k1, k2, k3, k4⟩
  · unfold parOf at h; omega
  · obtain rfl : q = a := by unfold parOf at h; omega
    refine (kids_iff dp).2 ⟨k2, ?_, k3⟩
    rcases Nat.lt_or_ge j (endOf dp n q) with hl | hl
    · exact hl
    · have hq : q < n := by omega
      have hgt := endOf_gt dp hq
      rcases endOf_stop dp hq with h4 | h4
      · omega
      · have hb := between dp hs (d := dp q) (j - (q + 1)) (q + 1) (by omega) (by rw [show q + 1 + (j - (q + 1)) = j by omega]; omega) (fun k hk1 hk2 e => k4 k (by omega) (by omega) (by omega)) (endOf dp n q) (by omega) (by omega)
        omega
theorem has_parent (dp : Nat → Int) {n j : Nat} (hs : Steps dp n) (h0 : 0 < j) (hj : j < n) : ∃ p : Nat, parOf dp j = p ∧ p < j := by
  rcases parFrom_cases dp (dp j) j with ⟨_, k2⟩ | ⟨q, k1, k2, -, -⟩
  · have h1 := (hs.2 j h0 hj).1
    have hb := between dp hs (d := dp j - 1) j 0 (by omega) (by rw [Nat.zero_add]; omega) (fun k _ hk2 e => k2 k (by omega) (by omega)) 0 (by omega) (by omega)
    have := hs.1
    omega
  · exact ⟨q, k1, k2⟩
theorem first_none (dp : Nat → Int) : parOf dp 0 = -1 := rfl
theorem end_first (dp : Nat → Int) {n : Nat} (hs : Steps dp n) (hn : 0 < n) : endOf dp n 0 = n := endOf_eq dp hn ⟨hn, Nat.le_refl _, fun j h1 h2 => by have := (hs.2 j (by omega) h2).1; have := hs.1; omega, .inl rfl⟩
/-- a node behind which the next one is no deeper has no kids -/
theorem no_kids (dp : Nat → Int) {n a : Nat} (ha : a < n) (h : a + 1 < n → dp (a + 1) ≤ dp a) : kidsOf dp n a = [] := by
  have he : endOf dp n a = a + 1 := endOf_eq dp ha ⟨Nat.le_refl _, ha, fun j h1 h2 => by omega, by
    rcases Nat.lt_or_ge (a + 1) n with hl | hl
    · exact .inr (h hl)
    · exact .inl (by omega)⟩
  unfold kidsOf
  rw [he]
  simp
/-- the kids from a place on -/
def kidsFrom (dp : Nat → Int) (n a j : Nat) : List Nat := (List.range' j (endOf dp n a - j)).filter fun i => decide (dp a + 1 = dp i)
theorem kidsFrom_first (dp : Nat → Int) (n a : Nat) : kidsFrom dp n a (a + 1) = kidsOf dp n a := rfl
theorem kidsFrom_end (dp : Nat → Int) (n a : Nat) : kidsFrom dp n a (endOf dp n a) = [] := by unfold kidsFrom; simp
theorem filter_none {p : Nat → Bool} {a k : Nat} (h : ∀ i, a ≤ i → i < a + k → p i = false) : (List.range' a k).filter p = [] := by
  rw [List.filter_eq_nil_iff]
  intro x hx
  simp only [List.mem_range'_1] at hx
  simp [h x hx.1 hx.2]
/-- a kid's tree, and the kids behind it -/
theorem kidsFrom_next (dp : Nat → Int) {n a j : Nat} (ha : a < n) (h1 : a < j) (h2 : j < endOf dp n a) (hd : dp a + 1 = dp j) : kidsFrom dp n a j = j :: kidsFrom dp n a (endOf dp n j) ∧ endOf dp n j ≤ endOf dp n a := by
  have hn := (endOf_gt dp ha).2
  have hj : j < n := by omega
  have hg := endOf_gt dp hj
  have hle : endOf dp n j ≤ endOf dp n a := by
    rcases nested dp hj (Nat.le_of_lt h1) with h | h
    · omega
    · exact h
  refine ⟨?_, hle⟩
  unfold kidsFrom
  obtain ⟨m, hm⟩ : ∃ m, endOf dp n j = j + 1 + m := ⟨endOf dp n j - (j + 1), by omega⟩
  obtain ⟨r, hr⟩ : ∃ r, endOf dp n a = j + 1 + m + r := ⟨endOf dp n a - (j + 1 + m), by omega⟩
  have e1 : endOf dp n a - j = 1 + (m + r) := by omega
  have e2 : endOf dp n a - endOf dp n j = r := by omega
  rw [e1, e2, ← List.range'_append_1, ← List.range'_append_1, List.filter_append, List.filter_append, hm]
  have h3 : (List.range' (j + 1) m).filter (fun i => decide (dp a + 1 = dp i)) = [] := filter_none fun i hi1 hi2 => by
    have := endOf_deep dp hj (show j < i by omega) (by omega)
    simp
    omega
  rw [h3]
  simp [hd, List.range'_succ]
/-- what stands behind a kid's tree, within the node's, is a kid -/
theorem kid_next (dp : Nat → Int) {n a j : Nat} (ha : a < n) (hj : a ≤ j) (hja : j < endOf dp n a) (hd : dp j ≤ dp a + 1) (he : endOf dp n j < endOf dp n a) : dp a + 1 = dp (endOf dp n j) ∨ a = j := by
  have hn := (endOf_gt dp ha).2
  have hjn : j < n := by omega
  have hg := endOf_gt dp hjn
  have h1 := endOf_deep dp ha (show a < endOf dp n j by omega) he
  rcases endOf_stop dp hjn with h2 | h2
  · omega
  · left; omega
theorem kid_first (dp : Nat → Int) {n a : Nat} (hs : Steps dp n) (ha : a < n) (he : a + 1 < endOf dp n a) : dp a + 1 = dp (a + 1) := by
  have hn := (endOf_gt dp ha).2
  have h1 := endOf_deep dp ha (show a < a + 1 by omega) he
  have h2 := (hs.2 (a + 1) (by omega) (by omega)).2
  simp at h2
  omega
end Go.Proofs.Ytmodegkpfdlccaa
