/-
  A tree put among others, by depths: where it stands, whose parents are whose: plain mathematics.
-/
import Derived.Test.YtmodegkpfdlccaaTreeMath
namespace Go.Proofs.Ytmodegkpfdlccaa

/-- so many depths put ahead of a place -/
def putD (dp : Nat → Int) (p k : Nat) (q : Nat → Int) (j : Nat) : Int := if j < p then dp j else if j < p + k then q (j - p) else dp (j - k)
/-- a tree may be put there: below u, ahead of one of its kids or behind its tree -/
structure PutAt (dp : Nat → Int) (n u p k : Nat) (q : Nat → Int) : Prop where
  steps : Steps dp n
  up : u < p
  pn : p ≤ n
  k0 : 0 < k
  deep : ∀ j, u < j → j < p → dp u < dp j
  edge : p = n ∨ dp p ≤ dp u + 1
  q0 : q 0 = dp u + 1
  qd : ∀ i, 0 < i → i < k → q 0 < q i
  qs : ∀ i, 0 < i → i < k → q i ≤ q (i - 1) + 1
theorem steps_nonneg {dp : Nat → Int} {n i : Nat} (h : Steps dp n) (hi : i < n) : 0 ≤ dp i := by
  rcases Nat.eq_zero_or_pos i with rfl | h0
  · rw [h.1]; omega
  · have := (h.2 i h0 hi).1; omega
section
variable {dp q : Nat → Int} {n u p k : Nat}
theorem put_lt {j : Nat} (h : j < p) : putD dp p k q j = dp j := by unfold putD; rw [if_pos h]
theorem put_in {i : Nat} (h : i < k) : putD dp p k q (p + i) = q i := by unfold putD; rw [if_neg (by omega), if_pos (by omega), show p + i - p = i by omega]
theorem put_ge {j : Nat} (h : p ≤ j) : putD dp p k q (j + k) = dp j := by unfold putD; rw [if_neg (by omega), if_neg (by omega), show j + k - k = j by omega]
theorem PutAt.low (h : PutAt dp n u p k q) {i : Nat} (hi : i < k) : dp u + 1 ≤ q i := by
  rcases Nat.eq_zero_or_pos i with rfl | h0
  · rw [h.q0]; omega
  · have := h.qd i h0 hi; have := h.q0; omega
theorem PutAt.steps' (h : PutAt dp n u p k q) : Steps (putD dp p k q) (n + k) := by
  have hu := h.up
  have hp := h.pn
  have hk := h.k0
  refine ⟨by rw [put_lt (by omega)]; exact h.steps.1, fun i h0 hi => ?_⟩
  rcases Nat.lt_or_ge i p with h1 | h1
  · rw [put_lt h1, put_lt (by omega)]
    exact h.steps.2 i h0 (by omega)
  · have u0 := steps_nonneg h.steps (i := u) (by omega)
    rcases Nat.lt_or_ge i (p + k) with h2 | h2
    · obtain ⟨t, rfl⟩ : ∃ t, i = p + t := ⟨i - p, by omega⟩
      rw [put_in (by omega)]
      rcases Nat.eq_zero_or_pos t with rfl | ht
      · rw [put_lt (by omega), h.q0]
        refine ⟨by omega, ?_⟩
        rw [show p + 0 - 1 = p - 1 by omega]
        rcases Nat.lt_or_ge u (p - 1) with h3 | h3
        · have := h.deep (p - 1) h3 (by omega); omega
        · rw [show p - 1 = u by omega]; omega
      · rw [show p + t - 1 = p + (t - 1) by omega, put_in (by omega)]
        have := h.qd t ht (by omega)
        have := h.q0
        exact ⟨by omega, h.qs t ht (by omega)⟩
    · obtain ⟨t, rfl⟩ : ∃ t, i = t + k := ⟨i - k, by omega⟩
      rw [put_ge (by omega)]
      have ht := h.steps.2 t (by omega) (by omega)
      refine ⟨ht.1, ?_⟩
      rcases Nat.lt_or_ge p t with h3 | h3
      · rw [show t + k - 1 = (t - 1) + k by omega, put_ge (by omega)]
        exact ht.2
      · obtain rfl : t = p := by omega
        rw [show t + k - 1 = t + (k - 1) by omega, put_in (by omega)]
        have := h.low (i := k - 1) (by omega)
        rcases h.edge with e | e
        · omega
        · omega
/-- what lies between a node and its parent is no less deep than the node -/
theorem between_ge {a j : Nat} (hs : Steps dp n) (hj : j < n) (h3 : ∀ i, a < i → i < j → dp i + 1 ≠ dp j) : ∀ i, a < i → i < j → dp j ≤ dp i := by
  have key : ∀ t i, i + t + 1 = j → a < i → dp j ≤ dp i := by
    intro t
    induction t with
    | zero =>
      intro i hi ha
      have h1 := (hs.2 j (by omega) hj).2
      have h2 := h3 i ha (by omega)
      rw [show j - 1 = i by omega] at h1
      omega
    | succ t ih =>
      intro i hi ha
      have h1 := ih (i + 1) (by omega) (by omega)
      have h2 := (hs.2 (i + 1) (by omega) (by omega)).2
      have h4 := h3 i ha (by omega)
      rw [show i + 1 - 1 = i by omega] at h2
      omega
  intro i h1 h2
  exact key (j - i - 1) i (by omega) h1
/-- where a node's parent stands, told -/
theorem parent_told (hs : Steps dp n) {j : Nat} (h0 : 0 < j) (hj : j < n) : ∃ a : Nat, parOf dp j = a ∧ a < j ∧ dp a + 1 = dp j ∧ ∀ i, a < i → i < j → dp i + 1 ≠ dp j := by
  obtain ⟨a, e, hlt⟩ := has_parent dp hs h0 hj
  rcases parFrom_cases dp (dp j) j with ⟨k1, _⟩ | ⟨b, k1, k2, k3, k4⟩
  · have : parOf dp j = -1 := k1
    omega
  · have e2 : parOf dp j = b := k1
    obtain rfl : a = b := by omega
    exact ⟨a, e, k2, k3, k4⟩
theorem PutAt.root (h : PutAt dp n u p k q) : parOf (putD dp p k q) p = u := by
  have hk := h.k0
  have e0 : putD dp p k q p = q 0 := by have := put_in (dp := dp) (q := q) (p := p) (k := k) (i := 0) hk; simpa using this
  refine parOf_eq _ h.up ?_ fun j h1 h2 => ?_
  · rw [put_lt h.up, e0, h.q0]
  · rw [put_lt h2, e0, h.q0]
    have := h.deep j h1 h2
    omega
theorem PutAt.ahead (h : PutAt dp n u p k q) {j : Nat} (h0 : 0 < j) (hj : j < p) : parOf (putD dp p k q) j = parOf dp j := by
  have hp := h.pn
  obtain ⟨a, e, h1, h2, h3⟩ := parent_told h.steps h0 (by omega : j < n)
  rw [e]
  refine parOf_eq _ h1 (by rw [put_lt (by omega), put_lt hj]; exact h2) fun i hi1 hi2 => ?_
  rw [put_lt (by omega), put_lt hj]
  exact h3 i hi1 hi2
/-- a place behind what is put, as it was -/
def shiftP (p k : Nat) (a : Nat) : Nat := if a < p then a else a + k
theorem PutAt.behind (h : PutAt dp n u p k q) {j : Nat} (hj : p ≤ j) (hn : j < n) : ∃ a : Nat, parOf dp j = a ∧ parOf (putD dp p k q) (j + k) = shiftP p k a := by
  have hu := h.up
  obtain ⟨a, e, h1, h2, h3⟩ := parent_told h.steps (by omega : 0 < j) hn
  have bt := between_ge h.steps hn h3
  refine ⟨a, e, ?_⟩
  unfold shiftP
  rcases Nat.lt_or_ge a p with ha | ha
  · rw [if_pos ha]
    have edge : dp j ≤ dp u + 1 := by
      rcases h.edge with e1 | e1
      · omega
      · rcases Nat.lt_or_ge p j with hlt | hge
        · have := bt p ha hlt; omega
        · obtain rfl : j = p := by omega
          exact e1
    refine parOf_eq _ (by omega) (by rw [put_lt ha, put_ge hj]; exact h2) fun i hi1 hi2 => ?_
    rw [put_ge hj]
    rcases Nat.lt_or_ge i p with c | c
    · rw [put_lt c]; exact h3 i hi1 (by omega)
    · rcases Nat.lt_or_ge i (p + k) with c2 | c2
      · obtain ⟨t, rfl⟩ : ∃ t, i = p + t := ⟨i - p, by omega⟩
        rw [put_in (by omega)]
        have := h.low (i := t) (by omega)
        omega
      · obtain ⟨t, rfl⟩ : ∃ t, i = t + k := ⟨i - k, by omega⟩
        rw [put_ge (by omega)]
        exact h3 t (by omega) (by omega)
  · rw [if_neg (by omega)]
    refine parOf_eq _ (by omega) (by rw [put_ge ha, put_ge hj]; exact h2) fun i hi1 hi2 => ?_
    obtain ⟨t, rfl⟩ : ∃ t, i = t + k := ⟨i - k, by omega⟩
    rw [put_ge (by omega), put_ge hj]
    exact h3 t (by omega) (by omega)
/-- within what is put, parents are as they were -/
theorem put_within {i a : Nat} (hi : i < k) (ha : a < i) (h2 : q a + 1 = q i) (h3 : ∀ j, a < j → j < i → q j + 1 ≠ q i) : parOf (putD dp p k q) (p + i) = ((p + a : Nat) : Int) := by
  refine parOf_eq _ (by omega) (by rw [put_in (by omega), put_in hi]; exact h2) fun j h4 h5 => ?_
  obtain ⟨t, rfl⟩ : ∃ t, j = p + t := ⟨j - p, by omega⟩
  rw [put_in (by omega), put_in hi]
  exact h3 t (by omega) (by omega)
/-- what is put is one tree -/
theorem PutAt.ends (h : PutAt dp n u p k q) : endOf (putD dp p k q) (n + k) p = p + k := by
  have hk := h.k0
  have hp := h.pn
  have e0 : putD dp p k q p = q 0 := by have := put_in (dp := dp) (q := q) (p := p) (k := k) (i := 0) hk; simpa using this
  refine endOf_eq _ (by omega) ⟨by omega, by omega, fun j h1 h2 => ?_, ?_⟩
  · obtain ⟨t, rfl⟩ : ∃ t, j = p + t := ⟨j - p, by omega⟩
    rw [e0, put_in (by omega)]
    exact h.qd t (by omega) (by omega)
  · rcases h.edge with e | e
    · exact .inl (by omega)
    · rw [put_ge (Nat.le_refl _), e0, h.q0]
      exact .inr e
theorem PutAt.in_tree (h : PutAt dp n u p k q) : p ≤ endOf dp n u := by
  have hu := h.up
  have hp := h.pn
  have hlt : u < n := by omega
  rcases Nat.lt_or_ge (endOf dp n u) p with c | c
  · have g := endOf_gt dp hlt
    have d := h.deep (endOf dp n u) g.1 c
    rcases endOf_stop dp hlt with e | e <;> omega
  · exact c
theorem PutAt.end_up (h : PutAt dp n u p k q) : endOf (putD dp p k q) (n + k) u = endOf dp n u + k := by
  have hu := h.up
  have hp := h.pn
  have hlt : u < n := by omega
  have it := h.in_tree
  have g := endOf_gt dp hlt
  refine endOf_eq _ (by omega) ⟨by omega, by omega, fun j h1 h2 => ?_, ?_⟩
  · rw [put_lt hu]
    rcases Nat.lt_or_ge j p with c | c
    · rw [put_lt c]; exact h.deep j (by omega) c
    · rcases Nat.lt_or_ge j (p + k) with c2 | c2
      · obtain ⟨t, rfl⟩ : ∃ t, j = p + t := ⟨j - p, by omega⟩
        rw [put_in (by omega)]
        have := h.low (i := t) (by omega)
        omega
      · obtain ⟨t, rfl⟩ : ∃ t, j = t + k := ⟨j - k, by omega⟩
        rw [put_ge (by omega)]
        exact endOf_deep dp hlt (by omega) (by omega)
  · rw [put_lt hu]
    rcases endOf_stop dp hlt with e | e
    · exact .inl (by omega)
    · rw [put_ge it]; exact .inr e
/-- the kids ahead of a place, and those from it on -/
def kidsAhead (dp : Nat → Int) (u p : Nat) : List Nat := (List.range' (u + 1) (p - (u + 1))).filter fun i => decide (dp u + 1 = dp i)
def kidsBehind (dp : Nat → Int) (n u p : Nat) : List Nat := (List.range' p (endOf dp n u - p)).filter fun i => decide (dp u + 1 = dp i)
theorem PutAt.kids_old (h : PutAt dp n u p k q) : kidsOf dp n u = kidsAhead dp u p ++ kidsBehind dp n u p := by
  have hu := h.up
  have it := h.in_tree
  unfold kidsOf kidsAhead kidsBehind
  rw [← List.filter_append]
  congr 1
  rw [show endOf dp n u - (u + 1) = (p - (u + 1)) + (endOf dp n u - p) by omega, ← List.range'_append_1, show u + 1 + (p - (u + 1)) = p by omega]
theorem PutAt.kids_new (h : PutAt dp n u p k q) : kidsOf (putD dp p k q) (n + k) u = kidsAhead dp u p ++ p :: (kidsBehind dp n u p).map (· + k) := by
  have hu := h.up
  have it := h.in_tree
  have hk := h.k0
  unfold kidsOf kidsAhead kidsBehind
  rw [h.end_up, show endOf dp n u + k - (u + 1) = (p - (u + 1)) + (k + (endOf dp n u - p)) by omega, ← List.range'_append_1, show u + 1 + (p - (u + 1)) = p by omega, ← List.range'_append_1, List.filter_append, List.filter_append, put_lt hu]
  congr 1
  · refine List.filter_congr fun i hi => ?_
    have := List.mem_range'_1.1 hi
    rw [put_lt (by omega)]
  · have e1 : (List.range' p k).filter (fun i => decide (dp u + 1 = putD dp p k q i)) = [p] := by
      obtain ⟨k', rfl⟩ : ∃ k', k = k' + 1 := ⟨k - 1, by omega⟩
      rw [List.range'_succ, List.filter_cons_of_pos, List.filter_eq_nil_iff.2]
      · intro i hi
        have hm := List.mem_range'_1.1 hi
        obtain ⟨t, rfl⟩ : ∃ t, i = p + t := ⟨i - p, by omega⟩
        rw [put_in (by omega)]
        have := h.qd t (by omega) (by omega)
        have := h.q0
        simp; omega
      · have e0 : putD dp p (k' + 1) q p = q 0 := put_in (dp := dp) (q := q) (p := p) (k := k' + 1) (i := 0) (by omega)
        rw [e0, h.q0]
        simp
    have e2 : (List.range' (p + k) (endOf dp n u - p)).filter (fun i => decide (dp u + 1 = putD dp p k q i)) = ((List.range' p (endOf dp n u - p)).filter fun i => decide (dp u + 1 = dp i)).map (· + k) := by
      rw [show List.range' (p + k) (endOf dp n u - p) = (List.range' p (endOf dp n u - p)).map (· + k) by
        rw [show (fun x => x + k) = (fun x => k + x) from funext fun x => Nat.add_comm x k, List.map_add_range', Nat.add_comm k p], List.filter_map]
      congr 1
      refine List.filter_congr fun i hi => ?_
      have := List.mem_range'_1.1 hi
      show decide (dp u + 1 = putD dp p k q (i + k)) = _
      rw [put_ge (by omega)]
    rw [e1, e2]
    rfl
/-- the place of the kid of that number -/
def GapAt (dp : Nat → Int) (n u t p : Nat) : Prop := (kidsOf dp n u)[t]? = some p ∨ t = (kidsOf dp n u).length ∧ p = endOf dp n u
theorem GapAt.facts {t : Nat} (h : GapAt dp n u t p) (hs : Steps dp n) (hu : u < n) : u < p ∧ p ≤ n ∧ (∀ j, u < j → j < p → dp u < dp j) ∧ (p = n ∨ dp p ≤ dp u + 1) := by
  have _ := hs
  have g := endOf_gt dp hu
  rcases h with h | ⟨_, rfl⟩
  · obtain ⟨h1, h2, h3⟩ := (kids_iff dp).1 (List.mem_of_getElem? h)
    exact ⟨h1, by omega, fun j hj1 hj2 => endOf_deep dp hu hj1 (by omega), .inr (by omega)⟩
  · refine ⟨g.1, g.2, fun j hj1 hj2 => endOf_deep dp hu hj1 hj2, ?_⟩
    rcases endOf_stop dp hu with e | e
    · exact .inl e
    · exact .inr (by omega)
theorem PutAt.number (h : PutAt dp n u p k q) {t : Nat} (hg : GapAt dp n u t p) : (kidsAhead dp u p).length = t := by
  have ko := h.kids_old
  rcases hg with hg | ⟨rfl, e⟩
  · have hm := (kids_iff dp).1 (List.mem_of_getElem? hg)
    have hb : kidsBehind dp n u p = p :: (kidsBehind dp n u p).tail := by
      unfold kidsBehind
      obtain ⟨s, hs⟩ : ∃ s, endOf dp n u - p = s + 1 := ⟨endOf dp n u - p - 1, by omega⟩
      rw [hs, List.range'_succ, List.filter_cons_of_pos (by simpa using hm.2.2)]
      rfl
    have h2 : (kidsOf dp n u)[(kidsAhead dp u p).length]? = some p := by
      rw [ko, List.getElem?_append_right (Nat.le_refl _), Nat.sub_self, hb]; rfl
    have rise := kids_rise dp n u
    rw [List.pairwise_iff_getElem] at rise
    obtain ⟨a1, a2⟩ := List.getElem?_eq_some_iff.1 hg
    obtain ⟨b1, b2⟩ := List.getElem?_eq_some_iff.1 h2
    rcases Nat.lt_trichotomy (kidsAhead dp u p).length t with c | c | c
    · have := rise _ _ b1 a1 c; omega
    · exact c
    · have := rise _ _ a1 b1 c; omega
  · rw [ko, List.length_append]
    have : kidsBehind dp n u p = [] := by unfold kidsBehind; rw [e]; simp
    rw [this]; simp
theorem PutAt.numbered (h : PutAt dp n u p k q) {t : Nat} (hg : GapAt dp n u t p) : (kidsOf (putD dp p k q) (n + k) u)[t]? = some p := by
  rw [h.kids_new, List.getElem?_append_right (by rw [h.number hg]; exact Nat.le_refl _), h.number hg, Nat.sub_self]
  rfl
end
end Go.Proofs.Ytmodegkpfdlccaa
