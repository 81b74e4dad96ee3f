/-
  Plain words for a stable sort by blocks that double: nothing of the program.
-/
import Derived.Test.YtpjhhndjbpegcaaMergeMath
namespace Go.Proofs.Ytpjhhndjbpegcaa

/-- the places x .. y hold just numbers of x .. y, in order -/
def Seg (L : Nat → Int) (q : Nat → Nat) (x y : Nat) : Prop := (∀ k, x ≤ k → k < y → x ≤ q k ∧ q k < y) ∧ Sorted L q x y
def Onto (q : Nat → Nat) (n : Nat) : Prop := ∀ i, i < n → ∃ m, m < n ∧ q m = i
theorem Onto.rearr {q r : Nat → Nat} {n a b : Nat} (h : Onto q n) (k : Rearr q r a b) (hb : b ≤ n) : Onto r n := by
  intro i hi
  obtain ⟨m, hm, e⟩ := h i hi
  by_cases c : a ≤ m ∧ m < b
  · obtain ⟨l, l1, l2, e'⟩ := k.2.2 m c.1 c.2
    exact ⟨l, by omega, by rw [← e', e]⟩
  · exact ⟨m, hm, by rw [k.1 m c, e]⟩
theorem Seg.far {L : Nat → Int} {q r : Nat → Nat} {x y a b : Nat} (h : Seg L q x y) (k : Rearr q r a b) (hd : y ≤ a ∨ b ≤ x) : Seg L r x y := by
  have e : ∀ i, x ≤ i → i < y → r i = q i := fun i h1 h2 => k.1 i (by omega)
  refine ⟨fun i h1 h2 => by rw [e i h1 h2]; exact h.1 i h1 h2, fun i j h1 h2 h3 => ?_⟩
  rw [e i h1 (by omega), e j (by omega) h3]
  exact h.2 i j h1 h2 h3
theorem Seg.two {L : Nat → Int} {q : Nat → Nat} {a m b : Nat} (h : Seg L q a m) (k : Seg L q m b) : Two L q a m b :=
  ⟨h.2, k.2, fun i j h1 h2 h3 h4 => by have := h.1 i h1 h2; have := k.1 j h3 h4; omega⟩
theorem Seg.merged {L : Nat → Int} {q r : Nat → Nat} {a m b : Nat} (ham : a ≤ m) (hmb : m ≤ b) (h : Seg L q a m) (k : Seg L q m b) (hm : Merged L q r a b) : Seg L r a b := by
  refine ⟨fun i h1 h2 => ?_, hm.2⟩
  obtain ⟨l, l1, l2, e⟩ := hm.1.2.1 i h1 h2
  rw [e]
  by_cases c : l < m
  · have := h.1 l l1 c; omega
  · have := k.1 l (by omega) l2; omega
theorem dvd_gap {m x a : Nat} (h1 : m ∣ x) (h2 : m ∣ a) (h : x < a) : x + m ≤ a := by
  have := Nat.le_of_dvd (by omega) (Nat.dvd_sub h2 h1)
  omega

/-- the first phase, at a: blocks of 20 are in order, what is behind is as it was -/
def Ph1 (L : Nat → Int) (q : Nat → Nat) (n a : Nat) : Prop := Onto q n ∧ 20 ∣ a ∧ a ≤ n ∧ (∀ x, 20 ∣ x → x < a → Seg L q x (x + 20)) ∧ ∀ k, a ≤ k → q k = k
theorem Ph1.start (L : Nat → Int) (n : Nat) : Ph1 L (fun k => k) n 0 := ⟨fun i hi => ⟨i, hi, rfl⟩, ⟨0, rfl⟩, Nat.zero_le _, fun x _ hx => absurd hx (by omega), fun _ _ => rfl⟩
theorem Ph1.rises {L : Nat → Int} {q : Nat → Nat} {n a b : Nat} (h : Ph1 L q n a) : Rises q a b := fun i j h1 h2 _ => by rw [h.2.2.2.2 i h1, h.2.2.2.2 j (by omega)]; exact h2
theorem seg_of_ins {L : Nat → Int} {q r : Nat → Nat} {a b : Nat} (hq : ∀ k, a ≤ k → q k = k) (k : InsO L q r a b) : Seg L r a b := by
  refine ⟨fun i h1 h2 => ?_, k.2⟩
  obtain ⟨l, l1, l2, e⟩ := k.1.2.1 i h1 h2
  rw [e, hq l l1]
  exact ⟨l1, l2⟩
theorem Ph1.step {L : Nat → Int} {q r : Nat → Nat} {n a : Nat} (h : Ph1 L q n a) (hb : a + 20 ≤ n) (k : InsO L q r a (a + 20)) : Ph1 L r n (a + 20) := by
  obtain ⟨h1, h2, h3, h4, h5⟩ := h
  refine ⟨h1.rearr k.1 hb, Nat.dvd_add h2 ⟨1, rfl⟩, hb, fun x x1 x2 => ?_, fun i hi => by rw [k.1.1 i (by omega)]; exact h5 i (by omega)⟩
  by_cases c : x < a
  · exact (h4 x x1 c).far k.1 (.inl (dvd_gap x1 h2 c))
  · by_cases e : x = a
    · rw [e]; exact seg_of_ins h5 k
    · have := dvd_gap h2 x1 (by omega); omega

/-- blocks of bs are in order -/
def Blocks (L : Nat → Int) (q : Nat → Nat) (n bs : Nat) : Prop := Onto q n ∧ ∀ x, bs ∣ x → x < n → Seg L q x (min (x + bs) n)
theorem Ph1.done {L : Nat → Int} {q r : Nat → Nat} {n a : Nat} (h : Ph1 L q n a) (hb : n < a + 20) (k : (a < n ∧ InsO L q r a n) ∨ (n ≤ a ∧ r = q)) : Blocks L r n 20 := by
  obtain ⟨h1, h2, h3, h4, h5⟩ := h
  rcases k with ⟨k0, k⟩ | ⟨k0, rfl⟩
  · refine ⟨h1.rearr k.1 (Nat.le_refl _), fun x x1 x2 => ?_⟩
    by_cases c : x < a
    · have g := dvd_gap x1 h2 c
      rw [Nat.min_eq_left (by omega)]
      exact (h4 x x1 c).far k.1 (.inl g)
    · by_cases e : x = a
      · rw [e, Nat.min_eq_right (by omega)]; exact seg_of_ins h5 k
      · have := dvd_gap h2 x1 (by omega); omega
  · refine ⟨h1, fun x x1 x2 => ?_⟩
    have g := dvd_gap x1 h2 (by omega : x < a)
    rw [Nat.min_eq_left (by omega)]
    exact h4 x x1 (by omega)

/-- within a round that joins blocks of bs two by two, at a -/
def Ph2 (L : Nat → Int) (q : Nat → Nat) (n bs a : Nat) : Prop :=
  Onto q n ∧ 2 * bs ∣ a ∧ a ≤ n ∧ (∀ x, 2 * bs ∣ x → x < a → Seg L q x (x + 2 * bs)) ∧ ∀ x, bs ∣ x → a ≤ x → x < n → Seg L q x (min (x + bs) n)
theorem Ph2.start {L : Nat → Int} {q : Nat → Nat} {n bs : Nat} (h : Blocks L q n bs) : Ph2 L q n bs 0 :=
  ⟨h.1, ⟨0, rfl⟩, Nat.zero_le _, fun x _ hx => absurd hx (by omega), fun x x1 _ x3 => h.2 x x1 x3⟩
section
variable {L : Nat → Int} {q r : Nat → Nat} {n bs a : Nat}
theorem Ph2.segs (h : Ph2 L q n bs a) (hm : a + bs < n) : Seg L q a (a + bs) ∧ Seg L q (a + bs) (min (a + bs + bs) n) := by
  obtain ⟨h1, h2, h3, h4, h5⟩ := h
  have d : bs ∣ a := Nat.dvd_trans ⟨2, by omega⟩ h2
  have e := h5 a d (Nat.le_refl _) (by omega)
  rw [Nat.min_eq_left (by omega)] at e
  exact ⟨e, h5 (a + bs) (Nat.dvd_add d ⟨1, by omega⟩) (by omega) hm⟩
theorem Ph2.two (h : Ph2 L q n bs a) (hbs : 0 < bs) (hb : a + 2 * bs ≤ n) : Two L q a (a + bs) (a + 2 * bs) := by
  have s := h.segs (by omega)
  rw [Nat.min_eq_left (by omega)] at s
  have e : a + 2 * bs = a + bs + bs := by omega
  rw [e]
  exact s.1.two s.2
theorem Ph2.step (h : Ph2 L q n bs a) (hbs : 0 < bs) (hb : a + 2 * bs ≤ n) (k : Merged L q r a (a + 2 * bs)) : Ph2 L r n bs (a + 2 * bs) := by
  have s := h.segs (by omega)
  rw [Nat.min_eq_left (by omega)] at s
  have e : a + 2 * bs = a + bs + bs := by omega
  obtain ⟨h1, h2, h3, h4, h5⟩ := h
  refine ⟨h1.rearr k.1 hb, Nat.dvd_add h2 ⟨1, by omega⟩, hb, fun x x1 x2 => ?_, fun x x1 x2 x3 => ?_⟩
  · by_cases c : x < a
    · exact (h4 x x1 c).far k.1 (.inl (dvd_gap x1 h2 c))
    · by_cases e' : x = a
      · rw [e']
        rw [e] at k ⊢
        exact Seg.merged (by omega) (by omega) s.1 s.2 k
      · have := dvd_gap h2 x1 (by omega); omega
  · exact (h5 x x1 (by omega) x3).far k.1 (.inr x2)
theorem Ph2.two_last (h : Ph2 L q n bs a) (hb : n < a + 2 * bs) (hm : a + bs < n) : Two L q a (a + bs) n := by
  have s := h.segs hm
  rw [Nat.min_eq_right (by omega)] at s
  exact s.1.two s.2
theorem Ph2.done (h : Ph2 L q n bs a) (hbs : 0 < bs) (hb : n < a + 2 * bs) (k : (a + bs < n ∧ Merged L q r a n) ∨ (n ≤ a + bs ∧ r = q)) : Blocks L r n (2 * bs) := by
  have h' := h
  obtain ⟨h1, h2, h3, h4, h5⟩ := h
  rcases k with ⟨k0, k⟩ | ⟨k0, rfl⟩
  · have s := h'.segs k0
    rw [Nat.min_eq_right (by omega)] at s
    refine ⟨h1.rearr k.1 (Nat.le_refl _), fun x x1 x2 => ?_⟩
    by_cases c : x < a
    · have g := dvd_gap x1 h2 c
      rw [Nat.min_eq_left (by omega)]
      exact (h4 x x1 c).far k.1 (.inl g)
    · by_cases e : x = a
      · rw [e, Nat.min_eq_right (by omega)]
        exact Seg.merged (by omega) (by omega) s.1 s.2 k
      · have := dvd_gap h2 x1 (by omega); omega
  · refine ⟨h1, fun x x1 x2 => ?_⟩
    by_cases c : x < a
    · have g := dvd_gap x1 h2 c
      rw [Nat.min_eq_left (by omega)]
      exact h4 x x1 c
    · by_cases e : x = a
      · rw [e] at x2 ⊢
        have t := h5 a (Nat.dvd_trans ⟨2, by omega⟩ h2) (Nat.le_refl _) x2
        rw [Nat.min_eq_right (by omega)] at t ⊢
        exact t
      · have := dvd_gap h2 x1 (by omega); omega
end
/-- all in order -/
def Ordered (L : Nat → Int) (q : Nat → Nat) (n : Nat) : Prop := Onto q n ∧ (∀ k, k < n → q k < n) ∧ Sorted L q 0 n
theorem Blocks.ordered {L : Nat → Int} {q : Nat → Nat} {n bs : Nat} (h : Blocks L q n bs) (hb : n ≤ bs) : Ordered L q n := by
  rcases Nat.eq_zero_or_pos n with rfl | hn
  · exact ⟨h.1, fun k hk => absurd hk (by omega), fun j k _ _ hk => absurd hk (by omega)⟩
  · have s := h.2 0 ⟨0, rfl⟩ hn
    rw [Nat.min_eq_right (by omega)] at s
    exact ⟨h.1, fun k hk => (s.1 k (Nat.zero_le _) hk).2, s.2⟩
end Go.Proofs.Ytpjhhndjbpegcaa
