/-
  The law FlexAsked: mathematics.
-/
import Derived.Test.YtpjhhndjbpegcaaBesideW17
namespace Go.Proofs.Ytpjhhndjbpegcaa

/-- the least and the greatest of what is between, so far -/
structure Inv17 (E : Nat → Int) (k : Nat) (lv mv : Int) : Prop where
  least : (lv = 1099511627776 ∧ k = 1) ∨ ∃ i, 1 ≤ i ∧ i < k ∧ lv = E i
  most : mv = 0 ∨ ∃ i, 1 ≤ i ∧ i < k ∧ mv = E i
theorem Inv17.first (E : Nat → Int) : Inv17 E 1 1099511627776 0 := ⟨.inl ⟨rfl, rfl⟩, .inl rfl⟩
theorem Inv17.next {E : Nat → Int} {k : Nat} {lv mv : Int} (h : Inv17 E k lv mv) (hk : 1 ≤ k) (hb : 0 ≤ E k ∧ E k ≤ 1099511627776) : Inv17 E (k + 1) (min lv (E k)) (max mv (E k)) := by
  rw [show min lv (E k) = (if E k < lv then E k else lv) by split <;> omega, show max mv (E k) = (if mv < E k then E k else mv) by split <;> omega]
  constructor
  · right
    by_cases c : E k < lv
    · rw [if_pos c]
      exact ⟨k, hk, by omega, rfl⟩
    · rw [if_neg c]
      rcases h.least with ⟨h1, h2⟩ | ⟨i, h1, h2, h3⟩
      · exact ⟨k, hk, by omega, by omega⟩
      · exact ⟨i, h1, by omega, h3⟩
  · by_cases c : mv < E k
    · rw [if_pos c]
      exact .inr ⟨k, hk, by omega, rfl⟩
    · rw [if_neg c]
      rcases h.most with h1 | ⟨i, h1, h2, h3⟩
      · exact .inl h1
      · exact .inr ⟨i, h1, by omega, h3⟩
theorem Inv17.bd {E : Nat → Int} {k : Nat} {lv mv : Int} (h : Inv17 E k lv mv) (hb : ∀ i, i < k → 0 < i → 0 ≤ E i ∧ E i ≤ 1099511627776) : 0 ≤ mv ∧ mv ≤ 1099511627777 ∧ -2 ≤ lv ∧ lv ≤ 1099511627776 := by
  have l : 0 ≤ lv ∧ lv ≤ 1099511627776 := by
    rcases h.least with ⟨h1, -⟩ | ⟨i, h1, h2, h3⟩
    · omega
    · have := hb i h2 h1
      omega
  have m : 0 ≤ mv ∧ mv ≤ 1099511627776 := by
    rcases h.most with h1 | ⟨i, h1, h2, h3⟩
    · omega
    · have := hb i h2 h1
      omega
  omega
theorem extra_bd {n : Nat} {left j : Int} {E : Nat → Int} (hE : Extra n left j E) (hl : left ≤ 1099511627776) : ∀ i, i < n → 0 < i → 0 ≤ E i ∧ E i ≤ 1099511627776 := fun i hi h0 => by
  have x := hE.facts
  rcases Int.le_total left 0 with h | h
  · rw [x.none (.inl h) i hi h0]
    omega
  · have h1 := x.up h (i + 1) (by omega)
    have h2 := x.up h i (by omega)
    have h3 := x.nn h i hi
    rw [sumB] at h1
    omega
theorem asked0 {n : Nat} {left j : Int} {E : Nat → Int} {lv mv : Int} (hE : Extra n left j E) (hj : j = 3 ∨ j = 4) (hl : left ≤ 0) (hn : 0 < n) (hi : Inv17 E n lv mv) : E 0 = 0 ∧ left - sumB E n = left ∧ mv = 0 := by
  have z : ∀ i, i < n → E i = 0 := by
    rcases hj with rfl | rfl
    · exact (hE.2.2.1 rfl).1 (.inl hl)
    · exact (hE.2.2.2.1 rfl).1 hl
  refine ⟨z 0 hn, by rw [sumB_zero z]; omega, ?_⟩
  rcases hi.most with h | ⟨i, h1, h2, h3⟩
  · exact h
  · rw [h3, z i h2]
theorem asked3 {n : Nat} {left : Int} {E : Nat → Int} {lv mv : Int} (hE : Extra n left 3 E) (hl : 0 < left) (hn : 0 < n) (hi : Inv17 E n lv mv) : E 0 = 0 ∧ (n = 1 ∨ (left - sumB E n = 0 ∧ mv - lv ≤ 1)) := by
  obtain ⟨a, b⟩ := hE.2.2.1 rfl
  by_cases c : n ≤ 1
  · exact ⟨a (.inr c) 0 hn, .inl (by omega)⟩
  · obtain ⟨X, hX, e⟩ := b (by omega)
    obtain ⟨s, p, q, -⟩ := share_ones hX (by omega) (by omega)
    have sh := sumB_shift X e (n - 1) (by omega)
    rw [Nat.sub_add_cancel (by omega)] at sh
    refine ⟨by rw [e 0 hn, if_pos rfl], .inr ⟨by omega, ?_⟩⟩
    have v : ∀ i, 1 ≤ i → i < n → E i = X (i - 1) := fun i h1 h2 => by rw [e i h2, if_neg (by omega)]
    rcases hi.least with ⟨-, h⟩ | ⟨i, h1, h2, h3⟩
    · omega
    · rw [h3, v i h1 h2]
      have pi := p (i - 1) (by omega)
      rcases hi.most with h | ⟨i', h1', h2', h3'⟩
      · omega
      · rw [h3', v i' h1' h2']
        have := q (i - 1) (by omega) (i' - 1) (by omega)
        omega
theorem asked4 {n : Nat} {left : Int} {E : Nat → Int} {lv mv : Int} (hE : Extra n left 4 E) (hl : 0 < left) (hl2 : left ≤ 1099511627776) (hn : 0 < n) (hi : Inv17 E n lv mv) :
    (mv ≤ lv + 1 ∧ mv ≤ E 0 + 1 ∧ mv ≤ left - sumB E n + 1) ∧ (E 0 ≤ lv + 1 ∧ E 0 ≤ left - sumB E n + 1) ∧ left - sumB E n ≤ E 0 ∧ left - sumB E n ≤ lv + 1 := by
  obtain ⟨X, hX, e⟩ := (hE.2.2.2.1 rfl).2 (by omega)
  obtain ⟨s, p, q, d⟩ := share_ones hX (by omega) (by omega)
  rw [sumB_congr (g := X) (fun i hi => e i hi), e 0 hn]
  have s1 : sumB X n + X n = left := s
  have b0 := sumB_pre p 1 (by omega)
  have b1 : sumB X 1 = 0 + X 0 := rfl
  have dn := d n (by omega) 0 hn
  have pn := p n (by omega)
  have p0 := p 0 (by omega)
  have q0 := q 0 (by omega)
  have qn := q n (by omega)
  have L : (lv = 1099511627776) ∨ ∃ i, i < n + 1 ∧ lv = X i := by
    rcases hi.least with ⟨h, -⟩ | ⟨i, h1, h2, h3⟩
    · exact .inl h
    · exact .inr ⟨i, by omega, by rw [h3, e i h2]⟩
  have M : mv = 0 ∨ ∃ i, i < n + 1 ∧ mv = X i := by
    rcases hi.most with h | ⟨i, h1, h2, h3⟩
    · exact .inl h
    · exact .inr ⟨i, by omega, by rw [h3, e i h2]⟩
  have qn0 := qn 0 (by omega)
  have q0n := q0 n (by omega)
  have LB : 0 ≤ lv ∧ ∀ k, k < n + 1 → X k ≤ lv + 1 := by
    rcases L with h | ⟨i, h1, h2⟩
    · exact ⟨by omega, fun k hk => by have := q0 k hk; omega⟩
    · exact ⟨by have := p i h1; omega, fun k hk => by have := q i h1 k hk; omega⟩
  have l0 := LB.2 0 (by omega)
  have ln := LB.2 n (by omega)
  have lz := LB.1
  rcases M with h | ⟨i, h1, h2⟩
  · omega
  · have := LB.2 i h1
    have := q0 i h1
    have := qn i h1
    omega
theorem ahead17 (f : Nat → Int) (gap room : Int) (E : Nat → Int) : atF f gap room false E 0 = E 0 := by
  unfold atF
  simp only [Bool.false_eq_true, if_false]
  rw [endP, endP, if_neg (by omega)]
  omega
theorem behind17 (f : Nat → Int) (gap room : Int) (E : Nat → Int) (p : Nat) : room - atF f gap room false E p - f p = leftF f gap room (p + 1) - sumB E (p + 1) := by
  unfold atF leftF
  simp only [Bool.false_eq_true, if_false]
  rw [endP_sum]
  omega
end Go.Proofs.Ytpjhhndjbpegcaa
