/-
  Plain words for the long division of two words by one, digit by digit: nothing of the program.
-/
namespace Go.Proofs.Ytjlnaadpiohbnaa

/-- a digit: u times 2^32 and d, divided by y, whose upper half is a and whose lower half b -/
structure Digit (y a b u d q r : Nat) : Prop where
  y_eq : y = a * 4294967296 + b
  a_lo : 2147483648 ≤ a
  a_hi : a < 4294967296
  b_hi : b < 4294967296
  u_hi : u < y
  d_hi : d < 4294967296
  n_eq : u * 4294967296 + d = q * y + r
  r_hi : r < y
section
variable {y a b u d q r : Nat}
theorem mul_split (h : y = a * 4294967296 + b) (k : Nat) : k * y = k * a * 4294967296 + k * b := by
  rw [h, Nat.mul_add, Nat.mul_assoc]
theorem Digit.q_hi (h : Digit y a b u d q r) : q < 4294967296 := by
  obtain ⟨h1, h2, h3, h4, h5, h6, h7, h8⟩ := h
  rcases Nat.lt_or_ge q 4294967296 with c | c
  · exact c
  · have := Nat.mul_le_mul_right y c
    omega
/-- q is the digit, if it goes so often, and not more often -/
theorem Digit.le_of (h : Digit y a b u d q r) {k : Nat} (hk : k * y ≤ u * 4294967296 + d) : k ≤ q := by
  rcases Nat.lt_or_ge q k with c | c
  · have h9 := Nat.mul_le_mul_right y (show q + 1 ≤ k from c)
    rw [Nat.succ_mul] at h9
    have := h.n_eq
    have := h.r_hi
    omega
  · exact c
theorem Digit.lt_of (h : Digit y a b u d q r) {k : Nat} (hk : u * 4294967296 + d < k * y) : q < k := by
  rcases Nat.lt_or_ge q k with c | c
  · exact c
  · have h9 := Nat.mul_le_mul_right y c
    have := h.n_eq
    omega
theorem Digit.guess (h : Digit y a b u d q r) : q ≤ u / a ∧ u / a ≤ 4294967297 ∧ u / a * a + u % a = u ∧ u % a < a := by
  have h0 := Nat.div_add_mod u a
  rw [Nat.mul_comm] at h0
  have hm : u % a < a := Nat.mod_lt _ (by have := h.a_lo; omega)
  refine ⟨?_, ?_, h0, hm⟩
  · rcases Nat.lt_or_ge (u / a) q with c | c
    · have h9 := Nat.mul_le_mul_right a (show u / a + 1 ≤ q from c)
      rw [Nat.succ_mul] at h9
      have e := mul_split h.y_eq q
      have := h.n_eq
      have := h.d_hi
      omega
    · exact c
  · rcases Nat.lt_or_ge 4294967297 (u / a) with c | c
    · have h9 := Nat.mul_le_mul_right a (show 4294967298 ≤ u / a from c)
      have := h.y_eq
      have := h.u_hi
      have := h.a_lo
      have := h.b_hi
      omega
    · exact c
/-- the guess k, with what is left of u -/
def Guess (a u q k rh : Nat) : Prop := k * a + rh = u ∧ q ≤ k ∧ k ≤ 4294967297
theorem Digit.down (h : Digit y a b u d q r) {k rh : Nat} (g : Guess a u q k rh) (c : 4294967296 ≤ k ∨ 4294967296 * rh + d < k * b) : 1 ≤ k ∧ Guess a u q (k - 1) (rh + a) := by
  obtain ⟨g1, g2, g3⟩ := g
  have e := mul_split h.y_eq k
  have hq : q < k := by
    rcases c with c | c
    · have := h.q_hi; omega
    · exact h.lt_of (by omega)
  refine ⟨by omega, ?_, by omega, by omega⟩
  have h9 : (k - 1) * a + a = k * a := by
    rw [← Nat.succ_mul]; congr 1; omega
  omega
theorem Digit.stop (h : Digit y a b u d q r) {k rh : Nat} (g : Guess a u q k rh) (c : ¬ 4294967296 * rh + d < k * b) : k = q := by
  obtain ⟨g1, g2, g3⟩ := g
  have e := mul_split h.y_eq k
  have := h.le_of (k := k) (by omega)
  omega
theorem Digit.break (h : Digit y a b u d q r) {k rh : Nat} (g : Guess a u q k rh) (hk : k ≤ 4294967296) (c : 4294967296 ≤ rh) : k = q := by
  obtain ⟨g1, g2, g3⟩ := g
  have e := mul_split h.y_eq k
  have h9 : k * b ≤ 4294967296 * b := Nat.mul_le_mul_right b hk
  have := h.b_hi
  have := h.le_of (k := k) (by omega)
  omega
end
theorem digit_mk {y a b u d : Nat} (h1 : y = a * 4294967296 + b) (h2 : 2147483648 ≤ a) (h3 : a < 4294967296) (h4 : b < 4294967296) (h5 : u < y) (h6 : d < 4294967296) :
    Digit y a b u d ((u * 4294967296 + d) / y) ((u * 4294967296 + d) % y) := by
  have h := Nat.div_add_mod (u * 4294967296 + d) y
  rw [Nat.mul_comm] at h
  exact ⟨h1, h2, h3, h4, h5, h6, h.symm, Nat.mod_lt _ (by omega)⟩
/-- the word that is left, reckoned in words that wrap round -/
theorem wrap_left {u d q y r : Nat} (h : u * 4294967296 + d = q * y + r) (hr : r < 18446744073709551616) :
    ((((u : Int) * 4294967296 % 18446744073709551616 + d) % 18446744073709551616) - ((q : Int) * y % 18446744073709551616)) % 18446744073709551616 = r := by
  have e : (u : Int) * 4294967296 + d = (q : Int) * y + r := by
    have h9 : ((u * 4294967296 + d : Nat) : Int) = ((q * y + r : Nat) : Int) := by rw [h]
    simp only [Int.natCast_add, Int.natCast_mul] at h9
    exact h9
  generalize (q : Int) * y = p at e ⊢
  omega
/-- two digits are the quotient -/
theorem two_digits {N0 N1 N2 y q1 q0 r1 r2 : Nat} (h1 : N0 * 4294967296 + N1 = q1 * y + r1) (h2 : r1 * 4294967296 + N2 = q0 * y + r2) :
    N0 * 18446744073709551616 + N1 * 4294967296 + N2 = (q1 * 4294967296 + q0) * y + r2 := by
  have e : (q1 * 4294967296 + q0) * y = q1 * y * 4294967296 + q0 * y := by
    rw [Nat.add_mul, Nat.mul_assoc, Nat.mul_comm 4294967296, ← Nat.mul_assoc]
  have e2 : N0 * 18446744073709551616 = N0 * 4294967296 * 4294967296 := by rw [Nat.mul_assoc]
  rw [e, e2, ← Nat.add_mul, h1, Nat.add_mul, Nat.add_assoc, h2, Nat.add_assoc]
end Go.Proofs.Ytjlnaadpiohbnaa
