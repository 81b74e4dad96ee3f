/-
  The greatest of what was lost, chosen again and again, comes in the order in which places stand by what was lost: plain mathematics. And division by digits.
-/
import Derived.Test.YtpjhhndjbpegcaaGivenMath
import Derived.Test.YtpjhhndjbpegcaaTurnMath
namespace Go.Proofs.Ytpjhhndjbpegcaa

/-- places in their order: there is one -/
theorem insI_ex (L : Nat → Int) {p : Nat → Nat} {i : Nat} : ∀ (j : Nat) {q : Nat → Nat}, j ≤ i → InsI L p q 0 i j → ∃ r, InsO L p r 0 (i + 1)
  | 0, q, hj, h => ⟨q, h.stop (Nat.le_refl _) hj (.inl rfl)⟩
  | j + 1, q, hj, h => by
    by_cases hl : L (q (j + 1 - 1)) < L (q (j + 1))
    · exact insI_ex L j (by omega) (h.step (by omega) hj hl)
    · exact ⟨q, h.stop (Nat.zero_le _) hj (.inr hl)⟩
theorem insO_ex (L : Nat → Int) (n : Nat) : ∀ k, k < n → ∃ q, InsO L (fun i => i) q 0 (k + 1)
  | 0, _ => ⟨_, InsO.start L _ 0⟩
  | k + 1, hk => by
    obtain ⟨q, h⟩ := insO_ex L n k (by omega)
    exact insI_ex L (k + 1) (Nat.le_refl _) (InsI.start (b := n) (fun j m _ h _ => h) ⟨by omega, hk⟩ h)
theorem ordered_ex (L : Nat → Int) (n : Nat) : ∃ q, Ordered L q n := by
  rcases Nat.eq_zero_or_pos n with rfl | hn
  · exact ⟨fun i => i, fun k hk => absurd hk (by omega), fun k hk => absurd hk (by omega), fun j k _ _ hk => absurd hk (by omega)⟩
  · obtain ⟨q, h1, h2⟩ := insO_ex L n (n - 1) (by omega)
    rw [show n - 1 + 1 = n by omega] at h1 h2
    refine ⟨q, fun k hk => ?_, fun k hk => ?_, h2⟩
    · obtain ⟨m, _, hm, e⟩ := h1.2.2 k (Nat.zero_le _) hk
      exact ⟨m, hm, e.symm⟩
    · obtain ⟨m, _, hm, e⟩ := h1.2.1 k (Nat.zero_le _) hk
      rw [e]; exact hm

/-- what is left to choose from, -1 where the choice has been -/
def lessY (L : Nat → Int) (q : Nat → Nat) : Nat → Nat → Int
  | 0 => L
  | k + 1 => fun i => if i = q k then -1 else lessY L q k i
theorem lessY_at {L : Nat → Int} {q : Nat → Nat} {n : Nat} (h : Ordered L q n) {m : Nat} (hm : m < n) (k : Nat) (hk : k ≤ n) : lessY L q k (q m) = if m < k then -1 else L (q m) := by
  induction k with
  | zero => simp [lessY]
  | succ k ih =>
    show (if q m = q k then -1 else lessY L q k (q m)) = _
    rw [ih (by omega)]
    by_cases e : q m = q k
    · have : m = k := h.inj hm (by omega) e
      rw [if_pos e, if_pos (by omega)]
    · have : m ≠ k := fun e' => e (by rw [e'])
      rw [if_neg e]
      by_cases h' : m < k
      · rw [if_pos h', if_pos (by omega)]
      · rw [if_neg h', if_neg (by omega)]
theorem best_is {L : Nat → Int} {q : Nat → Nat} {n j b : Nat} (h : Ordered L q n) (h0 : ∀ i, i < n → 0 ≤ L i) (hj : j < n) (hb : b < n)
    (hm : ∀ m, m < n → lessY L q j m < lessY L q j b ∨ (lessY L q j m = lessY L q j b ∧ b ≤ m)) : b = q j := by
  obtain ⟨k, hk, rfl⟩ := h.1 b hb
  have hq := hm (q j) (h.2.1 j hj)
  rw [lessY_at h hj j (by omega), lessY_at h hk j (by omega), if_neg (by omega)] at hq
  have p0 := h0 (q j) (h.2.1 j hj)
  by_cases hkj : k < j
  · rw [if_pos hkj] at hq; omega
  · rw [if_neg hkj] at hq
    rcases Nat.lt_trichotomy j k with hlt | rfl | hgt
    · have t := h.2.2 j k (Nat.zero_le _) hlt hk
      unfold T at t
      omega
    · rfl
    · omega
theorem lessY_bd {L : Nat → Int} {q : Nat → Nat} {n : Nat} {c : Int} (h0 : ∀ i, i < n → 0 ≤ L i ∧ L i ≤ c) (hc : 0 ≤ c) (k : Nat) : ∀ i, i < n → -1 ≤ lessY L q k i ∧ lessY L q k i ≤ c := by
  induction k with
  | zero => intro i hi; have := h0 i hi; unfold lessY; omega
  | succ k ih =>
    intro i hi
    show -1 ≤ (if i = q k then -1 else lessY L q k i) ∧ (if i = q k then -1 else lessY L q k i) ≤ c
    split
    · omega
    · exact ih i hi

theorem div_step {t v s q r k : Nat} (h : q * s + r = t / 2 ^ (k + 1) * v) : 2 * q * s + (2 * r + t / 2 ^ k % 2 * v) = t / 2 ^ k * v := by
  have e : t / 2 ^ k = 2 * (t / 2 ^ (k + 1)) + t / 2 ^ k % 2 := by
    rw [Nat.pow_succ, ← Nat.div_div_eq_div_mul]
    omega
  have h2 : t / 2 ^ k * v = 2 * (t / 2 ^ (k + 1) * v) + t / 2 ^ k % 2 * v := by
    conv => lhs; rw [e]
    rw [Nat.add_mul, Nat.mul_assoc]
  rw [h2, ← h, Nat.mul_assoc]
  omega
theorem div_end {q s r m : Nat} (h : q * s + r = m) (hr : r < s) : q = m / s ∧ r = m % s := by
  subst h
  have hs : 0 < s := by omega
  constructor
  · rw [Nat.mul_comm, Nat.mul_add_div hs, Nat.div_eq_of_lt hr]; rfl
  · rw [Nat.mul_comm, Nat.mul_add_mod, Nat.mod_eq_of_lt hr]
end Go.Proofs.Ytpjhhndjbpegcaa
