/-
  The bits of bytes, their sum, bytes with their sum behind them, and in how many bits two rows differ: plain mathematics.
-/
import Derived.Test.YtfdjedhbbbdeiaaCrcMath
namespace Go.Proofs.Ytfdjedhbbbdeiaa

theorem word32_add (b : Nat → Nat) (k : Nat) (hb : ∀ i, i < k → b i < 2) : word32 b (k + 1) = word32 b k + 2 ^ k * b k := by
  have hlt := word32_lt b k hb
  rw [word32, Nat.xor_comm]
  rw [Nat.add_comm, Nat.two_pow_add_eq_or_of_lt hlt]
  apply Nat.eq_of_testBit_eq
  intro i
  rw [Nat.testBit_xor, Nat.testBit_or]
  by_cases hi : i < k
  · have : (2 ^ k * b k).testBit i = false := by
      rw [Nat.mul_comm, Nat.testBit_mul_two_pow]; simp; omega
    rw [this]; simp
  · have : (word32 b k).testBit i = false := Nat.testBit_lt_two_pow (Nat.lt_of_lt_of_le hlt (Nat.pow_le_pow_right (by omega) (by omega)))
    rw [this]; simp
theorem word32_bit (b : Nat → Nat) (k : Nat) (hb : ∀ i, i < k → b i < 2) {i : Nat} (hi : i < k) : word32 b k / 2 ^ i % 2 = b i := by
  induction k with
  | zero => omega
  | succ k ih =>
    rw [word32_add b k (fun i hi => hb i (by omega))]
    by_cases e : i = k
    · subst e
      have h1 := word32_lt b i (fun j hj => hb j (by omega))
      rw [Nat.add_mul_div_left _ _ (Nat.two_pow_pos i), Nat.div_eq_of_lt h1, Nat.zero_add]
      exact Nat.mod_eq_of_lt (hb i (by omega))
    · obtain ⟨d, rfl⟩ : ∃ d, k = i + 1 + d := ⟨k - (i + 1), by omega⟩
      rw [show 2 ^ (i + 1 + d) * b (i + 1 + d) = 2 ^ i * (2 * (2 ^ d * b (i + 1 + d))) by
        rw [Nat.pow_add, Nat.pow_succ]; simp only [Nat.mul_assoc]]
      rw [Nat.add_mul_div_left _ _ (Nat.two_pow_pos i), Nat.add_mul_mod_self_left]
      exact ih (fun i hi => hb i (by omega)) (by omega)
theorem word32_congr {b c : Nat → Nat} {k : Nat} (h : ∀ i, i < k → b i = c i) : word32 b k = word32 c k := by
  induction k with
  | zero => rfl
  | succ k ih => rw [word32, word32, ih (fun i hi => h i (by omega)), h k (by omega)]

/-- a bit of bytes -/
def bitAt (f : Nat → Nat) (i : Nat) : Nat := f (i / 8) / 2 ^ (i % 8) % 2
theorem bitAt_lt (f : Nat → Nat) (i : Nat) : bitAt f i < 2 := Nat.mod_lt _ (by omega)
theorem bitAt_of (f : Nat → Nat) (n j i : Nat) (h : i < 8) : bitAt f (8 * n + (8 * j + i)) = f (n + j) / 2 ^ i % 2 := by
  unfold bitAt
  rw [show (8 * n + (8 * j + i)) / 8 = n + j by omega, show (8 * n + (8 * j + i)) % 8 = i by omega]
theorem byte_bits {x y : Nat} (hx : x < 256) (hy : y < 256) (h : ∀ i, i < 8 → x / 2 ^ i % 2 = y / 2 ^ i % 2) : x = y := by
  have a := word32_of x 8
  have b := word32_of y 8
  rw [word32_congr h] at a
  rw [a] at b
  rw [show 2 ^ 8 = 256 by decide, Nat.mod_eq_of_lt hx, Nat.mod_eq_of_lt hy] at b
  exact b
theorem byte_of (s j i : Nat) (hi : i < 8) : s / 256 ^ j % 256 / 2 ^ i % 2 = s / 2 ^ (8 * j + i) % 2 := by
  rw [show 256 = 2 ^ i * (2 * 2 ^ (7 - i)) by
    rw [show 2 * 2 ^ (7 - i) = 2 ^ (8 - i) by rw [← Nat.pow_succ']; congr 1; omega, ← Nat.pow_add, show i + (8 - i) = 8 by omega]] 
  rw [Nat.mod_mul_right_div_self, Nat.mod_mul_right_mod]
  rw [show 2 ^ i * (2 * 2 ^ (7 - i)) = 2 ^ 8 by
    rw [show 2 * 2 ^ (7 - i) = 2 ^ (8 - i) by rw [← Nat.pow_succ']; congr 1; omega, ← Nat.pow_add, show i + (8 - i) = 8 by omega]]
  rw [← Nat.pow_mul, Nat.div_div_eq_div_mul, ← Nat.pow_add]
/-- the sum of n bytes -/
def sumOf (f : Nat → Nat) (n : Nat) : Nat := run 4294967295 (bitAt f) (8 * n) ^^^ 4294967295
theorem sumOf_lt (f : Nat → Nat) (n : Nat) : sumOf f n < 4294967296 :=
  Nat.xor_lt_two_pow (n := 32) (run_lt (by omega) _ (fun i _ => bitAt_lt f i)) (by omega)
theorem bitAt_congr {f g : Nat → Nat} {n : Nat} (h : ∀ i, i < n → f i = g i) {i : Nat} (hi : i < 8 * n) : bitAt f i = bitAt g i := by
  unfold bitAt
  rw [h (i / 8) (by omega)]
theorem sumOf_congr {f g : Nat → Nat} {n : Nat} (h : ∀ i, i < n → f i = g i) : sumOf f n = sumOf g n := by
  unfold sumOf
  rw [run_congr (fun i hi => bitAt_congr h hi)]
/-- n bytes, and their sum behind them -/
def withSum (f : Nat → Nat) (n : Nat) (i : Nat) : Nat := if i < n then f i else sumOf f n / 256 ^ (i - n) % 256
theorem withSum_lt {f : Nat → Nat} {n : Nat} (h : ∀ i, i < n → f i < 256) (i : Nat) : withSum f n i < 256 := by
  unfold withSum
  by_cases hi : i < n
  · rw [if_pos hi]; exact h i hi
  · rw [if_neg hi]; exact Nat.mod_lt _ (by omega)
theorem withSum_congr {f g : Nat → Nat} {n : Nat} (h : ∀ i, i < n → f i = g i) (i : Nat) : withSum f n i = withSum g n i := by
  unfold withSum
  rw [sumOf_congr h]
  by_cases hi : i < n
  · rw [if_pos hi, if_pos hi, h i hi]
  · rw [if_neg hi, if_neg hi]
/-- bytes stand with their sum just if the register ends so -/
theorem stands_iff {g : Nat → Nat} {n : Nat} (hg : ∀ i, i < n + 4 → g i < 256) :
    (∀ i, i < n + 4 → g i = withSum g n i) ↔ run 4294967295 (bitAt g) (8 * (n + 4)) = it 32 4294967295 := by
  rw [show 8 * (n + 4) = 8 * n + 32 by omega, ← run_whole (fun i _ => bitAt_lt g i)]
  constructor
  · intro h
    have e : ∀ i, i < 32 → bitAt g (8 * n + i) = sumOf g n / 2 ^ i % 2 := fun i hi => by
      have a := bitAt_of g n (i / 8) (i % 8) (by omega)
      rw [show 8 * (i / 8) + i % 8 = i by omega] at a
      rw [a, h (n + i / 8) (by omega)]
      unfold withSum
      rw [if_neg (by omega), show n + i / 8 - n = i / 8 by omega, byte_of _ _ _ (by omega), show 8 * (i / 8) + i % 8 = i by omega]
    rw [word32_congr e, word32_of]
    exact Nat.mod_eq_of_lt (sumOf_lt g n)
  · intro h i hi
    unfold withSum
    by_cases hlt : i < n
    · rw [if_pos hlt]
    · rw [if_neg hlt]
      refine byte_bits (hg i hi) (Nat.mod_lt _ (by omega)) fun k hk => ?_
      rw [byte_of _ _ _ hk]
      show _ = (run 4294967295 (bitAt g) (8 * n) ^^^ 4294967295) / _ % 2
      rw [← h, word32_bit _ 32 (fun i _ => bitAt_lt g _) (by omega)]
      have a := bitAt_of g n (i - n) k hk
      rw [show n + (i - n) = i by omega] at a
      exact a.symm
theorem withSum_stands {f : Nat → Nat} {n : Nat} (hf : ∀ i, i < n → f i < 256) : run 4294967295 (bitAt (withSum f n)) (8 * (n + 4)) = it 32 4294967295 := by
  rw [← stands_iff (fun i _ => withSum_lt hf i)]
  intro i _
  have e : ∀ i, i < n → f i = withSum f n i := fun i hi => by unfold withSum; rw [if_pos hi]
  exact withSum_congr e i

/-- in how many bits n bytes differ -/
def diff (f g : Nat → Nat) (i : Nat) : Nat := bitAt f i ^^^ bitAt g i
theorem diff_lt (f g : Nat → Nat) (i : Nat) : diff f g i < 2 := Nat.xor_lt_two_pow (n := 1) (bitAt_lt f i) (bitAt_lt g i)
theorem diff_if (f g : Nat → Nat) (i : Nat) : diff f g i = if bitAt f i = bitAt g i then 0 else 1 := by
  have h := bitAt_lt f i
  have h' := bitAt_lt g i
  unfold diff
  rcases (show bitAt f i = 0 ∨ bitAt f i = 1 by omega) with a | a <;> rcases (show bitAt g i = 0 ∨ bitAt g i = 1 by omega) with b | b <;> rw [a, b] <;> decide
theorem ones_le {e : Nat → Nat} (n : Nat) (h : ∀ i, i < n → e i < 2) : ones e n ≤ n := by
  induction n with
  | zero => exact Nat.le_refl _
  | succ n ih => have := ih (fun i hi => h i (by omega)); have := h n (by omega); unfold ones; omega
theorem ones_zero {e : Nat → Nat} {n : Nat} : ones e n = 0 ↔ ∀ i, i < n → e i = 0 := by
  induction n with
  | zero => exact ⟨fun _ i hi => absurd hi (by omega), fun _ => rfl⟩
  | succ n ih =>
    unfold ones
    constructor
    · intro h i hi
      by_cases e' : i = n
      · rw [e']; omega
      · exact ih.1 (by omega) i (by omega)
    · intro h
      have := ih.2 (fun i hi => h i (by omega))
      have := h n (by omega)
      omega
theorem ones_congr {e e' : Nat → Nat} {n : Nat} (h : ∀ i, i < n → e i = e' i) : ones e n = ones e' n := by
  induction n with
  | zero => rfl
  | succ n ih => rw [ones, ones, ih (fun i hi => h i (by omega)), h n (by omega)]
theorem diff_none {f g : Nat → Nat} {n : Nat} (hf : ∀ i, i < n → f i < 256) (hg : ∀ i, i < n → g i < 256) : ones (diff f g) (8 * n) = 0 ↔ ∀ i, i < n → f i = g i := by
  rw [ones_zero]
  constructor
  · intro h i hi
    refine byte_bits (hf i hi) (hg i hi) fun k hk => ?_
    have := h (8 * i + (8 * 0 + k)) (by omega)
    unfold diff at this
    have := xor_eq_zero this
    rwa [bitAt_of f i 0 k hk, bitAt_of g i 0 k hk] at this
  · intro h i hi
    unfold diff
    rw [bitAt_congr h hi, Nat.xor_self]
/-- what the register tells of two rows that are fed to it -/
theorem run_diff (f g : Nat → Nat) (n : Nat) : run 4294967295 (bitAt f) n ^^^ run 4294967295 (bitAt g) n = run 0 (diff f g) n := by
  rw [← run_xor, Nat.xor_self]; rfl
/-- beside a row that stands, another one stands just if the register tells nothing of where they differ -/
theorem stands_beside {f g : Nat → Nat} {n : Nat} (h : run 4294967295 (bitAt f) n = it 32 4294967295) : run 4294967295 (bitAt g) n = it 32 4294967295 ↔ run 0 (diff g f) n = 0 := by
  rw [← run_diff, h]
  exact ⟨fun e => by rw [e, Nat.xor_self], fun e => xor_eq_zero e⟩
/-- one to three bits, in at most 132 bytes -/
theorem few_told {f g : Nat → Nat} {n : Nat} (hn : n ≤ 132) (h : run 4294967295 (bitAt f) (8 * n) = it 32 4294967295) (h1 : 1 ≤ ones (diff g f) (8 * n)) (h3 : ones (diff g f) (8 * n) ≤ 3) :
    run 4294967295 (bitAt g) (8 * n) ≠ it 32 4294967295 := by
  rw [Ne, stands_beside h]
  exact run_few (by omega) (fun i _ => diff_lt g f i) h1 h3
/-- two rows of one length with their sums are the same, or differ in four bits at least -/
theorem apart_told {f g : Nat → Nat} {n : Nat} (hn : n ≤ 128) (hf : ∀ i, i < n → f i < 256) (hg : ∀ i, i < n → g i < 256) :
    (ones (diff (withSum f n) (withSum g n)) (8 * (n + 4)) = 0 ∧ ∀ i, i < n → f i = g i) ∨ (4 ≤ ones (diff (withSum f n) (withSum g n)) (8 * (n + 4)) ∧ ¬ ∀ i, i < n → f i = g i) := by
  by_cases e : ∀ i, i < n → f i = g i
  · exact .inl ⟨(diff_none (fun i _ => withSum_lt hf i) (fun i _ => withSum_lt hg i)).2 (fun i _ => withSum_congr e i), e⟩
  · refine .inr ⟨?_, e⟩
    have h0 : ones (diff (withSum f n) (withSum g n)) (8 * (n + 4)) ≠ 0 := fun h => e fun i hi => by
      have := (diff_none (fun i _ => withSum_lt hf i) (fun i _ => withSum_lt hg i)).1 h i (by omega)
      unfold withSum at this
      rwa [if_pos hi, if_pos hi] at this
    refine Classical.byContradiction fun h4 => ?_
    exact few_told (by omega) (withSum_stands hg) (by omega) (by omega) (withSum_stands hf)
end Go.Proofs.Ytfdjedhbbbdeiaa
