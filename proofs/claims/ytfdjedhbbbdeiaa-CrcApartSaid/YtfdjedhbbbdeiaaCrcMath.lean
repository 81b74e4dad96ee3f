/-
  The register of the sum: bits fed to it, and what of them it tells apart: plain mathematics.
-/
import Derived.WalkKit
namespace Go.Proofs.Ytfdjedhbbbdeiaa

def rstep (r : Nat) : Nat := (r / 2) ^^^ (3988292384 * (r % 2))
def it : Nat → Nat → Nat
  | 0, x => x
  | k + 1, x => rstep (it k x)
/-- the register behind n bits -/
def run (r : Nat) (b : Nat → Nat) : Nat → Nat
  | 0 => r
  | k + 1 => rstep (run r b k ^^^ b k)

theorem xor_half (x y : Nat) : (x ^^^ y) / 2 = (x / 2) ^^^ (y / 2) := by
  have := Nat.xor_div_two_pow (a := x) (b := y) (n := 1)
  simpa using this
theorem xor_low (x y : Nat) : (x ^^^ y) % 2 = (x % 2) ^^^ (y % 2) := by
  have := Nat.xor_mod_two_pow (a := x) (b := y) (n := 1)
  simpa using this
theorem low_cases (x : Nat) : x % 2 = 0 ∨ x % 2 = 1 := by omega
theorem xor_swap4 (a b c d : Nat) : (a ^^^ b) ^^^ (c ^^^ d) = (a ^^^ c) ^^^ (b ^^^ d) := by
  rw [Nat.xor_assoc, Nat.xor_assoc, ← Nat.xor_assoc b, Nat.xor_comm b c, Nat.xor_assoc]
theorem rstep_xor (x y : Nat) : rstep (x ^^^ y) = rstep x ^^^ rstep y := by
  unfold rstep
  rw [xor_half, xor_low, xor_swap4]
  congr 1
  rcases low_cases x with hx | hx <;> rcases low_cases y with hy | hy <;> rw [hx, hy] <;> simp
theorem rstep_zero : rstep 0 = 0 := by decide
theorem it_zero (k : Nat) : it k 0 = 0 := by
  induction k with
  | zero => rfl
  | succ k ih => rw [it, ih, rstep_zero]
theorem it_xor (k x y : Nat) : it k (x ^^^ y) = it k x ^^^ it k y := by
  induction k with
  | zero => rfl
  | succ k ih => rw [it, ih, rstep_xor]; rfl
theorem it_add (a b x : Nat) : it (a + b) x = it a (it b x) := by
  induction a with
  | zero => rw [Nat.zero_add]; rfl
  | succ a ih => rw [Nat.succ_add, it, ih]; rfl
theorem it_succ' (k x : Nat) : it (k + 1) x = it k (rstep x) := it_add k 1 x
theorem rstep_lt {x : Nat} (h : x < 4294967296) : rstep x < 4294967296 := by
  unfold rstep
  have h1 : x / 2 < 2 ^ 32 := by omega
  have h2 : 3988292384 * (x % 2) < 2 ^ 32 := by rcases low_cases x with e | e <;> rw [e] <;> decide
  exact Nat.xor_lt_two_pow h1 h2
theorem it_lt {x : Nat} (h : x < 4294967296) (k : Nat) : it k x < 4294967296 := by
  induction k with
  | zero => exact h
  | succ k ih => exact rstep_lt ih
theorem xor_eq_zero {x y : Nat} (h : x ^^^ y = 0) : x = y := by
  have : x ^^^ y ^^^ y = y := by rw [h, Nat.zero_xor]
  rwa [Nat.xor_assoc, Nat.xor_self, Nat.xor_zero] at this
theorem rstep_ne {x : Nat} (h : x < 4294967296) (h0 : x ≠ 0) : rstep x ≠ 0 := by
  intro e
  have := xor_eq_zero e
  rcases low_cases x with h1 | h1 <;> rw [h1] at this <;> omega
theorem it_ne {x : Nat} (h : x < 4294967296) (h0 : x ≠ 0) (k : Nat) : it k x ≠ 0 := by
  induction k with
  | zero => exact h0
  | succ k ih => exact rstep_ne (it_lt h k) ih
theorem it_inj {x y : Nat} (hx : x < 4294967296) (hy : y < 4294967296) {k : Nat} (h : it k x = it k y) : x = y := by
  have hxy : x ^^^ y < 2 ^ 32 := Nat.xor_lt_two_pow hx hy
  by_cases e : x ^^^ y = 0
  · exact xor_eq_zero e
  · exact absurd (by rw [it_xor, h, Nat.xor_self]) (it_ne hxy e k)
theorem run_xor (r s : Nat) (b c : Nat → Nat) (n : Nat) : run (r ^^^ s) (fun i => b i ^^^ c i) n = run r b n ^^^ run s c n := by
  induction n with
  | zero => rfl
  | succ n ih => rw [run, ih, xor_swap4, rstep_xor]; rfl
theorem run_congr {r : Nat} {b c : Nat → Nat} {n : Nat} (h : ∀ i, i < n → b i = c i) : run r b n = run r c n := by
  induction n with
  | zero => rfl
  | succ n ih => rw [run, run, ih (fun i hi => h i (by omega)), h n (by omega)]
theorem run_add (r : Nat) (b : Nat → Nat) (m n : Nat) : run r b (m + n) = run (run r b m) (fun i => b (m + i)) n := by
  induction n with
  | zero => rfl
  | succ n ih => rw [← Nat.add_assoc, run, ih]; rfl
theorem run_lt {r : Nat} {b : Nat → Nat} (hr : r < 4294967296) (n : Nat) (hb : ∀ i, i < n → b i < 2) : run r b n < 4294967296 := by
  induction n with
  | zero => exact hr
  | succ n ih =>
    have h1 := ih (fun i hi => hb i (by omega))
    have h2 := hb n (by omega)
    exact rstep_lt (Nat.xor_lt_two_pow (n := 32) h1 (by omega))
theorem run_still {r : Nat} {b : Nat → Nat} {n : Nat} (h : ∀ i, i < n → b i = 0) : run r b n = it n r := by
  induction n with
  | zero => rfl
  | succ n ih => rw [run, ih (fun i hi => h i (by omega)), h n (by omega), Nat.xor_zero]; rfl

/-! ### at most 32 bits, one behind the other -/
/-- the number whose bits, the lowest first, are these -/
def word32 (b : Nat → Nat) : Nat → Nat
  | 0 => 0
  | k + 1 => word32 b k ^^^ (2 ^ k * b k)
theorem it_pow (k : Nat) : it k (2 ^ k) = 1 := by
  induction k with
  | zero => rfl
  | succ k ih =>
    rw [it_succ']
    have : rstep (2 ^ (k + 1)) = 2 ^ k := by
      unfold rstep
      rw [show 2 ^ (k + 1) % 2 = 0 by rw [Nat.pow_succ]; omega, Nat.mul_zero, Nat.xor_zero, Nat.pow_succ]; omega
    rw [this, ih]
theorem run_word (r : Nat) (b : Nat → Nat) (k : Nat) (hb : ∀ i, i < k → b i < 2) : run r b k = it k (r ^^^ word32 b k) := by
  induction k with
  | zero => show r = r ^^^ 0; rw [Nat.xor_zero]
  | succ k ih =>
    have h : it k (2 ^ k * b k) = b k := by
      have := hb k (by omega)
      rcases (show b k = 0 ∨ b k = 1 by omega) with e | e <;> rw [e]
      · rw [Nat.mul_zero, it_zero]
      · rw [Nat.mul_one, it_pow]
    rw [run, ih (fun i hi => hb i (by omega))]
    conv => lhs; rw [← h]
    rw [← it_xor, word32, Nat.xor_assoc]; rfl
theorem word32_lt (b : Nat → Nat) (k : Nat) (hb : ∀ i, i < k → b i < 2) : word32 b k < 2 ^ k := by
  induction k with
  | zero => exact Nat.one_pos
  | succ k ih =>
    have h1 := ih (fun i hi => hb i (by omega))
    have h2 : 2 ^ k * b k ≤ 2 ^ k * 1 := Nat.mul_le_mul_left _ (by have := hb k (by omega); omega)
    have h3 : 2 ^ (k + 1) = 2 * 2 ^ k := by rw [Nat.pow_succ, Nat.mul_comm]
    exact Nat.xor_lt_two_pow (by omega) (by have := Nat.two_pow_pos k; omega)
theorem word32_of (w k : Nat) : word32 (fun i => w / 2 ^ i % 2) k = w % 2 ^ k := by
  induction k with
  | zero => rw [Nat.pow_zero, Nat.mod_one]; rfl
  | succ k ih =>
    rw [word32, ih]
    have hlt : w % 2 ^ k < 2 ^ k := Nat.mod_lt _ (Nat.two_pow_pos k)
    rw [Nat.xor_comm, show (2 ^ k * (w / 2 ^ k % 2)) ^^^ (w % 2 ^ k) = 2 ^ k * (w / 2 ^ k % 2) + w % 2 ^ k from ?_]
    · rw [Nat.pow_succ, Nat.mod_mul]; omega
    · rw [Nat.two_pow_add_eq_or_of_lt hlt]
      apply Nat.eq_of_testBit_eq
      intro i
      rw [Nat.testBit_xor, Nat.testBit_or]
      by_cases hi : i < k
      · have : (2 ^ k * (w / 2 ^ k % 2)).testBit i = false := by
          rw [Nat.mul_comm, Nat.testBit_mul_two_pow]; simp; omega
        rw [this]; simp
      · have : (w % 2 ^ k).testBit i = false := Nat.testBit_lt_two_pow (Nat.lt_of_lt_of_le hlt (Nat.pow_le_pow_right (by omega) (by omega)))
        rw [this]; simp

/-- bits that lie within 32, one behind the other, are told -/
theorem run_burst {e : Nat → Nat} {p n : Nat} (hp : p + 32 ≤ n) (h0 : ∀ i, i < p → e i = 0) (h1 : ∀ i, p + 32 ≤ i → i < n → e i = 0) (hb : ∀ i, i < 32 → e (p + i) < 2) :
    run 0 e n = 0 ↔ word32 (fun i => e (p + i)) 32 = 0 := by
  obtain ⟨m, rfl⟩ : ∃ m, n = p + (32 + m) := ⟨n - (p + 32), by omega⟩
  rw [run_add, run_still h0, it_zero, run_add, run_word _ _ _ hb, Nat.zero_xor, run_still (fun i hi => h1 (p + (32 + i)) (by omega) (by omega))]
  have hl : word32 (fun i => e (p + i)) 32 < 4294967296 := word32_lt _ 32 hb
  constructor
  · intro h
    refine Classical.byContradiction fun hn => ?_
    exact it_ne (it_lt hl 32) (it_ne hl hn 32) m h
  · intro h
    rw [h, it_zero, it_zero]

/-! ### one, two or three bits -/
def force (x : Nat) (f : Nat → Bool) : Bool := Nat.rec (f 0) (fun n _ => f (n + 1)) x
theorem force_eq (x : Nat) (f : Nat → Bool) : force x f = f x := by cases x <;> rfl
def spread : Nat → Nat → Nat → Bool
  | 0, _, _ => true
  | n + 1, s, B => force (rstep s) fun s' => force (B ||| 1 <<< (s / 2 % 53231)) fun B' =>
      !(Nat.beq (s / 2) 0) && !(B.testBit (s / 2 % 53231)) && spread n s' B'
theorem spread_ok : ∀ (n s B : Nat), spread n s B = true →
    (∀ k, k < n → it k s / 2 ≠ 0 ∧ B.testBit (it k s / 2 % 53231) = false) ∧ (∀ j k, j < k → k < n → it j s / 2 ≠ it k s / 2)
  | 0, _, _, _ => ⟨fun k hk => absurd hk (by omega), fun j k _ hk => absurd hk (by omega)⟩
  | n + 1, s, B, h => by
    rw [spread, force_eq, force_eq] at h
    simp only [Bool.and_eq_true, Bool.not_eq_true'] at h
    obtain ⟨⟨h1, h2⟩, h3⟩ := h
    obtain ⟨a, b⟩ := spread_ok n _ _ h3
    have h1' : s / 2 ≠ 0 := by intro e; rw [e] at h1; cases h1
    have far : ∀ k, k < n → s / 2 ≠ it k (rstep s) / 2 := fun k hk e => by
      have := (a k hk).2
      rw [← e, Nat.testBit_or] at this
      simp at this
    constructor
    · intro k hk
      cases k with
      | zero => exact ⟨h1', h2⟩
      | succ k =>
        rw [it_succ']
        have := a k (by omega)
        rw [Nat.testBit_or] at this
        exact ⟨this.1, by simp only [Bool.or_eq_false_iff] at this; exact this.2.1⟩
    · intro j k hj hk
      cases k with
      | zero => omega
      | succ k =>
        cases j with
        | zero => rw [it_succ']; exact far k (by omega)
        | succ j => rw [it_succ', it_succ']; exact b j k (by omega) (by omega)
theorem spread_all : spread 1056 (rstep 1) 0 = true := by decide +kernel
theorem halves {a : Nat} (h1 : 1 ≤ a) (h2 : a ≤ 1056) : it a 1 / 2 ≠ 0 := by
  have := ((spread_ok _ _ _ spread_all).1 (a - 1) (by omega)).1
  rwa [← it_succ', show a - 1 + 1 = a by omega] at this
theorem halves_ne {a b : Nat} (h1 : 1 ≤ b) (h2 : b < a) (h3 : a ≤ 1056) : it b 1 / 2 ≠ it a 1 / 2 := by
  have := (spread_ok _ _ _ spread_all).2 (b - 1) (a - 1) (by omega) (by omega)
  rwa [← it_succ', ← it_succ', show a - 1 + 1 = a by omega, show b - 1 + 1 = b by omega] at this
def ones (e : Nat → Nat) : Nat → Nat
  | 0 => 0
  | k + 1 => ones e k + e k
def Few (e : Nat → Nat) (k : Nat) : Prop :=
  (ones e k = 0 → run 0 e k = 0) ∧
  (ones e k = 1 → ∃ a, 1 ≤ a ∧ a ≤ k ∧ run 0 e k = it a 1) ∧
  (ones e k = 2 → ∃ a b, 1 ≤ b ∧ b < a ∧ a ≤ k ∧ run 0 e k = it a 1 ^^^ it b 1) ∧
  (ones e k = 3 → run 0 e k ≠ 0)
theorem few_all {e : Nat → Nat} (n : Nat) (hn : n ≤ 1056) (he : ∀ i, i < n → e i < 2) : Few e n := by
  induction n with
  | zero => exact ⟨fun _ => rfl, fun h => absurd (show 0 = 1 from h) (by omega), fun h => absurd (show 0 = 2 from h) (by omega), fun h => absurd (show 0 = 3 from h) (by omega)⟩
  | succ n ih =>
    obtain ⟨h0, h1, h2, h3⟩ := ih (by omega) (fun i hi => he i (by omega))
    have hlt : run 0 e n < 4294967296 := run_lt (by omega) n (fun i hi => he i (by omega))
    have hr : run 0 e (n + 1) = rstep (run 0 e n ^^^ e n) := rfl
    have ho : ones e (n + 1) = ones e n + e n := rfl
    unfold Few
    rw [hr, ho]
    rcases (show e n = 0 ∨ e n = 1 by have := he n (by omega); omega) with q | q <;> rw [q]
    · rw [Nat.add_zero, Nat.xor_zero]
      refine ⟨fun h => by rw [h0 h, rstep_zero], fun h => ?_, fun h => ?_, fun h => rstep_ne hlt (h3 h)⟩
      · obtain ⟨a, a1, a2, a3⟩ := h1 h
        exact ⟨a + 1, by omega, by omega, by rw [a3]; rfl⟩
      · obtain ⟨a, b, b1, b2, b3, b4⟩ := h2 h
        exact ⟨a + 1, b + 1, by omega, by omega, by omega, by rw [b4, rstep_xor]; rfl⟩
    · refine ⟨fun h => absurd h (by omega), fun h => ?_, fun h => ?_, fun h => ?_⟩
      · rw [h0 (by omega), Nat.zero_xor]
        exact ⟨1, by omega, by omega, rfl⟩
      · obtain ⟨a, a1, a2, a3⟩ := h1 (by omega)
        exact ⟨a + 1, 1, by omega, by omega, by omega, by rw [a3, rstep_xor]; rfl⟩
      · obtain ⟨a, b, b1, b2, b3, b4⟩ := h2 (by omega)
        refine rstep_ne (Nat.xor_lt_two_pow (n := 32) hlt (by omega)) fun e0 => ?_
        have e1 := xor_eq_zero e0
        rw [b4] at e1
        have e2 : (it a 1 ^^^ it b 1) / 2 = 0 := by rw [e1]
        rw [xor_half] at e2
        exact halves_ne b1 b2 (by omega) (xor_eq_zero e2).symm
/-- one, two or three bits are told -/
theorem run_few {e : Nat → Nat} {n : Nat} (hn : n ≤ 1056) (he : ∀ i, i < n → e i < 2) (h1 : 1 ≤ ones e n) (h3 : ones e n ≤ 3) : run 0 e n ≠ 0 := by
  obtain ⟨_, k1, k2, k3⟩ := few_all n hn he
  rcases (show ones e n = 1 ∨ ones e n = 2 ∨ ones e n = 3 by omega) with h | h | h
  · obtain ⟨a, a1, a2, a3⟩ := k1 h
    rw [a3]; intro e0
    exact halves a1 (by omega) (by rw [e0])
  · obtain ⟨a, b, b1, b2, b3, b4⟩ := k2 h
    rw [b4]; intro e0
    exact halves_ne b1 b2 (by omega) (by rw [xor_eq_zero e0])
  · exact k3 h
/-- the last 32 bits are those of the sum of those ahead of them just if the register ends so -/
theorem run_whole {b : Nat → Nat} {n : Nat} (hb : ∀ i, i < n + 32 → b i < 2) :
    word32 (fun i => b (n + i)) 32 = run 4294967295 b n ^^^ 4294967295 ↔ run 4294967295 b (n + 32) = it 32 4294967295 := by
  have hw : word32 (fun i => b (n + i)) 32 < 4294967296 := word32_lt _ 32 (fun i hi => hb _ (by omega))
  have hr : run 4294967295 b n < 4294967296 := run_lt (by omega) n (fun i hi => hb _ (by omega))
  rw [run_add, run_word (run 4294967295 b n) (fun i => b (n + i)) 32 (fun i hi => hb _ (by omega))]
  constructor
  · intro h
    rw [h, ← Nat.xor_assoc, Nat.xor_self, Nat.zero_xor]
  · intro h
    have := it_inj (Nat.xor_lt_two_pow (n := 32) hr hw) (by omega) h
    exact (by rw [← Nat.xor_assoc, Nat.xor_self, Nat.zero_xor] : run 4294967295 b n ^^^ (run 4294967295 b n ^^^ word32 (fun i => b (n + i)) 32) = _).symm.trans (by rw [this])
end Go.Proofs.Ytfdjedhbbbdeiaa
