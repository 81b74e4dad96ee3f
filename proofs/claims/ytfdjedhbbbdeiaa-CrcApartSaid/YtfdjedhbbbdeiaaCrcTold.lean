/-
  Bits turned about in bytes with their sum behind them: what is told of them; noughts; the chapter's examples: plain mathematics.
-/
import Derived.Test.YtfdjedhbbbdeiaaCrcBits
import Derived.Test.YtfdjedhbbbdeiaaNums
namespace Go.Proofs.Ytfdjedhbbbdeiaa

/-- a bit turned about -/
def flipped (f : Nat → Nat) (k : Nat) (i : Nat) : Nat := if i = k / 8 then f i ^^^ 2 ^ (k % 8) else f i
theorem flipped_lt {f : Nat → Nat} {n k : Nat} (h : ∀ i, i < n → f i < 256) : ∀ i, i < n → flipped f k i < 256 := by
  intro i hi
  unfold flipped
  split
  · exact Nat.xor_lt_two_pow (n := 8) (h i hi) (by have : 2 ^ (k % 8) ≤ 2 ^ 7 := Nat.pow_le_pow_right (by omega) (by omega)
                                                   omega)
  · exact h i hi
theorem bit_xor (x y k : Nat) : (x ^^^ y) / 2 ^ k % 2 = (x / 2 ^ k % 2) ^^^ (y / 2 ^ k % 2) := by
  rw [Nat.xor_div_two_pow, xor_low]
theorem pow_bit (j k : Nat) : 2 ^ j / 2 ^ k % 2 = if j = k then 1 else 0 := by
  by_cases e : j = k
  · rw [if_pos e, e, Nat.div_self (Nat.two_pow_pos k)]
  · rw [if_neg e]
    rcases Nat.lt_or_ge j k with h | h
    · rw [Nat.div_eq_of_lt (Nat.pow_lt_pow_right (by omega) h)]
    · obtain ⟨d, rfl⟩ : ∃ d, j = k + (d + 1) := ⟨j - k - 1, by omega⟩
      rw [Nat.pow_add, Nat.mul_div_cancel_left _ (Nat.two_pow_pos k), Nat.pow_succ]
      omega
theorem bitAt_flipped (f : Nat → Nat) (k i : Nat) : bitAt (flipped f k) i = bitAt f i ^^^ (if i = k then 1 else 0) := by
  unfold bitAt flipped
  by_cases e : i / 8 = k / 8
  · rw [if_pos e, bit_xor, pow_bit]
    congr 1
    by_cases e2 : i = k
    · rw [if_pos e2, if_pos (by omega)]
    · rw [if_neg e2, if_neg (by omega)]
  · rw [if_neg e, if_neg (by intro h; exact e (by rw [h])), Nat.xor_zero]
theorem diff_flipped (f g : Nat → Nat) (k i : Nat) : diff (flipped f k) g i = diff f g i ^^^ (if i = k then 1 else 0) := by
  unfold diff
  rw [bitAt_flipped, Nat.xor_assoc, Nat.xor_comm (if i = k then 1 else 0), ← Nat.xor_assoc]
theorem ones_flip {e e' : Nat → Nat} {k : Nat} (he : ∀ i, e i < 2) (h : ∀ i, e' i = e i ^^^ (if i = k then 1 else 0)) (n : Nat) : ones e' n ≤ ones e n + (if k < n then 1 else 0) := by
  induction n with
  | zero => exact Nat.zero_le _
  | succ n ih =>
    unfold ones
    rw [h n]
    by_cases e1 : n = k
    · rw [if_pos e1, if_pos (by omega)]
      rw [if_neg (by omega)] at ih
      rcases (show e n = 0 ∨ e n = 1 by have := he n; omega) with q | q <;> rw [q]
      · show ones e' n + 1 ≤ _; omega
      · show ones e' n + 0 ≤ _; omega
    · rw [if_neg e1, Nat.xor_zero]
      by_cases e2 : k < n
      · rw [if_pos (by omega)]; rw [if_pos e2] at ih; omega
      · rw [if_neg (by omega)]; rw [if_neg e2] at ih; omega
theorem ones_same (f : Nat → Nat) (n : Nat) : ones (diff f f) n = 0 := ones_zero.2 fun i _ => by unfold diff; rw [Nat.xor_self]
theorem few_flip (x g : Nat → Nat) (k n : Nat) : ones (diff (flipped x k) g) n ≤ ones (diff x g) n + 1 := by
  have := ones_flip (e := diff x g) (k := k) (fun i => diff_lt x g i) (fun i => diff_flipped x g k i) n
  split at this <;> omega
/-- n + 4 bytes stand just if the register ends so -/
theorem stands_told {f x : Nat → Nat} {n : Nat} (hf : ∀ i, i < n → f i < 256) (hx : ∀ i, i < n + 4 → x i < 256) :
    (∀ i, i < n + 4 → x i = withSum x n i) ↔ run 0 (diff x (withSum f n)) (8 * (n + 4)) = 0 := by
  rw [stands_iff hx, stands_beside (withSum_stands hf)]
/-- at most three bits are turned about: the bytes stand just if none is -/
theorem few_law {f x : Nat → Nat} {n : Nat} (hn : n ≤ 128) (hf : ∀ i, i < n → f i < 256) (hx : ∀ i, i < n + 4 → x i < 256) (h3 : ones (diff x (withSum f n)) (8 * (n + 4)) ≤ 3) :
    (∀ i, i < n + 4 → x i = withSum x n i) ↔ ones (diff x (withSum f n)) (8 * (n + 4)) = 0 := by
  rw [stands_told hf hx]
  constructor
  · intro h
    refine Classical.byContradiction fun h0 => ?_
    exact run_few (e := diff x (withSum f n)) (n := 8 * (n + 4)) (by omega) (fun i _ => diff_lt _ _ i) (by omega) h3 h
  · intro h
    rw [run_still (ones_zero.1 h), it_zero]

/-! ### a row of 32 -/
/-- the first j of 32 bits from p on, those that w names, turned about -/
def rowed (f : Nat → Nat) (p w : Nat) : Nat → Nat → Nat
  | 0 => f
  | j + 1 => if w / 2 ^ j % 2 = 1 then flipped (rowed f p w j) (p + j) else rowed f p w j
theorem rowed_lt {f : Nat → Nat} {p w n : Nat} (h : ∀ i, i < n → f i < 256) (j : Nat) : ∀ i, i < n → rowed f p w j i < 256 := by
  induction j with
  | zero => exact h
  | succ j ih =>
    unfold rowed
    split
    · exact flipped_lt ih
    · exact ih
theorem diff_rowed (f : Nat → Nat) (p w j i : Nat) : diff (rowed f p w j) f i = if p ≤ i ∧ i < p + j then w / 2 ^ (i - p) % 2 else 0 := by
  induction j with
  | zero => unfold rowed diff; rw [Nat.xor_self, if_neg (by omega)]
  | succ j ih =>
    have hw : w / 2 ^ j % 2 = 0 ∨ w / 2 ^ j % 2 = 1 := by omega
    unfold rowed
    by_cases e : i = p + j
    · rw [if_neg (by omega)] at ih
      rw [if_pos (show p ≤ i ∧ i < p + (j + 1) by omega), show i - p = j by omega]
      rcases hw with h | h
      · rw [if_neg (by omega), ih, h]
      · rw [if_pos h, diff_flipped, ih, if_pos e, h]; rfl
    · have e2 : (if p ≤ i ∧ i < p + (j + 1) then w / 2 ^ (i - p) % 2 else 0) = (if p ≤ i ∧ i < p + j then w / 2 ^ (i - p) % 2 else 0) := by
        by_cases h : p ≤ i ∧ i < p + j
        · rw [if_pos h, if_pos (by omega)]
        · rw [if_neg h, if_neg (by omega)]
      rw [e2, ← ih]
      split
      · rw [diff_flipped, if_neg e, Nat.xor_zero]
      · rfl
/-- the bytes stand just if none of the 32 is turned about -/
theorem row_law {f : Nat → Nat} {n p w : Nat} (hf : ∀ i, i < n → f i < 256) (hp : p + 32 ≤ 8 * (n + 4)) (hw : w < 4294967296) :
    (∀ i, i < n + 4 → rowed (withSum f n) p w 32 i = withSum (rowed (withSum f n) p w 32) n i) ↔ w = 0 := by
  rw [stands_told hf (rowed_lt (fun i _ => withSum_lt hf i) 32)]
  rw [run_burst hp (fun i hi => by rw [diff_rowed, if_neg (by omega)]) (fun i h1 h2 => by rw [diff_rowed, if_neg (by omega)]) (fun i hi => diff_lt _ _ _)]
  rw [word32_congr (c := fun i => w / 2 ^ i % 2) (fun i hi => by rw [diff_rowed, if_pos (by omega), show p + i - p = i by omega]), word32_of, Nat.mod_eq_of_lt hw]

/-! ### noughts -/
def noFix : Nat → Nat → Bool
  | 0, _ => true
  | n + 1, s => force (rstep s) fun s' => !(Nat.beq s' 4294967295) && noFix n s'
theorem noFix_ok : ∀ (n s : Nat), noFix n s = true → ∀ k, 1 ≤ k → k ≤ n → it k s ≠ 4294967295
  | 0, _, _ => fun k h1 h2 => absurd h1 (by omega)
  | n + 1, s, h => by
    rw [noFix, force_eq] at h
    simp only [Bool.and_eq_true, Bool.not_eq_true'] at h
    obtain ⟨h1, h2⟩ := h
    intro k hk1 hk2
    obtain ⟨j, rfl⟩ : ∃ j, k = j + 1 := ⟨k - 1, by omega⟩
    rw [it_succ']
    by_cases e : j = 0
    · subst e
      intro e0
      rw [show rstep s = 4294967295 from e0] at h1
      cases h1
    · exact noFix_ok n _ h2 j (by omega) (by omega)
theorem noFix_all : noFix 1024 4294967295 = true := by decide +kernel
theorem bitAt_none (i : Nat) : bitAt (fun _ => 0) i = 0 := by unfold bitAt; simp
/-- of noughts just four stand -/
theorem noughts_law {n : Nat} (hn : n ≤ 128) : (∀ i, i < n + 4 → (0 : Nat) = withSum (fun _ => 0) n i) ↔ n = 0 := by
  have hs : sumOf (fun _ => 0) n = it (8 * n) 4294967295 ^^^ 4294967295 := by unfold sumOf; rw [run_still (fun i _ => bitAt_none i)]
  constructor
  · intro h
    refine Classical.byContradiction fun h0 => ?_
    have k := noFix_ok _ _ noFix_all (8 * n) (by omega) (by omega)
    apply k
    apply xor_eq_zero
    rw [← hs]
    have hb : ∀ j, j < 4 → sumOf (fun _ => 0) n / 256 ^ j % 256 = 0 := fun j hj => by
      have := h (n + j) (by omega)
      unfold withSum at this
      rw [if_neg (by omega), show n + j - n = j by omega] at this
      exact this.symm
    have h1 := hb 0 (by omega)
    have h2 := hb 1 (by omega)
    have h3 := hb 2 (by omega)
    have h4 := hb 3 (by omega)
    have hl := sumOf_lt (fun _ => 0) n
    omega
  · rintro rfl i hi
    unfold withSum
    rw [if_neg (by omega), show sumOf (fun _ => 0) 0 = 0 by decide]
    simp

/-! ### the chapter's examples -/
theorem sum_none (f : Nat → Nat) : sumOf f 0 = 0 := by show (4294967295 ^^^ 4294967295 : Nat) = 0; exact Nat.xor_self _
theorem sum_nine : sumOf (pick [49, 50, 51, 52, 53, 54, 55, 56, 57]) 9 = 3421780262 := by decide +kernel
theorem sum_nought : sumOf (pick [0]) 1 = 3523407757 := by decide +kernel
theorem diff_one : ones (diff (pick [1]) (pick [3])) 8 = 1 := by decide +kernel
theorem diff_two : ones (diff (pick [255]) (pick [255, 0])) 8 = 0 := by decide +kernel
end Go.Proofs.Ytfdjedhbbbdeiaa
