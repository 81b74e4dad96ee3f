/-
  The register byte by byte, and by a table of bytes: plain mathematics.
-/
import Derived.Test.YtfdjedhbbbdeiaaCrcBits
namespace Go.Proofs.Ytfdjedhbbbdeiaa

theorem it_times (k z : Nat) : it k (2 ^ k * z) = z := by
  induction k with
  | zero => rw [Nat.pow_zero, Nat.one_mul]; rfl
  | succ k ih =>
    rw [it_succ']
    have : rstep (2 ^ (k + 1) * z) = 2 ^ k * z := by
      unfold rstep
      rw [Nat.pow_succ, Nat.mul_comm (2 ^ k) 2, Nat.mul_assoc, Nat.mul_mod_right, Nat.mul_zero, Nat.xor_zero]
      omega
    rw [this, ih]
theorem split_xor (y k : Nat) : y = (y % 2 ^ k) ^^^ (2 ^ k * (y / 2 ^ k)) := by
  have hlt : y % 2 ^ k < 2 ^ k := Nat.mod_lt _ (Nat.two_pow_pos k)
  apply Nat.eq_of_testBit_eq
  intro i
  rw [Nat.testBit_xor, Nat.testBit_mod_two_pow, Nat.mul_comm, Nat.testBit_mul_two_pow, Nat.testBit_div_two_pow]
  by_cases h : i < k
  · simp [h, show ¬ k ≤ i by omega]
  · simp [h, show k ≤ i by omega, show i - k + k = i by omega]
/-- eight steps by a table of the lowest byte -/
theorem it_eight (y : Nat) : it 8 y = it 8 (y % 256) ^^^ (y / 256) := by
  conv => lhs; rw [split_xor y 8]
  rw [it_xor, it_times]
theorem run_byte (r x : Nat) (hx : x < 256) : run r (fun i => x / 2 ^ i % 2) 8 = it 8 (r ^^^ x) := by
  rw [run_word _ _ _ (fun i _ => Nat.mod_lt _ (by omega)), word32_of, show 2 ^ 8 = 256 by decide, Nat.mod_eq_of_lt hx]
theorem run_next (r : Nat) (f : Nat → Nat) (k : Nat) (hf : f k < 256) : run r (bitAt f) (8 * (k + 1)) = it 8 (run r (bitAt f) (8 * k) ^^^ f k) := by
  rw [← run_byte _ _ hf, show 8 * (k + 1) = 8 * k + 8 by omega, run_add]
  refine run_congr fun i hi => ?_
  have := bitAt_of f k 0 i hi
  rwa [Nat.mul_zero, Nat.zero_add, Nat.add_zero] at this
/-- one bit of a byte that is fed by shifts -/
theorem rstep_odd {r : Nat} (h : r % 2 = 1) : rstep r = (r / 2) ^^^ 3988292384 := by unfold rstep; rw [h]
theorem rstep_even {r : Nat} (h : r % 2 = 0) : rstep r = r / 2 := by unfold rstep; rw [h, Nat.mul_zero, Nat.xor_zero]
end Go.Proofs.Ytfdjedhbbbdeiaa
