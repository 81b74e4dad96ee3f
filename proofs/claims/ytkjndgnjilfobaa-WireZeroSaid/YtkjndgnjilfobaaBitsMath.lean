/-
  A digit shifted to its place, and laid there: plain mathematics.
-/
import Derived.WalkKit
import Derived.Laws.BitsAllLaws
import Derived.Test.YtkjndgnjilfobaaWordsMath
namespace Go.Proofs.Ytkjndgnjilfobaa
open Go.RowKit

theorem pow_seven (k : Nat) : 128 ^ k = 2 ^ (k * 7) := by rw [Nat.mul_comm, Nat.pow_mul]
theorem wrap_u64 (n : Nat) : IntKind.u64.wrap (n : Int) = ((n % 18446744073709551616 : Nat) : Int) := by
  unfold IntKind.wrap
  have h1 : IntKind.u64.signed = false := by decide
  have h2 : IntKind.u64.bits = 64 := by decide
  rw [h1, h2]
  simp
theorem cast_shift (x k : Nat) : ((x : Int) % 128 * 2 ^ (k * 7)) = ((x % 128 * 2 ^ (k * 7) : Nat) : Int) := by
  rw [Int.natCast_mul, Int.natCast_emod, Int.natCast_pow]; rfl
theorem shift_fits {x k : Nat} (h : k ≤ 8 ∨ (k = 9 ∧ x % 128 < 2)) : x % 128 * 2 ^ (k * 7) < 18446744073709551616 := by
  rcases h with h | ⟨rfl, h⟩
  · have h1 : 2 ^ (k * 7) ≤ 2 ^ 56 := Nat.pow_le_pow_right (by omega) (by omega)
    have h2 : x % 128 * 2 ^ (k * 7) ≤ 127 * 2 ^ 56 := Nat.mul_le_mul (by omega) h1
    omega
  · omega
theorem shift_lies {x k : Nat} (h : k ≤ 8 ∨ (k = 9 ∧ x % 128 < 2)) : IntKind.u64.wrap ((x : Int) % 128 * 2 ^ (k * 7)) = ((x % 128 * 2 ^ (k * 7) : Nat) : Int) := by
  rw [cast_shift, wrap_u64, Nat.mod_eq_of_lt (shift_fits h)]
theorem shift_back (x k : Nat) : (((x % 128 * 2 ^ (k * 7) : Nat) : Int) / 2 ^ (k * 7)) = (x : Int) % 128 := by
  rw [← cast_shift]
  exact Int.mul_ediv_cancel _ (by have : (0 : Int) < 2 ^ (k * 7) := Int.pow_pos (by decide)
                                  omega)
theorem shift_lost {x k : Nat} (h : 2 ≤ x % 128) (hk : k = 9) : ∃ y : Nat, IntKind.u64.wrap ((x : Int) % 128 * 2 ^ (k * 7)) = (y : Int) ∧ (((y : Nat) : Int) / 2 ^ (k * 7) != (x : Int) % 128) = true := by
  subst hk
  refine ⟨_, by rw [cast_shift, wrap_u64], ?_⟩
  have h1 : (2 : Int) ^ (9 * 7) = 9223372036854775808 := by decide
  have h2 : 2 ^ (9 * 7) = 9223372036854775808 := by decide
  rw [h1, h2]
  simp only [bne_iff_ne, ne_eq]
  omega
theorem or_lies {v x k : Nat} (hv : v < 128 ^ k) (h : k ≤ 8 ∨ (k = 9 ∧ x % 128 < 2)) : bits BinOp.or .u64 (v : Int) ((x % 128 * 2 ^ (k * 7) : Nat) : Int) = ((v + 128 ^ k * (x % 128) : Nat) : Int) := by
  have hk : k ≤ 9 := by omega
  have h1 : 2 ^ (k * 7) ≤ 2 ^ 63 := Nat.pow_le_pow_right (by omega) (by omega)
  have h2 := shift_fits h
  rw [pow_seven] at hv ⊢
  rw [u64_or _ _ (by omega) (by omega) (by omega) (by omega), Int.toNat_natCast, Int.toNat_natCast, Nat.or_comm, Nat.mul_comm (x % 128), ← Nat.two_pow_add_eq_or_of_lt hv, Nat.add_comm]
end Go.Proofs.Ytkjndgnjilfobaa
