/-
  fixed.roundedDown: a total times a weight, divided by a sum, rounded down, and what the rounding lost.
-/
import Derived.Test.YtpjhhndjbpegcaaShelf
import Derived.Test.YtpjhhndjbpegcaaPairs
import Derived.Test.YtpjhhndjbpegcaaSame
namespace Go.Proofs.Ytpjhhndjbpegcaa
open Go.RowKit

theorem div_small (lo y : Nat) (w : World) (hy : 0 < y) (hl : lo < 18446744073709551616) (q r : Nat) (hq : lo / y = q) (hr : lo % y = r) :
    Calls Try.prog 39 #[.int .u64 0, .int .u64 lo, .int .u64 y] w fun e w' => e = .returned (.tuple #[.int .u64 q, .int .u64 r]) ∧ Drawn w w' := by
  have hw : IntKind.u64.wrap ((lo : Int) / y) = (q : Int) := by
    have e : ((lo : Int) / y) = (q : Int) := by rw [← hq]; exact (Int.natCast_ediv lo y).symm
    rw [e]
    have hle : q ≤ lo := by rw [← hq]; exact Nat.div_le_self _ _
    exact IntWalk.u64_in _ (by omega)
  have hm : ((lo : Int) % y) = (r : Int) := by rw [← hr]; exact (Int.natCast_emod lo y).symm
  have HM := Lib.hid hm
  clear hq hr hl hm
  have h1 : ((y : Int) == 0) = false := by simp; omega
  have h2 : ¬ (y : Int) ≤ 0 := by omega
  have h3 : (1 : Int) ≤ y := by omega
  have h4 : (0 : Int) ≤ lo := by omega
  go_enter Try.func39, Try.ntmps39
  go_wp2_with fail
  go_quiet (fail)
  go_wp2_with fail
  go_ret2
  exact ⟨by rw [← HM.out]; rfl, _, rfl⟩

/-- the quotient of two words by one -/
def DivOK : Prop := ∀ (hi lo y q r : Nat) (w : World), 0 < hi → hi < y → y ≤ 2305843009213693952 → lo < 18446744073709551616 → (hi * 18446744073709551616 + lo) / y = q → (hi * 18446744073709551616 + lo) % y = r →
  Calls Try.prog 39 #[.int .u64 hi, .int .u64 lo, .int .u64 y] w fun e w' => e = .returned (.tuple #[.int .u64 q, .int .u64 r]) ∧ Drawn w w'
theorem down_any (t v s : Nat) (w : World) (ht : t ≤ 1099511627776) (hv : v ≤ s) (hs : 0 < s) (hs2 : s ≤ 2305843009213693952) (hd : t * v < 18446744073709551616 ∨ DivOK) (q r : Nat) (hq : t * v / s = q) (hr : t * v % s = r) :
    Calls Try.prog 36 #[.int .i64 t, .int .i64 v, .int .i64 s] w fun e w' => e = .returned (.tuple #[.int .i64 q, .int .u64 r]) ∧ Drawn w w' := by
  have qt : q ≤ t := by
    rw [← hq]
    exact Nat.le_trans (Nat.div_le_div_right (Nat.mul_le_mul_left t hv)) (by rw [Nat.mul_div_cancel _ hs]; exact Nat.le_refl _)
  obtain ⟨hi, hhi⟩ : ∃ hi, t * v / 18446744073709551616 = hi := ⟨_, rfl⟩
  obtain ⟨lo, hlo⟩ : ∃ lo, t * v % 18446744073709551616 = lo := ⟨_, rfl⟩
  have tv : t * v = hi * 18446744073709551616 + lo := by have h9 := Nat.div_add_mod (t * v) 18446744073709551616; omega
  have lo64 : lo < 18446744073709551616 := by rw [← hlo]; exact Nat.mod_lt _ (by omega)
  have mul : Hid (∀ W : World, Calls Try.prog 38 #[.int .u64 t, .int .u64 v] W fun e w' => e = .returned (.tuple #[.int .u64 hi, .int .u64 lo]) ∧ w' = W) := Lib.hid (fun W => by
    have h := Try.bits_Mul64 t v (by omega) (by omega) W
    rw [hhi, hlo] at h
    exact h)
  have div : Hid (∀ W : World, Calls Try.prog 39 #[.int .u64 hi, .int .u64 lo, .int .u64 s] W fun e w' => e = .returned (.tuple #[.int .u64 q, .int .u64 r]) ∧ Drawn W w') := Lib.hid (fun W => by
    rcases Nat.eq_zero_or_pos hi with h0 | h0
    · subst h0
      exact div_small lo s W hs lo64 q r (by rw [← hq, tv]; congr 1; omega) (by rw [← hr, tv]; congr 1; omega)
    · rcases hd with hd | hd
      · omega
      · refine hd hi lo s q r W h0 ?_ hs2 lo64 (by rw [← hq, tv]) (by rw [← hr, tv])
        have h9 : t * v ≤ t * s := Nat.mul_le_mul_left t hv
        have h8 : t * s ≤ 1099511627776 * s := Nat.mul_le_mul_right s ht
        omega)
  clear hhi hlo tv lo64 hd hq hr
  go_enter Try.func36, Try.ntmps36
  go_wp2_with fail
  refine (mul.out _).mono ?_
  rintro e w' ⟨rfl, rfl⟩
  go_wp2_with fail
  refine (div.out _).mono ?_
  rintro e w1 ⟨rfl, hd⟩
  have D := Lib.hid hd
  clear hd
  go_wp2_with fail
  go_ret2
  exact ⟨rfl, D.out⟩
end Go.Proofs.Ytpjhhndjbpegcaa
