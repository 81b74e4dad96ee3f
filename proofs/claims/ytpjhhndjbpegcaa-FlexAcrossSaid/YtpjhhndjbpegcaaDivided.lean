/-
  The document's divided: a product divided by a sum, digit by digit.
-/
import Derived.Test.YtpjhhndjbpegcaaShare
import Derived.Test.YtpjhhndjbpegcaaChoice
import Derived.Laws.BitsAllLaws
import Derived.IntWalk
namespace Go.Proofs.Ytpjhhndjbpegcaa
open Go.RowKit

theorem and_one (x : Nat) (hx : x < 9223372036854775808) : bits BinOp.and .i64 (x : Int) 1 = ((x % 2 : Nat) : Int) := by
  show IntKind.i64.wrap ((BitVec.ofInt 64 (x : Int) &&& BitVec.ofInt 64 1).toNat : Int) = _
  rw [BitVec.toNat_and]
  have e1 : (BitVec.ofInt 64 1).toNat = 2 ^ 1 - 1 := by decide
  have e2 : (BitVec.ofInt 64 (x : Int)).toNat = x := by
    rw [BitVec.toNat_ofInt]; omega
  rw [e1, e2, Nat.and_two_pow_sub_one_eq_mod]
  exact IntWalk.i64_in _ (by omega)

theorem and_bit (t k : Nat) (ht : t ≤ 1099511627776) : bits BinOp.and .i64 ((t : Int) / 2 ^ k) 1 = ((t / 2 ^ k % 2 : Nat) : Int) := by
  have e : ((t : Int) / 2 ^ k) = ((t / 2 ^ k : Nat) : Int) := by
    rw [Int.natCast_ediv, Int.natCast_pow]; rfl
  rw [e]
  exact and_one _ (by have := Nat.div_le_self t (2 ^ k); omega)
theorem quot_le {q s r t k v : Nat} (h : q * s + r = t / 2 ^ k * v) (hvs : v ≤ s) (hs : 0 < s) (ht : t ≤ 1099511627776) : q ≤ 1099511627776 := by
  have h1 : q * s ≤ t / 2 ^ k * s := by
    have := Nat.mul_le_mul_left (t / 2 ^ k) hvs
    omega
  have := Nat.le_of_mul_le_mul_right h1 hs
  have := Nat.div_le_self t (2 ^ k)
  omega

set_option maxRecDepth 100000 in
set_option maxHeartbeats 2000000 in
theorem divided_any (t v s : Nat) (w : World) (ht : t ≤ 1099511627776) (hv : v ≤ 1125899906842624) (hvs : v ≤ s) (hs : 0 < s) (hs2 : s ≤ 2305843009213693952) (Q R : Nat) (hQ : t * v / s = Q) (hR : t * v % s = R) :
    Calls Try.prog 32 #[.int .i64 (t : Nat), .int .i64 (v : Nat), .int .i64 (s : Nat)] w fun e w' => e = .returned (.tuple #[.int .i64 (Q : Nat), .int .i64 (R : Nat)]) ∧ w = w' := by
  have HQ := Lib.hid hQ; have HR := Lib.hid hR
  clear hQ hR
  go_enter Try.func32, Try.ntmps32
  go_wp2
  go_loop [8, 9, 10] (fun a b i => ∃ (k q r : Nat), k ≤ 41 ∧ r < s ∧ Hid (q * s + r = t / 2 ^ k * v) ∧ a = .int .i64 (q : Nat) ∧ b = .int .i64 (r : Nat) ∧ i = .int .i64 ((k : Int) - 1)) (fun _ _ i => (intOf i + 1).toNat)
  case atStart =>
    refine ⟨41, 0, 0, Nat.le_refl _, hs, Lib.hid ?_, rfl, rfl, rfl⟩
    rw [Nat.div_eq_of_lt (by omega)]; simp
  case round =>
    obtain ⟨k, q, r, hk, hr, hq, rfl, rfl, rfl⟩ := hrel
    have hqb := quot_le hq.out hvs hs ht
    cases k with
    | zero =>
      have h := hq.out
      rw [Nat.pow_zero, Nat.div_one] at h
      have E := div_end h hr
      rw [HQ.out, HR.out] at E
      obtain ⟨rfl, rfl⟩ := E
      clear h hqb
      have e0 : ((0 : Nat) : Int) - 1 = -1 := by omega
      rw [e0]
      go_wp2
      go_ret2
      exact ⟨rfl, rfl⟩
    | succ k =>
      have ek : ((k + 1 : Nat) : Int) - 1 = (k : Int) := by omega
      rw [ek]
      have D := Lib.hid (div_step hq.out)
      have hb := and_bit t k ht
      have hb2 : t / 2 ^ k % 2 < 2 := Nat.mod_lt _ (by omega)
      clear ek hq
      generalize t / 2 ^ k % 2 = b at D hb hb2
      have hbc : b = 0 ∨ b = 1 := by omega
      clear hb2
      rcases hbc with rfl | rfl
      all_goals
        go_wp2
        clear hb
        go_loop [8, 9] (fun a b => ∃ (q' r' : Nat), r' < 3 * s ∧ Hid (q' * s + r' = t / 2 ^ k * v) ∧ a = .int .i64 (q' : Nat) ∧ b = .int .i64 (r' : Nat)) (fun _ b => (intOf b).toNat)
        case atStart => first
          | exact ⟨2 * q, 2 * r, by omega, Lib.hid (by have := D.out; omega), by go_num, by go_num⟩
          | exact ⟨2 * q, 2 * r + v, by omega, Lib.hid (by have := D.out; omega), by go_num, by go_num⟩
        case round =>
          obtain ⟨q', r', hr', hq', rfl, rfl⟩ := hrel
          have hqb' := quot_le hq'.out hvs hs ht
          by_cases hge : s ≤ r'
          · have S : Hid ((q' + 1) * s + (r' - s) = t / 2 ^ k * v) := Lib.hid (by have := hq'.out; rw [Nat.succ_mul]; omega)
            go_wp2
            go_round
            case rel => exact ⟨q' + 1, r' - s, by omega, S, by go_num, by congr 1; omega⟩
            case measure => simp [intOf] <;> omega
          · go_wp2
            go_round
            case rel => exact ⟨k, q', r', by omega, by omega, hq', rfl, rfl, rfl⟩
            case measure => simp [intOf] <;> omega
end Go.Proofs.Ytpjhhndjbpegcaa
