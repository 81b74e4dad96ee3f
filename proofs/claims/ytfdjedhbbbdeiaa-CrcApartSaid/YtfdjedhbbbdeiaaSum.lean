/-
  crc.Sum tells the sum of a datagram's bytes.
-/
import Derived.Test.YtfdjedhbbbdeiaaReg
namespace Go.Proofs.Ytfdjedhbbbdeiaa
open Go.RowKit

theorem feed_bit (f : Nat → Nat) (k j : Nat) (hj : j < 8) : run 4294967295 (bitAt f) (8 * k + (j + 1)) = rstep (run 4294967295 (bitAt f) (8 * k + j) ^^^ (f k / 2 ^ j % 2)) := by
  show rstep (run 4294967295 (bitAt f) (8 * k + j) ^^^ bitAt f (8 * k + j)) = _
  have := bitAt_of f k 0 j hj
  rw [Nat.mul_zero, Nat.zero_add, Nat.add_zero] at this
  rw [this]

theorem and_bit (x j : Nat) : bits .and .u32 ((x : Int) / 2 ^ j % 4294967296) 1 = ((x / 2 ^ j % 2 : Nat) : Int) := by
  rw [show ((2 : Int) ^ j) = ((2 ^ j : Nat) : Int) by rw [Int.natCast_pow]; rfl, ← Int.natCast_ediv]
  generalize x / 2 ^ j = y
  rw [show ((y : Int) % 4294967296) = ((y % 4294967296 : Nat) : Int) by omega, show (1 : Int) = ((1 : Nat) : Int) from rfl, u32_and_nat _ 1 (by omega) (by omega), Nat.and_one_is_mod]
  omega

set_option maxRecDepth 100000 in
set_option maxHeartbeats 4000000 in
theorem sum_any (A : Option Addr) (n c : Nat) (f : Nat → Nat) (w : World) (h : Bytes w A n f) (hn : n ≤ 1048576) :
    Calls Try.prog 12 #[.slice A n c] w fun e w' => e = .returned (.int .u32 (sumOf f n : Nat)) ∧ Below w.heap.size w w' := by
  have H := Lib.hid h
  clear h
  go_enter Try.func12, Try.ntmps12
  go_wp2_with fail
  refine (register_any w).mono ?_
  rintro e w1 ⟨rfl, hr, hb⟩
  have R := Lib.hid hr
  have B := Lib.hid hb
  clear hr hb
  go_wp2
  go_loopg [14] n (fun g1 vi wr => ∃ k : Nat, vi = .int .i64 k ∧ k ≤ n ∧ n - k ≤ g1 ∧ Hid (Reg wr w.heap.size (run 4294967295 (bitAt f) (8 * k))) ∧ Hid (Below w.heap.size w wr))
  case atStart => exact ⟨0, rfl, by omega, by omega, R, B⟩
  case round =>
    clear R B
    obtain ⟨k, rfl, hk, hg1, R, B⟩ := hrel
    by_cases hlt : k < n
    · have hkz : (k : Int) < n := by omega
      obtain ⟨b, off, rfl, hb, hc⟩ := (H.out.below B.out).at_ hlt
      have hx := H.out.bd hlt
      clear hb
      have F : Hid (∀ j, j < 8 → run 4294967295 (bitAt f) (8 * k + (j + 1)) = rstep (run 4294967295 (bitAt f) (8 * k + j) ^^^ (f k / 2 ^ j % 2))) := Lib.hid (feed_bit f k)
      have L : Hid (∀ m, run 4294967295 (bitAt f) m < 4294967296) := Lib.hid (fun m => run_lt (by omega) m (fun i _ => bitAt_lt f i))
      generalize f k = x at hc hx F
      go_wp2
      go_loopg [18] 8 (fun g2 vj wq => ∃ j : Nat, vj = .int .i64 j ∧ j ≤ 8 ∧ 8 - j ≤ g2 ∧ Hid (Reg wq w.heap.size (run 4294967295 (bitAt f) (8 * k + j))) ∧ Hid (Below w.heap.size w wq))
      case atStart => exact ⟨0, rfl, by omega, by omega, R, B⟩
      case round =>
        clear R B
        obtain ⟨j, rfl, hj, hg2, R, B⟩ := hrel
        by_cases hlj : j < 8
        · have hjz : (j : Int) < 8 := by omega
          have b1 : bits .and .u32 ((x : Int) / 2 ^ j % 4294967296) 1 = ((x / 2 ^ j % 2 : Nat) : Int) := and_bit x j
          have hy : x / 2 ^ j % 2 < 2 := Nat.mod_lt _ (by omega)
          have F1 := Lib.hid (F.out j hlj)
          have L1 := L.out (8 * k + j)
          generalize x / 2 ^ j % 2 = y at b1 hy F1
          generalize run 4294967295 (bitAt f) (8 * k + j) = r at R F1 L1
          go_wp2_with fail
          refine (hand_any w.heap.size r y wr R.out L1 hy).mono ?_
          rintro e w3 ⟨rfl, hR, hB⟩
          have R3 : Hid (Reg w3 w.heap.size (run 4294967295 (bitAt f) (8 * k + (j + 1)))) := Lib.hid (by rw [F1.out]; exact hR)
          have B3 : Hid (Below w.heap.size w w3) := Lib.hid (B.out.trans (hB _ (Nat.le_refl _)))
          clear hR hB R B F1 b1
          go_wp2
          go_roundg (8 - (j + 1))
          case measure => omega
          case rel => exact ⟨j + 1, by go_num, by omega, Nat.le_refl _, R3, B3⟩
        · obtain rfl : j = 8 := by omega
          go_wp2
          go_roundg (n - (k + 1))
          case measure => omega
          case rel => exact ⟨k + 1, by go_num, by omega, Nat.le_refl _, R, B⟩
    · obtain rfl : k = n := by omega
      have L1 : run 4294967295 (bitAt f) (8 * k) < 4294967296 := run_lt (by omega) _ (fun i _ => bitAt_lt f i)
      have S3 : Hid (bits .xor .u32 ((run 4294967295 (bitAt f) (8 * k) : Nat) : Int) 4294967295 = ((sumOf f k : Nat) : Int)) := Lib.hid (u32_xor_nat _ 4294967295 L1 (by omega))
      generalize run 4294967295 (bitAt f) (8 * k) = r at R S3 L1
      go_wp2_with fail
      refine (told_any w.heap.size r wr R.out).mono ?_
      rintro e w3 ⟨rfl, rfl⟩
      go_wp2
      go_ret
      exact ⟨by rw [← S3.out]; rfl, B.out⟩
end Go.Proofs.Ytfdjedhbbbdeiaa
