/-
  The document's sum of bytes: the polynomial, a bit of bytes, the register behind all bits.
-/
import Derived.Test.YtfdjedhbbbdeiaaBytes
import Derived.Test.YtfdjedhbbbdeiaaCrcBits
import Derived.Laws.BitsAllLaws
import Derived.IntWalk
import Derived.Deep.LoopGhost
namespace Go.Proofs.Ytfdjedhbbbdeiaa
open Go.RowKit

theorem rstep_feed (r : Nat) {x : Nat} (hx : x < 2) : rstep (r ^^^ x) = if r % 2 = x then r / 2 else (r / 2) ^^^ 3988292384 := by
  unfold rstep
  rw [xor_half, xor_low]
  rcases (show x = 0 ∨ x = 1 by omega) with e | e <;> rcases low_cases r with h | h <;> rw [e, h] <;> simp
theorem bit_eq (x k : Nat) : ((x : Int) / 2 ^ k % 4294967296 % 2) = ((x / 2 ^ k % 2 : Nat) : Int) := by
  rw [show ((2 : Int) ^ k) = ((2 ^ k : Nat) : Int) by rw [Int.natCast_pow]; rfl, ← Int.natCast_ediv]
  generalize x / 2 ^ k = y
  omega
/-- a bit of bytes, counted from the lowest one of the first byte on -/
theorem bit_any (A : Option Addr) (n c : Nat) (f : Nat → Nat) (i : Nat) (w : World) (h : Bytes w A n f) (hi : i < 8 * n) (hn : n ≤ 4611686018427387904) :
    Calls Try.prog 26 #[.slice A n c, .int .i64 (i : Nat)] w fun e w' => e = .returned (.int .u32 (bitAt f i : Nat)) ∧ w = w' := by
  obtain ⟨b, off, rfl, hb, hc⟩ := h.at_ (show i / 8 < n by omega)
  have hlt := h.bd (show i / 8 < n by omega)
  clear hb h
  go_enter Try.func26, Try.ntmps26
  go_wp2
  go_ret
  exact ⟨by rw [bit_eq]; rfl, rfl⟩

set_option maxRecDepth 100000 in
set_option maxHeartbeats 2000000 in
theorem turned_any (w : World) : Calls Try.prog 25 #[] w fun e w' => e = .returned (.int .u32 3988292384) ∧ Below w.heap.size w w' := by
  go_enter Try.func25, Try.ntmps25
  go_wp2
  refine wp_loop_rounds 15 ?_
  iterate 15 (rw [rounds_succ]; go_wp2)
  go_ret
  exact ⟨congrArg (fun x => Ending.returned (.int .u32 x)) (by kernel_rfl), (Below.refl _ w).alloc (Nat.le_refl _) _⟩

set_option maxRecDepth 100000 in
set_option maxHeartbeats 2000000 in
theorem refSum_any (A : Option Addr) (n c : Nat) (f : Nat → Nat) (w : World) (h : Bytes w A n f) (hn : n ≤ 1048576) :
    Calls Try.prog 13 #[.slice A n c] w fun e w' => e = .returned (.int .u32 (sumOf f n : Nat)) ∧ Below w.heap.size w w' := by
  have H := Lib.hid h
  clear h
  go_enter Try.func13, Try.ntmps13
  go_wp2_with fail
  refine (turned_any w).mono ?_
  rintro e w1 ⟨rfl, hb⟩
  have B := Lib.hid hb
  clear hb
  go_wp2
  go_loopg [4, 5] (8 * n) (fun g1 vr vi wr => ∃ k : Nat, vi = .int .i64 k ∧ vr = .int .u32 ((run 4294967295 (bitAt f) k : Nat) : Int) ∧ k ≤ 8 * n ∧ 8 * n - k ≤ g1 ∧ Hid (w1 = wr))
  case atStart => exact ⟨0, rfl, rfl, by omega, by omega, Lib.hid rfl⟩
  case round =>
    obtain ⟨k, rfl, rfl, hk, hg1, HR⟩ := hrel
    obtain rfl := HR.out
    clear HR
    have hr := run_lt (r := 4294967295) (b := bitAt f) (by omega) k (fun i _ => bitAt_lt f i)
    by_cases hlt : k < 8 * n
    · have hkz : (k : Int) < 8 * n := by omega
      have S : Hid (run 4294967295 (bitAt f) (k + 1) = rstep (run 4294967295 (bitAt f) k ^^^ bitAt f k)) := Lib.hid rfl
      have BK : Hid (Calls Try.prog 26 #[.slice A n c, .int .i64 (k : Nat)] w1 fun e w' => e = .returned (.int .u32 (bitAt f k : Nat)) ∧ w1 = w') := Lib.hid (bit_any A n c f k w1 (H.out.below B.out) hlt (by omega))
      have hx := bitAt_lt f k
      generalize bitAt f k = x at S BK hx
      generalize run 4294967295 (bitAt f) k = r at S hr ⊢
      by_cases hd : r % 2 = x
      · have e1 : ((r : Int) % 2 != (x : Int)) = false := by simp; omega
        have S2 : Hid (rstep (r ^^^ x) = r / 2) := Lib.hid (by rw [rstep_feed r hx, if_pos hd])
        clear hd
        go_wp2_with fail
        refine BK.out.mono ?_
        rintro e w2 ⟨rfl, rfl⟩
        go_wp2
        go_roundg (8 * n - (k + 1))
        case measure => omega
        case rel => exact ⟨k + 1, by go_num, by rw [S.out, S2.out]; rfl, by omega, Nat.le_refl _, Lib.hid rfl⟩
      · have e1 : ((r : Int) % 2 != (x : Int)) = true := by simp; omega
        have S2 : Hid (rstep (r ^^^ x) = (r / 2) ^^^ 3988292384) := Lib.hid (by rw [rstep_feed r hx, if_neg hd])
        have S3 : Hid (bits .xor .u32 ((r : Int) / 2) 3988292384 = (((r / 2) ^^^ 3988292384 : Nat) : Int)) := Lib.hid (u32_xor_nat (r / 2) 3988292384 (by omega) (by omega))
        clear hd
        go_wp2_with fail
        refine BK.out.mono ?_
        rintro e w2 ⟨rfl, rfl⟩
        go_wp2
        go_roundg (8 * n - (k + 1))
        case measure => omega
        case rel => exact ⟨k + 1, by go_num, by rw [S.out, S2.out, S3.out], by omega, Nat.le_refl _, Lib.hid rfl⟩
    · obtain rfl : k = 8 * n := by omega
      have S3 : Hid (bits .xor .u32 ((run 4294967295 (bitAt f) (8 * n) : Nat) : Int) 4294967295 = ((sumOf f n : Nat) : Int)) := Lib.hid (u32_xor_nat _ 4294967295 hr (by omega))
      generalize run 4294967295 (bitAt f) (8 * n) = r at S3 hr ⊢
      go_wp2
      go_ret
      exact ⟨by rw [← S3.out]; rfl, B.out⟩
end Go.Proofs.Ytfdjedhbbbdeiaa
