/-
  crc.Differ, and the document's Differ, tell in how many bits two rows of bytes differ.
-/
import Derived.Test.YtfdjedhbbbdeiaaDiffMath
import Derived.Test.YtfdjedhbbbdeiaaShelfC
import Derived.Test.YtfdjedhbbbdeiaaRefCrc
namespace Go.Proofs.Ytfdjedhbbbdeiaa
open Go.RowKit

set_option maxRecDepth 100000 in
set_option maxHeartbeats 4000000 in
theorem differ_up (A B : Option Addr) (n m c d : Nat) (f g : Nat → Nat) (w : World) (h : Bytes w A n f) (h' : Bytes w B m g) (hnm : n ≤ m) (hm : m ≤ 1048576) :
    Calls Try.prog 19 #[.slice A n c, .slice B m d] w fun e w' => e = .returned (.int .i64 (differOf f n g m : Nat)) ∧ w' = w := by
  rw [differ_le_eq (by omega)]
  have H := Lib.hid h
  have G := Lib.hid h'
  have D := Lib.hid (diff_byte f g)
  have U : Hid (∀ k, ones (diff f g) (8 * k) ≤ 8 * k) := Lib.hid (fun k => ones_le _ (fun i _ => diff_lt f g i))
  clear h h'
  have hz : ¬ ((m : Int) < n) := by omega
  go_enter Try.func19, Try.ntmps19
  go_wp2
  go_loopg [7, 27] n (fun g1 vd vi wr => ∃ k : Nat, vi = .int .i64 k ∧ vd = .int .i64 (8 * ((m : Int) - n) + (ones (diff f g) (8 * k) : Nat)) ∧ k ≤ n ∧ n - k ≤ g1 ∧ Hid (w = wr))
  case atStart => exact ⟨0, rfl, congrArg (Value.int .i64) (by show _ = _ + ((0 : Nat) : Int); omega), by omega, by omega, Lib.hid rfl⟩
  case round =>
    obtain ⟨k, rfl, rfl, hk, hg1, R⟩ := hrel
    obtain rfl := R.out
    clear R
    have hu := U.out k
    by_cases hlt : k < n
    · have hkz : (k : Int) < n := by omega
      obtain ⟨b, off, rfl, hb, hc⟩ := H.out.at_ hlt
      obtain ⟨b', off', rfl, hb', hc'⟩ := G.out.at_ (show k < m by omega)
      have hx := H.out.bd hlt
      have hy := G.out.bd (show k < m by omega)
      clear hb hb'
      have D1 := Lib.hid (D.out k)
      have X1 : bits .xor .u8 (f k : Int) (g k : Int) = ((f k ^^^ g k : Nat) : Int) := u8_xor_nat _ _ hx hy
      have hz : f k ^^^ g k < 256 := Nat.xor_lt_two_pow (n := 8) hx hy
      have hl := byteOnes_le (f k ^^^ g k)
      have C1 := Lib.hid (count_byte hz)
      generalize f k ^^^ g k = z at X1 hz D1 hl C1
      generalize byteOnes z = t at D1 hl C1
      generalize f k = x at X1 hc hx
      generalize g k = y at X1 hc' hy
      generalize ones (diff f g) (8 * k) = u at D1 hu ⊢
      have W1 : IntKind.i64.wrap (8 * ((m : Int) - n) + (u : Nat) + (t : Nat)) = 8 * ((m : Int) - n) + (u : Nat) + (t : Nat) := IntWalk.i64_in _ (by omega)
      go_wp2_with fail
      refine (Try.bits_OnesCount8 (z : Int) w (by omega) (by omega)).mono ?_
      rintro e w2 ⟨rfl, rfl⟩
      rw [Int.toNat_natCast, C1.out]
      go_wp2
      go_roundg (n - (k + 1))
      case measure => omega
      case rel => exact ⟨k + 1, by go_num, by rw [D1.out]; exact congrArg (Value.int .i64) (by omega), by omega, Nat.le_refl _, Lib.hid rfl⟩
    · obtain rfl : k = n := by omega
      have E1 : Hid ((8 * ((m : Int) - k) + (ones (diff f g) (8 * k) : Nat)) = ((8 * (m - k) + ones (diff f g) (8 * k) : Nat) : Int)) := Lib.hid (by omega)
      go_wp2
      go_ret
      exact ⟨congrArg (fun x => Ending.returned (.int .i64 x)) E1.out, rfl⟩

set_option maxRecDepth 100000 in
set_option maxHeartbeats 4000000 in
theorem differ_down (A B : Option Addr) (n m c d : Nat) (f g : Nat → Nat) (w : World) (h : Bytes w A n f) (h' : Bytes w B m g) (hnm : n < m) (hm : m ≤ 1048576) :
    Calls Try.prog 19 #[.slice B m d, .slice A n c] w fun e w' => e = .returned (.int .i64 (differOf f n g m : Nat)) ∧ w' = w := by
  rw [differ_le_eq (by omega)]
  have H := Lib.hid h
  have G := Lib.hid h'
  have D := Lib.hid (diff_byte f g)
  have U : Hid (∀ k, ones (diff f g) (8 * k) ≤ 8 * k) := Lib.hid (fun k => ones_le _ (fun i _ => diff_lt f g i))
  clear h h'
  have hz : ((n : Int) < m) := by omega
  go_enter Try.func19, Try.ntmps19
  go_wp2
  go_loopg [7, 27] n (fun g1 vd vi wr => ∃ k : Nat, vi = .int .i64 k ∧ vd = .int .i64 (8 * ((m : Int) - n) + (ones (diff f g) (8 * k) : Nat)) ∧ k ≤ n ∧ n - k ≤ g1 ∧ Hid (w = wr))
  case atStart => exact ⟨0, rfl, congrArg (Value.int .i64) (by show _ = _ + ((0 : Nat) : Int); omega), by omega, by omega, Lib.hid rfl⟩
  case round =>
    obtain ⟨k, rfl, rfl, hk, hg1, R⟩ := hrel
    obtain rfl := R.out
    clear R
    have hu := U.out k
    by_cases hlt : k < n
    · have hkz : (k : Int) < n := by omega
      obtain ⟨b, off, rfl, hb, hc⟩ := H.out.at_ hlt
      obtain ⟨b', off', rfl, hb', hc'⟩ := G.out.at_ (show k < m by omega)
      have hx := H.out.bd hlt
      have hy := G.out.bd (show k < m by omega)
      clear hb hb'
      have D1 := Lib.hid (D.out k)
      have X1 : bits .xor .u8 (f k : Int) (g k : Int) = ((f k ^^^ g k : Nat) : Int) := u8_xor_nat _ _ hx hy
      have hz : f k ^^^ g k < 256 := Nat.xor_lt_two_pow (n := 8) hx hy
      have hl := byteOnes_le (f k ^^^ g k)
      have C1 := Lib.hid (count_byte hz)
      generalize f k ^^^ g k = z at X1 hz D1 hl C1
      generalize byteOnes z = t at D1 hl C1
      generalize f k = x at X1 hc hx
      generalize g k = y at X1 hc' hy
      generalize ones (diff f g) (8 * k) = u at D1 hu ⊢
      have W1 : IntKind.i64.wrap (8 * ((m : Int) - n) + (u : Nat) + (t : Nat)) = 8 * ((m : Int) - n) + (u : Nat) + (t : Nat) := IntWalk.i64_in _ (by omega)
      go_wp2_with fail
      refine (Try.bits_OnesCount8 (z : Int) w (by omega) (by omega)).mono ?_
      rintro e w2 ⟨rfl, rfl⟩
      rw [Int.toNat_natCast, C1.out]
      go_wp2
      go_roundg (n - (k + 1))
      case measure => omega
      case rel => exact ⟨k + 1, by go_num, by rw [D1.out]; exact congrArg (Value.int .i64) (by omega), by omega, Nat.le_refl _, Lib.hid rfl⟩
    · obtain rfl : k = n := by omega
      have E1 : Hid ((8 * ((m : Int) - k) + (ones (diff f g) (8 * k) : Nat)) = ((8 * (m - k) + ones (diff f g) (8 * k) : Nat) : Int)) := Lib.hid (by omega)
      go_wp2
      go_ret
      exact ⟨congrArg (fun x => Ending.returned (.int .i64 x)) E1.out, rfl⟩

theorem differ_any (A B : Option Addr) (n m c d : Nat) (f g : Nat → Nat) (w : World) (h : Bytes w A n f) (h' : Bytes w B m g) (hn : n ≤ 1048576) (hm : m ≤ 1048576) :
    Calls Try.prog 19 #[.slice A n c, .slice B m d] w fun e w' => e = .returned (.int .i64 (differOf f n g m : Nat)) ∧ w' = w := by
  by_cases hnm : n ≤ m
  · exact differ_up A B n m c d f g w h h' hnm hm
  · rw [differ_symm]
    exact differ_down B A m n d c g f w h' h (by omega) hn
end Go.Proofs.Ytfdjedhbbbdeiaa
