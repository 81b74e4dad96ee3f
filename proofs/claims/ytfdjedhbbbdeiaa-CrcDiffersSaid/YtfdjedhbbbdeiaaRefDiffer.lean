/-
  The document's Differ tells in how many bits two rows of bytes differ.
-/
import Derived.Test.YtfdjedhbbbdeiaaDiffMath
import Derived.Test.YtfdjedhbbbdeiaaRefCrc
namespace Go.Proofs.Ytfdjedhbbbdeiaa
open Go.RowKit

set_option maxRecDepth 100000 in
set_option maxHeartbeats 4000000 in
theorem refDiffer_up (A B : Option Addr) (n m c d : Nat) (f g : Nat → Nat) (w : World) (h : Bytes w A n f) (h' : Bytes w B m g) (hnm : n ≤ m) (hm : m ≤ 1048576) :
    Calls Try.prog 20 #[.slice A n c, .slice B m d] w fun e w' => e = .returned (.int .i64 (differOf f n g m : Nat)) ∧ w' = w := by
  rw [differ_le_eq (by omega)]
  have H := Lib.hid h
  have G := Lib.hid h'
  have U : Hid (∀ k, ones (diff f g) k ≤ k) := Lib.hid (fun k => ones_le _ (fun i _ => diff_lt f g i))
  clear h h'
  have hz : ¬ ((m : Int) < n) := by omega
  go_enter Try.func20, Try.ntmps20
  go_wp2
  go_loopg [5, 6] (8 * n) (fun g1 vd vi wr => ∃ k : Nat, vi = .int .i64 k ∧ vd = .int .i64 (8 * ((m : Int) - n) + (ones (diff f g) k : Nat)) ∧ k ≤ 8 * n ∧ 8 * n - k ≤ g1 ∧ Hid (w = wr))
  case atStart => exact ⟨0, rfl, congrArg (Value.int .i64) (by show _ = _ + ((0 : Nat) : Int); omega), by omega, by omega, Lib.hid rfl⟩
  case round =>
    obtain ⟨k, rfl, rfl, hk, hg1, R⟩ := hrel
    obtain rfl := R.out
    clear R
    have hu := U.out k
    by_cases hlt : k < 8 * n
    · have hkz : (k : Int) < 8 * n := by omega
      have S : Hid (ones (diff f g) (k + 1) = ones (diff f g) k + if bitAt f k = bitAt g k then 0 else 1) := Lib.hid (by rw [← diff_if]; rfl)
      have K1 : Hid (Calls Try.prog 26 #[.slice A n c, .int .i64 (k : Nat)] w fun e w' => e = .returned (.int .u32 (bitAt f k : Nat)) ∧ w = w') := Lib.hid (bit_any A n c f k w H.out hlt (by omega))
      have K2 : Hid (Calls Try.prog 26 #[.slice B m d, .int .i64 (k : Nat)] w fun e w' => e = .returned (.int .u32 (bitAt g k : Nat)) ∧ w = w') := Lib.hid (bit_any B m d g k w G.out (by omega) (by omega))
      have hx := bitAt_lt f k
      have hy := bitAt_lt g k
      generalize bitAt f k = x at S K1 hx
      generalize bitAt g k = y at S K2 hy
      generalize ones (diff f g) k = u at S hu ⊢
      by_cases e : x = y
      · have S2 : Hid (ones (diff f g) (k + 1) = u) := Lib.hid (by rw [S.out, if_pos e]; rfl)
        subst e
        have e1 : ((x : Int) != (x : Int)) = false := by simp
        go_wp2_with fail
        refine K1.out.mono ?_
        rintro e w2 ⟨rfl, rfl⟩
        go_wp2_with fail
        refine K2.out.mono ?_
        rintro e w2 ⟨rfl, rfl⟩
        go_wp2
        go_roundg (8 * n - (k + 1))
        case measure => omega
        case rel => exact ⟨k + 1, by go_num, by rw [S2.out], by omega, Nat.le_refl _, Lib.hid rfl⟩
      · have S2 : Hid (ones (diff f g) (k + 1) = u + 1) := Lib.hid (by rw [S.out, if_neg e])
        have e1 : ((x : Int) != (y : Int)) = true := by simp; omega
        have W1 : IntKind.i64.wrap (8 * ((m : Int) - n) + (u : Nat) + 1) = 8 * ((m : Int) - n) + (u : Nat) + 1 := IntWalk.i64_in _ (by omega)
        clear e
        go_wp2_with fail
        refine K1.out.mono ?_
        rintro e w2 ⟨rfl, rfl⟩
        go_wp2_with fail
        refine K2.out.mono ?_
        rintro e w2 ⟨rfl, rfl⟩
        go_wp2
        go_roundg (8 * n - (k + 1))
        case measure => omega
        case rel => exact ⟨k + 1, by go_num, by rw [S2.out]; exact congrArg (Value.int .i64) (by omega), by omega, Nat.le_refl _, Lib.hid rfl⟩
    · obtain rfl : k = 8 * n := by omega
      have E1 : Hid ((8 * ((m : Int) - n) + (ones (diff f g) (8 * n) : Nat)) = ((8 * (m - n) + ones (diff f g) (8 * n) : Nat) : Int)) := Lib.hid (by omega)
      go_wp2
      go_ret
      exact ⟨congrArg (fun x => Ending.returned (.int .i64 x)) E1.out, rfl⟩

set_option maxRecDepth 100000 in
theorem refDiffer_any (A B : Option Addr) (n m c d : Nat) (f g : Nat → Nat) (w : World) (h : Bytes w A n f) (h' : Bytes w B m g) (hn : n ≤ 1048576) (hm : m ≤ 1048576) :
    Calls Try.prog 20 #[.slice A n c, .slice B m d] w fun e w' => e = .returned (.int .i64 (differOf f n g m : Nat)) ∧ w' = w := by
  by_cases hnm : n ≤ m
  · exact refDiffer_up A B n m c d f g w h h' hnm hm
  · have hz : ((m : Int) < n) := by omega
    have R := Lib.hid (refDiffer_up B A m n d c g f w h' h (by omega) hn)
    rw [differ_symm]
    clear h h'
    go_enter Try.func20, Try.ntmps20
    go_wp2_with fail
    refine R.out.mono ?_
    rintro e w2 ⟨rfl, rfl⟩
    go_wp2
    go_ret
    exact ⟨rfl, rfl⟩
end Go.Proofs.Ytfdjedhbbbdeiaa
