/-
  The law's Great: are values worth more than 4000? The document's Schema, fits.
-/
import Derived.WalkKit
import Derived.BigQuiet
import Derived.Deep.QuietTactic
import Derived.IntWalk
import Derived.Deep.LoopGhost
import Derived.Test.YtkjndgnjilfobaaProg
import Derived.Test.YtkjndgnjilfobaaBytes
import Derived.Test.YtkjndgnjilfobaaWireMath
namespace Go.Proofs.Ytkjndgnjilfobaa
open Go.RowKit

set_option maxRecDepth 100000 in
set_option maxHeartbeats 4000000 in
theorem great_any (A : Option Addr) (n c : Nat) (V : Nat → RV) (w : World) (h : ValsIn w A n c V) :
    Calls Try.prog 10 #[.slice A n c] w fun e w' => e = .returned (.bool (decide (4000 < worth V n))) ∧ Drawn w w' := by
  have H := Lib.hid h.1
  have hn : n ≤ 140737488351232 := h.2.2.2
  clear h
  go_enter Try.func10, Try.ntmps10
  go_wp2
  go_loopg [3, 4] n (fun g1 vs vi wr => ∃ k : Nat, vi = .int .i64 k ∧ vs = .int .i64 (worth V k : Nat) ∧ k ≤ n ∧ n - k ≤ g1 ∧ worth V k ≤ 4000 ∧ Hid (Drawn w wr))
  case atStart => exact ⟨0, rfl, rfl, by omega, by omega, by show 0 ≤ 4000; omega, Lib.hid ⟨0, rfl⟩⟩
  case round =>
    obtain ⟨k, rfl, rfl, hk, hg1, hw4, D⟩ := hrel
    by_cases hlt : k < n
    · have hkz : (k : Int) < n := by omega
      have hk0 : (0 : Int) ≤ k := by omega
      obtain ⟨q, rfl⟩ := D.out
      obtain ⟨b, off, rfl, -, h1, h2, h3, h4, h5⟩ := H.out.at_ hlt
      obtain ⟨-, -, ⟨-, -, o1, o2⟩, ⟨-, -, o3, o4⟩⟩ := H.out.1 k hlt
      have S : Hid (worth V (k + 1) = worth V k + 10 + (V k).bn + (V k).ln) := Lib.hid rfl
      have MO : Hid (worth V (k + 1) ≤ worth V n) := Lib.hid (worth_mono V (by omega))
      have RT : Hid (4000 < worth V n → (decide (4000 < worth V n)) = true) := Lib.hid (fun h => by simpa using h)
      clear H
      obtain ⟨y, hy⟩ : ∃ y, worth V (k + 1) = y := ⟨_, rfl⟩
      have YE := Lib.hid hy
      rw [hy] at S MO
      clear hy
      generalize worth V k = x at S hw4
      generalize V k = v at h1 h2 h3 h4 h5 o1 o2 o3 o4 S
      obtain ⟨vn, vi, vf, bA, bn, bc, bf, lA, ln, lc, lf⟩ := v
      dsimp only at h1 h2 h3 h4 h5 o1 o2 o3 o4 S
      clear h1 h2 h3
      by_cases hbig : 4000 < y
      · have e1 : (4000 : Int) < (x : Int) + 10 + bn + ln := by have := S.out; omega
        have RR := Lib.hid (RT.out (Nat.lt_of_lt_of_le hbig MO.out))
        clear hbig S MO RT
        go_wp2_with fail
        go_quiet (fail)
        go_wp2
        go_ret
        exact ⟨by rw [RR.out]; rfl, ⟨_, rfl⟩⟩
      · have e1 : ¬ (4000 : Int) < (x : Int) + 10 + bn + ln := by have := S.out; omega
        have e2 : Hid (((y : Nat) : Int) = (x : Int) + 10 + bn + ln) := Lib.hid (by have := S.out; omega)
        clear S MO RT
        go_wp2_with fail
        go_quiet (fail)
        go_wp2
        go_roundg (n - (k + 1))
        case measure => omega
        case rel => exact ⟨k + 1, by go_num, by rw [YE.out, e2.out], by omega, Nat.le_refl _, by rw [YE.out]; omega, Lib.hid ⟨_, rfl⟩⟩
    · obtain rfl : k = n := by omega
      have RR : Hid (decide (4000 < worth V k) = false) := Lib.hid (by simp; omega)
      go_wp2
      go_ret
      exact ⟨by rw [RR.out]; rfl, D.out⟩
end Go.Proofs.Ytkjndgnjilfobaa
