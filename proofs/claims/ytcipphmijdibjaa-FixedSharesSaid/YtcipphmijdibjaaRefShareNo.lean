/-
  What the document's Share refuses.
-/
import Derived.Test.YtcipphmijdibjaaRefShare
namespace Go.Proofs.Ytcipphmijdibjaa
open Go.RowKit

set_option maxRecDepth 100000 in
set_option maxHeartbeats 2000000 in
theorem refShare_no (t : Int) (n c : Nat) (A : Option Addr) (f : Nat → Int) (w : World) (hn : n ≤ 4611686018427387904) (h : Ints w A n f) (hbad : ¬ (Fit t ∧ n ≤ 2048 ∧ ∀ i, i < n → IsW (f i))) :
    Calls Try.prog 26 #[.int .i64 t, .slice A n c] w fun e w' => e = .returned (.tuple #[.slice none 0 0, .int .i64 2]) ∧ w = w' := by
  have H := Lib.hid h
  clear h
  by_cases hF : Fit t
  · have D : Hid (decide (Fit t) = true) := Lib.hid (by simpa using hF)
    by_cases hl : n ≤ 2048
    · have hx : ¬ ∀ i, i < n → IsW (f i) := fun hh => hbad ⟨hF, hl, hh⟩
      simp only [Classical.not_forall] at hx
      obtain ⟨p, hp, hx⟩ := hx
      -- the first that is none
      obtain ⟨j, hj, hbj, hbef⟩ : ∃ j, j < n ∧ ¬ IsW (f j) ∧ ∀ i, i < j → IsW (f i) := by
        induction p using Nat.strongRecOn with
        | _ p ih =>
          by_cases hh : ∀ i, i < p → IsW (f i)
          · exact ⟨p, hp, hx, hh⟩
          · simp only [Classical.not_forall] at hh
            obtain ⟨i, hi, hi2⟩ := hh
            exact ih i hi (by omega) hi2
      have HV : Hid (∀ i, i < j → (0 : Int) ≤ f i ∧ f i ≤ 1125899906842624) := Lib.hid hbef
      have HB : Hid (f j < 0 ∨ 1125899906842624 < f j) := Lib.hid (by unfold IsW at hbj; omega)
      have hn3 : decide ((2048 : Int) < n) = false := by simp; omega
      clear hbad hx hp hbj hbef hF
      clear p
      go_enter Try.func26, Try.ntmps26
      go_wp2_with fail
      refine (refFits_any t w true D.out).mono ?_
      rintro e w1 ⟨rfl, rfl⟩
      go_wp2
      go_loopg [6, 7] n (fun g1 vs vi wr => ∃ (k : Nat) (s : Int), vi = .int .i64 k ∧ vs = .int .i64 s ∧ k ≤ j ∧ n - k ≤ g1 ∧ 0 ≤ s ∧ s ≤ k * 1125899906842624 ∧ Hid (w = wr))
      case atStart => exact ⟨0, 0, rfl, rfl, by omega, by omega, by omega, by omega, Lib.hid rfl⟩
      case round =>
        obtain ⟨k, s, rfl, rfl, hk, hg1, hs0, hs1, HR⟩ := hrel
        obtain rfl := HR.out
        clear HR
        obtain ⟨b, off, rfl, hb, hc⟩ := H.out.at_ (show k < n by omega)
        clear hb
        have hlt : k < n := by omega
        have hltz : (k : Int) < n := by omega
        by_cases hkj : k < j
        · obtain ⟨h1, h2⟩ := HV.out k hkj
          generalize f k = x at hc h1 h2
          have x1 : ¬ x < 0 := by omega
          have x2 : ¬ (1125899906842624 : Int) < x := by omega
          go_wp2
          go_roundg (n - (k + 1))
          case measure => omega
          case rel => exact ⟨k + 1, s + x, by go_num, rfl, by omega, Nat.le_refl _, by omega, by omega, Lib.hid rfl⟩
        · obtain rfl : j = k := by omega
          have hbb := HB.out
          generalize f j = x at hc hbb
          by_cases h1 : x < 0
          · clear hbb
            go_wp2
            go_ret2
            exact ⟨rfl, rfl⟩
          · have x1 : decide (x < 0) = false := by simp; omega
            have h2 : (1125899906842624 : Int) < x := by omega
            clear hbb
            go_wp2
            go_ret2
            exact ⟨rfl, rfl⟩
    · have hn3 : decide ((2048 : Int) < n) = true := by simp; omega
      have hn4 : (2048 : Int) < n := by omega
      clear hbad hF
      go_enter Try.func26, Try.ntmps26
      go_wp2_with fail
      refine (refFits_any t w true D.out).mono ?_
      rintro e w1 ⟨rfl, rfl⟩
      go_wp2
      go_ret2
      exact ⟨rfl, rfl⟩
  · have D : Hid (decide (Fit t) = false) := Lib.hid (by simpa using hF)
    clear hF hbad
    go_enter Try.func26, Try.ntmps26
    go_wp2_with fail
    refine (refFits_any t w false D.out).mono ?_
    rintro e w1 ⟨rfl, rfl⟩
    go_wp2
    go_ret2
    exact ⟨rfl, rfl⟩
end Go.Proofs.Ytcipphmijdibjaa
