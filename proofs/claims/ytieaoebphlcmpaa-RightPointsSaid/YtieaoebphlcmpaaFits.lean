/-
  What fixed.Fits, fixed.length, and the document's Fits and All answer: whether all numbers are from -2^40 to 2^40.
-/
import Derived.Test.YtieaoebphlcmpaaProg
import Derived.Test.YtieaoebphlcmpaaWords
import Derived.WalkKit
import Derived.ProofKit
namespace Go.Proofs.Ytieaoebphlcmpaa
open Go.RowKit

/-- a number is a length -/
def Fit (x : Int) : Prop := -1099511627776 ≤ x ∧ x ≤ 1099511627776
theorem fits_yes (A : Option Addr) (n c : Nat) (f : Nat → Int) (w : World) (h : Ints w A n f) (hn : n ≤ 4611686018427387904) (hf : ∀ i, i < n → Fit (f i)) :
    Calls Try.prog 10 #[.slice A n c] w fun e w' => e = .returned (.bool true) ∧ w = w' := by
  have H := Lib.hid h
  have F := Lib.hid hf
  clear h hf
  go_enter Try.func10, Try.ntmps10
  go_wp2
  go_loop [7] (fun i => ∃ k : Nat, k ≤ n ∧ i = .int .i64 k) (fun i => n - (intOf i).toNat)
  case atStart => exact ⟨0, Nat.zero_le _, rfl⟩
  case round =>
    obtain ⟨k, hk, rfl⟩ := hrel
    by_cases hlt : k < n
    · obtain ⟨b, off, rfl, hb, hc⟩ := H.out.at_ hlt
      obtain ⟨h1, h2⟩ := F.out k hlt
      generalize f k = x at hc h1 h2
      clear hb
      have h1' : ¬ x < -1099511627776 := by omega
      have h2' : ¬ 1099511627776 < x := by omega
      go_wp2
      go_round
      case rel => exact ⟨k + 1, by omega, by go_num⟩
      case measure => simp [intOf]; omega
    · go_wp2
      go_ret
      exact ⟨rfl, rfl⟩

theorem fits_no (A : Option Addr) (n c : Nat) (f : Nat → Int) (w : World) (h : Ints w A n f) (hn : n ≤ 4611686018427387904) (j : Nat) (hj : j < n) (hf : ¬ Fit (f j)) :
    Calls Try.prog 10 #[.slice A n c] w fun e w' => e = .returned (.bool false) ∧ w = w' := by
  have H := Lib.hid h
  have F := Lib.hid hf
  clear h hf
  go_enter Try.func10, Try.ntmps10
  go_wp2
  go_loop [7] (fun i => ∃ k : Nat, k ≤ j ∧ i = .int .i64 k) (fun i => n - (intOf i).toNat)
  case atStart => exact ⟨0, Nat.zero_le _, rfl⟩
  case round =>
    obtain ⟨k, hk, rfl⟩ := hrel
    have hlt : k < n := by omega
    obtain ⟨b, off, rfl, hb, hc⟩ := H.out.at_ hlt

    by_cases hx : Fit (f k)
    · have hne : k ≠ j := fun e => F.out (e ▸ hx)
      obtain ⟨h1, h2⟩ := hx
      generalize f k = x at hc h1 h2
      clear hb
      have h1' : ¬ x < -1099511627776 := by omega
      have h2' : ¬ 1099511627776 < x := by omega
      go_wp2
      go_round
      case rel => exact ⟨k + 1, by omega, by go_num⟩
      case measure => simp [intOf]; omega
    · unfold Fit at hx
      generalize f k = x at hc hx
      clear hb
      by_cases h1 : x < -1099511627776
      · clear hx
        go_wp2
        go_ret
        exact ⟨rfl, rfl⟩
      · have h2 : 1099511627776 < x := by omega
        clear hx
        go_wp2
        go_ret
        exact ⟨rfl, rfl⟩

instance (x : Int) : Decidable (Fit x) := by unfold Fit; infer_instance
/-- whether all are lengths, as a Bool -/
def allFit (f : Nat → Int) (n : Nat) : Bool := decide (∀ i, i < n → Fit (f i))
theorem fits_any (A : Option Addr) (n c : Nat) (f : Nat → Int) (w : World) (h : Ints w A n f) (hn : n ≤ 4611686018427387904) (b : Bool) (hb : allFit f n = b) :
    Calls Try.prog 10 #[.slice A n c] w fun e w' => e = .returned (.bool b) ∧ w = w' := by
  subst hb
  by_cases hf : ∀ i, i < n → Fit (f i)
  · have : allFit f n = true := by simpa [allFit] using hf
    rw [this]
    exact fits_yes A n c f w h hn hf
  · have : allFit f n = false := by simpa [allFit] using hf
    rw [this]
    simp only [Classical.not_forall] at hf
    obtain ⟨j, hj, hx⟩ := hf
    exact fits_no A n c f w h hn j hj hx
theorem refFits_any (x : Int) (w : World) (b : Bool) (hb : decide (Fit x) = b) :
    Calls Try.prog 19 #[.int .i64 x] w fun e w' => e = .returned (.bool b) ∧ w = w' := by
  subst hb
  by_cases h1 : -1099511627776 ≤ x
  · by_cases h2 : x ≤ 1099511627776
    · have e : decide (Fit x) = true := by simp [Fit, h1, h2]
      rw [e]
      clear e
      go_enter Try.func19, Try.ntmps19
      go_wp2
      go_ret
      exact ⟨rfl, rfl⟩
    · have e : decide (Fit x) = false := by simp [Fit, h1, h2]
      rw [e]
      clear e
      go_enter Try.func19, Try.ntmps19
      go_wp2
      go_ret
      exact ⟨rfl, rfl⟩
  · have e : decide (Fit x) = false := by simp [Fit, h1]
    rw [e]
    clear e
    go_enter Try.func19, Try.ntmps19
    go_wp2
    go_ret
    exact ⟨rfl, rfl⟩
theorem all_any (A : Option Addr) (n c : Nat) (f : Nat → Int) (w : World) (h : Ints w A n f) (hn : n ≤ 4611686018427387904) (b : Bool) (hb : allFit f n = b) :
    Calls Try.prog 14 #[.slice A n c] w fun e w' => e = .returned (.bool b) ∧ w = w' := by
  have H := Lib.hid h
  have F := Lib.hid hb
  clear h hb
  go_enter Try.func14, Try.ntmps14
  go_wp2
  go_loop [3] (fun i => ∃ k : Nat, k ≤ n ∧ (∀ j, j < k → Fit (f j)) ∧ i = .int .i64 k) (fun i => n - (intOf i).toNat)
  case atStart => exact ⟨0, Nat.zero_le _, fun j hj => absurd hj (by omega), rfl⟩
  case round =>
    obtain ⟨k, hk, hall, rfl⟩ := hrel
    have A1 := Lib.hid hall
    clear hall
    by_cases hlt : k < n
    · obtain ⟨bl, off, rfl, hbl, hc⟩ := H.out.at_ hlt
      clear hbl
      by_cases hx : Fit (f k)
      · have A2 : Hid (∀ j, j < k + 1 → Fit (f j)) := Lib.hid fun j hj => by
          by_cases e : j = k
          · rw [e]; exact hx
          · exact A1.out j (by omega)
        have D : decide (Fit (f k)) = true := by simpa using hx
        clear hx
        generalize f k = x at hc D
        have D' := Lib.hid D
        clear D
        go_wp2_with (go_at_call 19; refine (refFits_any x _ true D'.out).mono ?_; rintro e w' ⟨rfl, rfl⟩)
        go_round
        case rel => exact ⟨k + 1, by omega, A2.out, by go_num⟩
        case measure => simp [intOf]; omega
      · have D : Hid (decide (Fit (f k)) = false) := Lib.hid (by simpa using hx)
        have R : Hid (b = false) := Lib.hid (by
          rw [← F.out]; unfold allFit; simp only [decide_eq_false_iff_not]; exact fun h => hx (h k hlt))
        clear hx
        go_wp2_with (go_at_call 19; refine (refFits_any (f k) _ false D.out).mono ?_; rintro e w' ⟨rfl, rfl⟩)
        go_ret
        exact ⟨by rw [R.out]; rfl, rfl⟩
    · have e : k = n := by omega
      have R : Hid (b = true) := Lib.hid (by
          rw [← F.out]; unfold allFit; simp only [decide_eq_true_eq]; rw [← e]; exact A1.out)
      clear e
      go_wp2
      go_ret
      exact ⟨by rw [R.out]; rfl, rfl⟩
/-- a slice of one number that the caller has just made -/
theorem Ints.one (w : World) (x : Int) (hx : -9223372036854775808 ≤ x ∧ x ≤ 9223372036854775807) (t : TypeId) :
    Ints (w.alloc (.cells #[.int .i64 x] t)) (some ⟨w.heap.size, 0, none⟩) 1 (fun _ => x) := by
  refine ⟨fun _ _ => hx, fun _ => ⟨_, _, rfl, by simp, fun i hi => ?_⟩⟩
  obtain rfl : i = 0 := by omega
  simp [World.cell?_alloc_at]
end Go.Proofs.Ytieaoebphlcmpaa
