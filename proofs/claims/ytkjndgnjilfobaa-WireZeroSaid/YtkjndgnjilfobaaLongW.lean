/-
  Whether one of a row of values is too long, as the landed wire asks it.
-/
import Derived.Test.YtkjndgnjilfobaaSameRows
namespace Go.Proofs.Ytkjndgnjilfobaa
open Go.RowKit

def tooLong (v : RV) : Prop := 262144 < v.bn ∨ 4096 < v.ln
instance (v : RV) : Decidable (tooLong v) := by unfold tooLong; infer_instance
set_option maxRecDepth 100000 in
set_option maxHeartbeats 1000000 in
theorem isLong_any (v : RV) (w : World) (r : Bool) (hr : decide (tooLong v) = r) : Calls Try.prog 27 #[v.val] w fun e w' => e = .returned (.bool r) ∧ Below w.heap.size w w' := by
  have BB : Hid (∀ o : Obj, Below w.heap.size w (w.alloc o)) := Lib.hid (fun o => (Below.refl _ w).alloc (Nat.le_refl _) o)
  obtain ⟨vn, vi, vf, bA, bn, bc, bf, lA, ln, lc, lf⟩ := v
  unfold RV.val
  dsimp only
  by_cases h1 : 262144 < bn
  · obtain rfl : r = true := by rw [← hr]; simp only [decide_eq_true_eq]; exact .inl h1
    have z1 : (262144 : Int) < bn := by omega
    clear hr
    go_enter Try.func27, Try.ntmps27
    go_wp2
    go_ret
    exact ⟨rfl, BB.out _⟩
  · have z1 : ¬ (262144 : Int) < bn := by omega
    by_cases h2 : 4096 < ln
    · obtain rfl : r = true := by rw [← hr]; simp only [decide_eq_true_eq]; exact .inr h2
      have z2 : (4096 : Int) < ln := by omega
      have z3 : decide ((4096 : Int) < ln) = true := by simpa using z2
      clear hr
      go_enter Try.func27, Try.ntmps27
      go_wp2
      go_ret
      exact ⟨by first | rfl | simp [z2], BB.out _⟩
    · obtain rfl : r = false := by rw [← hr]; simp only [decide_eq_false_iff_not]; exact fun h => h.elim h1 h2
      have z2 : ¬ (4096 : Int) < ln := by omega
      have z3 : decide ((4096 : Int) < ln) = false := by simpa using z2
      clear hr
      go_enter Try.func27, Try.ntmps27
      go_wp2
      go_ret
      exact ⟨by first | rfl | simp [z2], BB.out _⟩

/-- the place of the first that is too long, or -1 -/
def FirstLong (P : Prop) (w : World) (e : Ending) (w' : World) : Prop := ∃ r : Int, e = .returned (.int .i64 r) ∧ -1 ≤ r ∧ r ≤ 9223372036854775807 ∧ (0 ≤ r ↔ P) ∧ Below w.heap.size w w'
set_option maxRecDepth 100000 in
set_option maxHeartbeats 4000000 in
theorem indexLong_any (A : Option Addr) (n c : Nat) (V : Nat → RV) (w : World) (hV : ValsIn w A n c V) :
    Calls Try.prog 40 #[.slice A n c, .func (.func 27) #[] #[]] w (FirstLong (∃ j, j < n ∧ tooLong (V j)) w) := by
  have HV := Lib.hid hV.1
  have n1 := hV.2.2.2
  clear hV
  go_enter Try.func40, Try.ntmps40
  go_wp2
  go_loopg [8] n (fun g1 vi wr => ∃ k : Nat, vi = .int .i64 k ∧ k ≤ n ∧ n - k ≤ g1 ∧ Hid (∀ j, j < k → ¬ tooLong (V j)) ∧ Hid (Below w.heap.size w wr))
  case atStart => exact ⟨0, rfl, by omega, by omega, Lib.hid (fun j hj => by omega), Lib.hid (Below.refl _ _)⟩
  case round =>
    rename World => W
    obtain ⟨k, rfl, hk, hg1, P, Bl⟩ := hrel
    by_cases hlt : k < n
    · have hkz : (k : Int) < n := by omega
      have hk0 : (0 : Int) ≤ k := by omega
      have HB := Lib.hid (HV.out.below Bl.out)
      obtain ⟨b, off, rfl, hb, hfive⟩ := HV.out.at_ hlt
      obtain ⟨h1, h2, h3, h4, h5⟩ := hfive.keep (w' := W) fun o => Bl.out.cell (p := ⟨b, o, none⟩) hb
      have PE : Hid (¬ tooLong (V k) → ∀ j, j < k + 1 → ¬ tooLong (V j)) := Lib.hid (fun he j hj => by
        rcases Nat.lt_or_ge j k with h | h
        · exact P.out j h
        · obtain rfl : j = k := by omega
          exact he)
      have PY : Hid (tooLong (V k) → FirstLong (∃ j, j < n ∧ tooLong (V j)) w (.returned (.int .i64 (k : Nat))) W) := Lib.hid (fun he => ⟨k, rfl, by omega, by omega, ⟨fun _ => ⟨k, hlt, he⟩, fun _ => by omega⟩, Bl.out⟩)
      have PY2 : Hid (tooLong (V k) → ∀ W', Below w.heap.size w W' → FirstLong (∃ j, j < n ∧ tooLong (V j)) w (.returned (.int .i64 (k : Nat))) W') := Lib.hid (fun he W' hW => ⟨k, rfl, by omega, by omega, ⟨fun _ => ⟨k, hlt, he⟩, fun _ => by omega⟩, hW⟩)
      clear hfive hb HB P PY
      generalize V k = v at h1 h2 h3 h4 h5 PE PY2
      have IL := Lib.hid (fun r hr => isLong_any v W r hr)
      unfold RV.val at IL
      by_cases he : tooLong v
      · have K := Lib.hid (IL.out true (by simp [he]))
        have Y := Lib.hid (PY2.out he)
        clear he IL PE PY2
        go_wp2_with (go_at_call 27; refine K.out.mono ?_; rintro e w5 ⟨rfl, hb⟩)
        have B5 : Hid (Below w.heap.size w w5) := Lib.hid (Bl.out.trans (hb.mono Bl.out.size))
        clear hb
        go_wp2
        go_ret
        exact Y.out _ B5.out
      · have K := Lib.hid (IL.out false (by simp [he]))
        have P2 := Lib.hid (PE.out he)
        clear he IL PE PY2
        go_wp2_with (go_at_call 27; refine K.out.mono ?_; rintro e w5 ⟨rfl, hb⟩)
        have B5 : Hid (Below w.heap.size w w5) := Lib.hid (Bl.out.trans (hb.mono Bl.out.size))
        clear hb h1 h2 h3 h4 h5
        go_wp2
        go_roundg (n - (k + 1))
        case measure => omega
        case rel => exact ⟨k + 1, by go_num, by omega, Nat.le_refl _, P2, B5⟩
    · obtain rfl : k = n := by omega
      have Y : Hid (FirstLong (∃ j, j < k ∧ tooLong (V j)) w (.returned (.int .i64 (-1))) W) := Lib.hid ⟨-1, rfl, by omega, by omega, ⟨fun h => by omega, fun ⟨j, hj, h⟩ => absurd h (P.out j hj)⟩, Bl.out⟩
      go_wp2
      go_ret
      exact Y.out
theorem anyLong_any (A : Option Addr) (n c : Nat) (V : Nat → RV) (w : World) (hV : ValsIn w A n c V) (r : Bool) (hr : r = true ↔ ∃ j, j < n ∧ tooLong (V j)) :
    Calls Try.prog 26 #[.slice A n c, .func (.func 27) #[] #[]] w fun e w' => e = .returned (.bool r) ∧ Below w.heap.size w w' := by
  have I := Lib.hid (indexLong_any A n c V w hV)
  have R := Lib.hid hr
  clear hV hr
  go_enter Try.func26, Try.ntmps26
  go_wp2_with (go_at_call 40; refine I.out.mono ?_; rintro e w5 ⟨x, rfl, x1, x2, x3, hb⟩; have X3 := Lib.hid x3; clear x3)
  have E : Hid (decide (0 ≤ x) = r) := Lib.hid (by rw [Bool.eq_iff_iff, decide_eq_true_eq, R.out]; exact X3.out)
  go_ret
  exact ⟨by rw [← E.out]; rfl, hb⟩
end Go.Proofs.Ytkjndgnjilfobaa
