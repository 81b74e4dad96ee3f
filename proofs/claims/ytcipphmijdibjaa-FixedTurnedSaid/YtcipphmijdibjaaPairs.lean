/-
  What fixed.Sub, Mul, Part and Clamp answer, and that the document's do the same.
-/
import Derived.Test.YtcipphmijdibjaaLists
namespace Go.Proofs.Ytcipphmijdibjaa
open Go.RowKit

theorem ret_int {k : IntKind} {a b : Int} (h : a = b) : Ending.returned (.int k a) = .returned (.int k b) := by rw [h]
theorem ret_pair {a b : Int} {p : Int × Int} (h : p = (a, b)) : Ending.returned (.tuple #[.int .i64 a, .int .i64 b]) = .returned (.tuple #[.int .i64 p.1, .int .i64 p.2]) := by rw [h]
def two (a b : Int) (i : Nat) : Int := if i = 0 then a else b
theorem Ints.two (w : World) (a b : Int) (ha : -9223372036854775808 ≤ a ∧ a ≤ 9223372036854775807) (hb : -9223372036854775808 ≤ b ∧ b ≤ 9223372036854775807) (t : TypeId) :
    Ints (w.alloc (.cells #[.int .i64 a, .int .i64 b] t)) (some ⟨w.heap.size, 0, none⟩) 2 (two a b) := by
  refine ⟨fun i hi => ?_, fun _ => ⟨_, _, rfl, by simp, fun i hi => ?_⟩⟩
  · unfold Proofs.Ytcipphmijdibjaa.two; split <;> assumption
  · rcases (show i = 0 ∨ i = 1 by omega) with rfl | rfl <;> simp [World.cell?_alloc_at, Proofs.Ytcipphmijdibjaa.two]
theorem allFit_two (a b : Int) : allFit (two a b) 2 = decide (Fit a ∧ Fit b) := by
  unfold allFit
  rw [decide_eq_decide]
  constructor
  · intro h
    exact ⟨h 0 (by omega), h 1 (by omega)⟩
  · rintro ⟨h1, h2⟩ i hi
    rcases (show i = 0 ∨ i = 1 by omega) with rfl | rfl
    · exact h1
    · exact h2
def Big (x : Int) : Prop := -9223372036854775808 ≤ x ∧ x ≤ 9223372036854775807

/-! ### the difference -/
def subRes (a b : Int) : Int × Int := if Fit a ∧ Fit b then pair (a - b) else (0, 10)
theorem sub_any (a b : Int) (ha : Big a) (hb : Big b) (w : World) (p : Int × Int) (hp : subRes a b = p) :
    Calls Try.prog 18 #[.int .i64 a, .int .i64 b] w fun e w' => e = .returned (.tuple #[.int .i64 p.1, .int .i64 p.2]) ∧ Below w.heap.size w w' := by
  have I := Lib.hid (fun W => Ints.two W a b ha hb)
  clear ha hb
  by_cases h : Fit a ∧ Fit b
  · have D : Hid (allFit (two a b) 2 = true) := Lib.hid (by rw [allFit_two]; simpa using h)
    have Q : Hid (pair (a - b) = p) := Lib.hid (by rw [← hp]; unfold subRes; rw [if_pos h])
    clear hp
    unfold Fit at h
    obtain ⟨⟨h1, h2⟩, h3, h4⟩ := h
    go_enter Try.func18, Try.ntmps18
    go_wp2_with (first | (go_at_call 15; refine (fits_any _ _ _ (two a b) _ (I.out _ _) (by omega) true D.out).mono ?_; rintro e w' ⟨rfl, rfl⟩) | (go_at_call 31; refine (length_any _ (by omega) _ p Q.out).mono ?_; rintro e w' ⟨rfl, hb⟩))
    go_ret2
    exact ⟨rfl, ((Below.refl _ _).alloc (Nat.le_refl _) _).trans (hb.mono (by simp))⟩
  · have D : Hid (allFit (two a b) 2 = false) := Lib.hid (by rw [allFit_two]; simpa using h)
    have Q : Hid (p = (0, 10)) := Lib.hid (by rw [← hp]; unfold subRes; rw [if_neg h])
    clear hp h
    go_enter Try.func18, Try.ntmps18
    go_wp2_with (go_at_call 15; refine (fits_any _ _ _ (two a b) _ (I.out _ _) (by omega) false D.out).mono ?_; rintro e w' ⟨rfl, rfl⟩)
    go_ret2
    exact ⟨ret_pair Q.out, (Below.refl _ _).alloc (Nat.le_refl _) _⟩
theorem refSub_any (a b : Int) (w : World) (p : Int × Int) (hp : subRes a b = p) :
    Calls Try.prog 19 #[.int .i64 a, .int .i64 b] w fun e w' => e = .returned (.tuple #[.int .i64 p.1, .int .i64 p.2]) ∧ Below w.heap.size w w' := by
  by_cases h1 : Fit a
  · have D1 : Hid (decide (Fit a) = true) := Lib.hid (by simpa using h1)
    by_cases h2 : Fit b
    · have D2 : Hid (decide (Fit b) = true) := Lib.hid (by simpa using h2)
      have Q : Hid (addRes (two a (-b)) 2 = p) := Lib.hid (by
        rw [← hp]
        have e1 : allFit (two a (-b)) 2 = true := by
          rw [allFit_two, decide_eq_true_eq]
          exact ⟨h1, by unfold Fit at *; omega⟩
        have e2 : sumI (two a (-b)) 2 = a - b := by simp [sumI, two]; omega
        simp only [subRes, addRes, e1, e2, h1, h2, and_self, if_true])
      clear hp
      unfold Fit at h1 h2
      obtain ⟨h3, h4⟩ := h1
      obtain ⟨h5, h6⟩ := h2
      have I := Lib.hid (fun W => Ints.two W a (-b) (by omega) (by omega))
      go_enter Try.func19, Try.ntmps19
      go_wp2_with fail
      refine (refFits_any _ _ true D1.out).mono ?_
      rintro e w' ⟨rfl, rfl⟩
      go_wp2_with fail
      refine (refFits_any _ _ true D2.out).mono ?_
      rintro e w' ⟨rfl, rfl⟩
      go_wp2_with fail
      refine (refAdd_any _ _ _ (two a (-b)) _ (I.out _ _) (by omega) p Q.out).mono ?_
      rintro e w' ⟨rfl, rfl⟩
      go_wp2_with fail
      go_ret2
      exact ⟨rfl, (Below.refl _ _).alloc (Nat.le_refl _) _⟩
    · have D2 : Hid (decide (Fit b) = false) := Lib.hid (by simpa using h2)
      have Q : Hid (p = (0, 10)) := Lib.hid (by rw [← hp]; unfold subRes; rw [if_neg (by simp [h2])])
      clear hp h1 h2
      go_enter Try.func19, Try.ntmps19
      go_wp2_with fail
      refine (refFits_any _ _ true D1.out).mono ?_
      rintro e w' ⟨rfl, rfl⟩
      go_wp2_with fail
      refine (refFits_any _ _ false D2.out).mono ?_
      rintro e w' ⟨rfl, rfl⟩
      go_wp2_with fail
      go_ret2
      exact ⟨ret_pair Q.out, Below.refl _ _⟩
  · have D1 : Hid (decide (Fit a) = false) := Lib.hid (by simpa using h1)
    have Q : Hid (p = (0, 10)) := Lib.hid (by rw [← hp]; unfold subRes; rw [if_neg (by simp [h1])])
    clear hp h1
    go_enter Try.func19, Try.ntmps19
    go_wp2_with fail
    refine (refFits_any _ _ false D1.out).mono ?_
    rintro e w' ⟨rfl, rfl⟩
    go_wp2_with fail
    go_ret2
    exact ⟨ret_pair Q.out, Below.refl _ _⟩

/-! ### a number between two -/
def clampV (n l m : Int) : Int := max (min n m) l
theorem clamp_any (n l m : Int) (w : World) (x : Int) (hx : clampV n l m = x) :
    Calls Try.prog 24 #[.int .i64 n, .int .i64 l, .int .i64 m] w fun e w' => e = .returned (.int .i64 x) ∧ w = w' := by
  have X := Lib.hid hx
  clear hx
  by_cases h1 : m < n
  · by_cases h2 : m < l
    all_goals
      go_enter Try.func24, Try.ntmps24
      go_wp2
      go_ret
      exact ⟨ret_int (by rw [← X.out]; unfold clampV; omega), rfl⟩
  · by_cases h2 : n < l
    all_goals
      go_enter Try.func24, Try.ntmps24
      go_wp2
      go_ret
      exact ⟨ret_int (by rw [← X.out]; unfold clampV; omega), rfl⟩
theorem refClamp_any (n l m : Int) (w : World) (x : Int) (hx : clampV n l m = x) :
    Calls Try.prog 25 #[.int .i64 n, .int .i64 l, .int .i64 m] w fun e w' => e = .returned (.int .i64 x) ∧ w = w' := by
  have X := Lib.hid hx
  clear hx
  by_cases h1 : m < n
  · by_cases h2 : m < l
    all_goals
      go_enter Try.func25, Try.ntmps25
      go_wp2
      go_ret
      exact ⟨ret_int (by rw [← X.out]; unfold clampV; omega), rfl⟩
  · by_cases h2 : n < l
    all_goals
      go_enter Try.func25, Try.ntmps25
      go_wp2
      go_ret
      exact ⟨ret_int (by rw [← X.out]; unfold clampV; omega), rfl⟩
end Go.Proofs.Ytcipphmijdibjaa
