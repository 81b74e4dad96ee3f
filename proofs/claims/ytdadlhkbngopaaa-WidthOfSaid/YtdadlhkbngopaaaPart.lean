/-
  What fixed.Part answers, and that the document's does the same.
-/
import Derived.Test.YtdadlhkbngopaaaMul
namespace Go.Proofs.Ytdadlhkbngopaaa
open Go.RowKit

def partRes (n x : Int) : Int × Int := if n < 0 ∨ 100000 < n then (0, 2) else if Fit x then pair ((n * x).tdiv 10000) else (0, 10)
theorem part_bd (n x : Int) (hn : 0 ≤ n ∧ n ≤ 100000) (hx : Fit x) : -109951162777600000 ≤ n * x ∧ n * x ≤ 109951162777600000 := by
  unfold Fit at hx
  have h1 : n * x ≤ n * 1099511627776 := Int.mul_le_mul_of_nonneg_left hx.2 hn.1
  have h2 : n * (-1099511627776) ≤ n * x := Int.mul_le_mul_of_nonneg_left hx.1 hn.1
  omega
theorem tdiv_bd (y : Int) (hy : -109951162777600000 ≤ y ∧ y ≤ 109951162777600000) : Big (y.tdiv 10000) := by
  unfold Big
  by_cases h : 0 ≤ y
  · rw [Int.tdiv_eq_ediv_of_nonneg h]
    omega
  · obtain ⟨z, rfl⟩ : ∃ z, y = -z := ⟨-y, by omega⟩
    rw [Int.neg_tdiv, Int.tdiv_eq_ediv_of_nonneg (by omega)]
    omega
theorem part_any (n x : Int) (hx : Big x) (w : World) (p : Int × Int) (hp : partRes n x = p) :
    Calls Try.prog 37 #[.int .i64 n, .int .i64 x] w fun e w' => e = .returned (.tuple #[.int .i64 p.1, .int .i64 p.2]) ∧ Below w.heap.size w w' := by
  have I := Lib.hid (fun W => Ints.one W x hx)
  clear hx
  by_cases h1 : n < 0 ∨ 100000 < n
  · have Q : Hid (p = (0, 2)) := Lib.hid (by rw [← hp]; unfold partRes; rw [if_pos h1])
    clear hp
    rcases h1 with h1 | h1
    all_goals
      go_enter Try.func37, Try.ntmps37
      go_wp2_with fail
      go_ret2
      exact ⟨ret_pair Q.out, Below.refl _ _⟩
  · by_cases h2 : Fit x
    · have D : Hid (allFit (fun _ => x) 1 = true) := Lib.hid (by simp [allFit, h2])
      have Q : Hid (pair ((n * x).tdiv 10000) = p) := Lib.hid (by rw [← hp]; unfold partRes; rw [if_neg h1, if_pos h2])
      have hb := part_bd n x (by omega) h2
      have hB := Lib.hid (tdiv_bd _ hb)
      obtain ⟨y, hy⟩ : ∃ y, n * x = y := ⟨_, rfl⟩
      rw [hy] at hb hB Q
      clear hp h2
      have h3 : ¬ n < 0 := by omega
      have h4 : ¬ 100000 < n := by omega
      clear h1
      go_enter Try.func37, Try.ntmps37
      go_wp2_with fail
      refine (fits_any _ _ _ (fun _ => x) _ (I.out _ _) (by omega) true D.out).mono ?_
      rintro e w' ⟨rfl, rfl⟩
      go_wp2_with fail
      refine (length_any _ hB.out _ p Q.out).mono ?_
      rintro e w' ⟨rfl, hb⟩
      go_wp2_with fail
      go_ret2
      exact ⟨rfl, ((Below.refl _ _).alloc (Nat.le_refl _) _).trans (hb.mono (by simp))⟩
    · have D : Hid (allFit (fun _ => x) 1 = false) := Lib.hid (by simp [allFit, h2])
      have Q : Hid (p = (0, 10)) := Lib.hid (by rw [← hp]; unfold partRes; rw [if_neg h1, if_neg h2])
      clear hp h2
      have h3 : ¬ n < 0 := by omega
      have h4 : ¬ 100000 < n := by omega
      clear h1
      go_enter Try.func37, Try.ntmps37
      go_wp2_with fail
      refine (fits_any _ _ _ (fun _ => x) _ (I.out _ _) (by omega) false D.out).mono ?_
      rintro e w' ⟨rfl, rfl⟩
      go_wp2_with fail
      go_ret2
      exact ⟨ret_pair Q.out, (Below.refl _ _).alloc (Nat.le_refl _) _⟩
theorem refPart_any (n x : Int) (w : World) (p : Int × Int) (hp : partRes n x = p) :
    Calls Try.prog 44 #[.int .i64 n, .int .i64 x] w fun e w' => e = .returned (.tuple #[.int .i64 p.1, .int .i64 p.2]) ∧ w = w' := by
  by_cases h1 : n < 0 ∨ 100000 < n
  · have Q : Hid (p = (0, 2)) := Lib.hid (by rw [← hp]; unfold partRes; rw [if_pos h1])
    clear hp
    rcases h1 with h1 | h1
    all_goals
      go_enter Try.func44, Try.ntmps44
      go_wp2_with fail
      go_ret2
      exact ⟨ret_pair Q.out, rfl⟩
  · by_cases h2 : Fit x
    · have D : Hid (decide (Fit x) = true) := Lib.hid (by simpa using h2)
      have Q : Hid (pair ((x * n).tdiv 10000) = p) := Lib.hid (by rw [← hp]; unfold partRes; rw [if_neg h1, if_pos h2, Int.mul_comm])
      have hb := part_bd n x (by omega) h2
      rw [Int.mul_comm] at hb
      obtain ⟨y, hy⟩ : ∃ y, x * n = y := ⟨_, rfl⟩
      rw [hy] at hb Q
      clear hp h2
      have h3 : ¬ n < 0 := by omega
      have h4 : ¬ 100000 < n := by omega
      clear h1
      by_cases hU : Fit (y.tdiv 10000)
      · have D2 : Hid (decide (Fit (y.tdiv 10000)) = true) := Lib.hid (by simpa using hU)
        have Q2 : Hid (p = (y.tdiv 10000, 0)) := Lib.hid (by rw [← Q.out]; exact pair_yes hU)
        clear hU Q
        go_enter Try.func44, Try.ntmps44
        go_wp2_with fail
        refine (refFits_any _ _ true D.out).mono ?_
        rintro e w' ⟨rfl, rfl⟩
        go_wp2_with fail
        refine (refFits_any _ _ true D2.out).mono ?_
        rintro e w' ⟨rfl, rfl⟩
        go_wp2_with fail
        go_ret2
        exact ⟨ret_pair Q2.out, rfl⟩
      · have D2 : Hid (decide (Fit (y.tdiv 10000)) = false) := Lib.hid (by simpa using hU)
        have Q2 : Hid (p = (0, 10)) := Lib.hid (by rw [← Q.out]; exact pair_no hU)
        clear hU Q
        go_enter Try.func44, Try.ntmps44
        go_wp2_with fail
        refine (refFits_any _ _ true D.out).mono ?_
        rintro e w' ⟨rfl, rfl⟩
        go_wp2_with fail
        refine (refFits_any _ _ false D2.out).mono ?_
        rintro e w' ⟨rfl, rfl⟩
        go_wp2_with fail
        go_ret2
        exact ⟨ret_pair Q2.out, rfl⟩
    · have D : Hid (decide (Fit x) = false) := Lib.hid (by simpa using h2)
      have Q : Hid (p = (0, 10)) := Lib.hid (by rw [← hp]; unfold partRes; rw [if_neg h1, if_neg h2])
      clear hp h2
      have h3 : ¬ n < 0 := by omega
      have h4 : ¬ 100000 < n := by omega
      clear h1
      go_enter Try.func44, Try.ntmps44
      go_wp2_with fail
      refine (refFits_any _ _ false D.out).mono ?_
      rintro e w' ⟨rfl, rfl⟩
      go_wp2_with fail
      go_ret2
      exact ⟨ret_pair Q.out, rfl⟩
end Go.Proofs.Ytdadlhkbngopaaa
