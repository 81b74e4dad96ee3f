/-
  What fixed.size, Mul and Part answer, and that the document's Mul and Part do the same.
-/
import Derived.Test.YtcipphmijdibjaaPairs
namespace Go.Proofs.Ytcipphmijdibjaa
open Go.RowKit

theorem size_any (n : Int) (hn : -9223372036854775807 ≤ n ∧ n ≤ 9223372036854775807) (w : World) (x : Int) (hx : (n.natAbs : Int) = x) :
    Calls Try.prog 33 #[.int .i64 n] w fun e w' => e = .returned (.int .i64 x) ∧ w = w' := by
  have X := Lib.hid hx
  clear hx
  by_cases h : n < -n
  all_goals
    go_enter Try.func33, Try.ntmps33
    go_wp2
    go_ret
    exact ⟨ret_int (by rw [← X.out]; omega), rfl⟩

theorem fit_abs (x : Int) : Fit x ↔ (x.natAbs : Int) ≤ 1099511627776 := by unfold Fit; omega
theorem over_iff (a b : Int) (ha : a ≠ 0) : 1099511627776 / (a.natAbs : Int) < (b.natAbs : Int) ↔ ¬ Fit (a * b) := by
  rw [Int.ediv_lt_iff_lt_mul (by omega), fit_abs, Int.natAbs_mul, Int.natCast_mul, Int.mul_comm (b.natAbs : Int)]
  omega
def mulRes (a b : Int) : Int × Int := if Fit a ∧ Fit b then pair (a * b) else (0, 10)
theorem mul_any (a b : Int) (ha : Big a) (hb : Big b) (w : World) (p : Int × Int) (hp : mulRes a b = p) :
    Calls Try.prog 20 #[.int .i64 a, .int .i64 b] w fun e w' => e = .returned (.tuple #[.int .i64 p.1, .int .i64 p.2]) ∧ Below w.heap.size w w' := by
  have I := Lib.hid (fun W => Ints.two W a b ha hb)
  clear ha hb
  by_cases h : Fit a ∧ Fit b
  · have D : Hid (allFit (two a b) 2 = true) := Lib.hid (by rw [allFit_two]; simpa using h)
    have Q : Hid (pair (a * b) = p) := Lib.hid (by rw [← hp]; unfold mulRes; rw [if_pos h])
    clear hp
    unfold Fit at h
    obtain ⟨⟨h1, h2⟩, h3, h4⟩ := h
    by_cases h0 : a = 0
    · subst h0
      have Q2 : Hid (p = (0, 0)) := Lib.hid (by rw [← Q.out, Int.zero_mul]; exact pair_yes (by unfold Fit; omega))
      have hm : IntKind.i64.wrap (0 * b) = 0 := by rw [Int.zero_mul]; rfl
      go_enter Try.func20, Try.ntmps20
      go_wp2_with fail
      refine (fits_any _ _ _ (two 0 b) _ (I.out _ _) (by omega) true D.out).mono ?_
      rintro e w' ⟨rfl, rfl⟩
      go_wp2_with fail
      go_ret2
      exact ⟨ret_pair Q2.out, (Below.refl _ _).alloc (Nat.le_refl _) _⟩
    · have ov := over_iff a b h0
      have hz : (a == 0) = false := by simpa using h0
      have hz' : (a != 0) = true := by simpa using h0
      obtain ⟨t, ht⟩ : ∃ t, t = (a.natAbs : Int) := ⟨_, rfl⟩
      obtain ⟨s, hs⟩ : ∃ s, s = (b.natAbs : Int) := ⟨_, rfl⟩
      rw [← ht, ← hs] at ov
      have ht1 : 1 ≤ t := by omega
      have hs1 : 0 ≤ s := by omega
      have HT := Lib.hid ht.symm
      have HS := Lib.hid hs.symm
      clear ht hs h0
      by_cases hov : Fit (a * b)
      · have hlt : ¬ 1099511627776 / t < s := fun hh => (ov.1 hh) hov
        have Q2 : Hid (p = (a * b, 0)) := Lib.hid (by rw [← Q.out]; exact pair_yes hov)
        unfold Fit at hov
        obtain ⟨h5, h6⟩ := hov
        clear ov
        go_enter Try.func20, Try.ntmps20
        go_wp2_with fail
        refine (fits_any _ _ _ (two a b) _ (I.out _ _) (by omega) true D.out).mono ?_
        rintro e w' ⟨rfl, rfl⟩
        go_wp2_with fail
        refine (size_any b (by omega) _ s HS.out).mono ?_
        rintro e w' ⟨rfl, rfl⟩
        go_wp2_with fail
        refine (size_any a (by omega) _ t HT.out).mono ?_
        rintro e w' ⟨rfl, rfl⟩
        go_wp2_with fail
        go_ret2
        exact ⟨ret_pair Q2.out, (Below.refl _ _).alloc (Nat.le_refl _) _⟩
      · have hlt : 1099511627776 / t < s := ov.2 hov
        have Q2 : Hid (p = (0, 10)) := Lib.hid (by rw [← Q.out]; exact pair_no hov)
        clear ov hov
        go_enter Try.func20, Try.ntmps20
        go_wp2_with fail
        refine (fits_any _ _ _ (two a b) _ (I.out _ _) (by omega) true D.out).mono ?_
        rintro e w' ⟨rfl, rfl⟩
        go_wp2_with fail
        refine (size_any b (by omega) _ s HS.out).mono ?_
        rintro e w' ⟨rfl, rfl⟩
        go_wp2_with fail
        refine (size_any a (by omega) _ t HT.out).mono ?_
        rintro e w' ⟨rfl, rfl⟩
        go_wp2_with fail
        go_ret2
        exact ⟨ret_pair Q2.out, (Below.refl _ _).alloc (Nat.le_refl _) _⟩
  · have D : Hid (allFit (two a b) 2 = false) := Lib.hid (by rw [allFit_two]; simpa using h)
    have Q : Hid (p = (0, 10)) := Lib.hid (by rw [← hp]; unfold mulRes; rw [if_neg h])
    clear hp h
    go_enter Try.func20, Try.ntmps20
    go_wp2_with fail
    refine (fits_any _ _ _ (two a b) _ (I.out _ _) (by omega) false D.out).mono ?_
    rintro e w' ⟨rfl, rfl⟩
    go_wp2_with fail
    go_ret2
    exact ⟨ret_pair Q.out, (Below.refl _ _).alloc (Nat.le_refl _) _⟩
theorem refMul_nz (a b : Int) (h3 : -1099511627776 ≤ a) (h4 : a ≤ 1099511627776) (h5 : -1099511627776 ≤ b) (h6 : b ≤ 1099511627776) (h0 : a ≠ 0) (h0' : b ≠ 0) (w : World) (p : Int × Int)
    (q : Int) (hq : 1099511627776 / (b.natAbs : Int) = q) (hp : (q < (a.natAbs : Int) ∧ p = (0, 10)) ∨ (¬ q < (a.natAbs : Int) ∧ p = (a * b, 0) ∧ -1099511627776 ≤ a * b ∧ a * b ≤ 1099511627776)) :
    Calls Try.prog 21 #[.int .i64 a, .int .i64 b] w fun e w' => e = .returned (.tuple #[.int .i64 p.1, .int .i64 p.2]) ∧ w = w' := by
  have D1 : Hid (decide (Fit a) = true) := Lib.hid (decide_eq_true (p := Fit a) ⟨h3, h4⟩)
  have D2 : Hid (decide (Fit b) = true) := Lib.hid (decide_eq_true (p := Fit b) ⟨h5, h6⟩)
  have hz : (a == 0) = false := by simpa using h0
  have hz' : (b == 0) = false := by simpa using h0'
  have q1 : 0 ≤ q := by rw [← hq]; exact Int.ediv_nonneg (by omega) (by omega)
  have q2 : q ≤ 1099511627776 := by rw [← hq]; exact Int.ediv_le_self _ (by omega)
  obtain ⟨t, ht⟩ : ∃ t, t = (a.natAbs : Int) := ⟨_, rfl⟩
  rw [← ht] at hp
  by_cases hb : b < 0
  · have hQ : wrap64 (-Int.tdiv 1099511627776 b) = q := by
      rw [← Int.tdiv_neg, Int.tdiv_eq_ediv_of_nonneg (by omega), show (-b) = (b.natAbs : Int) by omega, hq]
      exact IntWalk.wrap64_in _ ⟨by omega, by omega⟩
    clear hq
    by_cases ha : a < 0
    · obtain rfl : t = -a := by omega
      clear ht h0 h0'
      rcases hp with ⟨hlt, Q⟩ | ⟨hlt, Q, h7, h8⟩
      all_goals
        have Q2 := Lib.hid Q
        clear Q
        go_enter Try.func21, Try.ntmps21
        go_wp2_with fail
        refine (refFits_any _ _ true D1.out).mono ?_
        rintro e w' ⟨rfl, rfl⟩
        go_wp2_with fail
        refine (refFits_any _ _ true D2.out).mono ?_
        rintro e w' ⟨rfl, rfl⟩
        go_wp2_with fail
        go_ret2
        exact ⟨ret_pair Q2.out, rfl⟩
    · obtain rfl : t = a := by omega
      clear ht h0 h0'
      rcases hp with ⟨hlt, Q⟩ | ⟨hlt, Q, h7, h8⟩
      all_goals
        have Q2 := Lib.hid Q
        clear Q
        go_enter Try.func21, Try.ntmps21
        go_wp2_with fail
        refine (refFits_any _ _ true D1.out).mono ?_
        rintro e w' ⟨rfl, rfl⟩
        go_wp2_with fail
        refine (refFits_any _ _ true D2.out).mono ?_
        rintro e w' ⟨rfl, rfl⟩
        go_wp2_with fail
        go_ret2
        exact ⟨ret_pair Q2.out, rfl⟩
  · have hQ : 1099511627776 / b = q := by
      rw [← hq, show (b.natAbs : Int) = b by omega]
    have hb1 : 1 ≤ b := by omega
    clear hq
    by_cases ha : a < 0
    · obtain rfl : t = -a := by omega
      clear ht h0 h0'
      rcases hp with ⟨hlt, Q⟩ | ⟨hlt, Q, h7, h8⟩
      all_goals
        have Q2 := Lib.hid Q
        clear Q
        go_enter Try.func21, Try.ntmps21
        go_wp2_with fail
        refine (refFits_any _ _ true D1.out).mono ?_
        rintro e w' ⟨rfl, rfl⟩
        go_wp2_with fail
        refine (refFits_any _ _ true D2.out).mono ?_
        rintro e w' ⟨rfl, rfl⟩
        go_wp2_with fail
        go_ret2
        exact ⟨ret_pair Q2.out, rfl⟩
    · obtain rfl : t = a := by omega
      clear ht h0 h0'
      rcases hp with ⟨hlt, Q⟩ | ⟨hlt, Q, h7, h8⟩
      all_goals
        have Q2 := Lib.hid Q
        clear Q
        go_enter Try.func21, Try.ntmps21
        go_wp2_with fail
        refine (refFits_any _ _ true D1.out).mono ?_
        rintro e w' ⟨rfl, rfl⟩
        go_wp2_with fail
        refine (refFits_any _ _ true D2.out).mono ?_
        rintro e w' ⟨rfl, rfl⟩
        go_wp2_with fail
        go_ret2
        exact ⟨ret_pair Q2.out, rfl⟩
theorem refMul_any (a b : Int) (w : World) (p : Int × Int) (hp : mulRes a b = p) :
    Calls Try.prog 21 #[.int .i64 a, .int .i64 b] w fun e w' => e = .returned (.tuple #[.int .i64 p.1, .int .i64 p.2]) ∧ w = w' := by
  by_cases h1 : Fit a
  · have D1 : Hid (decide (Fit a) = true) := Lib.hid (by simpa using h1)
    by_cases h2 : Fit b
    · have D2 : Hid (decide (Fit b) = true) := Lib.hid (by simpa using h2)
      have Q : Hid (pair (a * b) = p) := Lib.hid (by rw [← hp]; unfold mulRes; rw [if_pos ⟨h1, h2⟩])
      clear hp
      unfold Fit at h1 h2
      obtain ⟨h3, h4⟩ := h1
      obtain ⟨h5, h6⟩ := h2
      by_cases h0 : a = 0
      · have Q2 : Hid (p = (0, 0)) := Lib.hid (by rw [← Q.out, h0, Int.zero_mul]; exact pair_yes (by unfold Fit; omega))
        have hz : (a == 0) = true := by simpa using h0
        clear h0
        go_enter Try.func21, Try.ntmps21
        go_wp2_with fail
        refine (refFits_any _ _ true D1.out).mono ?_
        rintro e w' ⟨rfl, rfl⟩
        go_wp2_with fail
        refine (refFits_any _ _ true D2.out).mono ?_
        rintro e w' ⟨rfl, rfl⟩
        go_wp2_with fail
        go_ret2
        exact ⟨ret_pair Q2.out, rfl⟩
      · by_cases h0' : b = 0
        · have Q2 : Hid (p = (0, 0)) := Lib.hid (by rw [← Q.out, h0', Int.mul_zero]; exact pair_yes (by unfold Fit; omega))
          have hz : (a == 0) = false := by simpa using h0
          have hz' : (b == 0) = true := by simpa using h0'
          clear h0 h0'
          go_enter Try.func21, Try.ntmps21
          go_wp2_with fail
          refine (refFits_any _ _ true D1.out).mono ?_
          rintro e w' ⟨rfl, rfl⟩
          go_wp2_with fail
          refine (refFits_any _ _ true D2.out).mono ?_
          rintro e w' ⟨rfl, rfl⟩
          go_wp2_with fail
          go_ret2
          exact ⟨ret_pair Q2.out, rfl⟩
        · have ov := over_iff b a h0'
          rw [Int.mul_comm b a] at ov
          refine refMul_nz a b h3 h4 h5 h6 h0 h0' w p _ rfl ?_
          by_cases hov : Fit (a * b)
          · exact .inr ⟨fun hh => (ov.1 hh) hov, by rw [← Q.out]; exact pair_yes hov, hov.1, hov.2⟩
          · exact .inl ⟨ov.2 hov, by rw [← Q.out]; exact pair_no hov⟩
    · have D2 : Hid (decide (Fit b) = false) := Lib.hid (by simpa using h2)
      have Q : Hid (p = (0, 10)) := Lib.hid (by rw [← hp]; unfold mulRes; rw [if_neg (by simp [h2])])
      clear hp h1 h2
      go_enter Try.func21, Try.ntmps21
      go_wp2_with fail
      refine (refFits_any _ _ true D1.out).mono ?_
      rintro e w' ⟨rfl, rfl⟩
      go_wp2_with fail
      refine (refFits_any _ _ false D2.out).mono ?_
      rintro e w' ⟨rfl, rfl⟩
      go_wp2_with fail
      go_ret2
      exact ⟨ret_pair Q.out, rfl⟩
  · have D1 : Hid (decide (Fit a) = false) := Lib.hid (by simpa using h1)
    have Q : Hid (p = (0, 10)) := Lib.hid (by rw [← hp]; unfold mulRes; rw [if_neg (by simp [h1])])
    clear hp h1
    go_enter Try.func21, Try.ntmps21
    go_wp2_with fail
    refine (refFits_any _ _ false D1.out).mono ?_
    rintro e w' ⟨rfl, rfl⟩
    go_wp2_with fail
    go_ret2
    exact ⟨ret_pair Q.out, rfl⟩
end Go.Proofs.Ytcipphmijdibjaa
