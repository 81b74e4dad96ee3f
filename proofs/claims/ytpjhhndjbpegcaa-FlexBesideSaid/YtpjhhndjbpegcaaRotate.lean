/-
  slices.swapRangeCmpFunc and rotateCmpFunc over a row of places.
-/
import Derived.Test.YtpjhhndjbpegcaaInsert
import Derived.Test.YtpjhhndjbpegcaaMergeMath
namespace Go.Proofs.Ytpjhhndjbpegcaa
open Go.RowKit

set_option maxHeartbeats 1000000 in
theorem swapRange_any (a b m n c : Nat) (g bx bl : Nat) (L : Nat → Int) (p : Nat → Nat) (f : Value) (w0 w : World) (hab : a + m ≤ b) (hb : b + m ≤ n) (hn : n ≤ 1048576) (h : Row w0 w g bx bl n L p) :
    Calls Try.prog 50 #[.slice (some ⟨g, 0, none⟩) n c, .int .i64 a, .int .i64 b, .int .i64 m, f] w fun e w' =>
      e = .returned (.tuple #[]) ∧ Row w0 w' g bx bl n L (sr p a b m) := by
  have H := Lib.hid h
  clear h
  go_enter Try.func50, Try.ntmps50
  go_wp2
  go_loopg [10] m (fun g1 vi wr => ∃ i : Nat, vi = .int .i64 i ∧ i ≤ m ∧ m - i ≤ g1 ∧ Hid (Row w0 wr g bx bl n L (sr p a b i)))
  case atStart => exact ⟨0, rfl, by omega, by omega, Lib.hid (by rw [sr_zero]; exact H.out)⟩
  case round =>
    obtain ⟨i, rfl, him, hg1, HR⟩ := hrel
    by_cases hlt : i < m
    · have hltz : (i : Int) < (m : Int) := by omega
      have c1 := HR.out.cell (i := a + i) (by omega)
      have c2 := HR.out.cell (i := b + i) (by omega)
      have f1 := HR.out.free (a + i)
      have f2 := HR.out.free (b + i)
      generalize hx : ((sr p a b i (a + i) : Nat) : Int) = x at c1
      generalize hy : ((sr p a b i (b + i) : Nat) : Int) = y at c2
      have X := Lib.hid hx
      have Y := Lib.hid hy
      clear hx hy
      have z1 : IntKind.i64.wrap ((a : Int) + i) = (a : Int) + i := IntWalk.i64_in _ (by omega)
      have z2 : IntKind.i64.wrap ((b : Int) + i) = (b : Int) + i := IntWalk.i64_in _ (by omega)
      have z3 : (0 : Int) ≤ (a : Int) + i := by omega
      have z4 : (0 : Int) ≤ (b : Int) + i := by omega
      have z5 : (a : Int) + i < n := by omega
      have z6 : (b : Int) + i < n := by omega
      have e1 : ((a : Int) + i).toNat = a + i := by omega
      have e2 : ((b : Int) + i).toNat = b + i := by omega
      have ne : ¬ a + i = b + i := by omega
      go_wp2_with fail
      go_region
      all_goals go_wp2
      go_roundg (m - (i + 1))
      case measure => omega
      case rel =>
        have K := (HR.out.swap (i := a + i) (j := b + i) (by omega) (by omega)).drew
        rw [X.out, Y.out, sr_step p (by omega)] at K
        exact ⟨i + 1, by go_num, by omega, by omega, Lib.hid K⟩
    · obtain rfl : i = m := by omega
      go_wp2
      go_end0
      exact ⟨rfl, HR.out⟩
set_option maxHeartbeats 1000000 in
theorem rotate_any (a m b n c : Nat) (g bx bl : Nat) (L : Nat → Int) (p : Nat → Nat) (f : Value) (w0 w : World) (ham : a < m) (hmb : m < b) (hb : b ≤ n) (hn : n ≤ 1048576) (h : Row w0 w g bx bl n L p) :
    Calls Try.prog 49 #[.slice (some ⟨g, 0, none⟩) n c, .int .i64 a, .int .i64 m, .int .i64 b, f] w fun e w' =>
      e = .returned (.tuple #[]) ∧ Row w0 w' g bx bl n L (rot p a m b) := by
  have H := Lib.hid h
  clear h
  go_enter Try.func49, Try.ntmps49
  go_wp2
  go_loopg [10, 11] (b - a) (fun g1 vi vj wr => ∃ (i j : Nat) (q : Nat → Nat), vi = .int .i64 i ∧ vj = .int .i64 j ∧ 0 < i ∧ 0 < j ∧ i ≤ m - a ∧ j ≤ b - m ∧ i + j ≤ g1 ∧ Hid (rot q (m - i) m (m + j) = rot p a m b) ∧ Hid (Row w0 wr g bx bl n L q))
  case atStart =>
    exact ⟨m - a, b - m, p, by congr 1; omega, by congr 1; omega, by omega, by omega, by omega, by omega, by omega, Lib.hid (by congr 1 <;> omega), H⟩
  case round =>
    obtain ⟨i, j, q, rfl, rfl, hi, hj, hia, hjb, hg1, HQ, HR⟩ := hrel
    by_cases hne : i = j
    · subst hne
      have hz : ((i : Int) != i) = false := by simp
      go_wp2_with fail
      rw [show ((m : Int) - i) = ((m - i : Nat) : Int) from by omega]
      refine (swapRange_any (m - i) m i n c g bx bl L q f w0 _ (by omega) (by omega) hn HR.out).mono ?_
      rintro e w' ⟨rfl, hr⟩
      rw [rot_eq q (by omega), HQ.out] at hr
      have R := Lib.hid hr
      clear hr
      go_wp2_with fail
      go_end0
      exact ⟨rfl, R.out⟩
    · have hz : ((i : Int) != j) = true := by simp; omega
      by_cases hgt : j < i
      · have hz2 : (j : Int) < i := by omega
        go_wp2_with fail
        rw [show ((m : Int) - i) = ((m - i : Nat) : Int) from by omega]
        refine (swapRange_any (m - i) m j n c g bx bl L q f w0 _ (by omega) (by omega) hn HR.out).mono ?_
        rintro e w' ⟨rfl, hr⟩
        have R := Lib.hid hr
        have Q2 : Hid (rot (sr q (m - i) m j) (m - (i - j)) m (m + j) = rot p a m b) := Lib.hid (by
          rw [show m - (i - j) = m - i + j by omega, rot_gt q (by omega) hgt, HQ.out])
        clear hr
        go_wp2
        go_roundg (i - j + j)
        case measure => omega
        case rel => exact ⟨i - j, j, _, by congr 1; omega, rfl, by omega, by omega, by omega, by omega, by omega, Q2, R⟩
      · have hz2 : ¬ (j : Int) < i := by omega
        go_wp2_with fail
        rw [show ((m : Int) - i) = ((m - i : Nat) : Int) from by omega, show ((m : Int) + j - i) = ((m + j - i : Nat) : Int) from by omega]
        refine (swapRange_any (m - i) (m + j - i) i n c g bx bl L q f w0 _ (by omega) (by omega) hn HR.out).mono ?_
        rintro e w' ⟨rfl, hr⟩
        have R := Lib.hid hr
        have Q2 : Hid (rot (sr q (m - i) (m + j - i) i) (m - i) m (m + (j - i)) = rot p a m b) := Lib.hid (by
          rw [rot_lt q (by omega) (by omega), HQ.out])
        clear hr
        go_wp2
        go_roundg (i + (j - i))
        case measure => omega
        case rel => exact ⟨i, j - i, _, rfl, by congr 1; omega, by omega, by omega, by omega, by omega, by omega, Q2, R⟩
end Go.Proofs.Ytpjhhndjbpegcaa
