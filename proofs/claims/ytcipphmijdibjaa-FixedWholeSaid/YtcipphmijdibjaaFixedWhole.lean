/-
  The law FixedWhole: a part of 10,000 is the whole; of a greater number a part is no smaller, and more parts are no less; no part is farther from what it would be exactly than 1.
-/
import Derived.Test.YtcipphmijdibjaaAwake
namespace Go.Proofs.Ytcipphmijdibjaa
open Go.RowKit

theorem partRes_pos {n x : Int} (hn : 0 ≤ n ∧ n ≤ 100000) (hx : 0 ≤ x ∧ x ≤ 1099511627776) : partRes n x = pair (n * x / 10000) := by
  have h : 0 ≤ n * x := Int.mul_nonneg hn.1 hx.1
  unfold partRes
  rw [if_neg (by omega), if_pos (by unfold Fit; omega), Int.tdiv_eq_ediv_of_nonneg h]
theorem pair_cases (x : Int) (hx : 0 ≤ x) : ∃ y e, pair x = (y, e) ∧ ((e = 0 ∧ y = x ∧ x ≤ 1099511627776) ∨ (e = 10 ∧ y = 0 ∧ 1099511627776 < x)) := by
  by_cases h : Fit x
  · exact ⟨x, 0, pair_yes h, .inl ⟨rfl, rfl, h.2⟩⟩
  · exact ⟨0, 10, pair_no h, .inr ⟨rfl, rfl, by unfold Fit at h; omega⟩⟩
set_option maxRecDepth 100000 in
set_option maxHeartbeats 4000000 in
theorem walkFixedWhole (a b n m : Int) (_ha : (Lit.int .i64 a).wf = true) (_hb : (Lit.int .i64 b).wf = true) (_hn : (Lit.int .i64 n).wf = true) (_hm : (Lit.int .i64 m).wf = true) (w : World) :
    Calls Try.prog 10 #[.int .i64 a, .int .i64 b, .int .i64 n, .int .i64 m] w fun e w' => e = .returned (.bool true) ∧ Below w.heap.size w w' := by
  clear _ha _hb _hn _hm
  by_cases c1 : a < 0
  · go_enter Try.func10, Try.ntmps10
    go_wp2_with fail
    refine (awake_any _).mono ?_
    rintro e w1 ⟨rfl, hb⟩
    have B := Lib.hid hb
    clear hb
    go_wp2_with fail
    go_ret
    exact ⟨rfl, B.out⟩
  · by_cases c2 : b < a
    · go_enter Try.func10, Try.ntmps10
      go_wp2_with fail
      refine (awake_any _).mono ?_
      rintro e w1 ⟨rfl, hb⟩
      have B := Lib.hid hb
      clear hb
      go_wp2_with fail
      go_ret
      exact ⟨rfl, B.out⟩
    · by_cases c3 : 1099511627776 < b
      · go_enter Try.func10, Try.ntmps10
        go_wp2_with fail
        refine (awake_any _).mono ?_
        rintro e w1 ⟨rfl, hb⟩
        have B := Lib.hid hb
        clear hb
        go_wp2_with fail
        go_ret
        exact ⟨rfl, B.out⟩
      · by_cases c4 : n < 0
        · go_enter Try.func10, Try.ntmps10
          go_wp2_with fail
          refine (awake_any _).mono ?_
          rintro e w1 ⟨rfl, hb⟩
          have B := Lib.hid hb
          clear hb
          go_wp2_with fail
          go_ret
          exact ⟨rfl, B.out⟩
        · by_cases c5 : m < n
          · go_enter Try.func10, Try.ntmps10
            go_wp2_with fail
            refine (awake_any _).mono ?_
            rintro e w1 ⟨rfl, hb⟩
            have B := Lib.hid hb
            clear hb
            go_wp2_with fail
            go_ret
            exact ⟨rfl, B.out⟩
          · by_cases c6 : 100000 < m
            · go_enter Try.func10, Try.ntmps10
              go_wp2_with fail
              refine (awake_any _).mono ?_
              rintro e w1 ⟨rfl, hb⟩
              have B := Lib.hid hb
              clear hb
              go_wp2_with fail
              go_ret
              exact ⟨rfl, B.out⟩
            · have Q0 : Hid (partRes 10000 a = (a, 0)) := Lib.hid (by
                rw [partRes_pos (by omega) (by omega), Int.mul_ediv_cancel_left a (by omega)]
                exact pair_yes (by unfold Fit; omega))
              have l1 : n * a ≤ n * b := Int.mul_le_mul_of_nonneg_left (by omega) (by omega)
              have l2 : n * a ≤ m * a := Int.mul_le_mul_of_nonneg_right (by omega) (by omega)
              have l3 := part_bd n a (by omega) (by unfold Fit; omega)
              have l4 : 0 ≤ n * a := Int.mul_nonneg (by omega) (by omega)
              obtain ⟨x, e1, p1, hx⟩ := pair_cases (n * a / 10000) (by omega)
              obtain ⟨y, e2, p2, hy⟩ := pair_cases (n * b / 10000) (by omega)
              obtain ⟨z, e3, p3, hz⟩ := pair_cases (m * a / 10000) (by omega)
              have Q1 : Hid (partRes n a = (x, e1)) := Lib.hid (by rw [partRes_pos (by omega) (by omega)]; exact p1)
              have Q2 : Hid (partRes n b = (y, e2)) := Lib.hid (by rw [partRes_pos (by omega) (by omega)]; exact p2)
              have Q3 : Hid (partRes m a = (z, e3)) := Lib.hid (by rw [partRes_pos (by omega) (by omega)]; exact p3)
              clear p1 p2 p3
              have bA : Hid (Big a) := Lib.hid (by unfold Big; omega)
              have bB : Hid (Big b) := Lib.hid (by unfold Big; omega)
              have aa : (a == a) = true := by simp
              generalize n * b = nb at l1 hy
              generalize m * a = ma at l2 hz
              rcases hx with ⟨rfl, hx1, hx2⟩ | ⟨rfl, rfl, hx2⟩
              · have k1 : 10000 * x ≤ n * a := by omega
                have k2 : n * a < 10000 * x + 10000 := by omega
                have k3 : 0 ≤ x := by omega
                have k4 : x ≤ 1099511627776 := by omega
                have K1 := Lib.hid hx1
                clear hx1
                rcases hy with ⟨rfl, hy1, hy2⟩ | ⟨rfl, rfl, hy2⟩ <;> rcases hz with ⟨rfl, hz1, hz2⟩ | ⟨rfl, rfl, hz2⟩
                all_goals
                  first
                    | (have m1 : x ≤ y := by (have h9 := K1.out; omega))
                    | (have m1 : True := trivial)
                  first
                    | (have m2 : x ≤ z := by (have h9 := K1.out; omega))
                    | (have m2 : True := trivial)
                all_goals
                  first
                    | (have HY := Lib.hid hy1; clear hy1)
                    | skip
                  first
                    | (have HZ := Lib.hid hz1; clear hz1)
                    | skip
                all_goals
                  clear hy2 hz2 hx2 l1 l2
                  go_enter Try.func10, Try.ntmps10
                  go_wp2_with fail
                  refine (awake_any _).mono ?_
                  rintro e w1 ⟨rfl, hb⟩
                  have B1 := Lib.hid hb
                  clear hb
                  go_wp2_with fail
                  refine (part_any 10000 a bA.out _ _ Q0.out).mono ?_
                  rintro e w2 ⟨rfl, hb⟩
                  have B2 := Lib.hid (B1.out.trans (hb.mono B1.out.size))
                  clear hb B1
                  go_wp2_with fail
                  refine (part_any n a bA.out _ _ Q1.out).mono ?_
                  rintro e w3 ⟨rfl, hb⟩
                  have B3 := Lib.hid (B2.out.trans (hb.mono B2.out.size))
                  clear hb B2
                  go_wp2_with fail
                  refine (part_any n b bB.out _ _ Q2.out).mono ?_
                  rintro e w4 ⟨rfl, hb⟩
                  have B4 := Lib.hid (B3.out.trans (hb.mono B3.out.size))
                  clear hb B3
                  go_wp2_with fail
                  refine (part_any m a bA.out _ _ Q3.out).mono ?_
                  rintro e w5 ⟨rfl, hb⟩
                  have B5 := Lib.hid (B4.out.trans (hb.mono B4.out.size))
                  clear hb B4
                  go_wp2_with fail
                  go_ret
                  exact ⟨rfl, B5.out⟩
              · rcases hy with ⟨rfl, hy1, hy2⟩ | ⟨rfl, rfl, hy2⟩
                · omega
                · rcases hz with ⟨rfl, hz1, hz2⟩ | ⟨rfl, rfl, hz2⟩
                  · omega
                  · clear hy2 hz2 hx2 l1 l2
                    go_enter Try.func10, Try.ntmps10
                    go_wp2_with fail
                    refine (awake_any _).mono ?_
                    rintro e w1 ⟨rfl, hb⟩
                    have B1 := Lib.hid hb
                    clear hb
                    go_wp2_with fail
                    refine (part_any 10000 a bA.out _ _ Q0.out).mono ?_
                    rintro e w2 ⟨rfl, hb⟩
                    have B2 := Lib.hid (B1.out.trans (hb.mono B1.out.size))
                    clear hb B1
                    go_wp2_with fail
                    refine (part_any n a bA.out _ _ Q1.out).mono ?_
                    rintro e w3 ⟨rfl, hb⟩
                    have B3 := Lib.hid (B2.out.trans (hb.mono B2.out.size))
                    clear hb B2
                    go_wp2_with fail
                    refine (part_any n b bB.out _ _ Q2.out).mono ?_
                    rintro e w4 ⟨rfl, hb⟩
                    have B4 := Lib.hid (B3.out.trans (hb.mono B3.out.size))
                    clear hb B3
                    go_wp2_with fail
                    refine (part_any m a bA.out _ _ Q3.out).mono ?_
                    rintro e w5 ⟨rfl, hb⟩
                    have B5 := Lib.hid (B4.out.trans (hb.mono B4.out.size))
                    clear hb B4
                    go_wp2_with fail
                    go_ret
                    exact ⟨rfl, B5.out⟩
end Go.Proofs.Ytcipphmijdibjaa
