/-
  The law FixedBack: what is added can be taken away again, what is taken away added; a sum is refused just if it is no length.
-/
import Derived.Test.YtcipphmijdibjaaAwake
namespace Go.Proofs.Ytcipphmijdibjaa
open Go.RowKit

/-- a number brought to a length -/
def len (x : Int) : Int := x.tmod 1099511627777
theorem len_fit (x : Int) : Fit (len x) := by
  unfold len Fit
  by_cases h : 0 ≤ x
  · rw [Int.tmod_eq_emod_of_nonneg h]; omega
  · obtain ⟨y, rfl⟩ : ∃ y, x = -y := ⟨-x, by omega⟩
    rw [Int.neg_tmod, Int.tmod_eq_emod_of_nonneg (by omega)]; omega
theorem len_any (x : Int) (w : World) (y : Int) (hy : len x = y) :
    Calls Try.prog 29 #[.int .i64 x] w fun e w' => e = .returned (.int .i64 y) ∧ w = w' := by
  have b := len_fit x
  rw [hy] at b
  obtain ⟨b1, b2⟩ := b
  by_cases h : 0 ≤ x
  · have e : x % 1099511627777 = y := by rw [← hy]; unfold len; rw [Int.tmod_eq_emod_of_nonneg h]
    have E := Lib.hid e
    clear hy e
    go_enter Try.func29, Try.ntmps29
    go_wp2
    go_ret
    exact ⟨ret_int E.out, rfl⟩
  · have e : x.tmod 1099511627777 = y := hy
    have E := Lib.hid e
    clear hy e
    go_enter Try.func29, Try.ntmps29
    go_wp2
    go_ret
    exact ⟨ret_int E.out, rfl⟩
theorem addRes_two {a b : Int} (ha : Fit a) (hb : Fit b) : addRes (two a b) 2 = pair (a + b) := by
  have e1 : allFit (two a b) 2 = true := by
    rw [allFit_two, decide_eq_true_eq]
    exact ⟨ha, hb⟩
  have e2 : sumI (two a b) 2 = a + b := by simp [sumI, two]
  simp only [addRes, e1, e2, if_true]
theorem subRes_fit {a b : Int} (ha : Fit a) (hb : Fit b) : subRes a b = pair (a - b) := by
  unfold subRes
  rw [if_pos ⟨ha, hb⟩]
set_option maxRecDepth 100000 in
set_option maxHeartbeats 4000000 in
theorem walkFixedBack (a b : Int) (_ha : (Lit.int .i64 a).wf = true) (_hb : (Lit.int .i64 b).wf = true) (w : World) :
    Calls Try.prog 6 #[.int .i64 a, .int .i64 b] w fun e w' => e = .returned (.bool true) ∧ Below w.heap.size w w' := by
  clear _ha _hb
  obtain ⟨x, hx⟩ : ∃ x, len a = x := ⟨_, rfl⟩
  obtain ⟨y, hy⟩ : ∃ y, len b = y := ⟨_, rfl⟩
  have fx := len_fit a
  have fy := len_fit b
  rw [hx] at fx
  rw [hy] at fy
  have X := Lib.hid hx
  have Y := Lib.hid hy
  have FX := Lib.hid fx
  have FY := Lib.hid fy
  clear hx hy
  obtain ⟨x1, x2⟩ := fx
  obtain ⟨y1, y2⟩ := fy
  have bX : Hid (Big x) := Lib.hid (by unfold Big; omega)
  have bY : Hid (Big y) := Lib.hid (by unfold Big; omega)
  have xx : (x == x) = true := by simp
  have xn : (x != x) = false := by simp
  have yy : (y == y) = true := by simp
  have ss : (x + y != x + y) = false := by simp
  by_cases hs : Fit (x + y)
  · have A : Hid (addRes (two x y) 2 = (x + y, 0)) := Lib.hid (by rw [addRes_two FX.out FY.out]; exact pair_yes hs)
    have A2 : Hid (subRes (x + y) y = (x, 0)) := Lib.hid (by rw [subRes_fit hs FY.out, show x + y - y = x by omega]; exact pair_yes FX.out)
    have bS : Hid (Big (x + y)) := Lib.hid (by unfold Big; omega)
    obtain ⟨s1, s2⟩ := hs
    by_cases hd : Fit (x - y)
    · have S : Hid (subRes x y = (x - y, 0)) := Lib.hid (by rw [subRes_fit FX.out FY.out]; exact pair_yes hd)
      have S2 : Hid (addRes (two (x - y) y) 2 = (x, 0)) := Lib.hid (by rw [addRes_two hd FY.out, show x - y + y = x by omega]; exact pair_yes FX.out)
      have bD : Hid (Big (x - y)) := Lib.hid (by unfold Big; omega)
      clear hd
      go_enter Try.func6, Try.ntmps6
      go_wp2_with fail
      refine (awake_any _).mono ?_
      rintro e w1 ⟨rfl, hb⟩
      have B1 := Lib.hid hb
      clear hb
      go_wp2_with fail
      refine (len_any a _ x X.out).mono ?_
      rintro e w2 ⟨rfl, rfl⟩
      go_wp2_with fail
      refine (len_any b _ y Y.out).mono ?_
      rintro e w2 ⟨rfl, rfl⟩
      go_wp2_with fail
      refine (add_any _ 2 _ (two x y) _ (Ints.two _ x y bX.out bY.out _) (by omega) _ A.out).mono ?_
      rintro e w2 ⟨rfl, hb⟩
      have B2 := Lib.hid ((B1.out.alloc B1.out.size _).trans (hb.mono (by have := B1.out.size; simp; omega)))
      clear hb B1
      go_wp2_with fail
      refine (sub_any x y bX.out bY.out _ _ S.out).mono ?_
      rintro e w3 ⟨rfl, hb⟩
      have B3 := Lib.hid (B2.out.trans (hb.mono B2.out.size))
      clear hb B2
      go_wp2_with fail
      refine (sub_any (x + y) y bS.out bY.out _ _ A2.out).mono ?_
      rintro e w4 ⟨rfl, hb⟩
      have B4 := Lib.hid (B3.out.trans (hb.mono B3.out.size))
      clear hb B3
      go_wp2_with fail
      refine (add_any _ 2 _ (two (x - y) y) _ (Ints.two _ (x - y) y bD.out bY.out _) (by omega) _ S2.out).mono ?_
      rintro e w5 ⟨rfl, hb⟩
      have B5 := Lib.hid ((B4.out.alloc B4.out.size _).trans (hb.mono (by have := B4.out.size; simp; omega)))
      clear hb B4
      go_wp2_with fail
      go_ret
      exact ⟨rfl, B5.out⟩
    · have S : Hid (subRes x y = (0, 10)) := Lib.hid (by rw [subRes_fit FX.out FY.out]; exact pair_no hd)
      have D : Hid (allFit (fun _ => x - y) 1 = false) := Lib.hid (by simp [allFit, hd])
      have bD : Hid (Big (x - y)) := Lib.hid (by unfold Big; omega)
      clear hd
      go_enter Try.func6, Try.ntmps6
      go_wp2_with fail
      refine (awake_any _).mono ?_
      rintro e w1 ⟨rfl, hb⟩
      have B1 := Lib.hid hb
      clear hb
      go_wp2_with fail
      refine (len_any a _ x X.out).mono ?_
      rintro e w2 ⟨rfl, rfl⟩
      go_wp2_with fail
      refine (len_any b _ y Y.out).mono ?_
      rintro e w2 ⟨rfl, rfl⟩
      go_wp2_with fail
      refine (add_any _ 2 _ (two x y) _ (Ints.two _ x y bX.out bY.out _) (by omega) _ A.out).mono ?_
      rintro e w2 ⟨rfl, hb⟩
      have B2 := Lib.hid ((B1.out.alloc B1.out.size _).trans (hb.mono (by have := B1.out.size; simp; omega)))
      clear hb B1
      go_wp2_with fail
      refine (sub_any x y bX.out bY.out _ _ S.out).mono ?_
      rintro e w3 ⟨rfl, hb⟩
      have B3 := Lib.hid (B2.out.trans (hb.mono B2.out.size))
      clear hb B2
      go_wp2_with fail
      refine (sub_any (x + y) y bS.out bY.out _ _ A2.out).mono ?_
      rintro e w4 ⟨rfl, hb⟩
      have B4 := Lib.hid (B3.out.trans (hb.mono B3.out.size))
      clear hb B3
      go_wp2_with fail
      refine (fits_any _ 1 _ (fun _ => x - y) _ (Ints.one _ _ bD.out _) (by omega) _ D.out).mono ?_
      rintro e w5 ⟨rfl, rfl⟩
      go_wp2_with fail
      go_ret
      exact ⟨rfl, B4.out.alloc B4.out.size _⟩
  · have A : Hid (addRes (two x y) 2 = (0, 10)) := Lib.hid (by rw [addRes_two FX.out FY.out]; exact pair_no hs)
    have hover : 1099511627776 < x + y ∨ x + y < -1099511627776 := by unfold Fit at hs; omega
    clear hs
    by_cases hd : Fit (x - y)
    · have S : Hid (subRes x y = (x - y, 0)) := Lib.hid (by rw [subRes_fit FX.out FY.out]; exact pair_yes hd)
      have S2 : Hid (addRes (two (x - y) y) 2 = (x, 0)) := Lib.hid (by rw [addRes_two hd FY.out, show x - y + y = x by omega]; exact pair_yes FX.out)
      have bD : Hid (Big (x - y)) := Lib.hid (by unfold Big; omega)
      clear hd
      rcases hover with hov | hov
      all_goals
        go_enter Try.func6, Try.ntmps6
        go_wp2_with fail
        refine (awake_any _).mono ?_
        rintro e w1 ⟨rfl, hb⟩
        have B1 := Lib.hid hb
        clear hb
        go_wp2_with fail
        refine (len_any a _ x X.out).mono ?_
        rintro e w2 ⟨rfl, rfl⟩
        go_wp2_with fail
        refine (len_any b _ y Y.out).mono ?_
        rintro e w2 ⟨rfl, rfl⟩
        go_wp2_with fail
        refine (add_any _ 2 _ (two x y) _ (Ints.two _ x y bX.out bY.out _) (by omega) _ A.out).mono ?_
        rintro e w2 ⟨rfl, hb⟩
        have B2 := Lib.hid ((B1.out.alloc B1.out.size _).trans (hb.mono (by have := B1.out.size; simp; omega)))
        clear hb B1
        go_wp2_with fail
        refine (sub_any x y bX.out bY.out _ _ S.out).mono ?_
        rintro e w3 ⟨rfl, hb⟩
        have B3 := Lib.hid (B2.out.trans (hb.mono B2.out.size))
        clear hb B2
        go_wp2_with fail
        refine (add_any _ 2 _ (two (x - y) y) _ (Ints.two _ (x - y) y bD.out bY.out _) (by omega) _ S2.out).mono ?_
        rintro e w5 ⟨rfl, hb⟩
        have B5 := Lib.hid ((B3.out.alloc B3.out.size _).trans (hb.mono (by have := B3.out.size; simp; omega)))
        clear hb B3
        go_wp2_with fail
        go_ret
        exact ⟨rfl, B5.out⟩
    · unfold Fit at hd
      omega
end Go.Proofs.Ytcipphmijdibjaa
