/-
  The law FlexlineSplits: of any Split that answers as is asked.
-/
import Derived.Test.YtkakencndopgbaaOrdersW15
namespace Go.Proofs.Ytkakencndopgbaa
open Go.RowKit

set_option maxRecDepth 100000 in
set_option maxHeartbeats 8000000 in
theorem refSame15 (A B : Option Addr) (m c d : Nat) (l : List Mg) (w : World) (h : LnIn15 w (.slice A m c) l) (k : LnIn15 w (.slice B m d) l) (hl : l.length = m) (hm : m ≤ 100000) :
    Calls Try.prog 15 #[.slice A m c, .slice B m d] w fun e w' => e = .returned (.bool true) ∧ Below w.heap.size w w' := by
  have H := Lib.hid h
  have K := Lib.hid k
  have HL := Lib.hid hl
  clear h k hl
  have nn : ((m : Int) != m) = (!true) := by simp
  go_enter Try.func15, Try.ntmps15
  go_wp2_with fail
  go_loopg [5] m (fun g1 vi wr => ∃ i : Nat, vi = .int .i64 i ∧ i ≤ m ∧ m - i ≤ g1 ∧ Hid (Below w.heap.size w wr))
  case atStart => exact ⟨0, rfl, by omega, by omega, Lib.hid (Below.refl _ _)⟩
  case round =>
    obtain ⟨i, rfl, hi, hg1, HB⟩ := hrel
    obtain ⟨wo, hwo⟩ : ∃ wo, wo = wr := ⟨_, rfl⟩
    subst hwo
    by_cases hlt : i < m
    · have hz : (i : Int) < m := by omega
      have hz0 : (0 : Int) ≤ i := by omega
      have wi : IntKind.i64.wrap ((i : Int) + 1) = (i : Int) + 1 := IntWalk.i64_in _ (by omega)
      obtain ⟨b, off, c', e, x0, x1⟩ := (H.out.keep HB.out).get (i := i) (by have := HL.out; omega)
      injection e with e1 e2 e3
      subst e1 e3
      clear e2
      obtain ⟨b', off', c', e, y0, y1⟩ := (K.out.keep HB.out).get (i := i) (by have := HL.out; omega)
      injection e with e1 e2 e3
      subst e1 e3
      clear e2
      generalize mu l i = u at x0 y0
      generalize md l i = v at x1 y1
      have k1 : (u == u) = true := by simp
      have k2 : (v == v) = true := by simp
      go_wp2_with fail
      go_quiet (fail)
      have B5 : Hid (Below w.heap.size w (wo.drewN nq)) := Lib.hid (b_next15 HB.out (drewN_below wo nq wo.heap.size))
      go_wp2_with fail
      go_roundg (m - (i + 1))
      case measure => omega
      case rel => exact ⟨i + 1, by go_num, by omega, Nat.le_refl _, B5⟩
    · obtain rfl : i = m := by omega
      have hz : ¬ (i : Int) < i := by omega
      go_wp2_with fail
      go_ret
      exact ⟨rfl, HB.out⟩
theorem lines_own {W : World} {B : Nat} {v : Value} {l : List Mg} (h : ownsL15 W B v l) : LnIn15 W v l := h.mgs
theorem ownsL15.setc {w : World} {B g n c : Nat} {l : List Mg} (h : ownsL15 w B (.slice (some ⟨g, 0, none⟩) n c) l) {j : Nat} (hj : j < l.length) (y : Int) : ownsL15 (w.setCell ⟨g, j * 2, none⟩ (.int .i64 y)) B (.slice (some ⟨g, 0, none⟩) n c) (l.set j (y, l[j].2)) ∧ Below B w (w.setCell ⟨g, j * 2, none⟩ (.int .i64 y)) := by
  obtain ⟨A, c', e, -⟩ := own_form h
  injection e with e1 e2 e3
  subst e2
  obtain ⟨s1, s2⟩ := own_set (T := 34) (k := 2) (cs := cellsL15 l) h (j * 2) (.int .i64 y)
  refine ⟨?_, s2⟩
  unfold ownsL15
  rw [List.length_set]
  have := flat_set lnCells15 2 lnCells15_len hj (i := 0) (by omega) (.int .i64 y) (y, l[j].2) rfl
  rw [Nat.add_zero] at this
  unfold cellsL15 at s1 ⊢
  rw [← this]
  exact s1
theorem splitL_len (f : Nat → Int) (n : Nat) (gap room : Int) (wrap : Bool) : (splitL f n gap room wrap).length ≤ n := by
  unfold splitL
  split
  · have := linesA_len (f := f) (gap := gap) (room := room) (wrap := wrap) (n := n) 0; omega
  · exact Nat.zero_le _
set_option maxRecDepth 100000 in
set_option maxHeartbeats 8000000 in
theorem splits15 (hS : SplitOK 14) (A : Option Addr) (n c : Nat) (f : Nat → Int) (gap room : Int) (wrap : Bool) (w : World) (hI : Ints w A n f) (hc : n ≤ c ∧ c ≤ 9223372036854775807) (hA : A = none → n = 0 ∧ c = 0) :
    Calls Try.prog 4 #[.slice A n c, .int .i64 gap, .int .i64 room, .bool wrap] w fun e w' => e = .returned (.bool true) ∧ Below w.heap.size w w' := by
  have HI := Lib.hid hI
  have HC := Lib.hid hc
  by_cases h : 300 < n ∧ n ≤ 2048
  · have hz : (300 : Int) < n := by omega
    have hz1 : (n : Int) ≤ 2048 := by omega
    clear hS
    go_enter Try.func4, Try.ntmps4
    go_wp2_with fail
    go_ret
    exact ⟨rfl, Below.refl _ _⟩
  by_cases h' : 3000 < n
  · have hz : (300 : Int) < n := by omega
    have hz1 : decide ((n : Int) ≤ 2048) = false := decide_eq_false (by omega)
    have hz2 : (3000 : Int) < n := by omega
    clear hS
    go_enter Try.func4, Try.ntmps4
    go_wp2_with fail
    go_ret
    exact ⟨rfl, Below.refl _ _⟩
  have hn : n ≤ 3000 := by omega
  have KC := Lib.hid (fun W (hW : Ints W A n f) => copy15 A n c f W hW (by omega) hA)
  have KR := Lib.hid (fun W (hW : Ints W A n f) => refSplit15 A n c f gap room wrap W hW (by omega) HC.out)
  have KO := Lib.hid (fun A' c' W (hW : Ints W A' n f) (hc' : n ≤ c' ∧ c' ≤ 9223372036854775807) => hS A' n c' f gap room wrap W hW (by omega) hc')
  have LM := Lib.hid (splitL_len f n gap room wrap)
  obtain ⟨L, hL⟩ : ∃ L, castL (splitL f n gap room wrap) = L := ⟨_, rfl⟩
  have LL : Hid (L.length ≤ n) := Lib.hid (by rw [← hL, castL_len]; exact LM.out)
  rw [hL] at KR KO
  generalize splitE f n gap room = E at KR KO
  obtain ⟨m, hm⟩ : ∃ m, L.length = m := ⟨_, rfl⟩
  have HM := Lib.hid hm
  have ee : ((E : Int) != E) = (!true) := by simp
  have KS1 := Lib.hid (fun A1 c1 A2 c2 W (h1 : LnIn15 W (.slice A1 m c1) L) (h2 : LnIn15 W (.slice A2 m c2) L) => refSame15 A1 A2 m c1 c2 L W h1 h2 hm (by have := LL.out; omega))
  have KS2 := Lib.hid (fun A1 c1 A2 c2 W (h1 : Ints W A1 n f) (h2 : Ints W A2 n f) => same_yes A1 A2 n c1 c2 f W h1 h2 (by omega))
  have FB := Lib.hid (fun i (hi : i < n) => hI.bd hi)
  have HA := Lib.hid hA
  have dd : ((300 : Int) < n ∧ (2048 : Int) < n ∧ (n : Int) ≤ 3000) ∨ ((n : Int) ≤ 300) := by omega
  clear hS hI hA LM hL
  have start : ∀ (P : Prop), (((300 : Int) < n) = True ∧ (((n : Int) ≤ 2048) = False) ∨ ((300 : Int) < n) = False → P) → P := by
    intro P hP
    refine hP ?_
    rcases dd with ⟨d1, d2, d3⟩ | d1
    · exact .inl ⟨by simp [d1], by simp; omega⟩
    · exact .inr (by simp; omega)
  have d3 : ((3000 : Int) < n) = False := by simp; omega
  refine start _ (fun hst => ?_)
  clear start dd h h'
  rcases hst with ⟨s1, s2⟩ | s1
  all_goals (
    go_enter Try.func4, Try.ntmps4
    go_upto_region 4 with (go_at_call 9; (with_reducible refine (KC.out _ HI.out).mono ?_); rintro e w1 ⟨A1, c1, rfl, hO, hb⟩; have O1 := Lib.hid hO; have B1 := Lib.hid hb; clear hO hb)
    have I1 := Lib.hid (HI.out.below B1.out)
    have M1 := Lib.hid (own_ints15 O1.out FB.out)
    have C1 : Hid (n ≤ c1 ∧ c1 ≤ 9223372036854775807) := Lib.hid (by
      obtain ⟨_, _, e, h1, h2, -⟩ := own_form O1.out
      injection e with e1 e2 e3
      rw [firstF_len] at h1
      omega)
    go_upto_region 5 with (go_at_call 13; (with_reducible refine (KR.out _ I1.out).mono ?_); rintro e w2 ⟨v, rfl, hO, hb⟩; obtain ⟨A2, c2, ev, -, -, -⟩ := own_form hO; rw [HM.out] at ev; subst ev; have R2 := Lib.hid (lines_own hO); have B2 := Lib.hid hb; clear hO hb)
    have I2 := Lib.hid (I1.out.below B2.out)
    have M2 := Lib.hid (M1.out.below B2.out)
    have BB := Lib.hid (b_next15 B1.out B2.out)
    clear O1 I1 M1 B1 B2 KC KR
    go_wp2_with fail
    go_loopg [12] 2 (fun g1 vt wr => ∃ k : Nat, vt = .int .i64 k ∧ k ≤ 2 ∧ 2 - k ≤ g1 ∧ Hid (Below w2.heap.size w2 wr))
    case atStart => exact ⟨0, rfl, by omega, by omega, Lib.hid (Below.refl _ _)⟩
    case round =>
      obtain ⟨k, rfl, hk, hg1, HB⟩ := hrel
      obtain ⟨wo, hwo⟩ : ∃ wo, wo = wr := ⟨_, rfl⟩
      subst hwo
      by_cases hlt : k < 2
      · have hz1 : (k : Int) < 2 := by omega
        have wi : IntKind.i64.wrap ((k : Int) + 1) = (k : Int) + 1 := IntWalk.i64_in _ (by omega)
        have M3 := Lib.hid (M2.out.below HB.out)
        go_upto_region 9 with (go_at_call 14; (with_reducible refine (KO.out _ _ _ M3.out C1.out).mono ?_); rintro e w3 ⟨v, rfl, hO, hb⟩; obtain ⟨A3, c3, ev, -, -, -⟩ := own_form hO; rw [HM.out] at ev; subst ev; have O3 := Lib.hid hO; have B3 := Lib.hid hb; clear hO hb)
        have Z3 := Lib.hid (b_next15 HB.out B3.out)
        have N3 := Lib.hid (lines_own O3.out)
        have R3 := Lib.hid (R2.out.keep Z3.out)
        have M4 := Lib.hid (M2.out.below Z3.out)
        have I4 := Lib.hid (I2.out.below Z3.out)
        go_upto_region 12 with (first
          | (go_at_call 15; (with_reducible refine (KS1.out _ _ _ _ _ N3.out R3.out).mono ?_); rintro e w4 ⟨rfl, hb⟩; have B4 := Lib.hid hb; have M5 := Lib.hid (M4.out.below hb); have I5 := Lib.hid (I4.out.below hb); clear hb)
          | (go_at_call 12; (with_reducible refine (KS2.out _ _ _ _ _ M5.out I5.out).mono ?_); rintro e w5 ⟨rfl, hb⟩; have B5 := Lib.hid (b_next15 B4.out hb.below); clear hb))
        have O5 := Lib.hid (O3.out.keep B5.out)
        have Y5 := Lib.hid (B3.out.trans (B5.out.mono B3.out.size))
        clear M3 O3 B3 Z3 N3 R3 M4 I4 M5 I5 B4 B5 hz1
        go_wp2_with fail
        go_loopg [15] m (fun g2 vi wr => ∃ (i : Nat) (zs : List Mg), vi = .int .i64 i ∧ i ≤ m ∧ m - i ≤ g2 ∧ Hid (zs.length = m) ∧ Hid (ownsL15 wr wo.heap.size (.slice A3 m c3) zs) ∧ Hid (Below wo.heap.size wo wr))
        case atStart => exact ⟨0, L, rfl, by omega, by omega, HM, O5, Y5⟩
        case round =>
          obtain ⟨i, zs, rfl, hi, hg2, HZ, HO, HY⟩ := hrel
          obtain ⟨w9, hw9⟩ : ∃ w9, w9 = wr := ⟨_, rfl⟩
          subst hw9
          by_cases hli : i < m
          · have hy1 : (i : Int) < m := by omega
            have hy0 : (0 : Int) ≤ i := by omega
            have wj : IntKind.i64.wrap ((i : Int) + 1) = (i : Int) + 1 := IntWalk.i64_in _ (by have := LL.out; have := HM.out; omega)
            obtain ⟨g, c9, e, -, -, -, -, hcell, hfro⟩ := HO.out.at_ (by intro e; have := HZ.out; rw [e] at this; simp at this; omega)
            rw [HZ.out] at e
            injection e with e1 e2 e3
            subst e1 e3
            clear e2
            have z0 := hfro (i * 2)
            have c0 := (hcell i (by have := HZ.out; omega)).1
            obtain ⟨s1', s2'⟩ := HO.out.setc (j := i) (by have := HZ.out; omega) (-5)
            have S1 := Lib.hid s1'
            have S2 := Lib.hid (HY.out.trans s2')
            have SZ : Hid ((zs.set i (-5, (zs[i]'(by have := HZ.out; omega)).2)).length = m) := Lib.hid (by rw [List.length_set]; exact HZ.out)
            generalize zs.set i (-5, (zs[i]'(by have := HZ.out; omega)).2) = zs2 at S1 SZ
            clear s1' s2' hcell hfro
            go_wp2_with fail
            go_roundg (m - (i + 1))
            case measure => omega
            case rel => exact ⟨i + 1, zs2, by go_num, by omega, Nat.le_refl _, SZ, S1, S2⟩
          · have hy1 : ¬ (i : Int) < m := by omega
            have ZZ := Lib.hid (b_next15 HB.out HY.out)
            go_wp2_with fail
            go_roundg (2 - (k + 1))
            case measure => omega
            case rel => exact ⟨k + 1, by go_num, by omega, Nat.le_refl _, ZZ⟩
      · have hz1 : ¬ (k : Int) < 2 := by omega
        have BF := Lib.hid (b_next15 BB.out HB.out)
        go_wp2_with fail
        go_ret
        exact ⟨rfl, BF.out⟩)
end Go.Proofs.Ytkakencndopgbaa
