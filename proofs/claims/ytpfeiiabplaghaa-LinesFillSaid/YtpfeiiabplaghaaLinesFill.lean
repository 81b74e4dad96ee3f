/-
  The law LinesFill: of any Fill and Widest that answer as is asked.
-/
import Derived.Test.YtpfeiiabplaghaaSame10
import Derived.Test.YtpfeiiabplaghaaOpenItems
namespace Go.Proofs.Ytpfeiiabplaghaa
open Go.RowKit

/-- a row of so many lines' cells of the call's own, whatever they say -/
def SpoilL (base n : Nat) (v : Value) (w0 w : World) : Prop := ∃ cs : List Value, w.ownsRow base 34 3 v n cs ∧ Below base w0 w
set_option maxRecDepth 100000 in
set_option maxHeartbeats 4000000 in
theorem fill10 (hF : FillOK 11) (hW : WidestOK 13) (l : List It) (v : Value) (x : Int) (w : World) (hv : ItIn w v l) (hnil : ∀ n c, v = .slice none n c → n = 0 ∧ c = 0)
    (hx : -9223372036854775808 ≤ x ∧ x ≤ 9223372036854775807) (hk : ∀ i, i < l.length → kd l i < 256 ∧ -9223372036854775808 ≤ wd l i ∧ wd l i ≤ 9223372036854775807) :
    Calls Try.prog 3 #[v, .int .i64 x] w fun e w' => e = .returned (.bool true) ∧ Below w.heap.size w w' := by
  by_cases h : 2100 < l.length
  · obtain ⟨A, c, rfl, -, -⟩ := hv
    obtain ⟨n, en⟩ : ∃ n, l.length = n := ⟨_, rfl⟩
    rw [en] at h ⊢
    have hz : (2100 : Int) < n := by omega
    clear h hk en
    go_enter Try.func3, Try.ntmps3
    go_wp2_with fail
    go_ret
    exact ⟨rfl, Below.refl _ _⟩
  · have hn : l.length ≤ 1000000 := by omega
    have KR := Lib.hid (fun W (hW : ItIn W v l) => refFill_any l v x W hW hn)
    have KY := Lib.hid (refCopy_any10 l v w hv hnil (by omega))
    have KC := Lib.hid (fun u W (hW : ItIn W u l) => hF l u x W hW (by omega) hx hk)
    obtain ⟨R, hR⟩ : ∃ R, (fillA l x).1 = R := ⟨_, rfl⟩
    obtain ⟨f, hf⟩ : ∃ f, (fillA l x).2 = f := ⟨_, rfl⟩
    have RL : Hid (R.length ≤ 2100) := Lib.hid (by
      rw [← hR]
      unfold fillA
      have h1 := fill_len (l := l) x (behind l 0)
      unfold linesT
      repeat' split
      all_goals first | (simp; done) | (dsimp only; omega))
    have FE : Hid (∀ W e W', FillEnd l x W e W' → ∃ u, e = .returned (.tuple #[u, .int .i64 (f : Nat)]) ∧ ownsL W' W.heap.size u R ∧ Below W.heap.size W W') := Lib.hid (by
      rw [← hR, ← hf]
      exact fun W e W' h => h)
    have KW := Lib.hid (fun u W (h : LnIn W u R) => hW R u W h RL.out)
    have KX := Lib.hid (fun u W (h : LnIn W u R) => refWidest_any R u W h (by have := RL.out; omega))
    have HV := Lib.hid hv
    obtain ⟨A, c, rfl, -, -⟩ := hv
    obtain ⟨n, en⟩ : ∃ n, l.length = n := ⟨_, rfl⟩
    have HN := Lib.hid en
    rw [en] at h HV KR KY ⊢
    have hz : ¬ (2100 : Int) < n := by omega
    clear hR hf hk en hn hnil
    go_enter Try.func3, Try.ntmps3
    go_wp2_with (first
      | (go_at_call 9; (with_reducible refine KY.out.mono ?_); rintro e w1 ⟨mine, rfl, hO, hB⟩; obtain ⟨M', cm, em, -, -⟩ := hO.its; rw [HN.out] at em; subst em; have M1 := Lib.hid hO.its; have B1 := Lib.hid hB; have V1 := Lib.hid (HV.out.keep hB); clear hO hB)
      | (go_at_call 10; (with_reducible refine (KR.out _ V1.out).mono ?_); intro e w2 hE; obtain ⟨want, rfl, hO, hB⟩ := FE.out _ _ _ hE; have W2 := Lib.hid hO.lns; have M2 := Lib.hid (M1.out.keep hB); have B2 := Lib.hid (B1.out.trans (hB.mono B1.out.size)); clear hE hO hB))
    go_loopg [8] 2 (fun g1 vt wr => ∃ t : Nat, vt = .int .i64 t ∧ t ≤ 2 ∧ 2 - t ≤ g1 ∧ Hid (ItIn wr (.slice M' n cm) l) ∧ Hid (LnIn wr want R) ∧ Hid (Below w.heap.size w wr))
    case atStart => exact ⟨0, rfl, by omega, by omega, M2, W2, B2⟩
    case round =>
      obtain ⟨t, rfl, ht, hg1, hM, hL, hB⟩ := hrel
      obtain ⟨wo, hwo⟩ : ∃ wo, wo = wr := ⟨_, rfl⟩
      subst hwo
      clear M2 W2 B2 M1 V1 B1 KY KR
      by_cases hlt : t < 2
      · have ht2 : (t : Int) < 2 := by omega
        have wt : IntKind.i64.wrap ((t : Int) + 1) = (t : Int) + 1 := IntWalk.i64_in _ (by omega)
        go_wp2_with (first
          | (go_at_call 11; (with_reducible refine (KC.out _ _ hM.out).mono ?_); intro e w2 hE; obtain ⟨out, rfl, hO, hB2⟩ := FE.out _ _ _ hE; have O2 := Lib.hid hO; have B2 := Lib.hid hB2; (have SE := Lib.hid (refSame10_any out want R R w2 hO.lns (hL.out.keep hB2) (by have := RL.out; omega))); rw [decide_eq_true rfl] at SE; clear hE hO hB2)
          | (go_at_call 12; (with_reducible refine SE.out.mono ?_); rintro e w3 ⟨rfl, q, rfl⟩))
        have D := drewN_below w2 q wo.heap.size
        have D2 := drewN_below w2 q w2.heap.size
        have BX := Lib.hid (B2.out.trans D)
        have SP0 := Lib.hid (⟨_, own_keep O2.out D2, BX.out⟩ : SpoilL wo.heap.size R.length out wo (w2.drewN q))
        have MX := Lib.hid (hM.out.keep BX.out)
        have VX := Lib.hid (HV.out.keep (hB.out.trans (BX.out.mono hB.out.size)))
        obtain ⟨C, d, rfl, -, -, -⟩ := own_form O2.out
        obtain ⟨m, hm⟩ : ∃ m, R.length = m := ⟨_, rfl⟩
        have ml : m ≤ 2100 := by have := RL.out; omega
        rw [hm] at SP0 ⊢
        clear D D2 O2 SE hm B2
        generalize w2.drewN q = wy at BX SP0 MX VX ⊢
        go_wp2_with fail
        go_loopg [11] n (fun g2 vi wx => ∃ i q : Nat, vi = .int .i64 i ∧ i ≤ n ∧ n - i ≤ g2 ∧ wx = wy.drewN q)
        case atStart => exact ⟨0, 0, rfl, by omega, by omega, rfl⟩
        case round =>
          obtain ⟨i, q, rfl, hi, hg2, rfl⟩ := hrel
          by_cases hin : i < n
          · have hz1 : (i : Int) < n := by omega
            have hz0 : (0 : Int) ≤ i := by omega
            have wi : IntKind.i64.wrap ((i : Int) + 1) = (i : Int) + 1 := IntWalk.i64_in _ (by omega)
            obtain ⟨b, off, c1, e, a0, a1⟩ := MX.out.get (i := i) (by have := HN.out; omega)
            injection e with e1 e2 e3
            subst e1 e3
            clear e2
            obtain ⟨b', off', c2, e, a2, a3⟩ := VX.out.get (i := i) (by have := HN.out; omega)
            injection e with e1 e2 e3
            subst e1 e3
            clear e2
            generalize ((kd l i : Nat) : Int) = y at a0 a2
            generalize wd l i = z at a1 a3
            go_wp2_with fail
            go_quiet (fail)
            go_wp2_with fail
            go_roundg (n - (i + 1))
            case measure => omega
            case rel => exact ⟨i + 1, q + nq, by go_num, by omega, Nat.le_refl _, rfl⟩
          · obtain rfl : i = n := by omega
            have hz1 : ¬ (i : Int) < i := by omega
            have SP1 : Hid (SpoilL wo.heap.size m (.slice C m d) wo (wy.drewN q)) := Lib.hid (by
              obtain ⟨cs, h1, h2⟩ := SP0.out
              exact ⟨cs, own_keep h1 (drewN_below wy q _), h2.trans (drewN_below wy q _)⟩)
            clear SP0 MX VX BX
            generalize wy.drewN q = wz at SP1 ⊢
            go_wp2_with fail
            go_loopg [12] m (fun g3 vi wx => ∃ i : Nat, vi = .int .i64 i ∧ i ≤ m ∧ m - i ≤ g3 ∧ Hid (SpoilL wo.heap.size m (.slice C m d) wo wx))
            case atStart => exact ⟨0, rfl, by omega, by omega, SP1⟩
            case round =>
              obtain ⟨j, rfl, hj, hg3, hSP⟩ := hrel
              clear SP1
              by_cases hjm : j < m
              · have hz1 : (j : Int) < m := by omega
                have hz0 : (0 : Int) ≤ j := by omega
                have wi : IntKind.i64.wrap ((j : Int) + 1) = (j : Int) + 1 := IntWalk.i64_in _ (by omega)
                obtain ⟨cs, hO, hBx⟩ := hSP.out
                obtain ⟨g, d', e, -, -, -, -, hc, hfr⟩ := own_at hO (by omega)
                injection e with e1 e2 e3
                subst e1 e3
                clear e2
                have hcl := hO.1
                obtain ⟨y0, hy0⟩ : ∃ y, cs[j * 3]? = some y := ⟨_, List.getElem?_eq_getElem (by rw [hcl]; omega)⟩
                have a0 := hc (j * 3) _ hy0
                have f0 := hfr (j * 3)
                have st := own_set hO (j * 3) (.int .i64 (-5))
                have SP2 := Lib.hid (⟨_, st.1, hBx.trans st.2⟩ : SpoilL wo.heap.size m (.slice (some ⟨g, 0, none⟩) m d) wo _)
                clear hO hBx hc hfr st hSP hcl hy0
                go_wp2_with fail
                go_roundg (m - (j + 1))
                case measure => omega
                case rel => exact ⟨j + 1, by go_num, by omega, Nat.le_refl _, SP2⟩
              · obtain rfl : j = m := by omega
                have hz1 : ¬ (j : Int) < j := by omega
                obtain ⟨cs, -, hBx⟩ := hSP.out
                have BZ := Lib.hid hBx
                clear hBx hSP
                go_wp2_with fail
                go_roundg (2 - (t + 1))
                case measure => omega
                case rel => exact ⟨t + 1, by go_num, by omega, Nat.le_refl _, Lib.hid (hM.out.keep BZ.out), Lib.hid (hL.out.keep BZ.out), Lib.hid (hB.out.trans (BZ.out.mono hB.out.size))⟩
      · have ht2 : ¬ (t : Int) < 2 := by omega
        have BB := hB
        have LL := hL
        go_wp2_with (first
          | (go_at_call 13; (with_reducible refine (KW.out _ _ LL.out).mono ?_); rintro e w' ⟨rfl, hb⟩; replace BB := Lib.hid (BB.out.trans (hb.mono BB.out.size)); replace LL := Lib.hid (LL.out.keep hb); clear hb)
          | (go_at_call 14; (with_reducible refine (KX.out _ _ LL.out).mono ?_); rintro e w' ⟨rfl, hw⟩; subst hw))
        go_ret
        exact ⟨by simp, BB.out⟩
/-- the law's walk, of items that came in -/
theorem fill10_in (hF : FillOK 11) (hW : WidestOK 13) (a0 : Option Addr) (len0 cap0 : Nat) (z0 : List It) (a1 : Int) (w : World) (w0 : ItemsIn w a0 len0 cap0 z0) (w1 : (Lit.int .i64 a1).wf = true) :
    Calls Try.prog 3 #[.slice a0 len0 cap0, .int .i64 a1] w fun e w' => e = .returned (.bool true) ∧ Below w.heap.size w w' := by
  obtain ⟨h1, rfl, h3, h4, h5⟩ := w0
  exact fill10 hF hW z0 _ a1 w h1 (fun n c e => by injection e with e1 e2 e3; subst e2 e3; exact h3 e1) (i64_in10 w1) h5
end Go.Proofs.Ytpfeiiabplaghaa
