/-
  The law LinesWider: of any Fill and Widest that answer as is asked, and of an awake that is true.
-/
import Derived.Test.YtpfeiiabplaghaaLinesAll
import Derived.Test.YtpfeiiabplaghaaLinesFill
import Derived.Test.YtpfeiiabplaghaaLinesMore
import Derived.Deep.QuietTactic
import Derived.BigQuiet
namespace Go.Proofs.Ytpfeiiabplaghaa
open Go.RowKit

/-- the lines' ends ahead of a place -/
def endsN (l : List It) (k : Nat) : Nat := ((l.take k).filter (fun x => x.1 == 2)).length
theorem endsN_succ (l : List It) {k : Nat} (h : k < l.length) : endsN l (k + 1) = endsN l k + (if kd l k = 2 then 1 else 0) := by
  unfold endsN
  rw [List.take_add_one, List.getElem?_eq_getElem h, List.filter_append, List.length_append, kd_get h]
  by_cases e : l[k].1 = 2
  · rw [if_pos e]
    simp [e]
  · rw [if_neg e]
    simp [e]
theorem endsN_all (l : List It) : endsN l l.length = hardsN l 0 := by
  unfold endsN hardsN
  rw [List.take_length, List.drop_zero]
theorem endsN_le (l : List It) (k : Nat) : endsN l k ≤ k := by
  unfold endsN
  have h1 := List.length_filter_le (fun (x : It) => x.1 == 2) (l.take k)
  rw [List.length_take] at h1
  omega
/-- no width is below 0, none beyond 2^30: all fits within 2^40 -/
theorem roomy10 {l : List It} (hn : NonNeg l) (hw : Within l 1073741824) (hl : l.length ≤ 500) : Roomy l 1099511627776 := by
  have h1 : ∀ k, k ≤ 500 → pre l k ≤ 1073741824 * (k : Int) := fun k => by
    induction k with
    | zero => intro _; rw [pre_zero]; omega
    | succ k ih =>
      intro hk
      rw [pre_succ]
      have := ih (by omega)
      by_cases c : k < l.length
      · have := hw k c
        omega
      · rw [wd_end (by omega)]
        omega
  have h2 : ∀ k, pre l k ≤ 1073741824 * 500 := fun k => by
    by_cases c : k ≤ l.length
    · have := h1 k (by omega)
      omega
    · have e : pre l k = pre l l.length := by
        unfold pre
        rw [List.take_of_length_le (by omega), List.take_of_length_le (Nat.le_refl _)]
      rw [e]
      have := h1 l.length hl
      omega
  intro a b
  have ha := pre_mono hn (Nat.zero_le a)
  rw [pre_zero] at ha
  have := h2 b
  unfold sumI
  omega
set_option maxRecDepth 100000 in
set_option maxHeartbeats 8000000 in
theorem wider10 (hF : FillOK 11) (hW : WidestOK 13) (hA : AwakeOK10 15) (l : List It) (v : Value) (x y : Int) (w : World) (hv : ItIn w v l)
    (hk : ∀ i, i < l.length → kd l i < 256 ∧ -9223372036854775808 ≤ wd l i ∧ wd l i ≤ 9223372036854775807) :
    Calls Try.prog 6 #[v, .int .i64 x, .int .i64 y] w fun e w' => e = .returned (.bool true) ∧ Below w.heap.size w w' := by
  have KA := Lib.hid (fun W => hA W)
  obtain ⟨b1, hb1⟩ : ∃ b, decide (great10 l x) = b := ⟨_, rfl⟩
  obtain ⟨b2, hb2⟩ : ∃ b, decide (great10 l y) = b := ⟨_, rfl⟩
  have K1 := Lib.hid (fun W (hW : ItIn W v l) => great_any10 l v x W hW b1 hb1)
  have K2 := Lib.hid (fun W (hW : ItIn W v l) => great_any10 l v y W hW b2 hb2)
  by_cases hE : b1 = true ∨ b2 = true ∨ y < x
  · have HV := Lib.hid hv
    obtain ⟨A, c, rfl, -, -⟩ := hv
    clear hk hF hW hA hb1 hb2
    cases b1 with
    | true =>
      clear hE
      go_enter Try.func6, Try.ntmps6
      go_wp2_with (first
        | (go_at_call 15; (with_reducible refine (KA.out _).mono ?_); rintro e w1 ⟨rfl, hb⟩; have B1 := Lib.hid hb; have V1 := Lib.hid (HV.out.keep hb); clear hb)
        | (go_at_call 16; (with_reducible refine (K1.out _ V1.out).mono ?_); rintro e w2 ⟨rfl, hw⟩; subst hw; clear K1))
      go_ret
      exact ⟨rfl, B1.out⟩
    | false =>
      cases b2 with
      | true =>
        clear hE
        go_enter Try.func6, Try.ntmps6
        go_wp2_with (first
          | (go_at_call 15; (with_reducible refine (KA.out _).mono ?_); rintro e w1 ⟨rfl, hb⟩; have B1 := Lib.hid hb; have V1 := Lib.hid (HV.out.keep hb); clear hb)
          | (go_at_call 16; (with_reducible refine (K1.out _ V1.out).mono ?_); rintro e w2 ⟨rfl, hw⟩; subst hw; clear K1)
          | (go_at_call 16; (with_reducible refine (K2.out _ V1.out).mono ?_); rintro e w2 ⟨rfl, hw⟩; subst hw; clear K2))
        go_ret
        exact ⟨rfl, B1.out⟩
      | false =>
        have hyx : y < x := by simpa using hE
        clear hE
        go_enter Try.func6, Try.ntmps6
        go_wp2_with (first
          | (go_at_call 15; (with_reducible refine (KA.out _).mono ?_); rintro e w1 ⟨rfl, hb⟩; have B1 := Lib.hid hb; have V1 := Lib.hid (HV.out.keep hb); clear hb)
          | (go_at_call 16; (with_reducible refine (K1.out _ V1.out).mono ?_); rintro e w2 ⟨rfl, hw⟩; subst hw; clear K1)
          | (go_at_call 16; (with_reducible refine (K2.out _ V1.out).mono ?_); rintro e w2 ⟨rfl, hw⟩; subst hw; clear K2))
        go_ret
        exact ⟨rfl, B1.out⟩
  · obtain rfl : b1 = false := by cases b1; rfl; exact absurd (.inl rfl) hE
    obtain rfl : b2 = false := by cases b2; rfl; exact absurd (.inr (.inl rfl)) hE
    have hyx : ¬ y < x := fun h => hE (.inr (.inr h))
    have g1 : ¬ great10 l x := of_decide_eq_false hb1
    have g2 : ¬ great10 l y := of_decide_eq_false hb2
    have hxy : x ≤ y := by omega
    replace hyx : decide (y < x) = false := decide_eq_false hyx
    have F1 := Lib.hid (within_great g1)
    have F2 := Lib.hid (within_great g2)
    have g3 : ¬ great10 l 1099511627776 := by
      rintro (h | h | h | h)
      · exact g1 (.inl h)
      · omega
      · omega
      · exact g1 (.inr (.inr (.inr h)))
    have KX := Lib.hid (fun W (hW : ItIn W v l) => fill_yes10 hF g1 v W hW hk)
    have KY := Lib.hid (fun W (hW : ItIn W v l) => fill_yes10 hF g2 v W hW hk)
    have KZ := Lib.hid (fun W (hW : ItIn W v l) => fill_yes10 hF g3 v W hW hk)
    have LL : ∀ z, (linesT l z).length ≤ l.length := fun z => by have := fill_len (l := l) z (behind l 0); unfold linesT; omega
    have RX := Lib.hid (LL x)
    have RY := Lib.hid (LL y)
    have RZ := Lib.hid (LL 1099511627776)
    have hl5 := F1.out.2.2.1
    have KWX := Lib.hid (fun W u (h : LnIn W u (linesT l x)) => hW _ u W h (by have := RX.out; omega))
    have KWZ := Lib.hid (fun W u (h : LnIn W u (linesT l 1099511627776)) => hW _ u W h (by have := RZ.out; omega))
    have M := Lib.hid (show NonNeg l → (linesT l y).length ≤ (linesT l x).length ∧ (linesT l 1099511627776).length ≤ (linesT l y).length ∧ (linesT l 1099511627776).length ≤ endsN l l.length + 1 ∧ widestT (linesT l x) ≤ widestT (linesT l 1099511627776) ∧ ∀ i (hi : i < (linesT l y).length) (hj : i < (linesT l x).length), ((linesT l x)[i]).2.1 ≤ ((linesT l y)[i]).2.1 from fun hn => by
      have hr := roomy10 hn F1.out.2.1 F1.out.2.2.1
      obtain ⟨m1, m2⟩ := wider_T F1.out.1 hn hxy
      obtain ⟨m3, -⟩ := wider_T (w := y) (v := 1099511627776) F1.out.1 hn F2.out.2.2.2.2
      have m4 := fill_few F1.out.1 hr (behind l 0) (st_first l)
      have m5 := hards_le l (Nat.zero_le (behind l 0))
      exact ⟨m1, m3, by rw [endsN_all]; unfold linesT; omega, widest_wider F1.out.1 hn hr, m2⟩)
    have HV := Lib.hid hv
    obtain ⟨A, c, rfl, -, -⟩ := hv
    obtain ⟨n, en⟩ : ∃ n, l.length = n := ⟨_, rfl⟩
    have HN := Lib.hid en
    rw [en] at HV K1 K2 KX KY KZ M hl5 ⊢
    clear hb1 hb2 g1 g2 g3 hE en hk LL hF hW hA hxy F1 F2
    go_enter Try.func6, Try.ntmps6
    go_wp2_with (first
      | (go_at_call 15; (with_reducible refine (KA.out _).mono ?_); rintro e w1 ⟨rfl, hb⟩; have B1 := Lib.hid hb; have V1 := Lib.hid (HV.out.keep hb); clear hb)
      | (go_at_call 16; (with_reducible refine (K1.out _ V1.out).mono ?_); rintro e w2 ⟨rfl, hw⟩; subst hw; clear K1)
      | (go_at_call 16; (with_reducible refine (K2.out _ V1.out).mono ?_); rintro e w2 ⟨rfl, hw⟩; subst hw; clear K2))
    go_loopg [7, 8] n (fun h1 ve vi wr => ∃ k : Nat, vi = .int .i64 k ∧ ve = .int .i64 (endsN l k : Nat) ∧ k ≤ n ∧ n - k ≤ h1 ∧ Hid (∀ j, j < k → 0 ≤ wd l j) ∧ Hid (ItIn wr (.slice A n c) l ∧ Below w.heap.size w wr))
    case atStart => exact ⟨0, rfl, rfl, by omega, by omega, Lib.hid (fun j hj => absurd hj (by omega)), Lib.hid ⟨V1.out, B1.out⟩⟩
    case round =>
      obtain ⟨k, rfl, rfl, hk1, hg1, hJ, hS⟩ := hrel
      by_cases hlt : k < n
      · have hz : (k : Int) < n := by omega
        have hz0 : (0 : Int) ≤ k := by omega
        have wk : IntKind.i64.wrap ((k : Int) + 1) = (k : Int) + 1 := IntWalk.i64_in _ (by omega)
        have hel := endsN_le l k
        have we : IntKind.i64.wrap ((endsN l k : Nat) + 1 : Int) = (endsN l k : Nat) + 1 := IntWalk.i64_in _ (by omega)
        have EN := Lib.hid (endsN_succ l (k := k) (by have := HN.out; omega))
        obtain ⟨b, off, c', e, a0, a1⟩ := hS.out.1.get (i := k) (by have := HN.out; omega)
        injection e with e4 e5 e6
        subst e4 e6
        clear e5
        generalize endsN l k = en at we EN hel ⊢
        by_cases hneg : wd l k < 0
        · generalize ((kd l k : Nat) : Int) = y1 at a0
          generalize wd l k = z1 at a1 hneg
          go_wp2_with fail
          go_ret
          exact ⟨rfl, hS.out.2⟩
        · have HJ2 := Lib.hid (show ∀ j, j < k + 1 → 0 ≤ wd l j from fun j hj => by
            by_cases e : j = k
            · rw [e]; omega
            · exact hJ.out j (by omega))
          by_cases h2 : kd l k = 2
          · have p1 : (((kd l k : Nat) : Int) == 2) = true := by rw [h2]; rfl
            rw [if_pos h2] at EN
            generalize ((kd l k : Nat) : Int) = y1 at a0 p1
            generalize wd l k = z1 at a1 hneg
            clear h2
            go_wp2_with fail
            go_roundg (n - (k + 1))
            case measure => omega
            case rel => exact ⟨k + 1, by go_num, by rw [EN.out]; go_num, by omega, Nat.le_refl _, HJ2, hS⟩
          · have p1 : (((kd l k : Nat) : Int) == 2) = false := beq_eq_false_iff_ne.2 (by omega)
            rw [if_neg h2] at EN
            generalize ((kd l k : Nat) : Int) = y1 at a0 p1
            generalize wd l k = z1 at a1 hneg
            clear h2
            go_wp2_with fail
            go_roundg (n - (k + 1))
            case measure => omega
            case rel => exact ⟨k + 1, by go_num, by rw [EN.out]; rfl, by omega, Nat.le_refl _, HJ2, hS⟩
      · obtain rfl : k = n := by omega
        have hz : ¬ (k : Int) < k := by omega
        have hn : NonNeg l := fun j => by
          by_cases c : j < k
          · exact hJ.out j c
          · rw [wd_end (by have := HN.out; omega)]; omega
        have MM := Lib.hid (M.out hn)
        obtain ⟨m1, m2, m3, -, -⟩ := MM.out
        have hel := endsN_le l k
        have rx := RX.out
        have ry := RY.out
        have rz := RZ.out
        have hNN := HN.out
        obtain ⟨Ra, hRa⟩ : ∃ R, linesT l x = R := ⟨_, rfl⟩
        obtain ⟨Rb, hRb⟩ : ∃ R, linesT l y = R := ⟨_, rfl⟩
        obtain ⟨Rc, hRc⟩ : ∃ R, linesT l 1099511627776 = R := ⟨_, rfl⟩
        rw [hRa] at KX KWX MM m1 rx
        rw [hRb] at KY MM m1 m2 ry
        rw [hRc] at KZ KWZ MM m2 m3 rz
        obtain ⟨na, ha⟩ : ∃ n, Ra.length = n := ⟨_, rfl⟩
        obtain ⟨nb, hb⟩ : ∃ n, Rb.length = n := ⟨_, rfl⟩
        obtain ⟨nc, hc⟩ : ∃ n, Rc.length = n := ⟨_, rfl⟩
        have HA := Lib.hid ha
        have HB := Lib.hid hb
        have HC := Lib.hid hc
        rw [ha, hb] at m1
        rw [hb, hc] at m2
        rw [hc] at m3 rz
        rw [ha] at rx
        rw [hb] at ry
        have V2 := Lib.hid hS.out.1
        have B2 := Lib.hid hS.out.2
        generalize endsN l k = en at m3 hel ⊢
        have we : IntKind.i64.wrap ((en : Int) + 1) = (en : Int) + 1 := IntWalk.i64_in _ (by omega)
        have q1 : decide ((na : Int) < nb) = false := decide_eq_false (by omega)
        have q2 : decide ((nb : Int) < nc) = false := decide_eq_false (by omega)
        have q5 : decide (na < nb) = false := decide_eq_false (by omega)
        have q6 : decide (nb < nc) = false := decide_eq_false (by omega)
        have q3 : decide ((en : Int) + 1 < nc) = false := decide_eq_false (by omega)
        clear hS hJ hn M RX RY RZ hRa hRb hRc ha hb hc V1 B1 KA HV
        go_wp2_with (first
          | (go_at_call 11; (with_reducible refine (KX.out _ V2.out).mono ?_); rintro e w3 ⟨out, rfl, hO, hB⟩; clear KX; obtain ⟨Ca, da, eo, ho⟩ := hO.lns; rw [HA.out] at eo; subst eo; have LA := Lib.hid hO.lns; have V3 := Lib.hid (V2.out.keep hB); have B3 := Lib.hid (B2.out.trans (hB.mono B2.out.size)); clear hO hB ho V2 B2)
          | (go_at_call 11; (with_reducible refine (KY.out _ V3.out).mono ?_); rintro e w4 ⟨out, rfl, hO, hB⟩; clear KY; obtain ⟨Cb, db, eo, ho⟩ := hO.lns; rw [HB.out] at eo; subst eo; have LB := Lib.hid hO.lns; replace LA := Lib.hid (LA.out.keep hB); have V4 := Lib.hid (V3.out.keep hB); have B4 := Lib.hid (B3.out.trans (hB.mono B3.out.size)); clear hO hB ho V3 B3)
          | (go_at_call 11; (with_reducible refine (KZ.out _ V4.out).mono ?_); rintro e w5 ⟨out, rfl, hO, hB⟩; clear KZ; obtain ⟨Cc, dc, eo, ho⟩ := hO.lns; rw [HC.out] at eo; subst eo; have LC := Lib.hid hO.lns; replace LA := Lib.hid (LA.out.keep hB); replace LB := Lib.hid (LB.out.keep hB); have B5 := Lib.hid (B4.out.trans (hB.mono B4.out.size)); clear hO hB ho V4 B4))
        go_loopg [15] nb (fun h3 vi wr => ∃ i q : Nat, vi = .int .i64 i ∧ i ≤ nb ∧ nb - i ≤ h3 ∧ wr = w5.drewN q)
        case atStart => exact ⟨0, 0, rfl, by omega, by omega, rfl⟩
        case round =>
          obtain ⟨i, q, rfl, hi, hg2, rfl⟩ := hrel
          by_cases hin : i < nb
          · have z1 : (i : Int) < nb := by omega
            have z2 : (i : Int) < na := by omega
            have z0 : (0 : Int) ≤ i := by omega
            have wi : IntKind.i64.wrap ((i : Int) + 1) = (i : Int) + 1 := IntWalk.i64_in _ (by omega)
            have hla : i < Ra.length := by have := HA.out; omega
            have hlb : i < Rb.length := by have := HB.out; omega
            obtain ⟨A1, e1, e, -, hqa⟩ := LA.out
            injection e with e4 e5 e6
            subst e4 e6
            clear e5
            obtain ⟨A2, e2, e, -, hqb⟩ := LB.out
            injection e with e4 e5 e6
            subst e4 e6
            clear e5
            obtain ⟨ga, rfl, -, hta⟩ := hqa (by intro e; rw [e] at hla; simp at hla)
            obtain ⟨gb, rfl, -, htb⟩ := hqb (by intro e; rw [e] at hlb; simp at hlb)
            have a1 := (hta i Ra[i] (List.getElem?_eq_getElem hla)).2.1
            have b1 := (htb i Rb[i] (List.getElem?_eq_getElem hlb)).2.1
            have q4 : ¬ ((Rb[i].2.1 : Nat) : Int) < (Ra[i].2.1 : Nat) := by have := MM.out.2.2.2.2 i hlb hla; omega
            generalize ((Rb[i].2.1 : Nat) : Int) = y1 at b1 q4
            generalize ((Ra[i].2.1 : Nat) : Int) = y2 at a1 q4
            clear hta htb hqa hqb hla hlb
            go_wp2_with fail
            go_quiet (fail)
            go_wp2_with fail
            go_roundg (nb - (i + 1))
            case measure => omega
            case rel => exact ⟨i + 1, q + nq, by go_num, by omega, Nat.le_refl _, rfl⟩
          · obtain rfl : i = nb := by omega
            have z1 : ¬ (i : Int) < i := by omega
            have L1 := Lib.hid (LC.out.keep (drewN_below w5 q _))
            have L2 := Lib.hid (LA.out.keep (drewN_below w5 q _))
            have B6 := Lib.hid (B5.out.trans (drewN_below w5 q _))
            have q4 : widestT Ra ≤ widestT Rc := MM.out.2.2.2.1
            generalize w5.drewN q = w6 at L1 L2 B6 ⊢
            obtain ⟨wa, hwa⟩ : ∃ z, widestT Ra = z := ⟨_, rfl⟩
            obtain ⟨wc, hwc⟩ : ∃ z, widestT Rc = z := ⟨_, rfl⟩
            rw [hwa] at KWX q4
            rw [hwc] at KWZ q4
            clear hwa hwc
            go_wp2_with (first
              | (go_at_call 13; (with_reducible refine (KWZ.out _ _ L1.out).mono ?_); rintro e w7 ⟨rfl, hb⟩; clear KWZ; have L3 := Lib.hid (L2.out.keep hb); have B7 := Lib.hid (B6.out.trans (hb.mono B6.out.size)); clear hb L1 L2 B6)
              | (go_at_call 13; (with_reducible refine (KWX.out _ _ L3.out).mono ?_); rintro e w8 ⟨rfl, hb⟩; clear KWX; have B8 := Lib.hid (B7.out.trans (hb.mono B7.out.size)); clear hb L3 B7))
            go_ret
            exact ⟨rfl, B8.out⟩
/-- the law's walk, of items that came in -/
theorem wider10_in (hF : FillOK 11) (hW : WidestOK 13) (hA : AwakeOK10 15) (a0 : Option Addr) (len0 cap0 : Nat) (z0 : List It) (a1 a2 : Int) (w : World) (w0 : ItemsIn w a0 len0 cap0 z0) :
    Calls Try.prog 6 #[.slice a0 len0 cap0, .int .i64 a1, .int .i64 a2] w fun e w' => e = .returned (.bool true) ∧ Below w.heap.size w w' := by
  obtain ⟨h1, rfl, h3, h4, h5⟩ := w0
  exact wider10 hF hW hA z0 _ a1 a2 w h1 h5
end Go.Proofs.Ytpfeiiabplaghaa
