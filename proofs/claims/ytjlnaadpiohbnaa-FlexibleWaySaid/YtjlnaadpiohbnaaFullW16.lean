/-
  The law FlexibleFull: of any Sizes that answers as is asked.
-/
import Derived.Test.YtjlnaadpiohbnaaLaws16
namespace Go.Proofs.Ytjlnaadpiohbnaa
open Go.RowKit

set_option maxRecDepth 100000 in
set_option maxHeartbeats 16000000 in
theorem full16 (hS : SizesOK 11) (hF : FirstOK 13) (hA : AwakeOK16 15) (A : Option Addr) (n c : Nat) (l : List It16) (gap room : Int) (w : World) (hv : TmIn w (.slice A n c) l) (hl : l.length = n)
    (hbig : ∀ i, i < l.length → ∀ y ∈ [(itA l i).base, (itA l i).least, (itA l i).most, (itA l i).grow, (itA l i).shrink, (itA l i).outer], -9223372036854775808 ≤ y ∧ y ≤ 9223372036854775807) :
    Calls Try.prog 4 #[.slice A n c, .int .i64 gap, .int .i64 room] w fun e w' => e = .returned (.bool true) ∧ Below w.heap.size w w' := by
  have KA := Lib.hid (fun W => hA W)
  have HV := Lib.hid hv
  have HL := Lib.hid hl
  obtain ⟨bg, hbg⟩ : ∃ b, decide (NearR l gap room) = b := ⟨_, rfl⟩
  have KN := Lib.hid (fun W (hW : TmIn W (.slice A n c) l) => near16 A n c l gap room W hW hl bg hbg)
  have KS0 := Lib.hid (fun W (hW : TmIn W (.slice A n c) l) (h : l.length ≤ 80000) => hS l (.slice A n c) gap room W hW h hbig)
  have KF0 := Lib.hid (fun W (hW : TmIn W (.slice A n c) l) (h : NearR l gap 0) => first16 hF A n c l gap room W hW hl h)
  have KO := Lib.hid (fun x W => hF x W)
  clear hv hA hS hbig hF hl
  cases bg with
  | false =>
    clear KS0 KF0 KO
    go_enter Try.func4, Try.ntmps4
    go_wp2_with (first
      | (go_at_call 15; (with_reducible refine (KA.out _).mono ?_); rintro e w1 ⟨rfl, hb⟩; have B1 := Lib.hid hb; clear hb)
      | (go_at_call 16; (with_reducible refine (KN.out _ (HV.out.keep B1.out)).mono ?_); rintro e w2 ⟨rfl, hb⟩; have B2 := Lib.hid (b_next16 B1.out hb); clear hb))
    go_ret
    exact ⟨rfl, B2.out⟩
  | true =>
  have NR : Hid (NearR l gap room) := Lib.hid (of_decide_eq_true hbg)
  have hn1 : n ≤ 100 := by have := NR.out.hn; have := HL.out; omega
  have hrm := NR.out.hroom
  have hgp := NR.out.hgap
  have KS := Lib.hid (fun W hW => (KS0.out W hW (by have := HL.out; omega) NR.out.ig NR.out.ir).mono (R' := fun e w' => ∃ vO f, e = .returned (.tuple #[vO, .int .i64 0]) ∧ Hid (Told16 l n gap room f) ∧ Hid (ownsI16 w' W.heap.size vO (listF f n)) ∧ Below W.heap.size W w') (by
    rintro e w' ⟨vO, o, z, rfl, h1, h2, hb⟩
    obtain ⟨f, rfl, rfl, h3⟩ := near_told16 NR.out h1
    rw [HL.out] at h3 h2
    exact ⟨vO, f, rfl, Lib.hid h3, Lib.hid h2, hb⟩))
  have KF := Lib.hid (fun W hW => KF0.out W hW NR.out.zero)
  have NI : Hid (∀ i, i < n → NearI (itA l i)) := Lib.hid (fun i hi => (NR.out.hI i (by rw [HL.out]; exact hi)).1)
  clear KS0 KF0 hbg
  go_enter Try.func4, Try.ntmps4
  go_upto_region 5 with (first
    | (go_at_call 15; (with_reducible refine (KA.out _).mono ?_); rintro e w1 ⟨rfl, hb⟩; have B1 := Lib.hid hb; clear hb)
    | (go_at_call 16; (with_reducible refine (KN.out _ (HV.out.keep B1.out)).mono ?_); rintro e w2 ⟨rfl, hb⟩; have B2 := Lib.hid (b_next16 B1.out hb); clear hb))
  go_upto_region 6 with (go_at_call 11; (with_reducible refine (KS.out _ (HV.out.keep B2.out)).mono ?_); rintro e w3 ⟨vO, f, rfl, TF, O3, hb⟩; have B3 := Lib.hid (b_next16 B2.out hb); clear hb)
  obtain ⟨AO, cO, eO⟩ := own_row16 O3.out
  subst eO
  have V3 := Lib.hid (HV.out.keep B3.out)
  have FB := Lib.hid (TF.out.bd NI.out)
  clear KA KN KS HV B1 B2
  by_cases hr : room < 0
  · have hr1 : decide (room < 0) = true := decide_eq_true hr
    have FE := Lib.hid (TF.out.first hr)
    clear KF
    go_wp2_with fail
    go_loopg [9] n (fun g1 vi wr => ∃ k : Nat, vi = .int .i64 k ∧ k ≤ n ∧ n - k ≤ g1 ∧ Hid (Below w3.heap.size w3 wr))
    case atStart => exact ⟨0, rfl, by omega, by omega, Lib.hid (Below.refl _ _)⟩
    case round =>
      obtain ⟨k, rfl, hk, hg1, HB⟩ := hrel
      obtain ⟨wo, hwo⟩ : ∃ wo, wo = wr := ⟨_, rfl⟩
      subst hwo
      by_cases hlt : k < n
      · have hz : (k : Int) < n := by omega
        have hz0 : (0 : Int) ≤ k := by omega
        have wi : IntKind.i64.wrap ((k : Int) + 1) = (k : Int) + 1 := IntWalk.i64_in _ (by omega)
        obtain ⟨bb, off, c1, e, -, -, -⟩ := V3.out.get (i := k) (by have := HL.out; omega)
        injection e with e1 e2 e3
        subst e1 e3
        clear e2
        obtain ⟨gO, cO', e, -, hgl, hoc⟩ := own_at16 O3.out hlt
        injection e with e1 e2 e3
        subst e1 e3
        clear e2
        have CT : Hid (∀ W, Below wo.heap.size wo W → TmAt W bb (off + k * 6) (itA l k) ∧ W.cell? ⟨gO, k, none⟩ = some (.int .i64 (f k))) := Lib.hid (fun W hW => ⟨V3.out.later (k := k) (by have := HL.out; omega) W (b_next16 HB.out hW), ((b_next16 HB.out hW).cell (p := ⟨gO, k, none⟩) hgl).trans hoc⟩)
        have KO1 := Lib.hid (fun W => KO.out (itA l k) W)
        rw [← FE.out k hlt] at KO1
        clear hgl hoc
        generalize f k = y at CT KO1
        generalize itA l k = x at CT KO1
        obtain ⟨x0, x1, x2, x3, x4, x5⟩ := x
        unfold TmAt at CT
        unfold tmV at KO1
        dsimp only at CT KO1
        have yy : ((y : Int) != y) = (!true) := by simp
        go_upto_region 12 with fail
        refine' wp_region_below [opV _, opV _, opV _, opV _, opV _, opV _, opV _, opV _, opV (.int .i64 y), opV _] rfl (by kernel_rfl) ⟨?s0, ?s1, ?s2, ?s3, ?s4, ?s5, ?s6, ?s7, ?s8, ?s9, trivial⟩ ?fin
        case s0 =>
          refine BStep.of [] [] (opV _) (by kernel_rfl) (fun _ _ => by kernel_rfl) rfl ?_
          intro vs wv hB hA
          clear hA
          simp only [fillP]
          have ct := (CT.out wv hB).1; have a0 := ct.1; have a1 := ct.2.1; have a2 := ct.2.2.1; have a3 := ct.2.2.2.1; have a4 := ct.2.2.2.2.1; have a5 := ct.2.2.2.2.2; have a6 := (CT.out wv hB).2; clear ct; go_wp2_with fail
          refine postB_val ?_ (Below.refl _ _)
          simp only [List.getElem?_cons_succ, List.getElem?_cons_zero]
          rfl
        case s1 =>
          refine BStep.of [] [] (opV _) (by kernel_rfl) (fun _ _ => by kernel_rfl) rfl ?_
          intro vs wv hB hA
          clear hA
          simp only [fillP]
          have ct := (CT.out wv hB).1; have a0 := ct.1; have a1 := ct.2.1; have a2 := ct.2.2.1; have a3 := ct.2.2.2.1; have a4 := ct.2.2.2.2.1; have a5 := ct.2.2.2.2.2; have a6 := (CT.out wv hB).2; clear ct; go_wp2_with fail
          refine postB_val ?_ (Below.refl _ _)
          simp only [List.getElem?_cons_succ, List.getElem?_cons_zero]
          rfl
        case s2 =>
          refine BStep.of [0, 1] [(46, 0), (47, 1)] (opV _) (by kernel_rfl) (fun _ _ => by kernel_rfl) rfl ?_
          intro vs wv hB hA
          have h0 : vs 0 = _ := hA.1
          have h1 : vs 1 = _ := hA.2.1
          clear hA
          simp only [fillP, List.setIfInBounds_toArray, List.set_cons_zero, List.set_cons_succ, h0, h1]
          have ct := (CT.out wv hB).1; have a0 := ct.1; have a1 := ct.2.1; have a2 := ct.2.2.1; have a3 := ct.2.2.2.1; have a4 := ct.2.2.2.2.1; have a5 := ct.2.2.2.2.2; have a6 := (CT.out wv hB).2; clear ct; go_wp2_with fail
          refine postB_val ?_ (Below.refl _ _)
          simp only [List.getElem?_cons_succ, List.getElem?_cons_zero]
          rfl
        case s3 =>
          refine BStep.of [2] [(48, 2)] (opV _) (by kernel_rfl) (fun _ _ => by kernel_rfl) rfl ?_
          intro vs wv hB hA
          have h2 : vs 2 = _ := hA.1
          clear hA
          simp only [fillP, List.setIfInBounds_toArray, List.set_cons_zero, List.set_cons_succ, h2]
          have ct := (CT.out wv hB).1; have a0 := ct.1; have a1 := ct.2.1; have a2 := ct.2.2.1; have a3 := ct.2.2.2.1; have a4 := ct.2.2.2.2.1; have a5 := ct.2.2.2.2.2; have a6 := (CT.out wv hB).2; clear ct; go_wp2_with fail
          refine postB_val ?_ (Below.refl _ _)
          simp only [List.getElem?_cons_succ, List.getElem?_cons_zero]
          rfl
        case s4 =>
          refine BStep.of [] [] (opV _) (by kernel_rfl) (fun _ _ => by kernel_rfl) rfl ?_
          intro vs wv hB hA
          clear hA
          simp only [fillP]
          have ct := (CT.out wv hB).1; have a0 := ct.1; have a1 := ct.2.1; have a2 := ct.2.2.1; have a3 := ct.2.2.2.1; have a4 := ct.2.2.2.2.1; have a5 := ct.2.2.2.2.2; have a6 := (CT.out wv hB).2; clear ct; go_wp2_with fail
          refine postB_val ?_ (Below.refl _ _)
          simp only [List.getElem?_cons_succ, List.getElem?_cons_zero]
          rfl
        case s5 =>
          refine BStep.of [] [] (opV _) (by kernel_rfl) (fun _ _ => by kernel_rfl) rfl ?_
          intro vs wv hB hA
          clear hA
          simp only [fillP]
          have ct := (CT.out wv hB).1; have a0 := ct.1; have a1 := ct.2.1; have a2 := ct.2.2.1; have a3 := ct.2.2.2.1; have a4 := ct.2.2.2.2.1; have a5 := ct.2.2.2.2.2; have a6 := (CT.out wv hB).2; clear ct; go_wp2_with fail
          refine postB_val ?_ (Below.refl _ _)
          simp only [List.getElem?_cons_succ, List.getElem?_cons_zero]
          rfl
        case s6 =>
          refine BStep.of [4, 5] [(50, 4), (51, 5)] (opV _) (by kernel_rfl) (fun _ _ => by kernel_rfl) rfl ?_
          intro vs wv hB hA
          have h4 : vs 4 = _ := hA.1
          have h5 : vs 5 = _ := hA.2.1
          clear hA
          simp only [fillP, List.setIfInBounds_toArray, List.set_cons_zero, List.set_cons_succ, h4, h5]
          have ct := (CT.out wv hB).1; have a0 := ct.1; have a1 := ct.2.1; have a2 := ct.2.2.1; have a3 := ct.2.2.2.1; have a4 := ct.2.2.2.2.1; have a5 := ct.2.2.2.2.2; have a6 := (CT.out wv hB).2; clear ct; go_wp2_with fail
          refine postB_val ?_ (Below.refl _ _)
          simp only [List.getElem?_cons_succ, List.getElem?_cons_zero]
          rfl
        case s7 =>
          refine BStep.of [6] [(52, 6)] (opV _) (by kernel_rfl) (fun _ _ => by kernel_rfl) rfl ?_
          intro vs wv hB hA
          have h6 : vs 6 = _ := hA.1
          clear hA
          simp only [fillP, List.setIfInBounds_toArray, List.set_cons_zero, List.set_cons_succ, h6]
          have ct := (CT.out wv hB).1; have a0 := ct.1; have a1 := ct.2.1; have a2 := ct.2.2.1; have a3 := ct.2.2.2.1; have a4 := ct.2.2.2.2.1; have a5 := ct.2.2.2.2.2; have a6 := (CT.out wv hB).2; clear ct; go_wp2_with fail
          refine postB_val ?_ (Below.refl _ _)
          simp only [List.getElem?_cons_succ, List.getElem?_cons_zero]
          rfl
        case s8 =>
          refine BStep.of [7] [(53, 7)] (opV (.int .i64 y)) (by kernel_rfl) (fun _ _ => by kernel_rfl) rfl ?_
          intro vs wv hB hA
          have h7 : vs 7 = _ := hA.1
          clear hA
          simp only [fillP, List.setIfInBounds_toArray, List.set_cons_zero, List.set_cons_succ, h7]
          (go_wp2_with (go_at_call 13; (with_reducible refine (KO1.out _).mono ?_); rintro e w7 ⟨rfl, hb⟩)); exact postB_val rfl hb
        case s9 =>
          refine BStep.of [3, 8] [(49, 3), (54, 8)] (opV _) (by kernel_rfl) (fun _ _ => by kernel_rfl) rfl ?_
          intro vs wv hB hA
          have h3 : vs 3 = _ := hA.1
          have h8 : vs 8 = _ := hA.2.1
          clear hA
          simp only [fillP, List.setIfInBounds_toArray, List.set_cons_zero, List.set_cons_succ, h3, h8]
          have ct := (CT.out wv hB).1; have a0 := ct.1; have a1 := ct.2.1; have a2 := ct.2.2.1; have a3 := ct.2.2.2.1; have a4 := ct.2.2.2.2.1; have a5 := ct.2.2.2.2.2; have a6 := (CT.out wv hB).2; clear ct; go_wp2_with fail
          refine postB_val ?_ (Below.refl _ _)
          simp only [List.getElem?_cons_succ, List.getElem?_cons_zero]
          rfl
        case fin =>
          refine fin_of [0, 1, 2, 3, 4, 5, 6, 7, 8, 9] [(46, 0), (47, 1), (48, 2), (49, 3), (50, 4), (51, 5), (52, 6), (53, 7), (54, 8), (55, 9)] (by kernel_rfl) (fun _ _ => by kernel_rfl) ?_
          intro vs wv hB hA
          have h0 : vs 0 = _ := hA.1
          have h1 : vs 1 = _ := hA.2.1
          have h2 : vs 2 = _ := hA.2.2.1
          have h3 : vs 3 = _ := hA.2.2.2.1
          have h4 : vs 4 = _ := hA.2.2.2.2.1
          have h5 : vs 5 = _ := hA.2.2.2.2.2.1
          have h6 : vs 6 = _ := hA.2.2.2.2.2.2.1
          have h7 : vs 7 = _ := hA.2.2.2.2.2.2.2.1
          have h8 : vs 8 = _ := hA.2.2.2.2.2.2.2.2.1
          have h9 : vs 9 = _ := hA.2.2.2.2.2.2.2.2.2.1
          clear hA
          simp only [fillP, List.setIfInBounds_toArray, List.set_cons_zero, List.set_cons_succ, h0, h1, h2, h3, h4, h5, h6, h7, h8, h9]
          go_wp2_with fail
          go_roundg (n - (k + 1))
          case measure => omega
          case rel => exact ⟨k + 1, by go_num, by omega, Nat.le_refl _, Lib.hid (b_next16 HB.out hB)⟩
      · obtain rfl : k = n := by omega
        have hz : ¬ (k : Int) < k := by omega
        go_wp2_with fail
        go_ret
        exact ⟨rfl, b_next16 B3.out HB.out⟩
  · have hr1 : decide (room < 0) = false := decide_eq_false hr
    clear KO
    have SB := Lib.hid (fun k (hk : k ≤ n) => fullS_bd (l := l) (f := f) (gap := gap) (k := k) (by omega) hgp (fun i hi => NI.out i (by omega)) (fun i hi => FB.out i (by omega)))
    go_wp2_with fail
    go_loopg [10, 11] n (fun g1 vs vi wr => ∃ k : Nat, vi = .int .i64 k ∧ vs = .int .i64 (fullS l f gap k) ∧ k ≤ n ∧ n - k ≤ g1 ∧ Hid (Below w3.heap.size w3 wr))
    case atStart => exact ⟨0, rfl, by rw [fullS_zero], by omega, by omega, Lib.hid (Below.refl _ _)⟩
    case round =>
      obtain ⟨k, rfl, rfl, hk, hg1, HB⟩ := hrel
      obtain ⟨wo, hwo⟩ : ∃ wo, wo = wr := ⟨_, rfl⟩
      subst hwo
      by_cases hlt : k < n
      · have hz : (k : Int) < n := by omega
        have hz0 : (0 : Int) ≤ k := by omega
        have wi : IntKind.i64.wrap ((k : Int) + 1) = (k : Int) + 1 := IntWalk.i64_in _ (by omega)
        obtain ⟨bb, off, c1, e, -, -, -⟩ := V3.out.get (i := k) (by have := HL.out; omega)
        injection e with e1 e2 e3
        subst e1 e3
        clear e2
        obtain ⟨gO, cO', e, -, hgl, hoc⟩ := own_at16 O3.out hlt
        injection e with e1 e2 e3
        subst e1 e3
        clear e2
        have hoc2 := (HB.out.cell (p := ⟨gO, k, none⟩) hgl).trans hoc
        obtain ⟨-, -, -, -, -, a5⟩ := V3.out.later (k := k) (by have := HL.out; omega) wo HB.out
        have s0 := SB.out k (by omega)
        have s1 := SB.out (k + 1) (by omega)
        have o1 := (NI.out k hlt).houter
        have f1 := FB.out k hlt
        obtain ⟨s', hs'⟩ : ∃ s', fullS l f gap (k + 1) = s' := ⟨_, rfl⟩
        have E := Lib.hid hs'
        rw [fullS_succ] at hs'
        rw [E.out] at s1
        generalize fullS l f gap k = s at s0 hs' ⊢
        generalize (itA l k).outer = x5 at a5 o1 hs'
        generalize f k = y at hoc hoc2 f1 hs'
        have wa0 : IntKind.i64.wrap (s + y) = s + y := IntWalk.i64_in _ (by omega)
        obtain ⟨t1, ht1⟩ : ∃ t1, s + y = t1 := ⟨_, rfl⟩
        have wa := wa0.trans ht1
        have wb0 : IntKind.i64.wrap (t1 + x5) = t1 + x5 := IntWalk.i64_in _ (by omega)
        obtain ⟨t, ht⟩ : ∃ t, t1 + x5 = t := ⟨_, rfl⟩
        have wb := wb0.trans ht
        have wc0 : IntKind.i64.wrap (t + gap) = t + gap := IntWalk.i64_in _ (by omega)
        obtain ⟨t2, ht2⟩ : ∃ t2, t + gap = t2 := ⟨_, rfl⟩
        have wc := wc0.trans ht2
        have HT : Hid ((if 0 < k then t2 else t) = s') := Lib.hid (by rw [← hs', ← ht2]; split <;> omega)
        clear wa0 wb0 wc0 ht2 ht ht1 s0 s1 o1 f1 hs' hgl hoc
        go_upto_region 19 with fail
        go_quiet (fail)
        by_cases h0 : 0 < k
        · have d1 : decide ((0 : Int) < k) = true := decide_eq_true (by omega)
          have E2 : Hid (t2 = s') := Lib.hid (by have := HT.out; rwa [if_pos h0] at this)
          go_wp2_with fail
          go_roundg (n - (k + 1))
          case measure => omega
          case rel => exact ⟨k + 1, by go_num, by rw [E.out, E2.out], by omega, Nat.le_refl _, Lib.hid (b_next16 HB.out (drewN_below _ _ _))⟩
        · have d1 : decide ((0 : Int) < k) = false := decide_eq_false (by omega)
          have E2 : Hid (t = s') := Lib.hid (by have := HT.out; rwa [if_neg h0] at this)
          go_wp2_with fail
          go_roundg (n - (k + 1))
          case measure => omega
          case rel => exact ⟨k + 1, by go_num, by rw [E.out, E2.out], by omega, Nat.le_refl _, Lib.hid (b_next16 HB.out (drewN_below _ _ _))⟩
      · obtain rfl : k = n := by omega
        have hz : ¬ (k : Int) < k := by omega
        have V4 := Lib.hid (V3.out.keep HB.out)
        have SN := Lib.hid (SB.out k (Nat.le_refl _))
        have FU : Hid (fullS l f gap k = sumB f k + aroundI l gap k) := Lib.hid rfl
        have KF1 := Lib.hid (KF.out wo V4.out)
        rw [firstS_near] at KF1
        have HG := Lib.hid (show ∀ g, growI l k gap room = g → growI l k gap room = g from fun _ h => h)
        have T1 := Lib.hid (TF.out.gfull (by omega))
        have T2 := Lib.hid (TF.out.sfull (by omega))
        generalize fullS l f gap k = s at SN FU ⊢
        generalize growI l k gap room = g at KF1 T1 T2 HG
        clear HG SB KF
        go_upto_region 23 with (go_at_call 17; (with_reducible refine KF1.out.mono ?_); rintro e w5 ⟨rfl, hb⟩; have B5 := Lib.hid hb; clear hb)
        have wr1 : IntKind.i64.wrap (room - (k : Int)) = room - k := IntWalk.i64_in _ (by omega)
        have wr2 : IntKind.i64.wrap (room + (k : Int)) = room + k := IntWalk.i64_in _ (by omega)
        have D : Hid ((g = true → decide (room + k < s) = false) ∧ (g = false → decide (s < room - k) = false)) := Lib.hid ⟨fun h => decide_eq_false (by have := (T1.out h).1; have := FU.out; omega), fun h => decide_eq_false (by have := (T2.out h).1; have := FU.out; omega)⟩
        have T3 : Hid (g = true → s < room - k → ∀ i, i < k → (itA l i).grow ≠ 0 → (itA l i).most ≤ f i) := Lib.hid (fun h hs => (T1.out h).2.resolve_left (by have := FU.out; omega))
        have T4 : Hid (g = false → room + k < s → ∀ i, i < k → (itA l i).shrink ≠ 0 → (itA l i).base ≠ 0 → f i ≤ (itA l i).least) := Lib.hid (fun h hs => (T2.out h).2.resolve_left (by have := FU.out; omega))
        clear T1 T2 FU KF1 TF
        obtain ⟨r1, hr1'⟩ : ∃ r1, room - (k : Int) = r1 := ⟨_, rfl⟩
        obtain ⟨r2, hr2'⟩ : ∃ r2, room + (k : Int) = r2 := ⟨_, rfl⟩
        replace wr1 := wr1.trans hr1'
        replace wr2 := wr2.trans hr2'
        rw [hr1', hr2'] at D
        rw [hr1'] at T3
        rw [hr2'] at T4
        clear hr1' hr2'
        have BA : Hid (Below w3.heap.size w3 w5) := Lib.hid (b_next16 HB.out B5.out)
        clear HB B5 V4
        cases g with
        | true =>
          have d1 := D.out.1 rfl
          have T5 := Lib.hid (T3.out rfl)
          clear T3 T4 D
          go_wp2_with fail
          go_loopg [14] k (fun g1 vi wr => ∃ j : Nat, vi = .int .i64 j ∧ j ≤ k ∧ k - j ≤ g1 ∧ Hid (Below w3.heap.size w3 wr))
          case atStart => exact ⟨0, rfl, by omega, by omega, BA⟩
          case round =>
            obtain ⟨j, rfl, hj, hg1, HB⟩ := hrel
            obtain ⟨wo, hwo⟩ : ∃ wo, wo = wr := ⟨_, rfl⟩
            subst hwo
            by_cases hc : s < r1
            · have hc1 : decide (s < r1) = true := decide_eq_true hc
              by_cases hlt : j < k
              · have hz : (j : Int) < k := by omega
                have hz1 : decide ((j : Int) < k) = true := decide_eq_true hz
                have hz0 : (0 : Int) ≤ j := by omega
                have wi : IntKind.i64.wrap ((j : Int) + 1) = (j : Int) + 1 := IntWalk.i64_in _ (by omega)
                obtain ⟨bb, off, c1, e, -, -, -⟩ := V3.out.get (i := j) (by have := HL.out; omega)
                injection e with e1 e2 e3
                subst e1 e3
                clear e2
                obtain ⟨gO, cO', e, -, hgl, hoc⟩ := own_at16 O3.out hlt
                injection e with e1 e2 e3
                subst e1 e3
                clear e2
                have hoc2 := (HB.out.cell (p := ⟨gO, j, none⟩) hgl).trans hoc
                obtain ⟨a0, a1, a2, a3, a4, a5⟩ := V3.out.later (k := j) (by have := HL.out; omega) wo HB.out
                have T6 := T5.out hc j hlt
                have gw := (NI.out j hlt).hgrow
                clear hgl hoc
                generalize f j = y at hoc2 T6
                generalize (itA l j).grow = x3 at a3 T6 gw
                generalize (itA l j).most = x2 at a2 T6
                by_cases h3 : 0 < x3
                · have d3 : decide (0 < x3) = true := decide_eq_true h3
                  have d4 : decide (y < x2) = false := decide_eq_false (by have := T6 (by omega); omega)
                  clear T6 gw h3
                  go_upto_region 28 with fail
                  go_quiet (fail)
                  go_wp2_with fail
                  go_roundg (k - (j + 1))
                  case measure => omega
                  case rel => exact ⟨j + 1, by go_num, by omega, Nat.le_refl _, Lib.hid (b_next16 HB.out (drewN_below _ _ _))⟩
                · have d3 : decide (0 < x3) = false := decide_eq_false h3
                  clear T6 gw h3
                  go_upto_region 28 with fail
                  go_quiet (fail)
                  go_wp2_with fail
                  go_roundg (k - (j + 1))
                  case measure => omega
                  case rel => exact ⟨j + 1, by go_num, by omega, Nat.le_refl _, Lib.hid (b_next16 HB.out (drewN_below _ _ _))⟩
              · have hz : ¬ (j : Int) < k := by omega
                have hz1 : decide ((j : Int) < k) = false := decide_eq_false hz
                go_wp2_with fail
                go_ret
                exact ⟨rfl, b_next16 B3.out HB.out⟩
            · have hc1 : decide (s < r1) = false := decide_eq_false hc
              by_cases hlt : j < k
              · have hz1 : decide ((j : Int) < k) = true := decide_eq_true (by omega)
                go_wp2_with fail
                go_ret
                exact ⟨rfl, b_next16 B3.out HB.out⟩
              · have hz1 : decide ((j : Int) < k) = false := decide_eq_false (by omega)
                go_wp2_with fail
                go_ret
                exact ⟨rfl, b_next16 B3.out HB.out⟩
        | false =>
          have d1 := D.out.2 rfl
          have T5 := Lib.hid (T4.out rfl)
          clear T3 T4 D
          go_wp2_with fail
          go_loopg [14] k (fun g1 vi wr => ∃ j : Nat, vi = .int .i64 j ∧ j ≤ k ∧ k - j ≤ g1 ∧ Hid (Below w3.heap.size w3 wr))
          case atStart => exact ⟨0, rfl, by omega, by omega, BA⟩
          case round =>
            obtain ⟨j, rfl, hj, hg1, HB⟩ := hrel
            obtain ⟨wo, hwo⟩ : ∃ wo, wo = wr := ⟨_, rfl⟩
            subst hwo
            by_cases hc : r2 < s
            · have hc1 : decide (r2 < s) = true := decide_eq_true hc
              by_cases hlt : j < k
              · have hz : (j : Int) < k := by omega
                have hz1 : decide ((j : Int) < k) = true := decide_eq_true hz
                have hz0 : (0 : Int) ≤ j := by omega
                have wi : IntKind.i64.wrap ((j : Int) + 1) = (j : Int) + 1 := IntWalk.i64_in _ (by omega)
                obtain ⟨bb, off, c1, e, -, -, -⟩ := V3.out.get (i := j) (by have := HL.out; omega)
                injection e with e1 e2 e3
                subst e1 e3
                clear e2
                obtain ⟨gO, cO', e, -, hgl, hoc⟩ := own_at16 O3.out hlt
                injection e with e1 e2 e3
                subst e1 e3
                clear e2
                have hoc2 := (HB.out.cell (p := ⟨gO, j, none⟩) hgl).trans hoc
                obtain ⟨a0, a1, a2, a3, a4, a5⟩ := V3.out.later (k := j) (by have := HL.out; omega) wo HB.out
                have T6 := T5.out hc j hlt
                have gw := (NI.out j hlt).hshrink
                have bw := (NI.out j hlt).hbase
                clear hgl hoc
                generalize f j = y at hoc2 T6
                generalize (itA l j).base = x0 at a0 T6 bw
                generalize (itA l j).shrink = x4 at a4 T6 gw
                generalize (itA l j).least = x1 at a1 T6
                by_cases h4 : 0 < x4
                · have d3 : decide (0 < x4) = true := decide_eq_true h4
                  by_cases h0 : 0 < x0
                  · have d4 : decide (0 < x0) = true := decide_eq_true h0
                    have d5 : decide (x1 < y) = false := decide_eq_false (by have := T6 (by omega) (by omega); omega)
                    clear T6 gw bw h4 h0
                    go_upto_region 28 with fail
                    go_quiet (fail)
                    go_wp2_with fail
                    go_roundg (k - (j + 1))
                    case measure => omega
                    case rel => exact ⟨j + 1, by go_num, by omega, Nat.le_refl _, Lib.hid (b_next16 HB.out (drewN_below _ _ _))⟩
                  · have d4 : decide (0 < x0) = false := decide_eq_false h0
                    clear T6 gw bw h4 h0
                    go_upto_region 28 with fail
                    go_quiet (fail)
                    go_wp2_with fail
                    go_roundg (k - (j + 1))
                    case measure => omega
                    case rel => exact ⟨j + 1, by go_num, by omega, Nat.le_refl _, Lib.hid (b_next16 HB.out (drewN_below _ _ _))⟩
                · have d3 : decide (0 < x4) = false := decide_eq_false h4
                  clear T6 gw bw h4
                  go_upto_region 28 with fail
                  go_quiet (fail)
                  go_wp2_with fail
                  go_roundg (k - (j + 1))
                  case measure => omega
                  case rel => exact ⟨j + 1, by go_num, by omega, Nat.le_refl _, Lib.hid (b_next16 HB.out (drewN_below _ _ _))⟩
              · have hz : ¬ (j : Int) < k := by omega
                have hz1 : decide ((j : Int) < k) = false := decide_eq_false hz
                go_wp2_with fail
                go_ret
                exact ⟨rfl, b_next16 B3.out HB.out⟩
            · have hc1 : decide (r2 < s) = false := decide_eq_false hc
              by_cases hlt : j < k
              · have hz1 : decide ((j : Int) < k) = true := decide_eq_true (by omega)
                go_wp2_with fail
                go_ret
                exact ⟨rfl, b_next16 B3.out HB.out⟩
              · have hz1 : decide ((j : Int) < k) = false := decide_eq_false (by omega)
                go_wp2_with fail
                go_ret
                exact ⟨rfl, b_next16 B3.out HB.out⟩
end Go.Proofs.Ytjlnaadpiohbnaa
