/-
  The law FlexibleSizes: of any Sizes that answers as is asked.
-/
import Derived.Test.YtjlnaadpiohbnaaRefSizes16
import Derived.Test.YtjlnaadpiohbnaaRowsG
namespace Go.Proofs.Ytjlnaadpiohbnaa
open Go.RowKit

theorem sizes_len {l : List It16} {gap room : Int} {o : List Int} {z : Int} (h : SizesIs l gap room o z) : o.length ≤ l.length ∧ (-9223372036854775808 ≤ z ∧ z ≤ 9223372036854775807) := by
  cases h with
  | bad h =>
    refine ⟨Nat.zero_le _, ?_⟩
    unfold askT
    split
    · omega
    · split
      · omega
      · split <;> omega
  | wide => exact ⟨by rw [listF_len]; exact Nat.le_refl _, by omega⟩
  | far => exact ⟨Nat.zero_le _, by omega⟩
  | long => exact ⟨Nat.zero_le _, by omega⟩
  | ok => exact ⟨by rw [listF_len]; exact Nat.le_refl _, by omega⟩
theorem own_ints16 {w : World} {B : Nat} {A : Option Addr} {n c : Nat} {o : List Int} (h : ownsI16 w B (.slice A n c) o) (hb : ∀ i, i < o.length → -9223372036854775808 ≤ pk o i ∧ pk o i ≤ 9223372036854775807) : Ints w A o.length (pk o) := by
  have h' := h
  unfold ownsI16 at h'
  have hn := h'
  obtain ⟨A9, c9, e9, -⟩ := own_form hn
  injection e9 with e1 e2 e3
  subst e1 e2 e3
  exact Ints.of_own h' (fun i hi => pk_at o i hi) hb
set_option maxRecDepth 100000 in
set_option maxHeartbeats 16000000 in
theorem sizesW16 (hS : SizesOK 11) (hF : FirstOK 13) (A : Option Addr) (n c : Nat) (l : List It16) (gap room : Int) (w : World) (hv : TmIn w (.slice A n c) l) (hl : l.length = n)
    (hbig : ∀ i, i < l.length → ∀ y ∈ [(itA l i).base, (itA l i).least, (itA l i).most, (itA l i).grow, (itA l i).shrink, (itA l i).outer], -9223372036854775808 ≤ y ∧ y ≤ 9223372036854775807) (hgap : I64 gap) (hroom : I64 room) :
    Calls Try.prog 3 #[.slice A n c, .int .i64 gap, .int .i64 room] w fun e w' => e = .returned (.bool true) ∧ Below w.heap.size w w' := by
  have HV := Lib.hid hv
  have HL := Lib.hid hl
  by_cases h30 : 3000 < n
  · have hz : (3000 : Int) < n := by omega
    have d1 : decide ((3000 : Int) < n) = true := decide_eq_true hz
    have d2 : decide ((n : Int) ≤ 2048) = false := decide_eq_false (by omega)
    have d3 : decide ((200 : Int) < n) = true := decide_eq_true (by omega)
    have d2n : decide (n ≤ 2048) = false := decide_eq_false (by omega)
    clear hl hv hbig hS hF hgap hroom h30
    go_enter Try.func3, Try.ntmps3
    go_wp2_with fail
    go_ret
    exact ⟨rfl, Below.refl _ w⟩
  by_cases h2 : 200 < n ∧ n ≤ 2048
  · have d2 : decide ((n : Int) ≤ 2048) = true := decide_eq_true (by omega)
    have d3 : decide ((200 : Int) < n) = true := decide_eq_true (by omega)
    have d2n : decide (n ≤ 2048) = true := decide_eq_true (by omega)
    clear hl hv hbig hS hF hgap hroom h30 h2
    go_enter Try.func3, Try.ntmps3
    go_wp2_with fail
    go_ret
    exact ⟨rfl, Below.refl _ w⟩
  have hn : n ≤ 3000 := by omega
  have KC := Lib.hid (refCopy16 (.slice A n c) l w hv (by omega))
  have KR := Lib.hid (fun W (hW : TmIn W (.slice A n c) l) => refSizes16 l _ gap room W hW (by omega) hbig)
  have KB := Lib.hid (fun v W (hW : TmIn W v l) => hS l v gap room W hW (by omega) hbig hgap hroom)
  have KO := Lib.hid (fun x W => hF x W)
  have KQ := Lib.hid (fun x W => refFirst16 x W)
  have d1 : decide ((3000 : Int) < n) = false := decide_eq_false (by omega)
  have D2 : Hid (decide ((200 : Int) < n) = false ∨ (decide ((200 : Int) < n) = true ∧ decide ((n : Int) ≤ 2048) = false ∧ decide (n ≤ 2048) = false)) := Lib.hid (by
    by_cases h : 200 < n
    · exact .inr ⟨decide_eq_true (by omega), decide_eq_false (by omega), decide_eq_false (by omega)⟩
    · exact .inl (decide_eq_false (by omega)))
  clear hl hv hbig hS hF hgap hroom h30 h2
  go_enter Try.func3, Try.ntmps3
  go_upto_region 1 with fail
  go_cut [27] from 15 (fun v wx => v = .bool false ∧ wx = w)
  case first =>
    rcases D2.out with d3 | ⟨d3, d2, d2n⟩
    · go_wp2_with fail
      go_meet
      exact ⟨by first | rfl | simp, rfl⟩
    · go_wp2_with fail
      go_meet
      exact ⟨by first | rfl | simp, rfl⟩
  case rest =>
  obtain ⟨rfl, hw⟩ := hcut
  obtain rfl := hw.symm
  clear hw D2 d1
  go_upto_region 4 with (go_at_call 9; (with_reducible refine KC.out.mono ?_); rintro e w1 ⟨vM, rfl, hO, hb⟩; have OM := Lib.hid hO; have B1 := Lib.hid hb; have V1 := Lib.hid (HV.out.keep hb); clear hO hb)
  obtain ⟨AM, cM, eM, -⟩ := OM.out.tms
  rw [HL.out] at eM
  subst eM
  have TM := Lib.hid OM.out.tms
  go_upto_region 5 with (go_at_call 10; (with_reducible refine (KR.out _ V1.out).mono ?_); rintro e w2 ⟨vW, o, z, rfl, hs, hr, hb⟩; have SZ := Lib.hid hs; have RW := Lib.hid hr; have B2 := Lib.hid (b_nx16 B1.out hb); have V2 := Lib.hid (V1.out.keep hb); have T2 := Lib.hid (TM.out.keep hb); clear hs hr hb)
  obtain ⟨A2, c2, e2, IW⟩ := RW.out
  subst e2
  have I2 := Lib.hid IW
  have SL := Lib.hid (sizes_len SZ.out)
  rw [HL.out] at SL
  clear KC KR V1 TM OM B1 RW IW
  have KB2 := Lib.hid (fun v W (hW : TmIn W v l) => (KB.out v W hW).mono (R' := fun e w' => ∃ vO, e = .returned (.tuple #[vO, .int .i64 z]) ∧ Hid (ownsI16 w' W.heap.size vO o) ∧ Below W.heap.size W w') (by
    rintro e w' ⟨vO, o', z', rfl, h1, h2, hb⟩
    obtain ⟨rfl, rfl⟩ := h1.uniq SZ.out
    exact ⟨vO, rfl, Lib.hid h2, hb⟩))
  obtain ⟨m, hm⟩ : ∃ m, o.length = m := ⟨_, rfl⟩
  have HM := Lib.hid hm
  have hm3 : m ≤ 3000 := by have := SL.out.1; omega
  have ff : ((z : Int) != z) = (!true) := by simp
  have KS := Lib.hid (fun A9 c9 W (h1 : Ints W A9 m (pk o)) (h2 : Ints W A2 m (pk o)) => same_yes A9 A2 m c9 c2 (pk o) W h1 h2 (by omega))
  rw [hm] at I2
  simp only [hm]
  clear KB SZ SL hm
  go_wp2_with fail
  go_loopg [10] 2 (fun g1 vt wr => ∃ t : Nat, vt = .int .i64 t ∧ t ≤ 2 ∧ 2 - t ≤ g1 ∧ Hid (Below w2.heap.size w2 wr))
  case atStart => exact ⟨0, rfl, by omega, by omega, Lib.hid (Below.refl _ _)⟩
  case round =>
    obtain ⟨t, rfl, ht, hg1, HB⟩ := hrel
    obtain ⟨wo, hwo⟩ : ∃ wo, wo = wr := ⟨_, rfl⟩
    subst hwo
    by_cases hlt : t < 2
    · have hz1 : (t : Int) < 2 := by omega
      have wi : IntKind.i64.wrap ((t : Int) + 1) = (t : Int) + 1 := IntWalk.i64_in _ (by omega)
      have TO := Lib.hid (T2.out.keep HB.out)
      go_upto_region 9 with (go_at_call 11; (with_reducible refine (KB2.out _ _ TO.out).mono ?_); rintro e w6 ⟨vA, rfl, O6, hb⟩; have B6 := Lib.hid hb; clear hb)
      obtain ⟨A6, c6, e6, -⟩ := own_form (show w6.ownsRow wo.heap.size 3 1 vA o.length (o.map (Value.int .i64)) from O6.out)
      rw [HM.out] at e6
      subst e6
      have Z6 := Lib.hid (b_nx16 HB.out B6.out)
      have J2 := Lib.hid (I2.out.below Z6.out)
      have J6 : Hid (Ints w6 A6 m (pk o)) := Lib.hid (by
        have h := own_ints16 O6.out (fun i hi => by rw [HM.out] at hi; exact I2.out.1 i hi)
        rwa [HM.out] at h)
      have KS6 := Lib.hid (KS.out A6 c6 w6 J6.out J2.out)
      go_upto_region 11 with (go_at_call 12; (with_reducible refine KS6.out.mono ?_); rintro e w8 ⟨rfl, hb⟩; have B8 := Lib.hid hb; clear hb)
      have Z8 := Lib.hid (b_nx16 Z6.out B8.out.below)
      have O8 := Lib.hid (show ownsI16 w8 wo.heap.size _ o from own_keep O6.out B8.out.below)
      have Y8 := Lib.hid (b_nx16 B6.out B8.out.below)
      have V8 := Lib.hid (V2.out.keep Z8.out)
      have T8 := Lib.hid (T2.out.keep Z8.out)
      clear KS6 J2 J6 Z6 B6 O6 B8
      go_wp2_with fail
      go_loopg [13] n (fun g2' vi wr => ∃ i : Nat, vi = .int .i64 i ∧ i ≤ n ∧ n - i ≤ g2' ∧ Hid (Below w8.heap.size w8 wr))
      case atStart => exact ⟨0, rfl, by omega, by omega, Lib.hid (Below.refl _ _)⟩
      case round =>
        obtain ⟨i, rfl, hi, hg2, HB2⟩ := hrel
        obtain ⟨w9, hw9⟩ : ∃ w9, w9 = wr := ⟨_, rfl⟩
        subst hw9
        by_cases hli : i < n
        · have hy1 : (i : Int) < n := by omega
          have hy0 : (0 : Int) ≤ i := by omega
          have wj : IntKind.i64.wrap ((i : Int) + 1) = (i : Int) + 1 := IntWalk.i64_in _ (by omega)
          obtain ⟨bm, offm, cm, e, hbm, -, hm⟩ := (T8.out.keep HB2.out).get (i := i) (by have := HL.out; omega)
          injection e with e1 e2 e3
          subst e1 e3
          clear e2
          obtain ⟨bl, offl, cl, e, hbl, -, hl⟩ := (V8.out.keep HB2.out).get (i := i) (by have := HL.out; omega)
          injection e with e1 e2 e3
          subst e1 e3
          clear e2
          have CT : Hid (∀ W, Below w9.heap.size w9 W → TmAt W bm (offm + i * 6) (itA l i) ∧ TmAt W bl (offl + i * 6) (itA l i)) := Lib.hid (fun W hW => ⟨(hm i (by have := HL.out; omega)).keep hbm hW, (hl i (by have := HL.out; omega)).keep hbl hW⟩)
          have KO1 := Lib.hid (fun W => KO.out (itA l i) W)
          have KQ1 := Lib.hid (fun W => KQ.out (itA l i) W)
          have HB3 := Lib.hid (fun W (hW : Below w9.heap.size w9 W) => b_nx16 HB2.out hW)
          clear hm hl hbm hbl
          generalize firstI (itA l i) = fi at KO1 KQ1
          generalize itA l i = x at CT KO1 KQ1
          obtain ⟨x0, x1, x2, x3, x4, x5⟩ := x
          unfold TmAt at CT
          unfold tmV at KO1 KQ1
          dsimp only at CT KO1 KQ1
          have k0 : (x0 == x0) = true := by simp
          have k1 : (x1 == x1) = true := by simp
          have k2 : (x2 == x2) = true := by simp
          have k3 : (x3 == x3) = true := by simp
          have k4 : (x4 == x4) = true := by simp
          have k5 : (x5 == x5) = true := by simp
          have kf : ((fi : Int) != fi) = (!true) := by simp
          go_upto_region 14 with fail
          clear KS KB2 KO KQ O8 Y8 V8 T8 Z8 TO I2 T2 V2
          refine' wp_region_below [opV _, opV _, opV _, opV _, opV _, opV _, opV _, opV _, opV _, opV _, opV _, opV _, opV _, opV _, opV (.int .i64 fi), opV _, opV _, opV _, opV _, opV (.int .i64 fi), opV _, opV _] rfl (by kernel_rfl) ⟨?s0, ?s1, ?s2, ?s3, ?s4, ?s5, ?s6, ?s7, ?s8, ?s9, ?s10, ?s11, ?s12, ?s13, ?s14, ?s15, ?s16, ?s17, ?s18, ?s19, ?s20, ?s21, trivial⟩ ?fin
          case s0 =>
            refine BStep.of [] [] (opV _) (by kernel_rfl) (fun _ _ => by kernel_rfl) rfl ?_
            intro vs wv hB hA
            clear hA
            simp only [fillP]
            have ct := (CT.out wv hB).1; have a0 := ct.1; have a1 := ct.2.1; have a2 := ct.2.2.1; have a3 := ct.2.2.2.1; have a4 := ct.2.2.2.2.1; have a5 := ct.2.2.2.2.2; have cl := (CT.out wv hB).2; have b0 := cl.1; have b1 := cl.2.1; have b2 := cl.2.2.1; have b3 := cl.2.2.2.1; have b4 := cl.2.2.2.2.1; have b5 := cl.2.2.2.2.2; clear ct cl; go_wp2_with fail
            refine postB_val ?_ (Below.refl _ _)
            simp only [List.getElem?_cons_succ, List.getElem?_cons_zero]
            rfl
          case s1 =>
            refine BStep.of [] [] (opV _) (by kernel_rfl) (fun _ _ => by kernel_rfl) rfl ?_
            intro vs wv hB hA
            clear hA
            simp only [fillP]
            have ct := (CT.out wv hB).1; have a0 := ct.1; have a1 := ct.2.1; have a2 := ct.2.2.1; have a3 := ct.2.2.2.1; have a4 := ct.2.2.2.2.1; have a5 := ct.2.2.2.2.2; have cl := (CT.out wv hB).2; have b0 := cl.1; have b1 := cl.2.1; have b2 := cl.2.2.1; have b3 := cl.2.2.2.1; have b4 := cl.2.2.2.2.1; have b5 := cl.2.2.2.2.2; clear ct cl; go_wp2_with fail
            refine postB_val ?_ (Below.refl _ _)
            simp only [List.getElem?_cons_succ, List.getElem?_cons_zero]
            rfl
          case s2 =>
            refine BStep.of [0, 1] [(63, 0), (64, 1)] (opV _) (by kernel_rfl) (fun _ _ => by kernel_rfl) rfl ?_
            intro vs wv hB hA
            have h0 : vs 0 = _ := hA.1
            have h1 : vs 1 = _ := hA.2.1
            clear hA
            simp only [fillP, List.setIfInBounds_toArray, List.set_cons_zero, List.set_cons_succ, h0, h1]
            have ct := (CT.out wv hB).1; have a0 := ct.1; have a1 := ct.2.1; have a2 := ct.2.2.1; have a3 := ct.2.2.2.1; have a4 := ct.2.2.2.2.1; have a5 := ct.2.2.2.2.2; have cl := (CT.out wv hB).2; have b0 := cl.1; have b1 := cl.2.1; have b2 := cl.2.2.1; have b3 := cl.2.2.2.1; have b4 := cl.2.2.2.2.1; have b5 := cl.2.2.2.2.2; clear ct cl; go_wp2_with fail
            refine postB_val ?_ (Below.refl _ _)
            simp only [List.getElem?_cons_succ, List.getElem?_cons_zero]
            rfl
          case s3 =>
            refine BStep.of [2] [(65, 2)] (opV _) (by kernel_rfl) (fun _ _ => by kernel_rfl) rfl ?_
            intro vs wv hB hA
            have h2 : vs 2 = _ := hA.1
            clear hA
            simp only [fillP, List.setIfInBounds_toArray, List.set_cons_zero, List.set_cons_succ, h2]
            have ct := (CT.out wv hB).1; have a0 := ct.1; have a1 := ct.2.1; have a2 := ct.2.2.1; have a3 := ct.2.2.2.1; have a4 := ct.2.2.2.2.1; have a5 := ct.2.2.2.2.2; have cl := (CT.out wv hB).2; have b0 := cl.1; have b1 := cl.2.1; have b2 := cl.2.2.1; have b3 := cl.2.2.2.1; have b4 := cl.2.2.2.2.1; have b5 := cl.2.2.2.2.2; clear ct cl; go_wp2_with fail
            refine postB_val ?_ (Below.refl _ _)
            simp only [List.getElem?_cons_succ, List.getElem?_cons_zero]
            rfl
          case s4 =>
            refine BStep.of [] [] (opV _) (by kernel_rfl) (fun _ _ => by kernel_rfl) rfl ?_
            intro vs wv hB hA
            clear hA
            simp only [fillP]
            have ct := (CT.out wv hB).1; have a0 := ct.1; have a1 := ct.2.1; have a2 := ct.2.2.1; have a3 := ct.2.2.2.1; have a4 := ct.2.2.2.2.1; have a5 := ct.2.2.2.2.2; have cl := (CT.out wv hB).2; have b0 := cl.1; have b1 := cl.2.1; have b2 := cl.2.2.1; have b3 := cl.2.2.2.1; have b4 := cl.2.2.2.2.1; have b5 := cl.2.2.2.2.2; clear ct cl; go_wp2_with fail
            refine postB_val ?_ (Below.refl _ _)
            simp only [List.getElem?_cons_succ, List.getElem?_cons_zero]
            rfl
          case s5 =>
            refine BStep.of [] [] (opV _) (by kernel_rfl) (fun _ _ => by kernel_rfl) rfl ?_
            intro vs wv hB hA
            clear hA
            simp only [fillP]
            have ct := (CT.out wv hB).1; have a0 := ct.1; have a1 := ct.2.1; have a2 := ct.2.2.1; have a3 := ct.2.2.2.1; have a4 := ct.2.2.2.2.1; have a5 := ct.2.2.2.2.2; have cl := (CT.out wv hB).2; have b0 := cl.1; have b1 := cl.2.1; have b2 := cl.2.2.1; have b3 := cl.2.2.2.1; have b4 := cl.2.2.2.2.1; have b5 := cl.2.2.2.2.2; clear ct cl; go_wp2_with fail
            refine postB_val ?_ (Below.refl _ _)
            simp only [List.getElem?_cons_succ, List.getElem?_cons_zero]
            rfl
          case s6 =>
            refine BStep.of [4, 5] [(67, 4), (68, 5)] (opV _) (by kernel_rfl) (fun _ _ => by kernel_rfl) rfl ?_
            intro vs wv hB hA
            have h4 : vs 4 = _ := hA.1
            have h5 : vs 5 = _ := hA.2.1
            clear hA
            simp only [fillP, List.setIfInBounds_toArray, List.set_cons_zero, List.set_cons_succ, h4, h5]
            have ct := (CT.out wv hB).1; have a0 := ct.1; have a1 := ct.2.1; have a2 := ct.2.2.1; have a3 := ct.2.2.2.1; have a4 := ct.2.2.2.2.1; have a5 := ct.2.2.2.2.2; have cl := (CT.out wv hB).2; have b0 := cl.1; have b1 := cl.2.1; have b2 := cl.2.2.1; have b3 := cl.2.2.2.1; have b4 := cl.2.2.2.2.1; have b5 := cl.2.2.2.2.2; clear ct cl; go_wp2_with fail
            refine postB_val ?_ (Below.refl _ _)
            simp only [List.getElem?_cons_succ, List.getElem?_cons_zero]
            rfl
          case s7 =>
            refine BStep.of [6] [(69, 6)] (opV _) (by kernel_rfl) (fun _ _ => by kernel_rfl) rfl ?_
            intro vs wv hB hA
            have h6 : vs 6 = _ := hA.1
            clear hA
            simp only [fillP, List.setIfInBounds_toArray, List.set_cons_zero, List.set_cons_succ, h6]
            have ct := (CT.out wv hB).1; have a0 := ct.1; have a1 := ct.2.1; have a2 := ct.2.2.1; have a3 := ct.2.2.2.1; have a4 := ct.2.2.2.2.1; have a5 := ct.2.2.2.2.2; have cl := (CT.out wv hB).2; have b0 := cl.1; have b1 := cl.2.1; have b2 := cl.2.2.1; have b3 := cl.2.2.2.1; have b4 := cl.2.2.2.2.1; have b5 := cl.2.2.2.2.2; clear ct cl; go_wp2_with fail
            refine postB_val ?_ (Below.refl _ _)
            simp only [List.getElem?_cons_succ, List.getElem?_cons_zero]
            rfl
          case s8 =>
            refine BStep.of [3, 7] [(66, 3), (70, 7)] (opV _) (by kernel_rfl) (fun _ _ => by kernel_rfl) rfl ?_
            intro vs wv hB hA
            have h3 : vs 3 = _ := hA.1
            have h7 : vs 7 = _ := hA.2.1
            clear hA
            simp only [fillP, List.setIfInBounds_toArray, List.set_cons_zero, List.set_cons_succ, h3, h7]
            have ct := (CT.out wv hB).1; have a0 := ct.1; have a1 := ct.2.1; have a2 := ct.2.2.1; have a3 := ct.2.2.2.1; have a4 := ct.2.2.2.2.1; have a5 := ct.2.2.2.2.2; have cl := (CT.out wv hB).2; have b0 := cl.1; have b1 := cl.2.1; have b2 := cl.2.2.1; have b3 := cl.2.2.2.1; have b4 := cl.2.2.2.2.1; have b5 := cl.2.2.2.2.2; clear ct cl; go_wp2_with fail
            refine postB_val ?_ (Below.refl _ _)
            simp only [List.getElem?_cons_succ, List.getElem?_cons_zero]
            rfl
          case s9 =>
            refine BStep.of [8] [(71, 8)] (opV _) (by kernel_rfl) (fun _ _ => by kernel_rfl) rfl ?_
            intro vs wv hB hA
            have h8 : vs 8 = _ := hA.1
            clear hA
            simp only [fillP, List.setIfInBounds_toArray, List.set_cons_zero, List.set_cons_succ, h8]
            have ct := (CT.out wv hB).1; have a0 := ct.1; have a1 := ct.2.1; have a2 := ct.2.2.1; have a3 := ct.2.2.2.1; have a4 := ct.2.2.2.2.1; have a5 := ct.2.2.2.2.2; have cl := (CT.out wv hB).2; have b0 := cl.1; have b1 := cl.2.1; have b2 := cl.2.2.1; have b3 := cl.2.2.2.1; have b4 := cl.2.2.2.2.1; have b5 := cl.2.2.2.2.2; clear ct cl; go_wp2_with fail
            refine postB_val ?_ (Below.refl _ _)
            simp only [List.getElem?_cons_succ, List.getElem?_cons_zero]
            rfl
          case s10 =>
            refine BStep.of [9] [(72, 9)] (opV _) (by kernel_rfl) (fun _ _ => by kernel_rfl) rfl ?_
            intro vs wv hB hA
            have h9 : vs 9 = _ := hA.1
            clear hA
            simp only [fillP, List.setIfInBounds_toArray, List.set_cons_zero, List.set_cons_succ, h9]
            have ct := (CT.out wv hB).1; have a0 := ct.1; have a1 := ct.2.1; have a2 := ct.2.2.1; have a3 := ct.2.2.2.1; have a4 := ct.2.2.2.2.1; have a5 := ct.2.2.2.2.2; have cl := (CT.out wv hB).2; have b0 := cl.1; have b1 := cl.2.1; have b2 := cl.2.2.1; have b3 := cl.2.2.2.1; have b4 := cl.2.2.2.2.1; have b5 := cl.2.2.2.2.2; clear ct cl; go_wp2_with fail
            refine postB_val ?_ (Below.refl _ _)
            simp only [List.getElem?_cons_succ, List.getElem?_cons_zero]
            rfl
          case s11 =>
            refine BStep.of [9] [(72, 9)] (opV _) (by kernel_rfl) (fun _ _ => by kernel_rfl) rfl ?_
            intro vs wv hB hA
            have h9 : vs 9 = _ := hA.1
            clear hA
            simp only [fillP, List.setIfInBounds_toArray, List.set_cons_zero, List.set_cons_succ, h9]
            have ct := (CT.out wv hB).1; have a0 := ct.1; have a1 := ct.2.1; have a2 := ct.2.2.1; have a3 := ct.2.2.2.1; have a4 := ct.2.2.2.2.1; have a5 := ct.2.2.2.2.2; have cl := (CT.out wv hB).2; have b0 := cl.1; have b1 := cl.2.1; have b2 := cl.2.2.1; have b3 := cl.2.2.2.1; have b4 := cl.2.2.2.2.1; have b5 := cl.2.2.2.2.2; clear ct cl; go_wp2_with fail
            refine postB_val ?_ (Below.refl _ _)
            simp only [List.getElem?_cons_succ, List.getElem?_cons_zero]
            rfl
          case s12 =>
            refine BStep.of [9, 10, 11] [(72, 9), (73, 10), (74, 11)] (opV _) (by kernel_rfl) (fun _ _ => by kernel_rfl) rfl ?_
            intro vs wv hB hA
            have h9 : vs 9 = _ := hA.1
            have h10 : vs 10 = _ := hA.2.1
            have h11 : vs 11 = _ := hA.2.2.1
            clear hA
            simp only [fillP, List.setIfInBounds_toArray, List.set_cons_zero, List.set_cons_succ, h9, h10, h11]
            have ct := (CT.out wv hB).1; have a0 := ct.1; have a1 := ct.2.1; have a2 := ct.2.2.1; have a3 := ct.2.2.2.1; have a4 := ct.2.2.2.2.1; have a5 := ct.2.2.2.2.2; have cl := (CT.out wv hB).2; have b0 := cl.1; have b1 := cl.2.1; have b2 := cl.2.2.1; have b3 := cl.2.2.2.1; have b4 := cl.2.2.2.2.1; have b5 := cl.2.2.2.2.2; clear ct cl; go_wp2_with fail
            refine postB_val ?_ (Below.refl _ _)
            simp only [List.getElem?_cons_succ, List.getElem?_cons_zero]
            rfl
          case s13 =>
            refine BStep.of [9, 12] [(72, 9), (75, 12)] (opV _) (by kernel_rfl) (fun _ _ => by kernel_rfl) rfl ?_
            intro vs wv hB hA
            have h9 : vs 9 = _ := hA.1
            have h12 : vs 12 = _ := hA.2.1
            clear hA
            simp only [fillP, List.setIfInBounds_toArray, List.set_cons_zero, List.set_cons_succ, h9, h12]
            have ct := (CT.out wv hB).1; have a0 := ct.1; have a1 := ct.2.1; have a2 := ct.2.2.1; have a3 := ct.2.2.2.1; have a4 := ct.2.2.2.2.1; have a5 := ct.2.2.2.2.2; have cl := (CT.out wv hB).2; have b0 := cl.1; have b1 := cl.2.1; have b2 := cl.2.2.1; have b3 := cl.2.2.2.1; have b4 := cl.2.2.2.2.1; have b5 := cl.2.2.2.2.2; clear ct cl; go_wp2_with fail
            refine postB_val ?_ (Below.refl _ _)
            simp only [List.getElem?_cons_succ, List.getElem?_cons_zero]
            rfl
          case s14 =>
            refine BStep.of [9, 13] [(72, 9), (76, 13)] (opV (.int .i64 fi)) (by kernel_rfl) (fun _ _ => by kernel_rfl) rfl ?_
            intro vs wv hB hA
            have h9 : vs 9 = _ := hA.1
            have h13 : vs 13 = _ := hA.2.1
            clear hA
            simp only [fillP, List.setIfInBounds_toArray, List.set_cons_zero, List.set_cons_succ, h9, h13]
            (go_wp2_with (go_at_call 13; (with_reducible refine (KO1.out _).mono ?_); rintro e w7 ⟨rfl, hb⟩)); exact postB_val rfl hb
          case s15 =>
            refine BStep.of [9] [(72, 9)] (opV _) (by kernel_rfl) (fun _ _ => by kernel_rfl) rfl ?_
            intro vs wv hB hA
            have h9 : vs 9 = _ := hA.1
            clear hA
            simp only [fillP, List.setIfInBounds_toArray, List.set_cons_zero, List.set_cons_succ, h9]
            have ct := (CT.out wv hB).1; have a0 := ct.1; have a1 := ct.2.1; have a2 := ct.2.2.1; have a3 := ct.2.2.2.1; have a4 := ct.2.2.2.2.1; have a5 := ct.2.2.2.2.2; have cl := (CT.out wv hB).2; have b0 := cl.1; have b1 := cl.2.1; have b2 := cl.2.2.1; have b3 := cl.2.2.2.1; have b4 := cl.2.2.2.2.1; have b5 := cl.2.2.2.2.2; clear ct cl; go_wp2_with fail
            refine postB_val ?_ (Below.refl _ _)
            simp only [List.getElem?_cons_succ, List.getElem?_cons_zero]
            rfl
          case s16 =>
            refine BStep.of [9] [(72, 9)] (opV _) (by kernel_rfl) (fun _ _ => by kernel_rfl) rfl ?_
            intro vs wv hB hA
            have h9 : vs 9 = _ := hA.1
            clear hA
            simp only [fillP, List.setIfInBounds_toArray, List.set_cons_zero, List.set_cons_succ, h9]
            have ct := (CT.out wv hB).1; have a0 := ct.1; have a1 := ct.2.1; have a2 := ct.2.2.1; have a3 := ct.2.2.2.1; have a4 := ct.2.2.2.2.1; have a5 := ct.2.2.2.2.2; have cl := (CT.out wv hB).2; have b0 := cl.1; have b1 := cl.2.1; have b2 := cl.2.2.1; have b3 := cl.2.2.2.1; have b4 := cl.2.2.2.2.1; have b5 := cl.2.2.2.2.2; clear ct cl; go_wp2_with fail
            refine postB_val ?_ (Below.refl _ _)
            simp only [List.getElem?_cons_succ, List.getElem?_cons_zero]
            rfl
          case s17 =>
            refine BStep.of [9, 15, 16] [(72, 9), (78, 15), (79, 16)] (opV _) (by kernel_rfl) (fun _ _ => by kernel_rfl) rfl ?_
            intro vs wv hB hA
            have h9 : vs 9 = _ := hA.1
            have h15 : vs 15 = _ := hA.2.1
            have h16 : vs 16 = _ := hA.2.2.1
            clear hA
            simp only [fillP, List.setIfInBounds_toArray, List.set_cons_zero, List.set_cons_succ, h9, h15, h16]
            have ct := (CT.out wv hB).1; have a0 := ct.1; have a1 := ct.2.1; have a2 := ct.2.2.1; have a3 := ct.2.2.2.1; have a4 := ct.2.2.2.2.1; have a5 := ct.2.2.2.2.2; have cl := (CT.out wv hB).2; have b0 := cl.1; have b1 := cl.2.1; have b2 := cl.2.2.1; have b3 := cl.2.2.2.1; have b4 := cl.2.2.2.2.1; have b5 := cl.2.2.2.2.2; clear ct cl; go_wp2_with fail
            refine postB_val ?_ (Below.refl _ _)
            simp only [List.getElem?_cons_succ, List.getElem?_cons_zero]
            rfl
          case s18 =>
            refine BStep.of [9, 17] [(72, 9), (80, 17)] (opV _) (by kernel_rfl) (fun _ _ => by kernel_rfl) rfl ?_
            intro vs wv hB hA
            have h9 : vs 9 = _ := hA.1
            have h17 : vs 17 = _ := hA.2.1
            clear hA
            simp only [fillP, List.setIfInBounds_toArray, List.set_cons_zero, List.set_cons_succ, h9, h17]
            have ct := (CT.out wv hB).1; have a0 := ct.1; have a1 := ct.2.1; have a2 := ct.2.2.1; have a3 := ct.2.2.2.1; have a4 := ct.2.2.2.2.1; have a5 := ct.2.2.2.2.2; have cl := (CT.out wv hB).2; have b0 := cl.1; have b1 := cl.2.1; have b2 := cl.2.2.1; have b3 := cl.2.2.2.1; have b4 := cl.2.2.2.2.1; have b5 := cl.2.2.2.2.2; clear ct cl; go_wp2_with fail
            refine postB_val ?_ (Below.refl _ _)
            simp only [List.getElem?_cons_succ, List.getElem?_cons_zero]
            rfl
          case s19 =>
            refine BStep.of [9, 14, 18] [(72, 9), (77, 14), (81, 18)] (opV (.int .i64 fi)) (by kernel_rfl) (fun _ _ => by kernel_rfl) rfl ?_
            intro vs wv hB hA
            have h9 : vs 9 = _ := hA.1
            have h14 : vs 14 = _ := hA.2.1
            have h18 : vs 18 = _ := hA.2.2.1
            clear hA
            simp only [fillP, List.setIfInBounds_toArray, List.set_cons_zero, List.set_cons_succ, h9, h14, h18]
            (go_wp2_with (go_at_call 14; (with_reducible refine (KQ1.out _).mono ?_); rintro e w7 ⟨rfl, hb⟩)); exact postB_val rfl hb
          case s20 =>
            refine BStep.of [9, 14, 19] [(72, 9), (77, 14), (82, 19)] (opV _) (by kernel_rfl) (fun _ _ => by kernel_rfl) rfl ?_
            intro vs wv hB hA
            have h9 : vs 9 = _ := hA.1
            have h14 : vs 14 = _ := hA.2.1
            have h19 : vs 19 = _ := hA.2.2.1
            clear hA
            simp only [fillP, List.setIfInBounds_toArray, List.set_cons_zero, List.set_cons_succ, h9, h14, h19]
            have ct := (CT.out wv hB).1; have a0 := ct.1; have a1 := ct.2.1; have a2 := ct.2.2.1; have a3 := ct.2.2.2.1; have a4 := ct.2.2.2.2.1; have a5 := ct.2.2.2.2.2; have cl := (CT.out wv hB).2; have b0 := cl.1; have b1 := cl.2.1; have b2 := cl.2.2.1; have b3 := cl.2.2.2.1; have b4 := cl.2.2.2.2.1; have b5 := cl.2.2.2.2.2; clear ct cl; go_wp2_with fail
            refine postB_val ?_ (Below.refl _ _)
            simp only [List.getElem?_cons_succ, List.getElem?_cons_zero]
            rfl
          case s21 =>
            refine BStep.of [9, 20] [(72, 9), (83, 20)] (opV _) (by kernel_rfl) (fun _ _ => by kernel_rfl) rfl ?_
            intro vs wv hB hA
            have h9 : vs 9 = _ := hA.1
            have h20 : vs 20 = _ := hA.2.1
            clear hA
            simp only [fillP, List.setIfInBounds_toArray, List.set_cons_zero, List.set_cons_succ, h9, h20]
            have ct := (CT.out wv hB).1; have a0 := ct.1; have a1 := ct.2.1; have a2 := ct.2.2.1; have a3 := ct.2.2.2.1; have a4 := ct.2.2.2.2.1; have a5 := ct.2.2.2.2.2; have cl := (CT.out wv hB).2; have b0 := cl.1; have b1 := cl.2.1; have b2 := cl.2.2.1; have b3 := cl.2.2.2.1; have b4 := cl.2.2.2.2.1; have b5 := cl.2.2.2.2.2; clear ct cl; go_wp2_with fail
            refine postB_val ?_ (Below.refl _ _)
            simp only [List.getElem?_cons_succ, List.getElem?_cons_zero]
            rfl
          case fin =>
            refine fin_of [0, 1, 2, 3, 4, 5, 6, 7, 8, 9, 10, 11, 12, 13, 14, 15, 16, 17, 18, 19, 20, 21] [(63, 0), (64, 1), (65, 2), (66, 3), (67, 4), (68, 5), (69, 6), (70, 7), (71, 8), (72, 9), (73, 10), (74, 11), (75, 12), (76, 13), (77, 14), (78, 15), (79, 16), (80, 17), (81, 18), (82, 19), (83, 20), (84, 21)] (by kernel_rfl) (fun _ _ => by kernel_rfl) ?_
            intro vs wv hB hA
            have h0 : vs 0 = _ := hA.1
            have h1 : vs 1 = _ := hA.2.1
            have h2 : vs 2 = _ := hA.2.2.1
            have h3 : vs 3 = _ := hA.2.2.2.1
            have h4 : vs 4 = _ := hA.2.2.2.2.1
            have h5 : vs 5 = _ := hA.2.2.2.2.2.1
            have h6 : vs 6 = _ := hA.2.2.2.2.2.2.1
            have h7 : vs 7 = _ := hA.2.2.2.2.2.2.2.1
            have h8 : vs 8 = _ := hA.2.2.2.2.2.2.2.2.1
            have h9 : vs 9 = _ := hA.2.2.2.2.2.2.2.2.2.1
            have h10 : vs 10 = _ := hA.2.2.2.2.2.2.2.2.2.2.1
            have h11 : vs 11 = _ := hA.2.2.2.2.2.2.2.2.2.2.2.1
            have h12 : vs 12 = _ := hA.2.2.2.2.2.2.2.2.2.2.2.2.1
            have h13 : vs 13 = _ := hA.2.2.2.2.2.2.2.2.2.2.2.2.2.1
            have h14 : vs 14 = _ := hA.2.2.2.2.2.2.2.2.2.2.2.2.2.2.1
            have h15 : vs 15 = _ := hA.2.2.2.2.2.2.2.2.2.2.2.2.2.2.2.1
            have h16 : vs 16 = _ := hA.2.2.2.2.2.2.2.2.2.2.2.2.2.2.2.2.1
            have h17 : vs 17 = _ := hA.2.2.2.2.2.2.2.2.2.2.2.2.2.2.2.2.2.1
            have h18 : vs 18 = _ := hA.2.2.2.2.2.2.2.2.2.2.2.2.2.2.2.2.2.2.1
            have h19 : vs 19 = _ := hA.2.2.2.2.2.2.2.2.2.2.2.2.2.2.2.2.2.2.2.1
            have h20 : vs 20 = _ := hA.2.2.2.2.2.2.2.2.2.2.2.2.2.2.2.2.2.2.2.2.1
            have h21 : vs 21 = _ := hA.2.2.2.2.2.2.2.2.2.2.2.2.2.2.2.2.2.2.2.2.2.1
            clear hA
            simp only [fillP, List.setIfInBounds_toArray, List.set_cons_zero, List.set_cons_succ, h0, h1, h2, h3, h4, h5, h6, h7, h8, h9, h10, h11, h12, h13, h14, h15, h16, h17, h18, h19, h20, h21]
            go_wp2_with fail
            go_roundg (n - (i + 1))
            case measure => omega
            case rel => exact ⟨i + 1, by go_num, by omega, Nat.le_refl _, Lib.hid (HB3.out _ hB)⟩
        · have hy1 : ¬ (i : Int) < n := by omega
          have O9 := Lib.hid (show ownsI16 w9 wo.heap.size _ o from own_keep O8.out HB2.out)
          have Y9 := Lib.hid (b_nx16 Y8.out HB2.out)
          clear O8 Y8 V8 T8 Z8
          go_wp2_with fail
          go_loopg [14] m (fun g3 vi wr => ∃ (j : Nat) (zs : List Int), vi = .int .i64 j ∧ j ≤ m ∧ m - j ≤ g3 ∧ Hid (zs.length = m) ∧ Hid (ownsI16 wr wo.heap.size (.slice A6 m c6) zs) ∧ Hid (Below wo.heap.size wo wr))
          case atStart => exact ⟨0, o, rfl, by omega, by omega, HM, O9, Y9⟩
          case round =>
            obtain ⟨j, zs, rfl, hj, hg3, HZ, HO, HY⟩ := hrel
            obtain ⟨w10, hw10⟩ : ∃ w10, w10 = wr := ⟨_, rfl⟩
            subst hw10
            by_cases hlj : j < m
            · have hy2 : (j : Int) < m := by omega
              have hy3 : (0 : Int) ≤ j := by omega
              have wj : IntKind.i64.wrap ((j : Int) + 1) = (j : Int) + 1 := IntWalk.i64_in _ (by omega)
              have HO' := HO.out
              unfold ownsI16 at HO'
              rw [HZ.out] at HO'
              obtain ⟨g9, c9, e9, hc1, hc2, hc3, hc4, hc5, hc6⟩ := own_at HO' (by omega)
              injection e9 with e1 e2 e3
              subst e1 e3
              clear e2
              have z9 := hc6 j
              obtain ⟨z8, c9'⟩ : ∃ z, w10.cell? ⟨g9, j, none⟩ = some (.int .i64 z) := ⟨_, hc5 j _ (by rw [List.getElem?_map, List.getElem?_eq_getElem (by have := HZ.out; omega)]; rfl)⟩
              obtain ⟨s1, s2⟩ := own_set HO' j (.int .i64 (-5))
              have S1 : Hid (ownsI16 (w10.setCell ⟨g9, j, none⟩ (.int .i64 (-5))) wo.heap.size (.slice (some ⟨g9, 0, none⟩) m c6) (zs.set j (-5))) := Lib.hid (by
                unfold ownsI16
                rw [List.length_set, HZ.out, List.map_set]
                exact s1)
              have S2 := Lib.hid (HY.out.trans s2)
              have SZ : Hid ((zs.set j (-5)).length = m) := Lib.hid (by rw [List.length_set]; exact HZ.out)
              clear s1 s2 hc1 hc2 hc3 hc4 hc5 hc6 HO' HO HY HZ
              go_wp2_with fail
              go_roundg (m - (j + 1))
              case measure => omega
              case rel => exact ⟨j + 1, zs.set j (-5), by go_num, by omega, Nat.le_refl _, SZ, S1, S2⟩
            · have hy2 : ¬ (j : Int) < m := by omega
              have ZZ := Lib.hid (b_nx16 HB.out HY.out)
              clear HO HZ HY
              go_wp2_with fail
              go_roundg (2 - (t + 1))
              case measure => omega
              case rel => exact ⟨t + 1, by go_num, by omega, Nat.le_refl _, ZZ⟩
    · have hz1 : ¬ (t : Int) < 2 := by omega
      go_wp2_with fail
      go_ret
      exact ⟨rfl, b_nx16 B2.out HB.out⟩
end Go.Proofs.Ytjlnaadpiohbnaa
