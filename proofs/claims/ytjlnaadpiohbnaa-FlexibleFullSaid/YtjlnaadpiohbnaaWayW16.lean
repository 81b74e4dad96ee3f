/-
  The law FlexibleWay: of any Sizes that answers as is asked.
-/
import Derived.Test.YtjlnaadpiohbnaaLaws16
import Derived.Deep.Cut
import Derived.Deep.CutRange
namespace Go.Proofs.Ytjlnaadpiohbnaa
open Go.RowKit

set_option maxRecDepth 100000 in
set_option maxHeartbeats 16000000 in
theorem way16 (hS : SizesOK 11) (hF : FirstOK 13) (hA : AwakeOK16 15) (A : Option Addr) (n c : Nat) (l : List It16) (gap room : Int) (w : World) (hv : TmIn w (.slice A n c) l) (hl : l.length = n)
    (hbig : ∀ i, i < l.length → ∀ y ∈ [(itA l i).base, (itA l i).least, (itA l i).most, (itA l i).grow, (itA l i).shrink, (itA l i).outer], -9223372036854775808 ≤ y ∧ y ≤ 9223372036854775807) :
    Calls Try.prog 5 #[.slice A n c, .int .i64 gap, .int .i64 room] w fun e w' => e = .returned (.bool true) ∧ Below w.heap.size w w' := by
  have KA := Lib.hid (fun W => hA W)
  have HV := Lib.hid hv
  have HL := Lib.hid hl
  obtain ⟨bg, hbg⟩ : ∃ b, decide (NearR l gap room) = b := ⟨_, rfl⟩
  have KN := Lib.hid (fun W (hW : TmIn W (.slice A n c) l) => near16 A n c l gap room W hW hl bg hbg)
  have KS0 := Lib.hid (fun W (hW : TmIn W (.slice A n c) l) (h : l.length ≤ 80000) => hS l (.slice A n c) gap room W hW h hbig)
  have KF0 := Lib.hid (fun W (hW : TmIn W (.slice A n c) l) (h : NearR l gap 0) => first16 hF A n c l gap room W hW hl h)
  have KO := Lib.hid (fun x W => hF x W)
  clear hv hA hS hbig hF hl
  cases bg with
  | false =>
    clear KS0 KF0 KO
    go_enter Try.func5, Try.ntmps5
    go_wp2_with (first
      | (go_at_call 15; (with_reducible refine (KA.out _).mono ?_); rintro e w1 ⟨rfl, hb⟩; have B1 := Lib.hid hb; clear hb)
      | (go_at_call 16; (with_reducible refine (KN.out _ (HV.out.keep B1.out)).mono ?_); rintro e w2 ⟨rfl, hb⟩; have B2 := Lib.hid (b_next16 B1.out hb); clear hb))
    go_ret
    exact ⟨rfl, B2.out⟩
  | true =>
  have NR : Hid (NearR l gap room) := Lib.hid (of_decide_eq_true hbg)
  have hn1 : n ≤ 100 := by have := NR.out.hn; have := HL.out; omega
  have KS := Lib.hid (fun W hW => (KS0.out W hW (by have := HL.out; omega) NR.out.ig NR.out.ir).mono (R' := fun e w' => ∃ vO f, e = .returned (.tuple #[vO, .int .i64 0]) ∧ Hid (Told16 l n gap room f) ∧ Hid (ownsI16 w' W.heap.size vO (listF f n)) ∧ Below W.heap.size W w') (by
    rintro e w' ⟨vO, o, z, rfl, h1, h2, hb⟩
    obtain ⟨f, rfl, rfl, h3⟩ := near_told16 NR.out h1
    rw [HL.out] at h3 h2
    exact ⟨vO, f, rfl, Lib.hid h3, Lib.hid h2, hb⟩))
  have KF := Lib.hid (fun W hW => KF0.out W hW NR.out.zero)
  simp only [firstS_near] at KF
  clear KS0 KF0 hbg NR
  go_enter Try.func5, Try.ntmps5
  go_upto_region 5 with (first
    | (go_at_call 15; (with_reducible refine (KA.out _).mono ?_); rintro e w1 ⟨rfl, hb⟩; have B1 := Lib.hid hb; clear hb)
    | (go_at_call 16; (with_reducible refine (KN.out _ (HV.out.keep B1.out)).mono ?_); rintro e w2 ⟨rfl, hb⟩; have B2 := Lib.hid (b_next16 B1.out hb); clear hb))
  go_upto_region 6 with (go_at_call 11; (with_reducible refine (KS.out _ (HV.out.keep B2.out)).mono ?_); rintro e w3 ⟨vO, f, rfl, TF, O3, hb⟩; have B3 := Lib.hid (b_next16 B2.out hb); clear hb)
  obtain ⟨AO, cO, eO⟩ := own_row16 O3.out
  subst eO
  have V3 := Lib.hid (HV.out.keep B3.out)
  have BT := Lib.hid TF.out.between
  have E1 : Hid (∀ i, i < n → growI l n gap room = true → (itA l i).grow = 0 → f i = firstI (itA l i)) := Lib.hid (fun i hi hg h0 => by
    by_cases hr : 0 ≤ room
    · exact (TF.out.gway hr hg i hi).2 h0
    · exact TF.out.first (by omega) i hi)
  have E2 : Hid (∀ i, i < n → growI l n gap room = false → (itA l i).shrink = 0 → f i = firstI (itA l i)) := Lib.hid (fun i hi hg h0 => by
    by_cases hr : 0 ≤ room
    · exact (TF.out.sway hr hg i hi).2 h0
    · exact TF.out.first (by omega) i hi)
  have E3 : Hid (∀ i, i < n → growI l n gap room = true → 0 ≤ room → firstI (itA l i) ≤ f i) := Lib.hid (fun i hi hg hr => (TF.out.gway hr hg i hi).1)
  have E4 : Hid (∀ i, i < n → growI l n gap room = false → 0 ≤ room → f i ≤ firstI (itA l i)) := Lib.hid (fun i hi hg hr => (TF.out.sway hr hg i hi).1)
  generalize growI l n gap room = g at KF E1 E2 E3 E4
  clear KA KN KS HV B1 B2 TF
  go_upto_region 9 with (go_at_call 17; (with_reducible refine (KF.out _ V3.out).mono ?_); rintro e w4 ⟨rfl, hb⟩; have B4 := Lib.hid hb; clear hb)
  clear KF
  go_wp2_with fail
  go_loopg [11] n (fun g1 vi wr => ∃ k : Nat, vi = .int .i64 k ∧ k ≤ n ∧ n - k ≤ g1 ∧ Hid (Below w3.heap.size w3 wr))
  case atStart => exact ⟨0, rfl, by omega, by omega, B4⟩
  case round =>
    obtain ⟨k, rfl, hk, hg1, HB⟩ := hrel
    obtain ⟨wo, hwo⟩ : ∃ wo, wo = wr := ⟨_, rfl⟩
    subst hwo
    by_cases hlt : k < n
    · have hz : (k : Int) < n := by omega
      have hz0 : (0 : Int) ≤ k := by omega
      have wi : IntKind.i64.wrap ((k : Int) + 1) = (k : Int) + 1 := IntWalk.i64_in _ (by omega)
      obtain ⟨bb, off, c1, e, -, -, -⟩ := V3.out.get (i := k) (by have := HL.out; omega)
      injection e with e1 e2 e3
      subst e1 e3
      clear e2
      obtain ⟨gO, cO', e, -, hgl, hoc⟩ := own_at16 O3.out hlt
      injection e with e1 e2 e3
      subst e1 e3
      clear e2
      obtain ⟨a0, a1, a2, a3, a4, a5⟩ := V3.out.later (k := k) (by have := HL.out; omega) wo HB.out
      have hoc2 := (HB.out.cell (p := ⟨gO, k, none⟩) hgl).trans hoc
      have hgw : gO < wo.heap.size := Nat.lt_of_lt_of_le hgl HB.out.size
      have KO1 := Lib.hid (fun W => KO.out (itA l k) W)
      have F1 := Lib.hid (E1.out k hlt)
      have F2 := Lib.hid (E2.out k hlt)
      have F3 := Lib.hid (E3.out k hlt)
      have F4 := Lib.hid (E4.out k hlt)
      have FB := Lib.hid (BT.out k hlt)
      clear hoc
      obtain ⟨fi, hfi⟩ : ∃ fi, firstI (itA l k) = fi := ⟨_, rfl⟩
      rw [hfi] at KO1 F1 F2 F3 F4
      clear hfi
      generalize f k = y at hoc2 F1 F2 F3 F4 FB
      generalize itA l k = x at a0 a1 a2 a3 a4 a5 KO1 F1 F2 F3 F4 FB
      have CT0 : Hid ((∀ W, Below (wo.alloc (.cells (tmCells x).toArray 32)).heap.size (wo.alloc (.cells (tmCells x).toArray 32)) W → TmAt W wo.heap.size 0 x ∧ W.cell? ⟨gO, k, none⟩ = some (.int .i64 y)) ∧ Below w3.heap.size w3 (wo.alloc (.cells (tmCells x).toArray 32))) := Lib.hid (by
        have ha : Below wo.heap.size wo (wo.alloc (.cells (tmCells x).toArray 32)) := (Below.refl _ _).alloc (Nat.le_refl _) _
        refine ⟨fun W hW => ⟨TmAt.keep (TmAt.of fun i u hi hu => ?_) (by rw [World.size_alloc]; omega) hW, ?_⟩, b_next16 HB.out ha⟩
        · rw [World.cell?_alloc_new, Nat.zero_add, ← hu]
          exact List.getElem?_toArray
        · exact ((b_next16 ha hW).cell (p := ⟨gO, k, none⟩) hgw).trans hoc2)
      obtain ⟨x0, x1, x2, x3, x4, x5⟩ := x
      unfold tmCells at CT0
      unfold tmV at KO1
      dsimp only at CT0 KO1 F1 F2 F3 F4 FB a0 a1 a2 a3 a4 a5
      go_upto_region 13 with fail
      clear a0 a1 a2 a3 a4 a5 hoc2 hgl hgw
      replace CT0 : Hid ((∀ W, Below (wo.alloc (.cells #[.int .i64 x0, .int .i64 x1, .int .i64 x2, .int .i64 x3, .int .i64 x4, .int .i64 x5] 32)).heap.size (wo.alloc (.cells #[.int .i64 x0, .int .i64 x1, .int .i64 x2, .int .i64 x3, .int .i64 x4, .int .i64 x5] 32)) W → TmAt W wo.heap.size 0 ⟨x0, x1, x2, x3, x4, x5⟩ ∧ W.cell? ⟨gO, k, none⟩ = some (.int .i64 y)) ∧ Below w3.heap.size w3 (wo.alloc (.cells #[.int .i64 x0, .int .i64 x1, .int .i64 x2, .int .i64 x3, .int .i64 x4, .int .i64 x5] 32))) := CT0
      generalize wo.alloc (.cells #[.int .i64 x0, .int .i64 x1, .int .i64 x2, .int .i64 x3, .int .i64 x4, .int .i64 x5] 32) = w5 at CT0 ⊢
      generalize wo.heap.size = q at CT0 ⊢
      have CT := Lib.hid CT0.out.1
      have B5 := Lib.hid CT0.out.2
      clear CT0
      unfold TmAt at CT
      simp only [Nat.zero_add] at CT
      go_cut [91] from 43 to 151 (fun v wx => v = .bool false ∧ Hid (Below w5.heap.size w5 wx))
      case first =>
        obtain ⟨⟨a0, a1, a2, a3, a4, a5⟩, a6⟩ := CT.out w5 (Below.refl _ _)
        obtain ⟨z, hz2⟩ := FB.out
        unfold cI at hz2
        dsimp only at hz2
        by_cases hx : x2 < x1
        · have d1 : decide (x2 < x1) = true := decide_eq_true hx
          have d2 : decide (x1 ≤ x2) = false := decide_eq_false (by omega)
          obtain rfl : x1 = y := by omega
          have d3 : ((x1 : Int) != x1) = (!true) := by simp
          clear hz2 hx
          go_quiet (fail)
          go_wp2_with fail
          go_meet
          exact ⟨rfl, Lib.hid (drewN_below _ _ _)⟩
        · have d1 : decide (x2 < x1) = false := decide_eq_false hx
          have d2 : decide (x1 ≤ x2) = true := decide_eq_true (by omega)
          have d3 : decide (y < x1) = false := decide_eq_false (by omega)
          have d4 : decide (x2 < y) = false := decide_eq_false (by omega)
          clear hz2 hx
          go_quiet (fail)
          go_wp2_with fail
          go_meet
          exact ⟨rfl, Lib.hid (drewN_below _ _ _)⟩
      case rest =>
        obtain ⟨rfl, BX⟩ := hcut
        obtain ⟨w6, rfl⟩ : ∃ wq : World, wq = wc := ⟨_, rfl⟩
        replace CT : Hid (∀ W, Below w6.heap.size w6 W → _) := Lib.hid (fun W hW => CT.out W (b_next16 BX.out hW))
        replace B5 := Lib.hid (b_next16 B5.out BX.out)
        clear BX FB
        go_upto_region 15 with fail
        go_cut [118] from 43 to 151 (fun v wx => v = .bool false ∧ Hid (Below w6.heap.size w6 wx))
        case first =>
          clear E1 E2 E3 E4 KO BT V3 O3 HL B5 B3 B4 HB wi hz hz0
          by_cases hr : 0 ≤ room
          · have d0 : decide (0 ≤ room) = true := decide_eq_true hr
            cases g with
            | true =>
              have d1 : decide (y < fi) = false := decide_eq_false (by have := F3.out rfl hr; omega)
              clear F1 F2 F3 F4
              refine' wp_region_below [opV _, opV _, opV _, opV _, opV _, opV _, opV _, opV _, opV _, opV _, opV (.int .i64 fi), opV _, opV _, opV _, opV _, opV _, opV _, opV _, opV _, opV _, opV _, opV _, opV _, opV _, opV _, opV _, opV _] rfl (by kernel_rfl) ⟨?s0, ?s1, ?s2, ?s3, ?s4, ?s5, ?s6, ?s7, ?s8, ?s9, ?s10, ?s11, ?s12, ?s13, ?s14, ?s15, ?s16, ?s17, ?s18, ?s19, ?s20, ?s21, ?s22, ?s23, ?s24, ?s25, ?s26, trivial⟩ ?fin
              case s0 =>
                refine BStep.of [] [] (opV _) (by kernel_rfl) (fun _ _ => by kernel_rfl) rfl ?_
                intro vs wv hB hA
                clear hA
                simp only [fillP]
                have ct := (CT.out wv hB).1; have a0 := ct.1; have a1 := ct.2.1; have a2 := ct.2.2.1; have a3 := ct.2.2.2.1; have a4 := ct.2.2.2.2.1; have a5 := ct.2.2.2.2.2; have a6 := (CT.out wv hB).2; clear ct; go_wp2_with fail
                refine postB_val ?_ (Below.refl _ _)
                simp only [List.getElem?_cons_succ, List.getElem?_cons_zero]
                rfl
              case s1 =>
                refine BStep.of [0] [(92, 0)] (opV _) (by kernel_rfl) (fun _ _ => by kernel_rfl) rfl ?_
                intro vs wv hB hA
                have h0 : vs 0 = _ := hA.1
                clear hA
                simp only [fillP, List.setIfInBounds_toArray, List.set_cons_zero, List.set_cons_succ, h0]
                have ct := (CT.out wv hB).1; have a0 := ct.1; have a1 := ct.2.1; have a2 := ct.2.2.1; have a3 := ct.2.2.2.1; have a4 := ct.2.2.2.2.1; have a5 := ct.2.2.2.2.2; have a6 := (CT.out wv hB).2; clear ct; go_wp2_with fail
                refine postB_val ?_ (Below.refl _ _)
                simp only [List.getElem?_cons_succ, List.getElem?_cons_zero]
                rfl
              case s2 =>
                refine BStep.of [1] [(93, 1)] (opV _) (by kernel_rfl) (fun _ _ => by kernel_rfl) rfl ?_
                intro vs wv hB hA
                have h1 : vs 1 = _ := hA.1
                clear hA
                simp only [fillP, List.setIfInBounds_toArray, List.set_cons_zero, List.set_cons_succ, h1]
                have ct := (CT.out wv hB).1; have a0 := ct.1; have a1 := ct.2.1; have a2 := ct.2.2.1; have a3 := ct.2.2.2.1; have a4 := ct.2.2.2.2.1; have a5 := ct.2.2.2.2.2; have a6 := (CT.out wv hB).2; clear ct; go_wp2_with fail
                refine postB_val ?_ (Below.refl _ _)
                simp only [List.getElem?_cons_succ, List.getElem?_cons_zero]
                rfl
              case s3 =>
                refine BStep.of [2] [(94, 2)] (opV _) (by kernel_rfl) (fun _ _ => by kernel_rfl) rfl ?_
                intro vs wv hB hA
                have h2 : vs 2 = _ := hA.1
                clear hA
                simp only [fillP, List.setIfInBounds_toArray, List.set_cons_zero, List.set_cons_succ, h2]
                have ct := (CT.out wv hB).1; have a0 := ct.1; have a1 := ct.2.1; have a2 := ct.2.2.1; have a3 := ct.2.2.2.1; have a4 := ct.2.2.2.2.1; have a5 := ct.2.2.2.2.2; have a6 := (CT.out wv hB).2; clear ct; go_wp2_with fail
                refine postB_val ?_ (Below.refl _ _)
                simp only [List.getElem?_cons_succ, List.getElem?_cons_zero]
                rfl
              case s4 =>
                refine BStep.of [2, 3] [(94, 2), (95, 3)] (opV _) (by kernel_rfl) (fun _ _ => by kernel_rfl) rfl ?_
                intro vs wv hB hA
                have h2 : vs 2 = _ := hA.1
                have h3 : vs 3 = _ := hA.2.1
                clear hA
                simp only [fillP, List.setIfInBounds_toArray, List.set_cons_zero, List.set_cons_succ, h2, h3]
                have ct := (CT.out wv hB).1; have a0 := ct.1; have a1 := ct.2.1; have a2 := ct.2.2.1; have a3 := ct.2.2.2.1; have a4 := ct.2.2.2.2.1; have a5 := ct.2.2.2.2.2; have a6 := (CT.out wv hB).2; clear ct; go_wp2_with fail
                refine postB_val ?_ (Below.refl _ _)
                simp only [List.getElem?_cons_succ, List.getElem?_cons_zero]
                rfl
              case s5 =>
                refine BStep.of [4] [(96, 4)] (opV _) (by kernel_rfl) (fun _ _ => by kernel_rfl) rfl ?_
                intro vs wv hB hA
                have h4 : vs 4 = _ := hA.1
                clear hA
                simp only [fillP, List.setIfInBounds_toArray, List.set_cons_zero, List.set_cons_succ, h4]
                have ct := (CT.out wv hB).1; have a0 := ct.1; have a1 := ct.2.1; have a2 := ct.2.2.1; have a3 := ct.2.2.2.1; have a4 := ct.2.2.2.2.1; have a5 := ct.2.2.2.2.2; have a6 := (CT.out wv hB).2; clear ct; go_wp2_with fail
                refine postB_val ?_ (Below.refl _ _)
                simp only [List.getElem?_cons_succ, List.getElem?_cons_zero]
                rfl
              case s6 =>
                refine BStep.of [4] [(96, 4)] (opV _) (by kernel_rfl) (fun _ _ => by kernel_rfl) rfl ?_
                intro vs wv hB hA
                have h4 : vs 4 = _ := hA.1
                clear hA
                simp only [fillP, List.setIfInBounds_toArray, List.set_cons_zero, List.set_cons_succ, h4]
                have ct := (CT.out wv hB).1; have a0 := ct.1; have a1 := ct.2.1; have a2 := ct.2.2.1; have a3 := ct.2.2.2.1; have a4 := ct.2.2.2.2.1; have a5 := ct.2.2.2.2.2; have a6 := (CT.out wv hB).2; clear ct; go_wp2_with fail
                refine postB_val ?_ (Below.refl _ _)
                simp only [List.getElem?_cons_succ, List.getElem?_cons_zero]
                rfl
              case s7 =>
                refine BStep.of [4, 5, 6] [(96, 4), (97, 5), (98, 6)] (opV _) (by kernel_rfl) (fun _ _ => by kernel_rfl) rfl ?_
                intro vs wv hB hA
                have h4 : vs 4 = _ := hA.1
                have h5 : vs 5 = _ := hA.2.1
                have h6 : vs 6 = _ := hA.2.2.1
                clear hA
                simp only [fillP, List.setIfInBounds_toArray, List.set_cons_zero, List.set_cons_succ, h4, h5, h6]
                have ct := (CT.out wv hB).1; have a0 := ct.1; have a1 := ct.2.1; have a2 := ct.2.2.1; have a3 := ct.2.2.2.1; have a4 := ct.2.2.2.2.1; have a5 := ct.2.2.2.2.2; have a6 := (CT.out wv hB).2; clear ct; go_wp2_with fail
                refine postB_val ?_ (Below.refl _ _)
                simp only [List.getElem?_cons_succ, List.getElem?_cons_zero]
                rfl
              case s8 =>
                refine BStep.of [4, 7] [(96, 4), (99, 7)] (opV _) (by kernel_rfl) (fun _ _ => by kernel_rfl) rfl ?_
                intro vs wv hB hA
                have h4 : vs 4 = _ := hA.1
                have h7 : vs 7 = _ := hA.2.1
                clear hA
                simp only [fillP, List.setIfInBounds_toArray, List.set_cons_zero, List.set_cons_succ, h4, h7]
                have ct := (CT.out wv hB).1; have a0 := ct.1; have a1 := ct.2.1; have a2 := ct.2.2.1; have a3 := ct.2.2.2.1; have a4 := ct.2.2.2.2.1; have a5 := ct.2.2.2.2.2; have a6 := (CT.out wv hB).2; clear ct; go_wp2_with fail
                refine postB_val ?_ (Below.refl _ _)
                simp only [List.getElem?_cons_succ, List.getElem?_cons_zero]
                rfl
              case s9 =>
                refine BStep.of [4] [(96, 4)] (opV _) (by kernel_rfl) (fun _ _ => by kernel_rfl) rfl ?_
                intro vs wv hB hA
                have h4 : vs 4 = _ := hA.1
                clear hA
                simp only [fillP, List.setIfInBounds_toArray, List.set_cons_zero, List.set_cons_succ, h4]
                have ct := (CT.out wv hB).1; have a0 := ct.1; have a1 := ct.2.1; have a2 := ct.2.2.1; have a3 := ct.2.2.2.1; have a4 := ct.2.2.2.2.1; have a5 := ct.2.2.2.2.2; have a6 := (CT.out wv hB).2; clear ct; go_wp2_with fail
                refine postB_val ?_ (Below.refl _ _)
                simp only [List.getElem?_cons_succ, List.getElem?_cons_zero]
                rfl
              case s10 =>
                refine BStep.of [4, 9] [(96, 4), (101, 9)] (opV (.int .i64 fi)) (by kernel_rfl) (fun _ _ => by kernel_rfl) rfl ?_
                intro vs wv hB hA
                have h4 : vs 4 = _ := hA.1
                have h9 : vs 9 = _ := hA.2.1
                clear hA
                simp only [fillP, List.setIfInBounds_toArray, List.set_cons_zero, List.set_cons_succ, h4, h9]
                (go_wp2_with (go_at_call 13; (with_reducible refine (KO1.out _).mono ?_); rintro e w7 ⟨rfl, hb⟩)); exact postB_val rfl hb
              case s11 =>
                refine BStep.of [4, 8, 10] [(96, 4), (100, 8), (102, 10)] (opV _) (by kernel_rfl) (fun _ _ => by kernel_rfl) rfl ?_
                intro vs wv hB hA
                have h4 : vs 4 = _ := hA.1
                have h8 : vs 8 = _ := hA.2.1
                have h10 : vs 10 = _ := hA.2.2.1
                clear hA
                simp only [fillP, List.setIfInBounds_toArray, List.set_cons_zero, List.set_cons_succ, h4, h8, h10]
                have ct := (CT.out wv hB).1; have a0 := ct.1; have a1 := ct.2.1; have a2 := ct.2.2.1; have a3 := ct.2.2.2.1; have a4 := ct.2.2.2.2.1; have a5 := ct.2.2.2.2.2; have a6 := (CT.out wv hB).2; clear ct; go_wp2_with fail
                refine postB_val ?_ (Below.refl _ _)
                simp only [List.getElem?_cons_succ, List.getElem?_cons_zero]
                rfl
              case s12 =>
                refine BStep.of [2, 4, 11] [(94, 2), (96, 4), (103, 11)] (opV _) (by kernel_rfl) (fun _ _ => by kernel_rfl) rfl ?_
                intro vs wv hB hA
                have h2 : vs 2 = _ := hA.1
                have h4 : vs 4 = _ := hA.2.1
                have h11 : vs 11 = _ := hA.2.2.1
                clear hA
                simp only [fillP, List.setIfInBounds_toArray, List.set_cons_zero, List.set_cons_succ, h2, h4, h11]
                have ct := (CT.out wv hB).1; have a0 := ct.1; have a1 := ct.2.1; have a2 := ct.2.2.1; have a3 := ct.2.2.2.1; have a4 := ct.2.2.2.2.1; have a5 := ct.2.2.2.2.2; have a6 := (CT.out wv hB).2; clear ct; go_wp2_with fail
                refine postB_val ?_ (Below.refl _ _)
                simp only [List.getElem?_cons_succ, List.getElem?_cons_zero]
                rfl
              case s13 =>
                refine BStep.of [2, 10, 12] [(94, 2), (102, 10), (104, 12)] (opV _) (by kernel_rfl) (fun _ _ => by kernel_rfl) rfl ?_
                intro vs wv hB hA
                have h2 : vs 2 = _ := hA.1
                have h10 : vs 10 = _ := hA.2.1
                have h12 : vs 12 = _ := hA.2.2.1
                clear hA
                simp only [fillP, List.setIfInBounds_toArray, List.set_cons_zero, List.set_cons_succ, h2, h10, h12]
                have ct := (CT.out wv hB).1; have a0 := ct.1; have a1 := ct.2.1; have a2 := ct.2.2.1; have a3 := ct.2.2.2.1; have a4 := ct.2.2.2.2.1; have a5 := ct.2.2.2.2.2; have a6 := (CT.out wv hB).2; clear ct; go_wp2_with fail
                refine postB_val ?_ (Below.refl _ _)
                simp only [List.getElem?_cons_succ, List.getElem?_cons_zero]
                rfl
              case s14 =>
                refine BStep.of [13] [(105, 13)] (opV _) (by kernel_rfl) (fun _ _ => by kernel_rfl) rfl ?_
                intro vs wv hB hA
                have h13 : vs 13 = _ := hA.1
                clear hA
                simp only [fillP, List.setIfInBounds_toArray, List.set_cons_zero, List.set_cons_succ, h13]
                have ct := (CT.out wv hB).1; have a0 := ct.1; have a1 := ct.2.1; have a2 := ct.2.2.1; have a3 := ct.2.2.2.1; have a4 := ct.2.2.2.2.1; have a5 := ct.2.2.2.2.2; have a6 := (CT.out wv hB).2; clear ct; go_wp2_with fail
                refine postB_val ?_ (Below.refl _ _)
                simp only [List.getElem?_cons_succ, List.getElem?_cons_zero]
                rfl
              case s15 =>
                refine BStep.of [13, 14] [(105, 13), (106, 14)] (opV _) (by kernel_rfl) (fun _ _ => by kernel_rfl) rfl ?_
                intro vs wv hB hA
                have h13 : vs 13 = _ := hA.1
                have h14 : vs 14 = _ := hA.2.1
                clear hA
                simp only [fillP, List.setIfInBounds_toArray, List.set_cons_zero, List.set_cons_succ, h13, h14]
                have ct := (CT.out wv hB).1; have a0 := ct.1; have a1 := ct.2.1; have a2 := ct.2.2.1; have a3 := ct.2.2.2.1; have a4 := ct.2.2.2.2.1; have a5 := ct.2.2.2.2.2; have a6 := (CT.out wv hB).2; clear ct; go_wp2_with fail
                refine postB_val ?_ (Below.refl _ _)
                simp only [List.getElem?_cons_succ, List.getElem?_cons_zero]
                rfl
              case s16 =>
                refine BStep.of [13, 15] [(105, 13), (107, 15)] (opV _) (by kernel_rfl) (fun _ _ => by kernel_rfl) rfl ?_
                intro vs wv hB hA
                have h13 : vs 13 = _ := hA.1
                have h15 : vs 15 = _ := hA.2.1
                clear hA
                simp only [fillP, List.setIfInBounds_toArray, List.set_cons_zero, List.set_cons_succ, h13, h15]
                have ct := (CT.out wv hB).1; have a0 := ct.1; have a1 := ct.2.1; have a2 := ct.2.2.1; have a3 := ct.2.2.2.1; have a4 := ct.2.2.2.2.1; have a5 := ct.2.2.2.2.2; have a6 := (CT.out wv hB).2; clear ct; go_wp2_with fail
                refine postB_val ?_ (Below.refl _ _)
                simp only [List.getElem?_cons_succ, List.getElem?_cons_zero]
                rfl
              case s17 =>
                refine BStep.of [16] [(108, 16)] (opV _) (by kernel_rfl) (fun _ _ => by kernel_rfl) rfl ?_
                intro vs wv hB hA
                have h16 : vs 16 = _ := hA.1
                clear hA
                simp only [fillP, List.setIfInBounds_toArray, List.set_cons_zero, List.set_cons_succ, h16]
                have ct := (CT.out wv hB).1; have a0 := ct.1; have a1 := ct.2.1; have a2 := ct.2.2.1; have a3 := ct.2.2.2.1; have a4 := ct.2.2.2.2.1; have a5 := ct.2.2.2.2.2; have a6 := (CT.out wv hB).2; clear ct; go_wp2_with fail
                refine postB_val ?_ (Below.refl _ _)
                simp only [List.getElem?_cons_succ, List.getElem?_cons_zero]
                rfl
              case s18 =>
                refine BStep.of [16] [(108, 16)] (opV _) (by kernel_rfl) (fun _ _ => by kernel_rfl) rfl ?_
                intro vs wv hB hA
                have h16 : vs 16 = _ := hA.1
                clear hA
                simp only [fillP, List.setIfInBounds_toArray, List.set_cons_zero, List.set_cons_succ, h16]
                have ct := (CT.out wv hB).1; have a0 := ct.1; have a1 := ct.2.1; have a2 := ct.2.2.1; have a3 := ct.2.2.2.1; have a4 := ct.2.2.2.2.1; have a5 := ct.2.2.2.2.2; have a6 := (CT.out wv hB).2; clear ct; go_wp2_with fail
                refine postB_val ?_ (Below.refl _ _)
                simp only [List.getElem?_cons_succ, List.getElem?_cons_zero]
                rfl
              case s19 =>
                refine BStep.of [16, 17, 18] [(108, 16), (109, 17), (110, 18)] (opV _) (by kernel_rfl) (fun _ _ => by kernel_rfl) rfl ?_
                intro vs wv hB hA
                have h16 : vs 16 = _ := hA.1
                have h17 : vs 17 = _ := hA.2.1
                have h18 : vs 18 = _ := hA.2.2.1
                clear hA
                simp only [fillP, List.setIfInBounds_toArray, List.set_cons_zero, List.set_cons_succ, h16, h17, h18]
                have ct := (CT.out wv hB).1; have a0 := ct.1; have a1 := ct.2.1; have a2 := ct.2.2.1; have a3 := ct.2.2.2.1; have a4 := ct.2.2.2.2.1; have a5 := ct.2.2.2.2.2; have a6 := (CT.out wv hB).2; clear ct; go_wp2_with fail
                refine postB_val ?_ (Below.refl _ _)
                simp only [List.getElem?_cons_succ, List.getElem?_cons_zero]
                rfl
              case s20 =>
                refine BStep.of [16, 19] [(108, 16), (111, 19)] (opV _) (by kernel_rfl) (fun _ _ => by kernel_rfl) rfl ?_
                intro vs wv hB hA
                have h16 : vs 16 = _ := hA.1
                have h19 : vs 19 = _ := hA.2.1
                clear hA
                simp only [fillP, List.setIfInBounds_toArray, List.set_cons_zero, List.set_cons_succ, h16, h19]
                have ct := (CT.out wv hB).1; have a0 := ct.1; have a1 := ct.2.1; have a2 := ct.2.2.1; have a3 := ct.2.2.2.1; have a4 := ct.2.2.2.2.1; have a5 := ct.2.2.2.2.2; have a6 := (CT.out wv hB).2; clear ct; go_wp2_with fail
                refine postB_val ?_ (Below.refl _ _)
                simp only [List.getElem?_cons_succ, List.getElem?_cons_zero]
                rfl
              case s21 =>
                refine BStep.of [16] [(108, 16)] (opV _) (by kernel_rfl) (fun _ _ => by kernel_rfl) rfl ?_
                intro vs wv hB hA
                have h16 : vs 16 = _ := hA.1
                clear hA
                simp only [fillP, List.setIfInBounds_toArray, List.set_cons_zero, List.set_cons_succ, h16]
                have ct := (CT.out wv hB).1; have a0 := ct.1; have a1 := ct.2.1; have a2 := ct.2.2.1; have a3 := ct.2.2.2.1; have a4 := ct.2.2.2.2.1; have a5 := ct.2.2.2.2.2; have a6 := (CT.out wv hB).2; clear ct; go_wp2_with fail
                refine postB_val ?_ (Below.refl _ _)
                simp only [List.getElem?_cons_succ, List.getElem?_cons_zero]
                rfl
              case s22 =>
                refine BStep.of [16, 21] [(108, 16), (113, 21)] (opV _) (by kernel_rfl) (fun _ _ => by kernel_rfl) rfl ?_
                intro vs wv hB hA
                have h16 : vs 16 = _ := hA.1
                have h21 : vs 21 = _ := hA.2.1
                clear hA
                simp only [fillP, List.setIfInBounds_toArray, List.set_cons_zero, List.set_cons_succ, h16, h21]
                have ct := (CT.out wv hB).1; have a0 := ct.1; have a1 := ct.2.1; have a2 := ct.2.2.1; have a3 := ct.2.2.2.1; have a4 := ct.2.2.2.2.1; have a5 := ct.2.2.2.2.2; have a6 := (CT.out wv hB).2; clear ct; go_wp2_with fail
                refine postB_val ?_ (Below.refl _ _)
                simp only [List.getElem?_cons_succ, List.getElem?_cons_zero]
                rfl
              case s23 =>
                refine BStep.of [16, 20, 22] [(108, 16), (112, 20), (114, 22)] (opV _) (by kernel_rfl) (fun _ _ => by kernel_rfl) rfl ?_
                intro vs wv hB hA
                have h16 : vs 16 = _ := hA.1
                have h20 : vs 20 = _ := hA.2.1
                have h22 : vs 22 = _ := hA.2.2.1
                clear hA
                simp only [fillP, List.setIfInBounds_toArray, List.set_cons_zero, List.set_cons_succ, h16, h20, h22]
                have ct := (CT.out wv hB).1; have a0 := ct.1; have a1 := ct.2.1; have a2 := ct.2.2.1; have a3 := ct.2.2.2.1; have a4 := ct.2.2.2.2.1; have a5 := ct.2.2.2.2.2; have a6 := (CT.out wv hB).2; clear ct; go_wp2_with fail
                refine postB_val ?_ (Below.refl _ _)
                simp only [List.getElem?_cons_succ, List.getElem?_cons_zero]
                rfl
              case s24 =>
                refine BStep.of [13, 16, 23] [(105, 13), (108, 16), (115, 23)] (opV _) (by kernel_rfl) (fun _ _ => by kernel_rfl) rfl ?_
                intro vs wv hB hA
                have h13 : vs 13 = _ := hA.1
                have h16 : vs 16 = _ := hA.2.1
                have h23 : vs 23 = _ := hA.2.2.1
                clear hA
                simp only [fillP, List.setIfInBounds_toArray, List.set_cons_zero, List.set_cons_succ, h13, h16, h23]
                have ct := (CT.out wv hB).1; have a0 := ct.1; have a1 := ct.2.1; have a2 := ct.2.2.1; have a3 := ct.2.2.2.1; have a4 := ct.2.2.2.2.1; have a5 := ct.2.2.2.2.2; have a6 := (CT.out wv hB).2; clear ct; go_wp2_with fail
                refine postB_val ?_ (Below.refl _ _)
                simp only [List.getElem?_cons_succ, List.getElem?_cons_zero]
                rfl
              case s25 =>
                refine BStep.of [2, 13, 24] [(94, 2), (105, 13), (116, 24)] (opV _) (by kernel_rfl) (fun _ _ => by kernel_rfl) rfl ?_
                intro vs wv hB hA
                have h2 : vs 2 = _ := hA.1
                have h13 : vs 13 = _ := hA.2.1
                have h24 : vs 24 = _ := hA.2.2.1
                clear hA
                simp only [fillP, List.setIfInBounds_toArray, List.set_cons_zero, List.set_cons_succ, h2, h13, h24]
                have ct := (CT.out wv hB).1; have a0 := ct.1; have a1 := ct.2.1; have a2 := ct.2.2.1; have a3 := ct.2.2.2.1; have a4 := ct.2.2.2.2.1; have a5 := ct.2.2.2.2.2; have a6 := (CT.out wv hB).2; clear ct; go_wp2_with fail
                refine postB_val ?_ (Below.refl _ _)
                simp only [List.getElem?_cons_succ, List.getElem?_cons_zero]
                rfl
              case s26 =>
                refine BStep.of [2, 25] [(94, 2), (117, 25)] (opV _) (by kernel_rfl) (fun _ _ => by kernel_rfl) rfl ?_
                intro vs wv hB hA
                have h2 : vs 2 = _ := hA.1
                have h25 : vs 25 = _ := hA.2.1
                clear hA
                simp only [fillP, List.setIfInBounds_toArray, List.set_cons_zero, List.set_cons_succ, h2, h25]
                have ct := (CT.out wv hB).1; have a0 := ct.1; have a1 := ct.2.1; have a2 := ct.2.2.1; have a3 := ct.2.2.2.1; have a4 := ct.2.2.2.2.1; have a5 := ct.2.2.2.2.2; have a6 := (CT.out wv hB).2; clear ct; go_wp2_with fail
                refine postB_val ?_ (Below.refl _ _)
                simp only [List.getElem?_cons_succ, List.getElem?_cons_zero]
                rfl
              case fin =>
                refine fin_of [0, 1, 2, 3, 4, 5, 6, 7, 8, 9, 10, 11, 12, 13, 14, 15, 16, 17, 18, 19, 20, 21, 22, 23, 24, 25, 26] [(92, 0), (93, 1), (94, 2), (95, 3), (96, 4), (97, 5), (98, 6), (99, 7), (100, 8), (101, 9), (102, 10), (103, 11), (104, 12), (105, 13), (106, 14), (107, 15), (108, 16), (109, 17), (110, 18), (111, 19), (112, 20), (113, 21), (114, 22), (115, 23), (116, 24), (117, 25), (118, 26)] (by kernel_rfl) (fun _ _ => by kernel_rfl) ?_
                intro vs wv hB hA
                have h0 : vs 0 = _ := hA.1
                have h1 : vs 1 = _ := hA.2.1
                have h2 : vs 2 = _ := hA.2.2.1
                have h3 : vs 3 = _ := hA.2.2.2.1
                have h4 : vs 4 = _ := hA.2.2.2.2.1
                have h5 : vs 5 = _ := hA.2.2.2.2.2.1
                have h6 : vs 6 = _ := hA.2.2.2.2.2.2.1
                have h7 : vs 7 = _ := hA.2.2.2.2.2.2.2.1
                have h8 : vs 8 = _ := hA.2.2.2.2.2.2.2.2.1
                have h9 : vs 9 = _ := hA.2.2.2.2.2.2.2.2.2.1
                have h10 : vs 10 = _ := hA.2.2.2.2.2.2.2.2.2.2.1
                have h11 : vs 11 = _ := hA.2.2.2.2.2.2.2.2.2.2.2.1
                have h12 : vs 12 = _ := hA.2.2.2.2.2.2.2.2.2.2.2.2.1
                have h13 : vs 13 = _ := hA.2.2.2.2.2.2.2.2.2.2.2.2.2.1
                have h14 : vs 14 = _ := hA.2.2.2.2.2.2.2.2.2.2.2.2.2.2.1
                have h15 : vs 15 = _ := hA.2.2.2.2.2.2.2.2.2.2.2.2.2.2.2.1
                have h16 : vs 16 = _ := hA.2.2.2.2.2.2.2.2.2.2.2.2.2.2.2.2.1
                have h17 : vs 17 = _ := hA.2.2.2.2.2.2.2.2.2.2.2.2.2.2.2.2.2.1
                have h18 : vs 18 = _ := hA.2.2.2.2.2.2.2.2.2.2.2.2.2.2.2.2.2.2.1
                have h19 : vs 19 = _ := hA.2.2.2.2.2.2.2.2.2.2.2.2.2.2.2.2.2.2.2.1
                have h20 : vs 20 = _ := hA.2.2.2.2.2.2.2.2.2.2.2.2.2.2.2.2.2.2.2.2.1
                have h21 : vs 21 = _ := hA.2.2.2.2.2.2.2.2.2.2.2.2.2.2.2.2.2.2.2.2.2.1
                have h22 : vs 22 = _ := hA.2.2.2.2.2.2.2.2.2.2.2.2.2.2.2.2.2.2.2.2.2.2.1
                have h23 : vs 23 = _ := hA.2.2.2.2.2.2.2.2.2.2.2.2.2.2.2.2.2.2.2.2.2.2.2.1
                have h24 : vs 24 = _ := hA.2.2.2.2.2.2.2.2.2.2.2.2.2.2.2.2.2.2.2.2.2.2.2.2.1
                have h25 : vs 25 = _ := hA.2.2.2.2.2.2.2.2.2.2.2.2.2.2.2.2.2.2.2.2.2.2.2.2.2.1
                have h26 : vs 26 = _ := hA.2.2.2.2.2.2.2.2.2.2.2.2.2.2.2.2.2.2.2.2.2.2.2.2.2.2.1
                clear hA
                simp only [fillP, List.setIfInBounds_toArray, List.set_cons_zero, List.set_cons_succ, h0, h1, h2, h3, h4, h5, h6, h7, h8, h9, h10, h11, h12, h13, h14, h15, h16, h17, h18, h19, h20, h21, h22, h23, h24, h25, h26]
                go_wp2_with fail; go_meet; exact ⟨by first|rfl | simp, Lib.hid hB⟩
            | false =>
              have d1 : decide (fi < y) = false := decide_eq_false (by have := F4.out rfl hr; omega)
              clear F1 F2 F3 F4
              refine' wp_region_below [opV _, opV _, opV _, opV _, opV _, opV _, opV _, opV _, opV _, opV _, opV _, opV _, opV _, opV _, opV _, opV _, opV _, opV _, opV _, opV _, opV _, opV _, opV (.int .i64 fi), opV _, opV _, opV _, opV _] rfl (by kernel_rfl) ⟨?s0, ?s1, ?s2, ?s3, ?s4, ?s5, ?s6, ?s7, ?s8, ?s9, ?s10, ?s11, ?s12, ?s13, ?s14, ?s15, ?s16, ?s17, ?s18, ?s19, ?s20, ?s21, ?s22, ?s23, ?s24, ?s25, ?s26, trivial⟩ ?fin
              case s0 =>
                refine BStep.of [] [] (opV _) (by kernel_rfl) (fun _ _ => by kernel_rfl) rfl ?_
                intro vs wv hB hA
                clear hA
                simp only [fillP]
                have ct := (CT.out wv hB).1; have a0 := ct.1; have a1 := ct.2.1; have a2 := ct.2.2.1; have a3 := ct.2.2.2.1; have a4 := ct.2.2.2.2.1; have a5 := ct.2.2.2.2.2; have a6 := (CT.out wv hB).2; clear ct; go_wp2_with fail
                refine postB_val ?_ (Below.refl _ _)
                simp only [List.getElem?_cons_succ, List.getElem?_cons_zero]
                rfl
              case s1 =>
                refine BStep.of [0] [(92, 0)] (opV _) (by kernel_rfl) (fun _ _ => by kernel_rfl) rfl ?_
                intro vs wv hB hA
                have h0 : vs 0 = _ := hA.1
                clear hA
                simp only [fillP, List.setIfInBounds_toArray, List.set_cons_zero, List.set_cons_succ, h0]
                have ct := (CT.out wv hB).1; have a0 := ct.1; have a1 := ct.2.1; have a2 := ct.2.2.1; have a3 := ct.2.2.2.1; have a4 := ct.2.2.2.2.1; have a5 := ct.2.2.2.2.2; have a6 := (CT.out wv hB).2; clear ct; go_wp2_with fail
                refine postB_val ?_ (Below.refl _ _)
                simp only [List.getElem?_cons_succ, List.getElem?_cons_zero]
                rfl
              case s2 =>
                refine BStep.of [1] [(93, 1)] (opV _) (by kernel_rfl) (fun _ _ => by kernel_rfl) rfl ?_
                intro vs wv hB hA
                have h1 : vs 1 = _ := hA.1
                clear hA
                simp only [fillP, List.setIfInBounds_toArray, List.set_cons_zero, List.set_cons_succ, h1]
                have ct := (CT.out wv hB).1; have a0 := ct.1; have a1 := ct.2.1; have a2 := ct.2.2.1; have a3 := ct.2.2.2.1; have a4 := ct.2.2.2.2.1; have a5 := ct.2.2.2.2.2; have a6 := (CT.out wv hB).2; clear ct; go_wp2_with fail
                refine postB_val ?_ (Below.refl _ _)
                simp only [List.getElem?_cons_succ, List.getElem?_cons_zero]
                rfl
              case s3 =>
                refine BStep.of [2] [(94, 2)] (opV _) (by kernel_rfl) (fun _ _ => by kernel_rfl) rfl ?_
                intro vs wv hB hA
                have h2 : vs 2 = _ := hA.1
                clear hA
                simp only [fillP, List.setIfInBounds_toArray, List.set_cons_zero, List.set_cons_succ, h2]
                have ct := (CT.out wv hB).1; have a0 := ct.1; have a1 := ct.2.1; have a2 := ct.2.2.1; have a3 := ct.2.2.2.1; have a4 := ct.2.2.2.2.1; have a5 := ct.2.2.2.2.2; have a6 := (CT.out wv hB).2; clear ct; go_wp2_with fail
                refine postB_val ?_ (Below.refl _ _)
                simp only [List.getElem?_cons_succ, List.getElem?_cons_zero]
                rfl
              case s4 =>
                refine BStep.of [2, 3] [(94, 2), (95, 3)] (opV _) (by kernel_rfl) (fun _ _ => by kernel_rfl) rfl ?_
                intro vs wv hB hA
                have h2 : vs 2 = _ := hA.1
                have h3 : vs 3 = _ := hA.2.1
                clear hA
                simp only [fillP, List.setIfInBounds_toArray, List.set_cons_zero, List.set_cons_succ, h2, h3]
                have ct := (CT.out wv hB).1; have a0 := ct.1; have a1 := ct.2.1; have a2 := ct.2.2.1; have a3 := ct.2.2.2.1; have a4 := ct.2.2.2.2.1; have a5 := ct.2.2.2.2.2; have a6 := (CT.out wv hB).2; clear ct; go_wp2_with fail
                refine postB_val ?_ (Below.refl _ _)
                simp only [List.getElem?_cons_succ, List.getElem?_cons_zero]
                rfl
              case s5 =>
                refine BStep.of [4] [(96, 4)] (opV _) (by kernel_rfl) (fun _ _ => by kernel_rfl) rfl ?_
                intro vs wv hB hA
                have h4 : vs 4 = _ := hA.1
                clear hA
                simp only [fillP, List.setIfInBounds_toArray, List.set_cons_zero, List.set_cons_succ, h4]
                have ct := (CT.out wv hB).1; have a0 := ct.1; have a1 := ct.2.1; have a2 := ct.2.2.1; have a3 := ct.2.2.2.1; have a4 := ct.2.2.2.2.1; have a5 := ct.2.2.2.2.2; have a6 := (CT.out wv hB).2; clear ct; go_wp2_with fail
                refine postB_val ?_ (Below.refl _ _)
                simp only [List.getElem?_cons_succ, List.getElem?_cons_zero]
                rfl
              case s6 =>
                refine BStep.of [4] [(96, 4)] (opV _) (by kernel_rfl) (fun _ _ => by kernel_rfl) rfl ?_
                intro vs wv hB hA
                have h4 : vs 4 = _ := hA.1
                clear hA
                simp only [fillP, List.setIfInBounds_toArray, List.set_cons_zero, List.set_cons_succ, h4]
                have ct := (CT.out wv hB).1; have a0 := ct.1; have a1 := ct.2.1; have a2 := ct.2.2.1; have a3 := ct.2.2.2.1; have a4 := ct.2.2.2.2.1; have a5 := ct.2.2.2.2.2; have a6 := (CT.out wv hB).2; clear ct; go_wp2_with fail
                refine postB_val ?_ (Below.refl _ _)
                simp only [List.getElem?_cons_succ, List.getElem?_cons_zero]
                rfl
              case s7 =>
                refine BStep.of [4, 5, 6] [(96, 4), (97, 5), (98, 6)] (opV _) (by kernel_rfl) (fun _ _ => by kernel_rfl) rfl ?_
                intro vs wv hB hA
                have h4 : vs 4 = _ := hA.1
                have h5 : vs 5 = _ := hA.2.1
                have h6 : vs 6 = _ := hA.2.2.1
                clear hA
                simp only [fillP, List.setIfInBounds_toArray, List.set_cons_zero, List.set_cons_succ, h4, h5, h6]
                have ct := (CT.out wv hB).1; have a0 := ct.1; have a1 := ct.2.1; have a2 := ct.2.2.1; have a3 := ct.2.2.2.1; have a4 := ct.2.2.2.2.1; have a5 := ct.2.2.2.2.2; have a6 := (CT.out wv hB).2; clear ct; go_wp2_with fail
                refine postB_val ?_ (Below.refl _ _)
                simp only [List.getElem?_cons_succ, List.getElem?_cons_zero]
                rfl
              case s8 =>
                refine BStep.of [4, 7] [(96, 4), (99, 7)] (opV _) (by kernel_rfl) (fun _ _ => by kernel_rfl) rfl ?_
                intro vs wv hB hA
                have h4 : vs 4 = _ := hA.1
                have h7 : vs 7 = _ := hA.2.1
                clear hA
                simp only [fillP, List.setIfInBounds_toArray, List.set_cons_zero, List.set_cons_succ, h4, h7]
                have ct := (CT.out wv hB).1; have a0 := ct.1; have a1 := ct.2.1; have a2 := ct.2.2.1; have a3 := ct.2.2.2.1; have a4 := ct.2.2.2.2.1; have a5 := ct.2.2.2.2.2; have a6 := (CT.out wv hB).2; clear ct; go_wp2_with fail
                refine postB_val ?_ (Below.refl _ _)
                simp only [List.getElem?_cons_succ, List.getElem?_cons_zero]
                rfl
              case s9 =>
                refine BStep.of [4] [(96, 4)] (opV _) (by kernel_rfl) (fun _ _ => by kernel_rfl) rfl ?_
                intro vs wv hB hA
                have h4 : vs 4 = _ := hA.1
                clear hA
                simp only [fillP, List.setIfInBounds_toArray, List.set_cons_zero, List.set_cons_succ, h4]
                have ct := (CT.out wv hB).1; have a0 := ct.1; have a1 := ct.2.1; have a2 := ct.2.2.1; have a3 := ct.2.2.2.1; have a4 := ct.2.2.2.2.1; have a5 := ct.2.2.2.2.2; have a6 := (CT.out wv hB).2; clear ct; go_wp2_with fail
                refine postB_val ?_ (Below.refl _ _)
                simp only [List.getElem?_cons_succ, List.getElem?_cons_zero]
                rfl
              case s10 =>
                refine BStep.of [4, 9] [(96, 4), (101, 9)] (opV _) (by kernel_rfl) (fun _ _ => by kernel_rfl) rfl ?_
                intro vs wv hB hA
                have h4 : vs 4 = _ := hA.1
                have h9 : vs 9 = _ := hA.2.1
                clear hA
                simp only [fillP, List.setIfInBounds_toArray, List.set_cons_zero, List.set_cons_succ, h4, h9]
                have ct := (CT.out wv hB).1; have a0 := ct.1; have a1 := ct.2.1; have a2 := ct.2.2.1; have a3 := ct.2.2.2.1; have a4 := ct.2.2.2.2.1; have a5 := ct.2.2.2.2.2; have a6 := (CT.out wv hB).2; clear ct; go_wp2_with fail
                refine postB_val ?_ (Below.refl _ _)
                simp only [List.getElem?_cons_succ, List.getElem?_cons_zero]
                rfl
              case s11 =>
                refine BStep.of [4, 8, 10] [(96, 4), (100, 8), (102, 10)] (opV _) (by kernel_rfl) (fun _ _ => by kernel_rfl) rfl ?_
                intro vs wv hB hA
                have h4 : vs 4 = _ := hA.1
                have h8 : vs 8 = _ := hA.2.1
                have h10 : vs 10 = _ := hA.2.2.1
                clear hA
                simp only [fillP, List.setIfInBounds_toArray, List.set_cons_zero, List.set_cons_succ, h4, h8, h10]
                have ct := (CT.out wv hB).1; have a0 := ct.1; have a1 := ct.2.1; have a2 := ct.2.2.1; have a3 := ct.2.2.2.1; have a4 := ct.2.2.2.2.1; have a5 := ct.2.2.2.2.2; have a6 := (CT.out wv hB).2; clear ct; go_wp2_with fail
                refine postB_val ?_ (Below.refl _ _)
                simp only [List.getElem?_cons_succ, List.getElem?_cons_zero]
                rfl
              case s12 =>
                refine BStep.of [2, 4, 11] [(94, 2), (96, 4), (103, 11)] (opV _) (by kernel_rfl) (fun _ _ => by kernel_rfl) rfl ?_
                intro vs wv hB hA
                have h2 : vs 2 = _ := hA.1
                have h4 : vs 4 = _ := hA.2.1
                have h11 : vs 11 = _ := hA.2.2.1
                clear hA
                simp only [fillP, List.setIfInBounds_toArray, List.set_cons_zero, List.set_cons_succ, h2, h4, h11]
                have ct := (CT.out wv hB).1; have a0 := ct.1; have a1 := ct.2.1; have a2 := ct.2.2.1; have a3 := ct.2.2.2.1; have a4 := ct.2.2.2.2.1; have a5 := ct.2.2.2.2.2; have a6 := (CT.out wv hB).2; clear ct; go_wp2_with fail
                refine postB_val ?_ (Below.refl _ _)
                simp only [List.getElem?_cons_succ, List.getElem?_cons_zero]
                rfl
              case s13 =>
                refine BStep.of [2, 10, 12] [(94, 2), (102, 10), (104, 12)] (opV _) (by kernel_rfl) (fun _ _ => by kernel_rfl) rfl ?_
                intro vs wv hB hA
                have h2 : vs 2 = _ := hA.1
                have h10 : vs 10 = _ := hA.2.1
                have h12 : vs 12 = _ := hA.2.2.1
                clear hA
                simp only [fillP, List.setIfInBounds_toArray, List.set_cons_zero, List.set_cons_succ, h2, h10, h12]
                have ct := (CT.out wv hB).1; have a0 := ct.1; have a1 := ct.2.1; have a2 := ct.2.2.1; have a3 := ct.2.2.2.1; have a4 := ct.2.2.2.2.1; have a5 := ct.2.2.2.2.2; have a6 := (CT.out wv hB).2; clear ct; go_wp2_with fail
                refine postB_val ?_ (Below.refl _ _)
                simp only [List.getElem?_cons_succ, List.getElem?_cons_zero]
                rfl
              case s14 =>
                refine BStep.of [13] [(105, 13)] (opV _) (by kernel_rfl) (fun _ _ => by kernel_rfl) rfl ?_
                intro vs wv hB hA
                have h13 : vs 13 = _ := hA.1
                clear hA
                simp only [fillP, List.setIfInBounds_toArray, List.set_cons_zero, List.set_cons_succ, h13]
                have ct := (CT.out wv hB).1; have a0 := ct.1; have a1 := ct.2.1; have a2 := ct.2.2.1; have a3 := ct.2.2.2.1; have a4 := ct.2.2.2.2.1; have a5 := ct.2.2.2.2.2; have a6 := (CT.out wv hB).2; clear ct; go_wp2_with fail
                refine postB_val ?_ (Below.refl _ _)
                simp only [List.getElem?_cons_succ, List.getElem?_cons_zero]
                rfl
              case s15 =>
                refine BStep.of [13, 14] [(105, 13), (106, 14)] (opV _) (by kernel_rfl) (fun _ _ => by kernel_rfl) rfl ?_
                intro vs wv hB hA
                have h13 : vs 13 = _ := hA.1
                have h14 : vs 14 = _ := hA.2.1
                clear hA
                simp only [fillP, List.setIfInBounds_toArray, List.set_cons_zero, List.set_cons_succ, h13, h14]
                have ct := (CT.out wv hB).1; have a0 := ct.1; have a1 := ct.2.1; have a2 := ct.2.2.1; have a3 := ct.2.2.2.1; have a4 := ct.2.2.2.2.1; have a5 := ct.2.2.2.2.2; have a6 := (CT.out wv hB).2; clear ct; go_wp2_with fail
                refine postB_val ?_ (Below.refl _ _)
                simp only [List.getElem?_cons_succ, List.getElem?_cons_zero]
                rfl
              case s16 =>
                refine BStep.of [13, 15] [(105, 13), (107, 15)] (opV _) (by kernel_rfl) (fun _ _ => by kernel_rfl) rfl ?_
                intro vs wv hB hA
                have h13 : vs 13 = _ := hA.1
                have h15 : vs 15 = _ := hA.2.1
                clear hA
                simp only [fillP, List.setIfInBounds_toArray, List.set_cons_zero, List.set_cons_succ, h13, h15]
                have ct := (CT.out wv hB).1; have a0 := ct.1; have a1 := ct.2.1; have a2 := ct.2.2.1; have a3 := ct.2.2.2.1; have a4 := ct.2.2.2.2.1; have a5 := ct.2.2.2.2.2; have a6 := (CT.out wv hB).2; clear ct; go_wp2_with fail
                refine postB_val ?_ (Below.refl _ _)
                simp only [List.getElem?_cons_succ, List.getElem?_cons_zero]
                rfl
              case s17 =>
                refine BStep.of [16] [(108, 16)] (opV _) (by kernel_rfl) (fun _ _ => by kernel_rfl) rfl ?_
                intro vs wv hB hA
                have h16 : vs 16 = _ := hA.1
                clear hA
                simp only [fillP, List.setIfInBounds_toArray, List.set_cons_zero, List.set_cons_succ, h16]
                have ct := (CT.out wv hB).1; have a0 := ct.1; have a1 := ct.2.1; have a2 := ct.2.2.1; have a3 := ct.2.2.2.1; have a4 := ct.2.2.2.2.1; have a5 := ct.2.2.2.2.2; have a6 := (CT.out wv hB).2; clear ct; go_wp2_with fail
                refine postB_val ?_ (Below.refl _ _)
                simp only [List.getElem?_cons_succ, List.getElem?_cons_zero]
                rfl
              case s18 =>
                refine BStep.of [16] [(108, 16)] (opV _) (by kernel_rfl) (fun _ _ => by kernel_rfl) rfl ?_
                intro vs wv hB hA
                have h16 : vs 16 = _ := hA.1
                clear hA
                simp only [fillP, List.setIfInBounds_toArray, List.set_cons_zero, List.set_cons_succ, h16]
                have ct := (CT.out wv hB).1; have a0 := ct.1; have a1 := ct.2.1; have a2 := ct.2.2.1; have a3 := ct.2.2.2.1; have a4 := ct.2.2.2.2.1; have a5 := ct.2.2.2.2.2; have a6 := (CT.out wv hB).2; clear ct; go_wp2_with fail
                refine postB_val ?_ (Below.refl _ _)
                simp only [List.getElem?_cons_succ, List.getElem?_cons_zero]
                rfl
              case s19 =>
                refine BStep.of [16, 17, 18] [(108, 16), (109, 17), (110, 18)] (opV _) (by kernel_rfl) (fun _ _ => by kernel_rfl) rfl ?_
                intro vs wv hB hA
                have h16 : vs 16 = _ := hA.1
                have h17 : vs 17 = _ := hA.2.1
                have h18 : vs 18 = _ := hA.2.2.1
                clear hA
                simp only [fillP, List.setIfInBounds_toArray, List.set_cons_zero, List.set_cons_succ, h16, h17, h18]
                have ct := (CT.out wv hB).1; have a0 := ct.1; have a1 := ct.2.1; have a2 := ct.2.2.1; have a3 := ct.2.2.2.1; have a4 := ct.2.2.2.2.1; have a5 := ct.2.2.2.2.2; have a6 := (CT.out wv hB).2; clear ct; go_wp2_with fail
                refine postB_val ?_ (Below.refl _ _)
                simp only [List.getElem?_cons_succ, List.getElem?_cons_zero]
                rfl
              case s20 =>
                refine BStep.of [16, 19] [(108, 16), (111, 19)] (opV _) (by kernel_rfl) (fun _ _ => by kernel_rfl) rfl ?_
                intro vs wv hB hA
                have h16 : vs 16 = _ := hA.1
                have h19 : vs 19 = _ := hA.2.1
                clear hA
                simp only [fillP, List.setIfInBounds_toArray, List.set_cons_zero, List.set_cons_succ, h16, h19]
                have ct := (CT.out wv hB).1; have a0 := ct.1; have a1 := ct.2.1; have a2 := ct.2.2.1; have a3 := ct.2.2.2.1; have a4 := ct.2.2.2.2.1; have a5 := ct.2.2.2.2.2; have a6 := (CT.out wv hB).2; clear ct; go_wp2_with fail
                refine postB_val ?_ (Below.refl _ _)
                simp only [List.getElem?_cons_succ, List.getElem?_cons_zero]
                rfl
              case s21 =>
                refine BStep.of [16] [(108, 16)] (opV _) (by kernel_rfl) (fun _ _ => by kernel_rfl) rfl ?_
                intro vs wv hB hA
                have h16 : vs 16 = _ := hA.1
                clear hA
                simp only [fillP, List.setIfInBounds_toArray, List.set_cons_zero, List.set_cons_succ, h16]
                have ct := (CT.out wv hB).1; have a0 := ct.1; have a1 := ct.2.1; have a2 := ct.2.2.1; have a3 := ct.2.2.2.1; have a4 := ct.2.2.2.2.1; have a5 := ct.2.2.2.2.2; have a6 := (CT.out wv hB).2; clear ct; go_wp2_with fail
                refine postB_val ?_ (Below.refl _ _)
                simp only [List.getElem?_cons_succ, List.getElem?_cons_zero]
                rfl
              case s22 =>
                refine BStep.of [16, 21] [(108, 16), (113, 21)] (opV (.int .i64 fi)) (by kernel_rfl) (fun _ _ => by kernel_rfl) rfl ?_
                intro vs wv hB hA
                have h16 : vs 16 = _ := hA.1
                have h21 : vs 21 = _ := hA.2.1
                clear hA
                simp only [fillP, List.setIfInBounds_toArray, List.set_cons_zero, List.set_cons_succ, h16, h21]
                (go_wp2_with (go_at_call 13; (with_reducible refine (KO1.out _).mono ?_); rintro e w7 ⟨rfl, hb⟩)); exact postB_val rfl hb
              case s23 =>
                refine BStep.of [16, 20, 22] [(108, 16), (112, 20), (114, 22)] (opV _) (by kernel_rfl) (fun _ _ => by kernel_rfl) rfl ?_
                intro vs wv hB hA
                have h16 : vs 16 = _ := hA.1
                have h20 : vs 20 = _ := hA.2.1
                have h22 : vs 22 = _ := hA.2.2.1
                clear hA
                simp only [fillP, List.setIfInBounds_toArray, List.set_cons_zero, List.set_cons_succ, h16, h20, h22]
                have ct := (CT.out wv hB).1; have a0 := ct.1; have a1 := ct.2.1; have a2 := ct.2.2.1; have a3 := ct.2.2.2.1; have a4 := ct.2.2.2.2.1; have a5 := ct.2.2.2.2.2; have a6 := (CT.out wv hB).2; clear ct; go_wp2_with fail
                refine postB_val ?_ (Below.refl _ _)
                simp only [List.getElem?_cons_succ, List.getElem?_cons_zero]
                rfl
              case s24 =>
                refine BStep.of [13, 16, 23] [(105, 13), (108, 16), (115, 23)] (opV _) (by kernel_rfl) (fun _ _ => by kernel_rfl) rfl ?_
                intro vs wv hB hA
                have h13 : vs 13 = _ := hA.1
                have h16 : vs 16 = _ := hA.2.1
                have h23 : vs 23 = _ := hA.2.2.1
                clear hA
                simp only [fillP, List.setIfInBounds_toArray, List.set_cons_zero, List.set_cons_succ, h13, h16, h23]
                have ct := (CT.out wv hB).1; have a0 := ct.1; have a1 := ct.2.1; have a2 := ct.2.2.1; have a3 := ct.2.2.2.1; have a4 := ct.2.2.2.2.1; have a5 := ct.2.2.2.2.2; have a6 := (CT.out wv hB).2; clear ct; go_wp2_with fail
                refine postB_val ?_ (Below.refl _ _)
                simp only [List.getElem?_cons_succ, List.getElem?_cons_zero]
                rfl
              case s25 =>
                refine BStep.of [2, 13, 24] [(94, 2), (105, 13), (116, 24)] (opV _) (by kernel_rfl) (fun _ _ => by kernel_rfl) rfl ?_
                intro vs wv hB hA
                have h2 : vs 2 = _ := hA.1
                have h13 : vs 13 = _ := hA.2.1
                have h24 : vs 24 = _ := hA.2.2.1
                clear hA
                simp only [fillP, List.setIfInBounds_toArray, List.set_cons_zero, List.set_cons_succ, h2, h13, h24]
                have ct := (CT.out wv hB).1; have a0 := ct.1; have a1 := ct.2.1; have a2 := ct.2.2.1; have a3 := ct.2.2.2.1; have a4 := ct.2.2.2.2.1; have a5 := ct.2.2.2.2.2; have a6 := (CT.out wv hB).2; clear ct; go_wp2_with fail
                refine postB_val ?_ (Below.refl _ _)
                simp only [List.getElem?_cons_succ, List.getElem?_cons_zero]
                rfl
              case s26 =>
                refine BStep.of [2, 25] [(94, 2), (117, 25)] (opV _) (by kernel_rfl) (fun _ _ => by kernel_rfl) rfl ?_
                intro vs wv hB hA
                have h2 : vs 2 = _ := hA.1
                have h25 : vs 25 = _ := hA.2.1
                clear hA
                simp only [fillP, List.setIfInBounds_toArray, List.set_cons_zero, List.set_cons_succ, h2, h25]
                have ct := (CT.out wv hB).1; have a0 := ct.1; have a1 := ct.2.1; have a2 := ct.2.2.1; have a3 := ct.2.2.2.1; have a4 := ct.2.2.2.2.1; have a5 := ct.2.2.2.2.2; have a6 := (CT.out wv hB).2; clear ct; go_wp2_with fail
                refine postB_val ?_ (Below.refl _ _)
                simp only [List.getElem?_cons_succ, List.getElem?_cons_zero]
                rfl
              case fin =>
                refine fin_of [0, 1, 2, 3, 4, 5, 6, 7, 8, 9, 10, 11, 12, 13, 14, 15, 16, 17, 18, 19, 20, 21, 22, 23, 24, 25, 26] [(92, 0), (93, 1), (94, 2), (95, 3), (96, 4), (97, 5), (98, 6), (99, 7), (100, 8), (101, 9), (102, 10), (103, 11), (104, 12), (105, 13), (106, 14), (107, 15), (108, 16), (109, 17), (110, 18), (111, 19), (112, 20), (113, 21), (114, 22), (115, 23), (116, 24), (117, 25), (118, 26)] (by kernel_rfl) (fun _ _ => by kernel_rfl) ?_
                intro vs wv hB hA
                have h0 : vs 0 = _ := hA.1
                have h1 : vs 1 = _ := hA.2.1
                have h2 : vs 2 = _ := hA.2.2.1
                have h3 : vs 3 = _ := hA.2.2.2.1
                have h4 : vs 4 = _ := hA.2.2.2.2.1
                have h5 : vs 5 = _ := hA.2.2.2.2.2.1
                have h6 : vs 6 = _ := hA.2.2.2.2.2.2.1
                have h7 : vs 7 = _ := hA.2.2.2.2.2.2.2.1
                have h8 : vs 8 = _ := hA.2.2.2.2.2.2.2.2.1
                have h9 : vs 9 = _ := hA.2.2.2.2.2.2.2.2.2.1
                have h10 : vs 10 = _ := hA.2.2.2.2.2.2.2.2.2.2.1
                have h11 : vs 11 = _ := hA.2.2.2.2.2.2.2.2.2.2.2.1
                have h12 : vs 12 = _ := hA.2.2.2.2.2.2.2.2.2.2.2.2.1
                have h13 : vs 13 = _ := hA.2.2.2.2.2.2.2.2.2.2.2.2.2.1
                have h14 : vs 14 = _ := hA.2.2.2.2.2.2.2.2.2.2.2.2.2.2.1
                have h15 : vs 15 = _ := hA.2.2.2.2.2.2.2.2.2.2.2.2.2.2.2.1
                have h16 : vs 16 = _ := hA.2.2.2.2.2.2.2.2.2.2.2.2.2.2.2.2.1
                have h17 : vs 17 = _ := hA.2.2.2.2.2.2.2.2.2.2.2.2.2.2.2.2.2.1
                have h18 : vs 18 = _ := hA.2.2.2.2.2.2.2.2.2.2.2.2.2.2.2.2.2.2.1
                have h19 : vs 19 = _ := hA.2.2.2.2.2.2.2.2.2.2.2.2.2.2.2.2.2.2.2.1
                have h20 : vs 20 = _ := hA.2.2.2.2.2.2.2.2.2.2.2.2.2.2.2.2.2.2.2.2.1
                have h21 : vs 21 = _ := hA.2.2.2.2.2.2.2.2.2.2.2.2.2.2.2.2.2.2.2.2.2.1
                have h22 : vs 22 = _ := hA.2.2.2.2.2.2.2.2.2.2.2.2.2.2.2.2.2.2.2.2.2.2.1
                have h23 : vs 23 = _ := hA.2.2.2.2.2.2.2.2.2.2.2.2.2.2.2.2.2.2.2.2.2.2.2.1
                have h24 : vs 24 = _ := hA.2.2.2.2.2.2.2.2.2.2.2.2.2.2.2.2.2.2.2.2.2.2.2.2.1
                have h25 : vs 25 = _ := hA.2.2.2.2.2.2.2.2.2.2.2.2.2.2.2.2.2.2.2.2.2.2.2.2.2.1
                have h26 : vs 26 = _ := hA.2.2.2.2.2.2.2.2.2.2.2.2.2.2.2.2.2.2.2.2.2.2.2.2.2.2.1
                clear hA
                simp only [fillP, List.setIfInBounds_toArray, List.set_cons_zero, List.set_cons_succ, h0, h1, h2, h3, h4, h5, h6, h7, h8, h9, h10, h11, h12, h13, h14, h15, h16, h17, h18, h19, h20, h21, h22, h23, h24, h25, h26]
                go_wp2_with fail; go_meet; exact ⟨by first|rfl | simp, Lib.hid hB⟩
          · have d0 : decide (0 ≤ room) = false := decide_eq_false hr
            go_quiet (fail)
            go_wp2_with fail
            go_meet
            exact ⟨rfl, Lib.hid (drewN_below _ _ _)⟩
        case rest =>
          obtain ⟨rfl, BX⟩ := hcut
          obtain ⟨w7, rfl⟩ : ∃ wq : World, wq = wc := ⟨_, rfl⟩
          replace CT : Hid (∀ W, Below w7.heap.size w7 W → _) := Lib.hid (fun W hW => CT.out W (b_next16 BX.out hW))
          replace B5 := Lib.hid (b_next16 B5.out BX.out)
          clear BX F3 F4
          go_upto_region 17 with fail
          go_cut [151] from 43 to 151 (fun v wx => v = .bool false ∧ Hid (Below w7.heap.size w7 wx))
          case first =>
            clear E1 E2 E3 E4 KO BT V3 O3 HL B5 B3 B4 HB wi hz hz0
            obtain ⟨⟨a0, a1, a2, a3, a4, a5⟩, a6⟩ := CT.out w7 (Below.refl _ _)
            cases g with
            | true =>
              by_cases h3 : x3 = 0
              · obtain rfl : y = fi := F1.out rfl h3
                subst h3
                have d1 : ((y : Int) != y) = (!true) := by simp
                clear F1 F2 a0 a1 a2 a3 a4 a5 a6
                refine' wp_region_below [opV _, opV _, opV _, opV _, opV _, opV _, opV _, opV _, opV _, opV _, opV _, opV _, opV (.int .i64 y), opV _, opV _, opV _, opV _, opV _, opV _, opV _, opV _, opV _, opV _, opV _, opV _, opV _, opV _, opV _, opV _, opV _, opV _, opV _, opV _] rfl (by kernel_rfl) ⟨?s0, ?s1, ?s2, ?s3, ?s4, ?s5, ?s6, ?s7, ?s8, ?s9, ?s10, ?s11, ?s12, ?s13, ?s14, ?s15, ?s16, ?s17, ?s18, ?s19, ?s20, ?s21, ?s22, ?s23, ?s24, ?s25, ?s26, ?s27, ?s28, ?s29, ?s30, ?s31, ?s32, trivial⟩ ?fin
                case s0 =>
                  refine BStep.of [] [] (opV _) (by kernel_rfl) (fun _ _ => by kernel_rfl) rfl ?_
                  intro vs wv hB hA
                  clear hA
                  simp only [fillP]
                  have ct := (CT.out wv hB).1; have a0 := ct.1; have a1 := ct.2.1; have a2 := ct.2.2.1; have a3 := ct.2.2.2.1; have a4 := ct.2.2.2.2.1; have a5 := ct.2.2.2.2.2; have a6 := (CT.out wv hB).2; clear ct; go_wp2_with fail
                  refine postB_val ?_ (Below.refl _ _)
                  simp only [List.getElem?_cons_succ, List.getElem?_cons_zero]
                  rfl
                case s1 =>
                  refine BStep.of [0] [(119, 0)] (opV _) (by kernel_rfl) (fun _ _ => by kernel_rfl) rfl ?_
                  intro vs wv hB hA
                  have h0 : vs 0 = _ := hA.1
                  clear hA
                  simp only [fillP, List.setIfInBounds_toArray, List.set_cons_zero, List.set_cons_succ, h0]
                  have ct := (CT.out wv hB).1; have a0 := ct.1; have a1 := ct.2.1; have a2 := ct.2.2.1; have a3 := ct.2.2.2.1; have a4 := ct.2.2.2.2.1; have a5 := ct.2.2.2.2.2; have a6 := (CT.out wv hB).2; clear ct; go_wp2_with fail
                  refine postB_val ?_ (Below.refl _ _)
                  simp only [List.getElem?_cons_succ, List.getElem?_cons_zero]
                  rfl
                case s2 =>
                  refine BStep.of [1] [(120, 1)] (opV _) (by kernel_rfl) (fun _ _ => by kernel_rfl) rfl ?_
                  intro vs wv hB hA
                  have h1 : vs 1 = _ := hA.1
                  clear hA
                  simp only [fillP, List.setIfInBounds_toArray, List.set_cons_zero, List.set_cons_succ, h1]
                  have ct := (CT.out wv hB).1; have a0 := ct.1; have a1 := ct.2.1; have a2 := ct.2.2.1; have a3 := ct.2.2.2.1; have a4 := ct.2.2.2.2.1; have a5 := ct.2.2.2.2.2; have a6 := (CT.out wv hB).2; clear ct; go_wp2_with fail
                  refine postB_val ?_ (Below.refl _ _)
                  simp only [List.getElem?_cons_succ, List.getElem?_cons_zero]
                  rfl
                case s3 =>
                  refine BStep.of [1, 2] [(120, 1), (121, 2)] (opV _) (by kernel_rfl) (fun _ _ => by kernel_rfl) rfl ?_
                  intro vs wv hB hA
                  have h1 : vs 1 = _ := hA.1
                  have h2 : vs 2 = _ := hA.2.1
                  clear hA
                  simp only [fillP, List.setIfInBounds_toArray, List.set_cons_zero, List.set_cons_succ, h1, h2]
                  have ct := (CT.out wv hB).1; have a0 := ct.1; have a1 := ct.2.1; have a2 := ct.2.2.1; have a3 := ct.2.2.2.1; have a4 := ct.2.2.2.2.1; have a5 := ct.2.2.2.2.2; have a6 := (CT.out wv hB).2; clear ct; go_wp2_with fail
                  refine postB_val ?_ (Below.refl _ _)
                  simp only [List.getElem?_cons_succ, List.getElem?_cons_zero]
                  rfl
                case s4 =>
                  refine BStep.of [1, 3] [(120, 1), (122, 3)] (opV _) (by kernel_rfl) (fun _ _ => by kernel_rfl) rfl ?_
                  intro vs wv hB hA
                  have h1 : vs 1 = _ := hA.1
                  have h3 : vs 3 = _ := hA.2.1
                  clear hA
                  simp only [fillP, List.setIfInBounds_toArray, List.set_cons_zero, List.set_cons_succ, h1, h3]
                  have ct := (CT.out wv hB).1; have a0 := ct.1; have a1 := ct.2.1; have a2 := ct.2.2.1; have a3 := ct.2.2.2.1; have a4 := ct.2.2.2.2.1; have a5 := ct.2.2.2.2.2; have a6 := (CT.out wv hB).2; clear ct; go_wp2_with fail
                  refine postB_val ?_ (Below.refl _ _)
                  simp only [List.getElem?_cons_succ, List.getElem?_cons_zero]
                  rfl
                case s5 =>
                  refine BStep.of [1, 4] [(120, 1), (123, 4)] (opV _) (by kernel_rfl) (fun _ _ => by kernel_rfl) rfl ?_
                  intro vs wv hB hA
                  have h1 : vs 1 = _ := hA.1
                  have h4 : vs 4 = _ := hA.2.1
                  clear hA
                  simp only [fillP, List.setIfInBounds_toArray, List.set_cons_zero, List.set_cons_succ, h1, h4]
                  have ct := (CT.out wv hB).1; have a0 := ct.1; have a1 := ct.2.1; have a2 := ct.2.2.1; have a3 := ct.2.2.2.1; have a4 := ct.2.2.2.2.1; have a5 := ct.2.2.2.2.2; have a6 := (CT.out wv hB).2; clear ct; go_wp2_with fail
                  refine postB_val ?_ (Below.refl _ _)
                  simp only [List.getElem?_cons_succ, List.getElem?_cons_zero]
                  rfl
                case s6 =>
                  refine BStep.of [1, 5] [(120, 1), (124, 5)] (opV _) (by kernel_rfl) (fun _ _ => by kernel_rfl) rfl ?_
                  intro vs wv hB hA
                  have h1 : vs 1 = _ := hA.1
                  have h5 : vs 5 = _ := hA.2.1
                  clear hA
                  simp only [fillP, List.setIfInBounds_toArray, List.set_cons_zero, List.set_cons_succ, h1, h5]
                  have ct := (CT.out wv hB).1; have a0 := ct.1; have a1 := ct.2.1; have a2 := ct.2.2.1; have a3 := ct.2.2.2.1; have a4 := ct.2.2.2.2.1; have a5 := ct.2.2.2.2.2; have a6 := (CT.out wv hB).2; clear ct; go_wp2_with fail
                  refine postB_val ?_ (Below.refl _ _)
                  simp only [List.getElem?_cons_succ, List.getElem?_cons_zero]
                  rfl
                case s7 =>
                  refine BStep.of [6] [(125, 6)] (opV _) (by kernel_rfl) (fun _ _ => by kernel_rfl) rfl ?_
                  intro vs wv hB hA
                  have h6 : vs 6 = _ := hA.1
                  clear hA
                  simp only [fillP, List.setIfInBounds_toArray, List.set_cons_zero, List.set_cons_succ, h6]
                  have ct := (CT.out wv hB).1; have a0 := ct.1; have a1 := ct.2.1; have a2 := ct.2.2.1; have a3 := ct.2.2.2.1; have a4 := ct.2.2.2.2.1; have a5 := ct.2.2.2.2.2; have a6 := (CT.out wv hB).2; clear ct; go_wp2_with fail
                  refine postB_val ?_ (Below.refl _ _)
                  simp only [List.getElem?_cons_succ, List.getElem?_cons_zero]
                  rfl
                case s8 =>
                  refine BStep.of [6] [(125, 6)] (opV _) (by kernel_rfl) (fun _ _ => by kernel_rfl) rfl ?_
                  intro vs wv hB hA
                  have h6 : vs 6 = _ := hA.1
                  clear hA
                  simp only [fillP, List.setIfInBounds_toArray, List.set_cons_zero, List.set_cons_succ, h6]
                  have ct := (CT.out wv hB).1; have a0 := ct.1; have a1 := ct.2.1; have a2 := ct.2.2.1; have a3 := ct.2.2.2.1; have a4 := ct.2.2.2.2.1; have a5 := ct.2.2.2.2.2; have a6 := (CT.out wv hB).2; clear ct; go_wp2_with fail
                  refine postB_val ?_ (Below.refl _ _)
                  simp only [List.getElem?_cons_succ, List.getElem?_cons_zero]
                  rfl
                case s9 =>
                  refine BStep.of [6, 7, 8] [(125, 6), (126, 7), (127, 8)] (opV _) (by kernel_rfl) (fun _ _ => by kernel_rfl) rfl ?_
                  intro vs wv hB hA
                  have h6 : vs 6 = _ := hA.1
                  have h7 : vs 7 = _ := hA.2.1
                  have h8 : vs 8 = _ := hA.2.2.1
                  clear hA
                  simp only [fillP, List.setIfInBounds_toArray, List.set_cons_zero, List.set_cons_succ, h6, h7, h8]
                  have ct := (CT.out wv hB).1; have a0 := ct.1; have a1 := ct.2.1; have a2 := ct.2.2.1; have a3 := ct.2.2.2.1; have a4 := ct.2.2.2.2.1; have a5 := ct.2.2.2.2.2; have a6 := (CT.out wv hB).2; clear ct; go_wp2_with fail
                  refine postB_val ?_ (Below.refl _ _)
                  simp only [List.getElem?_cons_succ, List.getElem?_cons_zero]
                  rfl
                case s10 =>
                  refine BStep.of [6, 9] [(125, 6), (128, 9)] (opV _) (by kernel_rfl) (fun _ _ => by kernel_rfl) rfl ?_
                  intro vs wv hB hA
                  have h6 : vs 6 = _ := hA.1
                  have h9 : vs 9 = _ := hA.2.1
                  clear hA
                  simp only [fillP, List.setIfInBounds_toArray, List.set_cons_zero, List.set_cons_succ, h6, h9]
                  have ct := (CT.out wv hB).1; have a0 := ct.1; have a1 := ct.2.1; have a2 := ct.2.2.1; have a3 := ct.2.2.2.1; have a4 := ct.2.2.2.2.1; have a5 := ct.2.2.2.2.2; have a6 := (CT.out wv hB).2; clear ct; go_wp2_with fail
                  refine postB_val ?_ (Below.refl _ _)
                  simp only [List.getElem?_cons_succ, List.getElem?_cons_zero]
                  rfl
                case s11 =>
                  refine BStep.of [6] [(125, 6)] (opV _) (by kernel_rfl) (fun _ _ => by kernel_rfl) rfl ?_
                  intro vs wv hB hA
                  have h6 : vs 6 = _ := hA.1
                  clear hA
                  simp only [fillP, List.setIfInBounds_toArray, List.set_cons_zero, List.set_cons_succ, h6]
                  have ct := (CT.out wv hB).1; have a0 := ct.1; have a1 := ct.2.1; have a2 := ct.2.2.1; have a3 := ct.2.2.2.1; have a4 := ct.2.2.2.2.1; have a5 := ct.2.2.2.2.2; have a6 := (CT.out wv hB).2; clear ct; go_wp2_with fail
                  refine postB_val ?_ (Below.refl _ _)
                  simp only [List.getElem?_cons_succ, List.getElem?_cons_zero]
                  rfl
                case s12 =>
                  refine BStep.of [6, 11] [(125, 6), (130, 11)] (opV (.int .i64 y)) (by kernel_rfl) (fun _ _ => by kernel_rfl) rfl ?_
                  intro vs wv hB hA
                  have h6 : vs 6 = _ := hA.1
                  have h11 : vs 11 = _ := hA.2.1
                  clear hA
                  simp only [fillP, List.setIfInBounds_toArray, List.set_cons_zero, List.set_cons_succ, h6, h11]
                  (go_wp2_with (go_at_call 13; (with_reducible refine (KO1.out _).mono ?_); rintro e w7 ⟨rfl, hb⟩)); exact postB_val rfl hb
                case s13 =>
                  refine BStep.of [6, 10, 12] [(125, 6), (129, 10), (131, 12)] (opV _) (by kernel_rfl) (fun _ _ => by kernel_rfl) rfl ?_
                  intro vs wv hB hA
                  have h6 : vs 6 = _ := hA.1
                  have h10 : vs 10 = _ := hA.2.1
                  have h12 : vs 12 = _ := hA.2.2.1
                  clear hA
                  simp only [fillP, List.setIfInBounds_toArray, List.set_cons_zero, List.set_cons_succ, h6, h10, h12]
                  have ct := (CT.out wv hB).1; have a0 := ct.1; have a1 := ct.2.1; have a2 := ct.2.2.1; have a3 := ct.2.2.2.1; have a4 := ct.2.2.2.2.1; have a5 := ct.2.2.2.2.2; have a6 := (CT.out wv hB).2; clear ct; go_wp2_with fail
                  refine postB_val ?_ (Below.refl _ _)
                  simp only [List.getElem?_cons_succ, List.getElem?_cons_zero]
                  rfl
                case s14 =>
                  refine BStep.of [6, 13] [(125, 6), (132, 13)] (opV _) (by kernel_rfl) (fun _ _ => by kernel_rfl) rfl ?_
                  intro vs wv hB hA
                  have h6 : vs 6 = _ := hA.1
                  have h13 : vs 13 = _ := hA.2.1
                  clear hA
                  simp only [fillP, List.setIfInBounds_toArray, List.set_cons_zero, List.set_cons_succ, h6, h13]
                  have ct := (CT.out wv hB).1; have a0 := ct.1; have a1 := ct.2.1; have a2 := ct.2.2.1; have a3 := ct.2.2.2.1; have a4 := ct.2.2.2.2.1; have a5 := ct.2.2.2.2.2; have a6 := (CT.out wv hB).2; clear ct; go_wp2_with fail
                  refine postB_val ?_ (Below.refl _ _)
                  simp only [List.getElem?_cons_succ, List.getElem?_cons_zero]
                  rfl
                case s15 =>
                  refine BStep.of [12, 14] [(131, 12), (133, 14)] (opV _) (by kernel_rfl) (fun _ _ => by kernel_rfl) rfl ?_
                  intro vs wv hB hA
                  have h12 : vs 12 = _ := hA.1
                  have h14 : vs 14 = _ := hA.2.1
                  clear hA
                  simp only [fillP, List.setIfInBounds_toArray, List.set_cons_zero, List.set_cons_succ, h12, h14]
                  have ct := (CT.out wv hB).1; have a0 := ct.1; have a1 := ct.2.1; have a2 := ct.2.2.1; have a3 := ct.2.2.2.1; have a4 := ct.2.2.2.2.1; have a5 := ct.2.2.2.2.2; have a6 := (CT.out wv hB).2; clear ct; go_wp2_with fail
                  refine postB_val ?_ (Below.refl _ _)
                  simp only [List.getElem?_cons_succ, List.getElem?_cons_zero]
                  rfl
                case s16 =>
                  refine BStep.of [15] [(134, 15)] (opV _) (by kernel_rfl) (fun _ _ => by kernel_rfl) rfl ?_
                  intro vs wv hB hA
                  have h15 : vs 15 = _ := hA.1
                  clear hA
                  simp only [fillP, List.setIfInBounds_toArray, List.set_cons_zero, List.set_cons_succ, h15]
                  have ct := (CT.out wv hB).1; have a0 := ct.1; have a1 := ct.2.1; have a2 := ct.2.2.1; have a3 := ct.2.2.2.1; have a4 := ct.2.2.2.2.1; have a5 := ct.2.2.2.2.2; have a6 := (CT.out wv hB).2; clear ct; go_wp2_with fail
                  refine postB_val ?_ (Below.refl _ _)
                  simp only [List.getElem?_cons_succ, List.getElem?_cons_zero]
                  rfl
                case s17 =>
                  refine BStep.of [15, 16] [(134, 15), (135, 16)] (opV _) (by kernel_rfl) (fun _ _ => by kernel_rfl) rfl ?_
                  intro vs wv hB hA
                  have h15 : vs 15 = _ := hA.1
                  have h16 : vs 16 = _ := hA.2.1
                  clear hA
                  simp only [fillP, List.setIfInBounds_toArray, List.set_cons_zero, List.set_cons_succ, h15, h16]
                  have ct := (CT.out wv hB).1; have a0 := ct.1; have a1 := ct.2.1; have a2 := ct.2.2.1; have a3 := ct.2.2.2.1; have a4 := ct.2.2.2.2.1; have a5 := ct.2.2.2.2.2; have a6 := (CT.out wv hB).2; clear ct; go_wp2_with fail
                  refine postB_val ?_ (Below.refl _ _)
                  simp only [List.getElem?_cons_succ, List.getElem?_cons_zero]
                  rfl
                case s18 =>
                  refine BStep.of [15, 17] [(134, 15), (136, 17)] (opV _) (by kernel_rfl) (fun _ _ => by kernel_rfl) rfl ?_
                  intro vs wv hB hA
                  have h15 : vs 15 = _ := hA.1
                  have h17 : vs 17 = _ := hA.2.1
                  clear hA
                  simp only [fillP, List.setIfInBounds_toArray, List.set_cons_zero, List.set_cons_succ, h15, h17]
                  have ct := (CT.out wv hB).1; have a0 := ct.1; have a1 := ct.2.1; have a2 := ct.2.2.1; have a3 := ct.2.2.2.1; have a4 := ct.2.2.2.2.1; have a5 := ct.2.2.2.2.2; have a6 := (CT.out wv hB).2; clear ct; go_wp2_with fail
                  refine postB_val ?_ (Below.refl _ _)
                  simp only [List.getElem?_cons_succ, List.getElem?_cons_zero]
                  rfl
                case s19 =>
                  refine BStep.of [18] [(137, 18)] (opV _) (by kernel_rfl) (fun _ _ => by kernel_rfl) rfl ?_
                  intro vs wv hB hA
                  have h18 : vs 18 = _ := hA.1
                  clear hA
                  simp only [fillP, List.setIfInBounds_toArray, List.set_cons_zero, List.set_cons_succ, h18]
                  have ct := (CT.out wv hB).1; have a0 := ct.1; have a1 := ct.2.1; have a2 := ct.2.2.1; have a3 := ct.2.2.2.1; have a4 := ct.2.2.2.2.1; have a5 := ct.2.2.2.2.2; have a6 := (CT.out wv hB).2; clear ct; go_wp2_with fail
                  refine postB_val ?_ (Below.refl _ _)
                  simp only [List.getElem?_cons_succ, List.getElem?_cons_zero]
                  rfl
                case s20 =>
                  refine BStep.of [18, 19] [(137, 18), (138, 19)] (opV _) (by kernel_rfl) (fun _ _ => by kernel_rfl) rfl ?_
                  intro vs wv hB hA
                  have h18 : vs 18 = _ := hA.1
                  have h19 : vs 19 = _ := hA.2.1
                  clear hA
                  simp only [fillP, List.setIfInBounds_toArray, List.set_cons_zero, List.set_cons_succ, h18, h19]
                  have ct := (CT.out wv hB).1; have a0 := ct.1; have a1 := ct.2.1; have a2 := ct.2.2.1; have a3 := ct.2.2.2.1; have a4 := ct.2.2.2.2.1; have a5 := ct.2.2.2.2.2; have a6 := (CT.out wv hB).2; clear ct; go_wp2_with fail
                  refine postB_val ?_ (Below.refl _ _)
                  simp only [List.getElem?_cons_succ, List.getElem?_cons_zero]
                  rfl
                case s21 =>
                  refine BStep.of [18, 20] [(137, 18), (139, 20)] (opV _) (by kernel_rfl) (fun _ _ => by kernel_rfl) rfl ?_
                  intro vs wv hB hA
                  have h18 : vs 18 = _ := hA.1
                  have h20 : vs 20 = _ := hA.2.1
                  clear hA
                  simp only [fillP, List.setIfInBounds_toArray, List.set_cons_zero, List.set_cons_succ, h18, h20]
                  have ct := (CT.out wv hB).1; have a0 := ct.1; have a1 := ct.2.1; have a2 := ct.2.2.1; have a3 := ct.2.2.2.1; have a4 := ct.2.2.2.2.1; have a5 := ct.2.2.2.2.2; have a6 := (CT.out wv hB).2; clear ct; go_wp2_with fail
                  refine postB_val ?_ (Below.refl _ _)
                  simp only [List.getElem?_cons_succ, List.getElem?_cons_zero]
                  rfl
                case s22 =>
                  refine BStep.of [15, 18, 21] [(134, 15), (137, 18), (140, 21)] (opV _) (by kernel_rfl) (fun _ _ => by kernel_rfl) rfl ?_
                  intro vs wv hB hA
                  have h15 : vs 15 = _ := hA.1
                  have h18 : vs 18 = _ := hA.2.1
                  have h21 : vs 21 = _ := hA.2.2.1
                  clear hA
                  simp only [fillP, List.setIfInBounds_toArray, List.set_cons_zero, List.set_cons_succ, h15, h18, h21]
                  have ct := (CT.out wv hB).1; have a0 := ct.1; have a1 := ct.2.1; have a2 := ct.2.2.1; have a3 := ct.2.2.2.1; have a4 := ct.2.2.2.2.1; have a5 := ct.2.2.2.2.2; have a6 := (CT.out wv hB).2; clear ct; go_wp2_with fail
                  refine postB_val ?_ (Below.refl _ _)
                  simp only [List.getElem?_cons_succ, List.getElem?_cons_zero]
                  rfl
                case s23 =>
                  refine BStep.of [15, 18, 22] [(134, 15), (137, 18), (141, 22)] (opV _) (by kernel_rfl) (fun _ _ => by kernel_rfl) rfl ?_
                  intro vs wv hB hA
                  have h15 : vs 15 = _ := hA.1
                  have h18 : vs 18 = _ := hA.2.1
                  have h22 : vs 22 = _ := hA.2.2.1
                  clear hA
                  simp only [fillP, List.setIfInBounds_toArray, List.set_cons_zero, List.set_cons_succ, h15, h18, h22]
                  have ct := (CT.out wv hB).1; have a0 := ct.1; have a1 := ct.2.1; have a2 := ct.2.2.1; have a3 := ct.2.2.2.1; have a4 := ct.2.2.2.2.1; have a5 := ct.2.2.2.2.2; have a6 := (CT.out wv hB).2; clear ct; go_wp2_with fail
                  refine postB_val ?_ (Below.refl _ _)
                  simp only [List.getElem?_cons_succ, List.getElem?_cons_zero]
                  rfl
                case s24 =>
                  refine BStep.of [23] [(142, 23)] (opV _) (by kernel_rfl) (fun _ _ => by kernel_rfl) rfl ?_
                  intro vs wv hB hA
                  have h23 : vs 23 = _ := hA.1
                  clear hA
                  simp only [fillP, List.setIfInBounds_toArray, List.set_cons_zero, List.set_cons_succ, h23]
                  have ct := (CT.out wv hB).1; have a0 := ct.1; have a1 := ct.2.1; have a2 := ct.2.2.1; have a3 := ct.2.2.2.1; have a4 := ct.2.2.2.2.1; have a5 := ct.2.2.2.2.2; have a6 := (CT.out wv hB).2; clear ct; go_wp2_with fail
                  refine postB_val ?_ (Below.refl _ _)
                  simp only [List.getElem?_cons_succ, List.getElem?_cons_zero]
                  rfl
                case s25 =>
                  refine BStep.of [23] [(142, 23)] (opV _) (by kernel_rfl) (fun _ _ => by kernel_rfl) rfl ?_
                  intro vs wv hB hA
                  have h23 : vs 23 = _ := hA.1
                  clear hA
                  simp only [fillP, List.setIfInBounds_toArray, List.set_cons_zero, List.set_cons_succ, h23]
                  have ct := (CT.out wv hB).1; have a0 := ct.1; have a1 := ct.2.1; have a2 := ct.2.2.1; have a3 := ct.2.2.2.1; have a4 := ct.2.2.2.2.1; have a5 := ct.2.2.2.2.2; have a6 := (CT.out wv hB).2; clear ct; go_wp2_with fail
                  refine postB_val ?_ (Below.refl _ _)
                  simp only [List.getElem?_cons_succ, List.getElem?_cons_zero]
                  rfl
                case s26 =>
                  refine BStep.of [23, 24, 25] [(142, 23), (143, 24), (144, 25)] (opV _) (by kernel_rfl) (fun _ _ => by kernel_rfl) rfl ?_
                  intro vs wv hB hA
                  have h23 : vs 23 = _ := hA.1
                  have h24 : vs 24 = _ := hA.2.1
                  have h25 : vs 25 = _ := hA.2.2.1
                  clear hA
                  simp only [fillP, List.setIfInBounds_toArray, List.set_cons_zero, List.set_cons_succ, h23, h24, h25]
                  have ct := (CT.out wv hB).1; have a0 := ct.1; have a1 := ct.2.1; have a2 := ct.2.2.1; have a3 := ct.2.2.2.1; have a4 := ct.2.2.2.2.1; have a5 := ct.2.2.2.2.2; have a6 := (CT.out wv hB).2; clear ct; go_wp2_with fail
                  refine postB_val ?_ (Below.refl _ _)
                  simp only [List.getElem?_cons_succ, List.getElem?_cons_zero]
                  rfl
                case s27 =>
                  refine BStep.of [23, 26] [(142, 23), (145, 26)] (opV _) (by kernel_rfl) (fun _ _ => by kernel_rfl) rfl ?_
                  intro vs wv hB hA
                  have h23 : vs 23 = _ := hA.1
                  have h26 : vs 26 = _ := hA.2.1
                  clear hA
                  simp only [fillP, List.setIfInBounds_toArray, List.set_cons_zero, List.set_cons_succ, h23, h26]
                  have ct := (CT.out wv hB).1; have a0 := ct.1; have a1 := ct.2.1; have a2 := ct.2.2.1; have a3 := ct.2.2.2.1; have a4 := ct.2.2.2.2.1; have a5 := ct.2.2.2.2.2; have a6 := (CT.out wv hB).2; clear ct; go_wp2_with fail
                  refine postB_val ?_ (Below.refl _ _)
                  simp only [List.getElem?_cons_succ, List.getElem?_cons_zero]
                  rfl
                case s28 =>
                  refine BStep.of [23] [(142, 23)] (opV _) (by kernel_rfl) (fun _ _ => by kernel_rfl) rfl ?_
                  intro vs wv hB hA
                  have h23 : vs 23 = _ := hA.1
                  clear hA
                  simp only [fillP, List.setIfInBounds_toArray, List.set_cons_zero, List.set_cons_succ, h23]
                  have ct := (CT.out wv hB).1; have a0 := ct.1; have a1 := ct.2.1; have a2 := ct.2.2.1; have a3 := ct.2.2.2.1; have a4 := ct.2.2.2.2.1; have a5 := ct.2.2.2.2.2; have a6 := (CT.out wv hB).2; clear ct; go_wp2_with fail
                  refine postB_val ?_ (Below.refl _ _)
                  simp only [List.getElem?_cons_succ, List.getElem?_cons_zero]
                  rfl
                case s29 =>
                  refine BStep.of [23, 28] [(142, 23), (147, 28)] (opV _) (by kernel_rfl) (fun _ _ => by kernel_rfl) rfl ?_
                  intro vs wv hB hA
                  have h23 : vs 23 = _ := hA.1
                  have h28 : vs 28 = _ := hA.2.1
                  clear hA
                  simp only [fillP, List.setIfInBounds_toArray, List.set_cons_zero, List.set_cons_succ, h23, h28]
                  have ct := (CT.out wv hB).1; have a0 := ct.1; have a1 := ct.2.1; have a2 := ct.2.2.1; have a3 := ct.2.2.2.1; have a4 := ct.2.2.2.2.1; have a5 := ct.2.2.2.2.2; have a6 := (CT.out wv hB).2; clear ct; go_wp2_with fail
                  refine postB_val ?_ (Below.refl _ _)
                  simp only [List.getElem?_cons_succ, List.getElem?_cons_zero]
                  rfl
                case s30 =>
                  refine BStep.of [23, 27, 29] [(142, 23), (146, 27), (148, 29)] (opV _) (by kernel_rfl) (fun _ _ => by kernel_rfl) rfl ?_
                  intro vs wv hB hA
                  have h23 : vs 23 = _ := hA.1
                  have h27 : vs 27 = _ := hA.2.1
                  have h29 : vs 29 = _ := hA.2.2.1
                  clear hA
                  simp only [fillP, List.setIfInBounds_toArray, List.set_cons_zero, List.set_cons_succ, h23, h27, h29]
                  have ct := (CT.out wv hB).1; have a0 := ct.1; have a1 := ct.2.1; have a2 := ct.2.2.1; have a3 := ct.2.2.2.1; have a4 := ct.2.2.2.2.1; have a5 := ct.2.2.2.2.2; have a6 := (CT.out wv hB).2; clear ct; go_wp2_with fail
                  refine postB_val ?_ (Below.refl _ _)
                  simp only [List.getElem?_cons_succ, List.getElem?_cons_zero]
                  rfl
                case s31 =>
                  refine BStep.of [15, 23, 30] [(134, 15), (142, 23), (149, 30)] (opV _) (by kernel_rfl) (fun _ _ => by kernel_rfl) rfl ?_
                  intro vs wv hB hA
                  have h15 : vs 15 = _ := hA.1
                  have h23 : vs 23 = _ := hA.2.1
                  have h30 : vs 30 = _ := hA.2.2.1
                  clear hA
                  simp only [fillP, List.setIfInBounds_toArray, List.set_cons_zero, List.set_cons_succ, h15, h23, h30]
                  have ct := (CT.out wv hB).1; have a0 := ct.1; have a1 := ct.2.1; have a2 := ct.2.2.1; have a3 := ct.2.2.2.1; have a4 := ct.2.2.2.2.1; have a5 := ct.2.2.2.2.2; have a6 := (CT.out wv hB).2; clear ct; go_wp2_with fail
                  refine postB_val ?_ (Below.refl _ _)
                  simp only [List.getElem?_cons_succ, List.getElem?_cons_zero]
                  rfl
                case s32 =>
                  refine BStep.of [15, 31] [(134, 15), (150, 31)] (opV _) (by kernel_rfl) (fun _ _ => by kernel_rfl) rfl ?_
                  intro vs wv hB hA
                  have h15 : vs 15 = _ := hA.1
                  have h31 : vs 31 = _ := hA.2.1
                  clear hA
                  simp only [fillP, List.setIfInBounds_toArray, List.set_cons_zero, List.set_cons_succ, h15, h31]
                  have ct := (CT.out wv hB).1; have a0 := ct.1; have a1 := ct.2.1; have a2 := ct.2.2.1; have a3 := ct.2.2.2.1; have a4 := ct.2.2.2.2.1; have a5 := ct.2.2.2.2.2; have a6 := (CT.out wv hB).2; clear ct; go_wp2_with fail
                  refine postB_val ?_ (Below.refl _ _)
                  simp only [List.getElem?_cons_succ, List.getElem?_cons_zero]
                  rfl
                case fin =>
                  refine fin_of [0, 1, 2, 3, 4, 5, 6, 7, 8, 9, 10, 11, 12, 13, 14, 15, 16, 17, 18, 19, 20, 21, 22, 23, 24, 25, 26, 27, 28, 29, 30, 31, 32] [(119, 0), (120, 1), (121, 2), (122, 3), (123, 4), (124, 5), (125, 6), (126, 7), (127, 8), (128, 9), (129, 10), (130, 11), (131, 12), (132, 13), (133, 14), (134, 15), (135, 16), (136, 17), (137, 18), (138, 19), (139, 20), (140, 21), (141, 22), (142, 23), (143, 24), (144, 25), (145, 26), (146, 27), (147, 28), (148, 29), (149, 30), (150, 31), (151, 32)] (by kernel_rfl) (fun _ _ => by kernel_rfl) ?_
                  intro vs wv hB hA
                  have h0 : vs 0 = _ := hA.1
                  have h1 : vs 1 = _ := hA.2.1
                  have h2 : vs 2 = _ := hA.2.2.1
                  have h3 : vs 3 = _ := hA.2.2.2.1
                  have h4 : vs 4 = _ := hA.2.2.2.2.1
                  have h5 : vs 5 = _ := hA.2.2.2.2.2.1
                  have h6 : vs 6 = _ := hA.2.2.2.2.2.2.1
                  have h7 : vs 7 = _ := hA.2.2.2.2.2.2.2.1
                  have h8 : vs 8 = _ := hA.2.2.2.2.2.2.2.2.1
                  have h9 : vs 9 = _ := hA.2.2.2.2.2.2.2.2.2.1
                  have h10 : vs 10 = _ := hA.2.2.2.2.2.2.2.2.2.2.1
                  have h11 : vs 11 = _ := hA.2.2.2.2.2.2.2.2.2.2.2.1
                  have h12 : vs 12 = _ := hA.2.2.2.2.2.2.2.2.2.2.2.2.1
                  have h13 : vs 13 = _ := hA.2.2.2.2.2.2.2.2.2.2.2.2.2.1
                  have h14 : vs 14 = _ := hA.2.2.2.2.2.2.2.2.2.2.2.2.2.2.1
                  have h15 : vs 15 = _ := hA.2.2.2.2.2.2.2.2.2.2.2.2.2.2.2.1
                  have h16 : vs 16 = _ := hA.2.2.2.2.2.2.2.2.2.2.2.2.2.2.2.2.1
                  have h17 : vs 17 = _ := hA.2.2.2.2.2.2.2.2.2.2.2.2.2.2.2.2.2.1
                  have h18 : vs 18 = _ := hA.2.2.2.2.2.2.2.2.2.2.2.2.2.2.2.2.2.2.1
                  have h19 : vs 19 = _ := hA.2.2.2.2.2.2.2.2.2.2.2.2.2.2.2.2.2.2.2.1
                  have h20 : vs 20 = _ := hA.2.2.2.2.2.2.2.2.2.2.2.2.2.2.2.2.2.2.2.2.1
                  have h21 : vs 21 = _ := hA.2.2.2.2.2.2.2.2.2.2.2.2.2.2.2.2.2.2.2.2.2.1
                  have h22 : vs 22 = _ := hA.2.2.2.2.2.2.2.2.2.2.2.2.2.2.2.2.2.2.2.2.2.2.1
                  have h23 : vs 23 = _ := hA.2.2.2.2.2.2.2.2.2.2.2.2.2.2.2.2.2.2.2.2.2.2.2.1
                  have h24 : vs 24 = _ := hA.2.2.2.2.2.2.2.2.2.2.2.2.2.2.2.2.2.2.2.2.2.2.2.2.1
                  have h25 : vs 25 = _ := hA.2.2.2.2.2.2.2.2.2.2.2.2.2.2.2.2.2.2.2.2.2.2.2.2.2.1
                  have h26 : vs 26 = _ := hA.2.2.2.2.2.2.2.2.2.2.2.2.2.2.2.2.2.2.2.2.2.2.2.2.2.2.1
                  have h27 : vs 27 = _ := hA.2.2.2.2.2.2.2.2.2.2.2.2.2.2.2.2.2.2.2.2.2.2.2.2.2.2.2.1
                  have h28 : vs 28 = _ := hA.2.2.2.2.2.2.2.2.2.2.2.2.2.2.2.2.2.2.2.2.2.2.2.2.2.2.2.2.1
                  have h29 : vs 29 = _ := hA.2.2.2.2.2.2.2.2.2.2.2.2.2.2.2.2.2.2.2.2.2.2.2.2.2.2.2.2.2.1
                  have h30 : vs 30 = _ := hA.2.2.2.2.2.2.2.2.2.2.2.2.2.2.2.2.2.2.2.2.2.2.2.2.2.2.2.2.2.2.1
                  have h31 : vs 31 = _ := hA.2.2.2.2.2.2.2.2.2.2.2.2.2.2.2.2.2.2.2.2.2.2.2.2.2.2.2.2.2.2.2.1
                  have h32 : vs 32 = _ := hA.2.2.2.2.2.2.2.2.2.2.2.2.2.2.2.2.2.2.2.2.2.2.2.2.2.2.2.2.2.2.2.2.1
                  clear hA
                  simp only [fillP, List.setIfInBounds_toArray, List.set_cons_zero, List.set_cons_succ, h0, h1, h2, h3, h4, h5, h6, h7, h8, h9, h10, h11, h12, h13, h14, h15, h16, h17, h18, h19, h20, h21, h22, h23, h24, h25, h26, h27, h28, h29, h30, h31, h32]
                  go_wp2_with fail; go_meet; exact ⟨by first|rfl | simp, Lib.hid hB⟩
              · have d1 : ((x3 : Int) == 0) = false := by simp [h3]
                clear F1 F2 h3
                go_quiet (fail)
                go_wp2_with fail
                go_meet
                exact ⟨rfl, Lib.hid (drewN_below _ _ _)⟩
            | false =>
              by_cases h3 : x4 = 0
              · obtain rfl : y = fi := F2.out rfl h3
                subst h3
                have d1 : ((y : Int) != y) = (!true) := by simp
                clear F1 F2 a0 a1 a2 a3 a4 a5 a6
                refine' wp_region_below [opV _, opV _, opV _, opV _, opV _, opV _, opV _, opV _, opV _, opV _, opV _, opV _, opV _, opV _, opV _, opV _, opV _, opV _, opV _, opV _, opV _, opV _, opV _, opV _, opV _, opV _, opV _, opV _, opV _, opV (.int .i64 y), opV _, opV _, opV _] rfl (by kernel_rfl) ⟨?s0, ?s1, ?s2, ?s3, ?s4, ?s5, ?s6, ?s7, ?s8, ?s9, ?s10, ?s11, ?s12, ?s13, ?s14, ?s15, ?s16, ?s17, ?s18, ?s19, ?s20, ?s21, ?s22, ?s23, ?s24, ?s25, ?s26, ?s27, ?s28, ?s29, ?s30, ?s31, ?s32, trivial⟩ ?fin
                case s0 =>
                  refine BStep.of [] [] (opV _) (by kernel_rfl) (fun _ _ => by kernel_rfl) rfl ?_
                  intro vs wv hB hA
                  clear hA
                  simp only [fillP]
                  have ct := (CT.out wv hB).1; have a0 := ct.1; have a1 := ct.2.1; have a2 := ct.2.2.1; have a3 := ct.2.2.2.1; have a4 := ct.2.2.2.2.1; have a5 := ct.2.2.2.2.2; have a6 := (CT.out wv hB).2; clear ct; go_wp2_with fail
                  refine postB_val ?_ (Below.refl _ _)
                  simp only [List.getElem?_cons_succ, List.getElem?_cons_zero]
                  rfl
                case s1 =>
                  refine BStep.of [0] [(119, 0)] (opV _) (by kernel_rfl) (fun _ _ => by kernel_rfl) rfl ?_
                  intro vs wv hB hA
                  have h0 : vs 0 = _ := hA.1
                  clear hA
                  simp only [fillP, List.setIfInBounds_toArray, List.set_cons_zero, List.set_cons_succ, h0]
                  have ct := (CT.out wv hB).1; have a0 := ct.1; have a1 := ct.2.1; have a2 := ct.2.2.1; have a3 := ct.2.2.2.1; have a4 := ct.2.2.2.2.1; have a5 := ct.2.2.2.2.2; have a6 := (CT.out wv hB).2; clear ct; go_wp2_with fail
                  refine postB_val ?_ (Below.refl _ _)
                  simp only [List.getElem?_cons_succ, List.getElem?_cons_zero]
                  rfl
                case s2 =>
                  refine BStep.of [1] [(120, 1)] (opV _) (by kernel_rfl) (fun _ _ => by kernel_rfl) rfl ?_
                  intro vs wv hB hA
                  have h1 : vs 1 = _ := hA.1
                  clear hA
                  simp only [fillP, List.setIfInBounds_toArray, List.set_cons_zero, List.set_cons_succ, h1]
                  have ct := (CT.out wv hB).1; have a0 := ct.1; have a1 := ct.2.1; have a2 := ct.2.2.1; have a3 := ct.2.2.2.1; have a4 := ct.2.2.2.2.1; have a5 := ct.2.2.2.2.2; have a6 := (CT.out wv hB).2; clear ct; go_wp2_with fail
                  refine postB_val ?_ (Below.refl _ _)
                  simp only [List.getElem?_cons_succ, List.getElem?_cons_zero]
                  rfl
                case s3 =>
                  refine BStep.of [1, 2] [(120, 1), (121, 2)] (opV _) (by kernel_rfl) (fun _ _ => by kernel_rfl) rfl ?_
                  intro vs wv hB hA
                  have h1 : vs 1 = _ := hA.1
                  have h2 : vs 2 = _ := hA.2.1
                  clear hA
                  simp only [fillP, List.setIfInBounds_toArray, List.set_cons_zero, List.set_cons_succ, h1, h2]
                  have ct := (CT.out wv hB).1; have a0 := ct.1; have a1 := ct.2.1; have a2 := ct.2.2.1; have a3 := ct.2.2.2.1; have a4 := ct.2.2.2.2.1; have a5 := ct.2.2.2.2.2; have a6 := (CT.out wv hB).2; clear ct; go_wp2_with fail
                  refine postB_val ?_ (Below.refl _ _)
                  simp only [List.getElem?_cons_succ, List.getElem?_cons_zero]
                  rfl
                case s4 =>
                  refine BStep.of [1, 3] [(120, 1), (122, 3)] (opV _) (by kernel_rfl) (fun _ _ => by kernel_rfl) rfl ?_
                  intro vs wv hB hA
                  have h1 : vs 1 = _ := hA.1
                  have h3 : vs 3 = _ := hA.2.1
                  clear hA
                  simp only [fillP, List.setIfInBounds_toArray, List.set_cons_zero, List.set_cons_succ, h1, h3]
                  have ct := (CT.out wv hB).1; have a0 := ct.1; have a1 := ct.2.1; have a2 := ct.2.2.1; have a3 := ct.2.2.2.1; have a4 := ct.2.2.2.2.1; have a5 := ct.2.2.2.2.2; have a6 := (CT.out wv hB).2; clear ct; go_wp2_with fail
                  refine postB_val ?_ (Below.refl _ _)
                  simp only [List.getElem?_cons_succ, List.getElem?_cons_zero]
                  rfl
                case s5 =>
                  refine BStep.of [1, 4] [(120, 1), (123, 4)] (opV _) (by kernel_rfl) (fun _ _ => by kernel_rfl) rfl ?_
                  intro vs wv hB hA
                  have h1 : vs 1 = _ := hA.1
                  have h4 : vs 4 = _ := hA.2.1
                  clear hA
                  simp only [fillP, List.setIfInBounds_toArray, List.set_cons_zero, List.set_cons_succ, h1, h4]
                  have ct := (CT.out wv hB).1; have a0 := ct.1; have a1 := ct.2.1; have a2 := ct.2.2.1; have a3 := ct.2.2.2.1; have a4 := ct.2.2.2.2.1; have a5 := ct.2.2.2.2.2; have a6 := (CT.out wv hB).2; clear ct; go_wp2_with fail
                  refine postB_val ?_ (Below.refl _ _)
                  simp only [List.getElem?_cons_succ, List.getElem?_cons_zero]
                  rfl
                case s6 =>
                  refine BStep.of [1, 5] [(120, 1), (124, 5)] (opV _) (by kernel_rfl) (fun _ _ => by kernel_rfl) rfl ?_
                  intro vs wv hB hA
                  have h1 : vs 1 = _ := hA.1
                  have h5 : vs 5 = _ := hA.2.1
                  clear hA
                  simp only [fillP, List.setIfInBounds_toArray, List.set_cons_zero, List.set_cons_succ, h1, h5]
                  have ct := (CT.out wv hB).1; have a0 := ct.1; have a1 := ct.2.1; have a2 := ct.2.2.1; have a3 := ct.2.2.2.1; have a4 := ct.2.2.2.2.1; have a5 := ct.2.2.2.2.2; have a6 := (CT.out wv hB).2; clear ct; go_wp2_with fail
                  refine postB_val ?_ (Below.refl _ _)
                  simp only [List.getElem?_cons_succ, List.getElem?_cons_zero]
                  rfl
                case s7 =>
                  refine BStep.of [6] [(125, 6)] (opV _) (by kernel_rfl) (fun _ _ => by kernel_rfl) rfl ?_
                  intro vs wv hB hA
                  have h6 : vs 6 = _ := hA.1
                  clear hA
                  simp only [fillP, List.setIfInBounds_toArray, List.set_cons_zero, List.set_cons_succ, h6]
                  have ct := (CT.out wv hB).1; have a0 := ct.1; have a1 := ct.2.1; have a2 := ct.2.2.1; have a3 := ct.2.2.2.1; have a4 := ct.2.2.2.2.1; have a5 := ct.2.2.2.2.2; have a6 := (CT.out wv hB).2; clear ct; go_wp2_with fail
                  refine postB_val ?_ (Below.refl _ _)
                  simp only [List.getElem?_cons_succ, List.getElem?_cons_zero]
                  rfl
                case s8 =>
                  refine BStep.of [6] [(125, 6)] (opV _) (by kernel_rfl) (fun _ _ => by kernel_rfl) rfl ?_
                  intro vs wv hB hA
                  have h6 : vs 6 = _ := hA.1
                  clear hA
                  simp only [fillP, List.setIfInBounds_toArray, List.set_cons_zero, List.set_cons_succ, h6]
                  have ct := (CT.out wv hB).1; have a0 := ct.1; have a1 := ct.2.1; have a2 := ct.2.2.1; have a3 := ct.2.2.2.1; have a4 := ct.2.2.2.2.1; have a5 := ct.2.2.2.2.2; have a6 := (CT.out wv hB).2; clear ct; go_wp2_with fail
                  refine postB_val ?_ (Below.refl _ _)
                  simp only [List.getElem?_cons_succ, List.getElem?_cons_zero]
                  rfl
                case s9 =>
                  refine BStep.of [6, 7, 8] [(125, 6), (126, 7), (127, 8)] (opV _) (by kernel_rfl) (fun _ _ => by kernel_rfl) rfl ?_
                  intro vs wv hB hA
                  have h6 : vs 6 = _ := hA.1
                  have h7 : vs 7 = _ := hA.2.1
                  have h8 : vs 8 = _ := hA.2.2.1
                  clear hA
                  simp only [fillP, List.setIfInBounds_toArray, List.set_cons_zero, List.set_cons_succ, h6, h7, h8]
                  have ct := (CT.out wv hB).1; have a0 := ct.1; have a1 := ct.2.1; have a2 := ct.2.2.1; have a3 := ct.2.2.2.1; have a4 := ct.2.2.2.2.1; have a5 := ct.2.2.2.2.2; have a6 := (CT.out wv hB).2; clear ct; go_wp2_with fail
                  refine postB_val ?_ (Below.refl _ _)
                  simp only [List.getElem?_cons_succ, List.getElem?_cons_zero]
                  rfl
                case s10 =>
                  refine BStep.of [6, 9] [(125, 6), (128, 9)] (opV _) (by kernel_rfl) (fun _ _ => by kernel_rfl) rfl ?_
                  intro vs wv hB hA
                  have h6 : vs 6 = _ := hA.1
                  have h9 : vs 9 = _ := hA.2.1
                  clear hA
                  simp only [fillP, List.setIfInBounds_toArray, List.set_cons_zero, List.set_cons_succ, h6, h9]
                  have ct := (CT.out wv hB).1; have a0 := ct.1; have a1 := ct.2.1; have a2 := ct.2.2.1; have a3 := ct.2.2.2.1; have a4 := ct.2.2.2.2.1; have a5 := ct.2.2.2.2.2; have a6 := (CT.out wv hB).2; clear ct; go_wp2_with fail
                  refine postB_val ?_ (Below.refl _ _)
                  simp only [List.getElem?_cons_succ, List.getElem?_cons_zero]
                  rfl
                case s11 =>
                  refine BStep.of [6] [(125, 6)] (opV _) (by kernel_rfl) (fun _ _ => by kernel_rfl) rfl ?_
                  intro vs wv hB hA
                  have h6 : vs 6 = _ := hA.1
                  clear hA
                  simp only [fillP, List.setIfInBounds_toArray, List.set_cons_zero, List.set_cons_succ, h6]
                  have ct := (CT.out wv hB).1; have a0 := ct.1; have a1 := ct.2.1; have a2 := ct.2.2.1; have a3 := ct.2.2.2.1; have a4 := ct.2.2.2.2.1; have a5 := ct.2.2.2.2.2; have a6 := (CT.out wv hB).2; clear ct; go_wp2_with fail
                  refine postB_val ?_ (Below.refl _ _)
                  simp only [List.getElem?_cons_succ, List.getElem?_cons_zero]
                  rfl
                case s12 =>
                  refine BStep.of [6, 11] [(125, 6), (130, 11)] (opV _) (by kernel_rfl) (fun _ _ => by kernel_rfl) rfl ?_
                  intro vs wv hB hA
                  have h6 : vs 6 = _ := hA.1
                  have h11 : vs 11 = _ := hA.2.1
                  clear hA
                  simp only [fillP, List.setIfInBounds_toArray, List.set_cons_zero, List.set_cons_succ, h6, h11]
                  have ct := (CT.out wv hB).1; have a0 := ct.1; have a1 := ct.2.1; have a2 := ct.2.2.1; have a3 := ct.2.2.2.1; have a4 := ct.2.2.2.2.1; have a5 := ct.2.2.2.2.2; have a6 := (CT.out wv hB).2; clear ct; go_wp2_with fail
                  refine postB_val ?_ (Below.refl _ _)
                  simp only [List.getElem?_cons_succ, List.getElem?_cons_zero]
                  rfl
                case s13 =>
                  refine BStep.of [6, 10, 12] [(125, 6), (129, 10), (131, 12)] (opV _) (by kernel_rfl) (fun _ _ => by kernel_rfl) rfl ?_
                  intro vs wv hB hA
                  have h6 : vs 6 = _ := hA.1
                  have h10 : vs 10 = _ := hA.2.1
                  have h12 : vs 12 = _ := hA.2.2.1
                  clear hA
                  simp only [fillP, List.setIfInBounds_toArray, List.set_cons_zero, List.set_cons_succ, h6, h10, h12]
                  have ct := (CT.out wv hB).1; have a0 := ct.1; have a1 := ct.2.1; have a2 := ct.2.2.1; have a3 := ct.2.2.2.1; have a4 := ct.2.2.2.2.1; have a5 := ct.2.2.2.2.2; have a6 := (CT.out wv hB).2; clear ct; go_wp2_with fail
                  refine postB_val ?_ (Below.refl _ _)
                  simp only [List.getElem?_cons_succ, List.getElem?_cons_zero]
                  rfl
                case s14 =>
                  refine BStep.of [6, 13] [(125, 6), (132, 13)] (opV _) (by kernel_rfl) (fun _ _ => by kernel_rfl) rfl ?_
                  intro vs wv hB hA
                  have h6 : vs 6 = _ := hA.1
                  have h13 : vs 13 = _ := hA.2.1
                  clear hA
                  simp only [fillP, List.setIfInBounds_toArray, List.set_cons_zero, List.set_cons_succ, h6, h13]
                  have ct := (CT.out wv hB).1; have a0 := ct.1; have a1 := ct.2.1; have a2 := ct.2.2.1; have a3 := ct.2.2.2.1; have a4 := ct.2.2.2.2.1; have a5 := ct.2.2.2.2.2; have a6 := (CT.out wv hB).2; clear ct; go_wp2_with fail
                  refine postB_val ?_ (Below.refl _ _)
                  simp only [List.getElem?_cons_succ, List.getElem?_cons_zero]
                  rfl
                case s15 =>
                  refine BStep.of [12, 14] [(131, 12), (133, 14)] (opV _) (by kernel_rfl) (fun _ _ => by kernel_rfl) rfl ?_
                  intro vs wv hB hA
                  have h12 : vs 12 = _ := hA.1
                  have h14 : vs 14 = _ := hA.2.1
                  clear hA
                  simp only [fillP, List.setIfInBounds_toArray, List.set_cons_zero, List.set_cons_succ, h12, h14]
                  have ct := (CT.out wv hB).1; have a0 := ct.1; have a1 := ct.2.1; have a2 := ct.2.2.1; have a3 := ct.2.2.2.1; have a4 := ct.2.2.2.2.1; have a5 := ct.2.2.2.2.2; have a6 := (CT.out wv hB).2; clear ct; go_wp2_with fail
                  refine postB_val ?_ (Below.refl _ _)
                  simp only [List.getElem?_cons_succ, List.getElem?_cons_zero]
                  rfl
                case s16 =>
                  refine BStep.of [15] [(134, 15)] (opV _) (by kernel_rfl) (fun _ _ => by kernel_rfl) rfl ?_
                  intro vs wv hB hA
                  have h15 : vs 15 = _ := hA.1
                  clear hA
                  simp only [fillP, List.setIfInBounds_toArray, List.set_cons_zero, List.set_cons_succ, h15]
                  have ct := (CT.out wv hB).1; have a0 := ct.1; have a1 := ct.2.1; have a2 := ct.2.2.1; have a3 := ct.2.2.2.1; have a4 := ct.2.2.2.2.1; have a5 := ct.2.2.2.2.2; have a6 := (CT.out wv hB).2; clear ct; go_wp2_with fail
                  refine postB_val ?_ (Below.refl _ _)
                  simp only [List.getElem?_cons_succ, List.getElem?_cons_zero]
                  rfl
                case s17 =>
                  refine BStep.of [15, 16] [(134, 15), (135, 16)] (opV _) (by kernel_rfl) (fun _ _ => by kernel_rfl) rfl ?_
                  intro vs wv hB hA
                  have h15 : vs 15 = _ := hA.1
                  have h16 : vs 16 = _ := hA.2.1
                  clear hA
                  simp only [fillP, List.setIfInBounds_toArray, List.set_cons_zero, List.set_cons_succ, h15, h16]
                  have ct := (CT.out wv hB).1; have a0 := ct.1; have a1 := ct.2.1; have a2 := ct.2.2.1; have a3 := ct.2.2.2.1; have a4 := ct.2.2.2.2.1; have a5 := ct.2.2.2.2.2; have a6 := (CT.out wv hB).2; clear ct; go_wp2_with fail
                  refine postB_val ?_ (Below.refl _ _)
                  simp only [List.getElem?_cons_succ, List.getElem?_cons_zero]
                  rfl
                case s18 =>
                  refine BStep.of [15, 17] [(134, 15), (136, 17)] (opV _) (by kernel_rfl) (fun _ _ => by kernel_rfl) rfl ?_
                  intro vs wv hB hA
                  have h15 : vs 15 = _ := hA.1
                  have h17 : vs 17 = _ := hA.2.1
                  clear hA
                  simp only [fillP, List.setIfInBounds_toArray, List.set_cons_zero, List.set_cons_succ, h15, h17]
                  have ct := (CT.out wv hB).1; have a0 := ct.1; have a1 := ct.2.1; have a2 := ct.2.2.1; have a3 := ct.2.2.2.1; have a4 := ct.2.2.2.2.1; have a5 := ct.2.2.2.2.2; have a6 := (CT.out wv hB).2; clear ct; go_wp2_with fail
                  refine postB_val ?_ (Below.refl _ _)
                  simp only [List.getElem?_cons_succ, List.getElem?_cons_zero]
                  rfl
                case s19 =>
                  refine BStep.of [18] [(137, 18)] (opV _) (by kernel_rfl) (fun _ _ => by kernel_rfl) rfl ?_
                  intro vs wv hB hA
                  have h18 : vs 18 = _ := hA.1
                  clear hA
                  simp only [fillP, List.setIfInBounds_toArray, List.set_cons_zero, List.set_cons_succ, h18]
                  have ct := (CT.out wv hB).1; have a0 := ct.1; have a1 := ct.2.1; have a2 := ct.2.2.1; have a3 := ct.2.2.2.1; have a4 := ct.2.2.2.2.1; have a5 := ct.2.2.2.2.2; have a6 := (CT.out wv hB).2; clear ct; go_wp2_with fail
                  refine postB_val ?_ (Below.refl _ _)
                  simp only [List.getElem?_cons_succ, List.getElem?_cons_zero]
                  rfl
                case s20 =>
                  refine BStep.of [18, 19] [(137, 18), (138, 19)] (opV _) (by kernel_rfl) (fun _ _ => by kernel_rfl) rfl ?_
                  intro vs wv hB hA
                  have h18 : vs 18 = _ := hA.1
                  have h19 : vs 19 = _ := hA.2.1
                  clear hA
                  simp only [fillP, List.setIfInBounds_toArray, List.set_cons_zero, List.set_cons_succ, h18, h19]
                  have ct := (CT.out wv hB).1; have a0 := ct.1; have a1 := ct.2.1; have a2 := ct.2.2.1; have a3 := ct.2.2.2.1; have a4 := ct.2.2.2.2.1; have a5 := ct.2.2.2.2.2; have a6 := (CT.out wv hB).2; clear ct; go_wp2_with fail
                  refine postB_val ?_ (Below.refl _ _)
                  simp only [List.getElem?_cons_succ, List.getElem?_cons_zero]
                  rfl
                case s21 =>
                  refine BStep.of [18, 20] [(137, 18), (139, 20)] (opV _) (by kernel_rfl) (fun _ _ => by kernel_rfl) rfl ?_
                  intro vs wv hB hA
                  have h18 : vs 18 = _ := hA.1
                  have h20 : vs 20 = _ := hA.2.1
                  clear hA
                  simp only [fillP, List.setIfInBounds_toArray, List.set_cons_zero, List.set_cons_succ, h18, h20]
                  have ct := (CT.out wv hB).1; have a0 := ct.1; have a1 := ct.2.1; have a2 := ct.2.2.1; have a3 := ct.2.2.2.1; have a4 := ct.2.2.2.2.1; have a5 := ct.2.2.2.2.2; have a6 := (CT.out wv hB).2; clear ct; go_wp2_with fail
                  refine postB_val ?_ (Below.refl _ _)
                  simp only [List.getElem?_cons_succ, List.getElem?_cons_zero]
                  rfl
                case s22 =>
                  refine BStep.of [15, 18, 21] [(134, 15), (137, 18), (140, 21)] (opV _) (by kernel_rfl) (fun _ _ => by kernel_rfl) rfl ?_
                  intro vs wv hB hA
                  have h15 : vs 15 = _ := hA.1
                  have h18 : vs 18 = _ := hA.2.1
                  have h21 : vs 21 = _ := hA.2.2.1
                  clear hA
                  simp only [fillP, List.setIfInBounds_toArray, List.set_cons_zero, List.set_cons_succ, h15, h18, h21]
                  have ct := (CT.out wv hB).1; have a0 := ct.1; have a1 := ct.2.1; have a2 := ct.2.2.1; have a3 := ct.2.2.2.1; have a4 := ct.2.2.2.2.1; have a5 := ct.2.2.2.2.2; have a6 := (CT.out wv hB).2; clear ct; go_wp2_with fail
                  refine postB_val ?_ (Below.refl _ _)
                  simp only [List.getElem?_cons_succ, List.getElem?_cons_zero]
                  rfl
                case s23 =>
                  refine BStep.of [15, 18, 22] [(134, 15), (137, 18), (141, 22)] (opV _) (by kernel_rfl) (fun _ _ => by kernel_rfl) rfl ?_
                  intro vs wv hB hA
                  have h15 : vs 15 = _ := hA.1
                  have h18 : vs 18 = _ := hA.2.1
                  have h22 : vs 22 = _ := hA.2.2.1
                  clear hA
                  simp only [fillP, List.setIfInBounds_toArray, List.set_cons_zero, List.set_cons_succ, h15, h18, h22]
                  have ct := (CT.out wv hB).1; have a0 := ct.1; have a1 := ct.2.1; have a2 := ct.2.2.1; have a3 := ct.2.2.2.1; have a4 := ct.2.2.2.2.1; have a5 := ct.2.2.2.2.2; have a6 := (CT.out wv hB).2; clear ct; go_wp2_with fail
                  refine postB_val ?_ (Below.refl _ _)
                  simp only [List.getElem?_cons_succ, List.getElem?_cons_zero]
                  rfl
                case s24 =>
                  refine BStep.of [23] [(142, 23)] (opV _) (by kernel_rfl) (fun _ _ => by kernel_rfl) rfl ?_
                  intro vs wv hB hA
                  have h23 : vs 23 = _ := hA.1
                  clear hA
                  simp only [fillP, List.setIfInBounds_toArray, List.set_cons_zero, List.set_cons_succ, h23]
                  have ct := (CT.out wv hB).1; have a0 := ct.1; have a1 := ct.2.1; have a2 := ct.2.2.1; have a3 := ct.2.2.2.1; have a4 := ct.2.2.2.2.1; have a5 := ct.2.2.2.2.2; have a6 := (CT.out wv hB).2; clear ct; go_wp2_with fail
                  refine postB_val ?_ (Below.refl _ _)
                  simp only [List.getElem?_cons_succ, List.getElem?_cons_zero]
                  rfl
                case s25 =>
                  refine BStep.of [23] [(142, 23)] (opV _) (by kernel_rfl) (fun _ _ => by kernel_rfl) rfl ?_
                  intro vs wv hB hA
                  have h23 : vs 23 = _ := hA.1
                  clear hA
                  simp only [fillP, List.setIfInBounds_toArray, List.set_cons_zero, List.set_cons_succ, h23]
                  have ct := (CT.out wv hB).1; have a0 := ct.1; have a1 := ct.2.1; have a2 := ct.2.2.1; have a3 := ct.2.2.2.1; have a4 := ct.2.2.2.2.1; have a5 := ct.2.2.2.2.2; have a6 := (CT.out wv hB).2; clear ct; go_wp2_with fail
                  refine postB_val ?_ (Below.refl _ _)
                  simp only [List.getElem?_cons_succ, List.getElem?_cons_zero]
                  rfl
                case s26 =>
                  refine BStep.of [23, 24, 25] [(142, 23), (143, 24), (144, 25)] (opV _) (by kernel_rfl) (fun _ _ => by kernel_rfl) rfl ?_
                  intro vs wv hB hA
                  have h23 : vs 23 = _ := hA.1
                  have h24 : vs 24 = _ := hA.2.1
                  have h25 : vs 25 = _ := hA.2.2.1
                  clear hA
                  simp only [fillP, List.setIfInBounds_toArray, List.set_cons_zero, List.set_cons_succ, h23, h24, h25]
                  have ct := (CT.out wv hB).1; have a0 := ct.1; have a1 := ct.2.1; have a2 := ct.2.2.1; have a3 := ct.2.2.2.1; have a4 := ct.2.2.2.2.1; have a5 := ct.2.2.2.2.2; have a6 := (CT.out wv hB).2; clear ct; go_wp2_with fail
                  refine postB_val ?_ (Below.refl _ _)
                  simp only [List.getElem?_cons_succ, List.getElem?_cons_zero]
                  rfl
                case s27 =>
                  refine BStep.of [23, 26] [(142, 23), (145, 26)] (opV _) (by kernel_rfl) (fun _ _ => by kernel_rfl) rfl ?_
                  intro vs wv hB hA
                  have h23 : vs 23 = _ := hA.1
                  have h26 : vs 26 = _ := hA.2.1
                  clear hA
                  simp only [fillP, List.setIfInBounds_toArray, List.set_cons_zero, List.set_cons_succ, h23, h26]
                  have ct := (CT.out wv hB).1; have a0 := ct.1; have a1 := ct.2.1; have a2 := ct.2.2.1; have a3 := ct.2.2.2.1; have a4 := ct.2.2.2.2.1; have a5 := ct.2.2.2.2.2; have a6 := (CT.out wv hB).2; clear ct; go_wp2_with fail
                  refine postB_val ?_ (Below.refl _ _)
                  simp only [List.getElem?_cons_succ, List.getElem?_cons_zero]
                  rfl
                case s28 =>
                  refine BStep.of [23] [(142, 23)] (opV _) (by kernel_rfl) (fun _ _ => by kernel_rfl) rfl ?_
                  intro vs wv hB hA
                  have h23 : vs 23 = _ := hA.1
                  clear hA
                  simp only [fillP, List.setIfInBounds_toArray, List.set_cons_zero, List.set_cons_succ, h23]
                  have ct := (CT.out wv hB).1; have a0 := ct.1; have a1 := ct.2.1; have a2 := ct.2.2.1; have a3 := ct.2.2.2.1; have a4 := ct.2.2.2.2.1; have a5 := ct.2.2.2.2.2; have a6 := (CT.out wv hB).2; clear ct; go_wp2_with fail
                  refine postB_val ?_ (Below.refl _ _)
                  simp only [List.getElem?_cons_succ, List.getElem?_cons_zero]
                  rfl
                case s29 =>
                  refine BStep.of [23, 28] [(142, 23), (147, 28)] (opV (.int .i64 y)) (by kernel_rfl) (fun _ _ => by kernel_rfl) rfl ?_
                  intro vs wv hB hA
                  have h23 : vs 23 = _ := hA.1
                  have h28 : vs 28 = _ := hA.2.1
                  clear hA
                  simp only [fillP, List.setIfInBounds_toArray, List.set_cons_zero, List.set_cons_succ, h23, h28]
                  (go_wp2_with (go_at_call 13; (with_reducible refine (KO1.out _).mono ?_); rintro e w7 ⟨rfl, hb⟩)); exact postB_val rfl hb
                case s30 =>
                  refine BStep.of [23, 27, 29] [(142, 23), (146, 27), (148, 29)] (opV _) (by kernel_rfl) (fun _ _ => by kernel_rfl) rfl ?_
                  intro vs wv hB hA
                  have h23 : vs 23 = _ := hA.1
                  have h27 : vs 27 = _ := hA.2.1
                  have h29 : vs 29 = _ := hA.2.2.1
                  clear hA
                  simp only [fillP, List.setIfInBounds_toArray, List.set_cons_zero, List.set_cons_succ, h23, h27, h29]
                  have ct := (CT.out wv hB).1; have a0 := ct.1; have a1 := ct.2.1; have a2 := ct.2.2.1; have a3 := ct.2.2.2.1; have a4 := ct.2.2.2.2.1; have a5 := ct.2.2.2.2.2; have a6 := (CT.out wv hB).2; clear ct; go_wp2_with fail
                  refine postB_val ?_ (Below.refl _ _)
                  simp only [List.getElem?_cons_succ, List.getElem?_cons_zero]
                  rfl
                case s31 =>
                  refine BStep.of [15, 23, 30] [(134, 15), (142, 23), (149, 30)] (opV _) (by kernel_rfl) (fun _ _ => by kernel_rfl) rfl ?_
                  intro vs wv hB hA
                  have h15 : vs 15 = _ := hA.1
                  have h23 : vs 23 = _ := hA.2.1
                  have h30 : vs 30 = _ := hA.2.2.1
                  clear hA
                  simp only [fillP, List.setIfInBounds_toArray, List.set_cons_zero, List.set_cons_succ, h15, h23, h30]
                  have ct := (CT.out wv hB).1; have a0 := ct.1; have a1 := ct.2.1; have a2 := ct.2.2.1; have a3 := ct.2.2.2.1; have a4 := ct.2.2.2.2.1; have a5 := ct.2.2.2.2.2; have a6 := (CT.out wv hB).2; clear ct; go_wp2_with fail
                  refine postB_val ?_ (Below.refl _ _)
                  simp only [List.getElem?_cons_succ, List.getElem?_cons_zero]
                  rfl
                case s32 =>
                  refine BStep.of [15, 31] [(134, 15), (150, 31)] (opV _) (by kernel_rfl) (fun _ _ => by kernel_rfl) rfl ?_
                  intro vs wv hB hA
                  have h15 : vs 15 = _ := hA.1
                  have h31 : vs 31 = _ := hA.2.1
                  clear hA
                  simp only [fillP, List.setIfInBounds_toArray, List.set_cons_zero, List.set_cons_succ, h15, h31]
                  have ct := (CT.out wv hB).1; have a0 := ct.1; have a1 := ct.2.1; have a2 := ct.2.2.1; have a3 := ct.2.2.2.1; have a4 := ct.2.2.2.2.1; have a5 := ct.2.2.2.2.2; have a6 := (CT.out wv hB).2; clear ct; go_wp2_with fail
                  refine postB_val ?_ (Below.refl _ _)
                  simp only [List.getElem?_cons_succ, List.getElem?_cons_zero]
                  rfl
                case fin =>
                  refine fin_of [0, 1, 2, 3, 4, 5, 6, 7, 8, 9, 10, 11, 12, 13, 14, 15, 16, 17, 18, 19, 20, 21, 22, 23, 24, 25, 26, 27, 28, 29, 30, 31, 32] [(119, 0), (120, 1), (121, 2), (122, 3), (123, 4), (124, 5), (125, 6), (126, 7), (127, 8), (128, 9), (129, 10), (130, 11), (131, 12), (132, 13), (133, 14), (134, 15), (135, 16), (136, 17), (137, 18), (138, 19), (139, 20), (140, 21), (141, 22), (142, 23), (143, 24), (144, 25), (145, 26), (146, 27), (147, 28), (148, 29), (149, 30), (150, 31), (151, 32)] (by kernel_rfl) (fun _ _ => by kernel_rfl) ?_
                  intro vs wv hB hA
                  have h0 : vs 0 = _ := hA.1
                  have h1 : vs 1 = _ := hA.2.1
                  have h2 : vs 2 = _ := hA.2.2.1
                  have h3 : vs 3 = _ := hA.2.2.2.1
                  have h4 : vs 4 = _ := hA.2.2.2.2.1
                  have h5 : vs 5 = _ := hA.2.2.2.2.2.1
                  have h6 : vs 6 = _ := hA.2.2.2.2.2.2.1
                  have h7 : vs 7 = _ := hA.2.2.2.2.2.2.2.1
                  have h8 : vs 8 = _ := hA.2.2.2.2.2.2.2.2.1
                  have h9 : vs 9 = _ := hA.2.2.2.2.2.2.2.2.2.1
                  have h10 : vs 10 = _ := hA.2.2.2.2.2.2.2.2.2.2.1
                  have h11 : vs 11 = _ := hA.2.2.2.2.2.2.2.2.2.2.2.1
                  have h12 : vs 12 = _ := hA.2.2.2.2.2.2.2.2.2.2.2.2.1
                  have h13 : vs 13 = _ := hA.2.2.2.2.2.2.2.2.2.2.2.2.2.1
                  have h14 : vs 14 = _ := hA.2.2.2.2.2.2.2.2.2.2.2.2.2.2.1
                  have h15 : vs 15 = _ := hA.2.2.2.2.2.2.2.2.2.2.2.2.2.2.2.1
                  have h16 : vs 16 = _ := hA.2.2.2.2.2.2.2.2.2.2.2.2.2.2.2.2.1
                  have h17 : vs 17 = _ := hA.2.2.2.2.2.2.2.2.2.2.2.2.2.2.2.2.2.1
                  have h18 : vs 18 = _ := hA.2.2.2.2.2.2.2.2.2.2.2.2.2.2.2.2.2.2.1
                  have h19 : vs 19 = _ := hA.2.2.2.2.2.2.2.2.2.2.2.2.2.2.2.2.2.2.2.1
                  have h20 : vs 20 = _ := hA.2.2.2.2.2.2.2.2.2.2.2.2.2.2.2.2.2.2.2.2.1
                  have h21 : vs 21 = _ := hA.2.2.2.2.2.2.2.2.2.2.2.2.2.2.2.2.2.2.2.2.2.1
                  have h22 : vs 22 = _ := hA.2.2.2.2.2.2.2.2.2.2.2.2.2.2.2.2.2.2.2.2.2.2.1
                  have h23 : vs 23 = _ := hA.2.2.2.2.2.2.2.2.2.2.2.2.2.2.2.2.2.2.2.2.2.2.2.1
                  have h24 : vs 24 = _ := hA.2.2.2.2.2.2.2.2.2.2.2.2.2.2.2.2.2.2.2.2.2.2.2.2.1
                  have h25 : vs 25 = _ := hA.2.2.2.2.2.2.2.2.2.2.2.2.2.2.2.2.2.2.2.2.2.2.2.2.2.1
                  have h26 : vs 26 = _ := hA.2.2.2.2.2.2.2.2.2.2.2.2.2.2.2.2.2.2.2.2.2.2.2.2.2.2.1
                  have h27 : vs 27 = _ := hA.2.2.2.2.2.2.2.2.2.2.2.2.2.2.2.2.2.2.2.2.2.2.2.2.2.2.2.1
                  have h28 : vs 28 = _ := hA.2.2.2.2.2.2.2.2.2.2.2.2.2.2.2.2.2.2.2.2.2.2.2.2.2.2.2.2.1
                  have h29 : vs 29 = _ := hA.2.2.2.2.2.2.2.2.2.2.2.2.2.2.2.2.2.2.2.2.2.2.2.2.2.2.2.2.2.1
                  have h30 : vs 30 = _ := hA.2.2.2.2.2.2.2.2.2.2.2.2.2.2.2.2.2.2.2.2.2.2.2.2.2.2.2.2.2.2.1
                  have h31 : vs 31 = _ := hA.2.2.2.2.2.2.2.2.2.2.2.2.2.2.2.2.2.2.2.2.2.2.2.2.2.2.2.2.2.2.2.1
                  have h32 : vs 32 = _ := hA.2.2.2.2.2.2.2.2.2.2.2.2.2.2.2.2.2.2.2.2.2.2.2.2.2.2.2.2.2.2.2.2.1
                  clear hA
                  simp only [fillP, List.setIfInBounds_toArray, List.set_cons_zero, List.set_cons_succ, h0, h1, h2, h3, h4, h5, h6, h7, h8, h9, h10, h11, h12, h13, h14, h15, h16, h17, h18, h19, h20, h21, h22, h23, h24, h25, h26, h27, h28, h29, h30, h31, h32]
                  go_wp2_with fail; go_meet; exact ⟨by first|rfl | simp, Lib.hid hB⟩
              · have d1 : ((x4 : Int) == 0) = false := by simp [h3]
                clear F1 F2 h3
                go_quiet (fail)
                go_wp2_with fail
                go_meet
                exact ⟨rfl, Lib.hid (drewN_below _ _ _)⟩
          case rest =>
            obtain ⟨rfl, BX⟩ := hcut
            go_wp2_with fail
            go_roundg (n - (k + 1))
            case measure => omega
            case rel => exact ⟨k + 1, by go_num, by omega, Nat.le_refl _, Lib.hid (b_next16 B5.out BX.out)⟩
    · obtain rfl : k = n := by omega
      have hz : ¬ (k : Int) < k := by omega
      go_wp2_with fail
      go_ret
      exact ⟨rfl, b_next16 B3.out HB.out⟩
end Go.Proofs.Ytjlnaadpiohbnaa
