/-
  The law FlexAsked: of any Main that answers as is asked.
-/
import Derived.Test.YtpjhhndjbpegcaaAskedM17
import Derived.Test.YtpjhhndjbpegcaaRely
namespace Go.Proofs.Ytpjhhndjbpegcaa
open Go.RowKit

theorem min3_17 (x y z : Int) : (if z < (if y < x then y else x) then z else (if y < x then y else x)) = min (min x y) z := by
  repeat' split
  all_goals omega
theorem max3_17 (x y z : Int) : (if z > (if y > x then y else x) then z else (if y > x then y else x)) = max (max x y) z := by
  repeat' split
  all_goals omega
theorem run_min3_17 {P : Program} (w : World) (ts : Array TypeId) (t : TypeId) (k k' k'' : IntKind) (x y z : Int) : (Builtin.min_ ts t #[.int k x, .int k' y, .int k'' z]).run P w = .ok (.int k (min (min x y) z)) w := by
  rw [← min3_17]
  simp [Builtin.min_, Builtin.min2]
theorem run_max3_17 {P : Program} (w : World) (ts : Array TypeId) (t : TypeId) (k k' k'' : IntKind) (x y z : Int) : (Builtin.max_ ts t #[.int k x, .int k' y, .int k'' z]).run P w = .ok (.int k (max (max x y) z)) w := by
  rw [← max3_17]
  simp [Builtin.max_, Builtin.max2]
attribute [local go_sem 10000] run_min3_17 run_max3_17
set_option maxRecDepth 100000 in
set_option maxHeartbeats 16000000 in
theorem asked17 (hM : MainOK 12) (hA : AwakeOK17 16) (A : Option Addr) (n c : Nat) (f : Nat → Int) (gap room j : Int) (back : Bool) (w : World) (hv : Ints w A n f) (hc : n ≤ c ∧ c ≤ 9223372036854775807) (hj : 0 ≤ j ∧ j ≤ 255) :
    Calls Try.prog 6 #[.slice A n c, howV gap room j back] w fun e w' => e = .returned (.bool true) ∧ Below w.heap.size w w' := by
  have KA := Lib.hid (fun W => hA W)
  have HV := Lib.hid hv
  obtain ⟨bg, hbg⟩ : ∃ b, decide (Near17 f n gap room j) = b := ⟨_, rfl⟩
  have KN := Lib.hid (fun W (hW : Ints W A n f) => near17 A n c f gap room j back W hW hj bg hbg)
  have KM0 := Lib.hid (fun (h : Nigh17 f n gap room j) W (hW : Ints W A n f) => main_near17 hM A n c f gap room j false W hW hc h)
  have KL0 := Lib.hid (fun (h : Near17 f n gap room 0) W (hW : Ints W A n f) => left17 A n c f gap room j back W hW h)
  have B0 : Hid (Below w.heap.size w (w.alloc (.cells #[.int .i64 gap, .int .i64 room, .int .u8 j, .bool back] 24))) := Lib.hid ((Below.refl _ w).alloc (Nat.le_refl _) _)
  have CT := Lib.hid (how_new w gap room j back)
  clear hv hA hM hc
  unfold howV at KN KL0 ⊢
  unfold HowAt at CT
  go_enter Try.func6, Try.ntmps6
  go_upto_region 1 with fail
  generalize w.alloc (.cells #[.int .i64 gap, .int .i64 room, .int .u8 j, .bool back] 24) = w1 at B0 CT ⊢
  generalize hg : w.heap.size = g at CT ⊢
  clear hg
  go_upto_region 3 with (go_at_call 16; (with_reducible refine (KA.out _).mono ?_); rintro e w2 ⟨rfl, hb⟩; have B2 := Lib.hid hb; clear hb)
  obtain ⟨c0, c1, c2, c3⟩ := CT.out w2 B2.out
  have V2 := Lib.hid (HV.out.below (b_nx17 B0.out B2.out))
  cases bg with
  | false =>
    clear KM0 KA KL0
    go_wp2_with (go_at_call 17; (with_reducible refine (KN.out _ V2.out).mono ?_); rintro e w3 ⟨rfl, hb⟩; have B3 := Lib.hid (b_nx17 B2.out hb); clear hb)
    go_ret
    exact ⟨rfl, b_nx17 B0.out B3.out⟩
  | true =>
  have NR := Lib.hid (of_decide_eq_true hbg)
  have hn1 : n ≤ 200 := NR.out.hn
  have KM := Lib.hid (KM0.out NR.out.nigh)
  have KL := Lib.hid (KL0.out (by have h := NR.out; exact ⟨h.hn, h.hgap, h.hroom, by omega, h.hf⟩))
  clear KM0 KA KL0 hbg
  by_cases hn0 : n = 0
  · have e0 : ((n : Int) == 0) = true := by simp [hn0]
    clear KM KL hn0
    go_wp2_with (go_at_call 17; (with_reducible refine (KN.out _ V2.out).mono ?_); rintro e w3 ⟨rfl, hb⟩; have B3 := Lib.hid (b_nx17 B2.out hb); clear hb)
    go_ret
    exact ⟨by first | rfl | simp, b_nx17 B0.out B3.out⟩
  have e0 : ((n : Int) == 0) = false := by simp [hn0]
  go_upto_region 5 with (go_at_call 17; (with_reducible refine (KN.out _ V2.out).mono ?_); rintro e w3 ⟨rfl, hb⟩; have B3 := Lib.hid (b_nx17 B2.out hb); clear hb)
  clear c0 c1 c2 c3 V2 KN e0
  obtain ⟨c0, c1, c2, c3⟩ := CT.out w3 B3.out
  have V3 := Lib.hid (HV.out.below (b_nx17 B0.out B3.out))
  obtain ⟨q, hq⟩ : ∃ q, q + 1 = n := ⟨n - 1, by omega⟩
  have hqn : q < n := by omega
  have h0n : 0 < n := by omega
  have zq : (q : Int) < n := by omega
  have zq0 : (0 : Int) ≤ q := by omega
  have z0n : (0 : Int) < n := by omega
  have wl : IntKind.i64.wrap ((n : Int) - 1) = (q : Int) := by rw [IntWalk.i64_in _ (by omega)]; omega
  go_upto_region 6 with (go_at_call 12; (with_reducible refine (KM.out _ V3.out).mono ?_); rintro e w4 ⟨AO, cO, E, rfl, OO, EE, hb⟩; have B4 := Lib.hid (b_nx17 B3.out hb); clear hb)
  clear c0 c1 c2 c3 V3
  obtain ⟨gO, rfl, ho⟩ := own_then17 OO.out h0n
  obtain ⟨gO', e, hoq⟩ := own_then17 OO.out hqn
  injection e with e
  injection e with e1 e2 e3
  subst e1
  have V4 := Lib.hid (HV.out.below (b_nx17 B0.out B4.out))
  obtain ⟨bb, off, rfl, -, -⟩ := V4.out.at_ hqn
  have CX : Hid (∀ W, Below w4.heap.size w4 W → HowAt W g gap room j back ∧ W.cell? ⟨gO, 0, none⟩ = some (.int .i64 (atF f gap room false E 0)) ∧ W.cell? ⟨gO, q, none⟩ = some (.int .i64 (atF f gap room false E q)) ∧ W.cell? ⟨bb, off + q, none⟩ = some (.int .i64 (f q)) ∧ Ints W (some ⟨bb, off, none⟩) n f) := Lib.hid (fun W hW => by
    have vv := V4.out.below hW
    obtain ⟨b', o', e, -, hm⟩ := vv.at_ hqn
    injection e with e
    injection e with e1 e2 e3
    subst e1 e2
    exact ⟨CT.out W (b_nx17 B4.out hW), ho W hW, hoq W hW, hm, vv⟩)
  clear ho hoq V4
  unfold HowAt at CX
  have X := Lib.hid (EE.out h0n)
  have FA := Lib.hid (fun i (hi : i < n) => NR.out.nigh.fit false (EE.out (by omega)) i hi)
  have FF := Lib.hid NR.out.hf
  have EB := Lib.hid (extra_bd (EE.out h0n) (by have h := near_sum NR.out.hn NR.out.hgap NR.out.hf n (Nat.le_refl _); have := NR.out.hroom; unfold leftF; omega))
  have hgp : 0 ≤ gap ∧ gap ≤ 268435456 := NR.out.hgap
  have hrm : 0 ≤ room ∧ room ≤ 274877906944 := NR.out.hroom
  have hj4 : j ≤ 4 := by have := NR.out.hj; omega
  obtain ⟨ah, hah⟩ : ∃ x, atF f gap room false E 0 = x := ⟨_, rfl⟩
  have A1 : Hid (ah = E 0) := Lib.hid (by rw [← hah]; exact ahead17 f gap room E)
  have A2 : Hid (room - atF f gap room false E q - f q = leftF f gap room n - sumB E n) := Lib.hid (by rw [behind17, hq])
  have LB : Hid (leftF f gap room n ≤ 274877906944 ∧ -107374182400 ≤ leftF f gap room n) := Lib.hid (by have h := near_sum NR.out.hn NR.out.hgap NR.out.hf n (Nat.le_refl _); unfold leftF; omega)
  have A3 : Hid (-1099511627776 ≤ ah ∧ ah ≤ 1099511627776) := Lib.hid (by rw [← hah]; exact FA.out 0 h0n)
  have A4 := FA.out q hqn
  have A5 := FF.out q hqn
  rw [hah] at CX
  clear hah
  clear NR EE KM
  generalize leftF f gap room n = free at KL X EB A2 LB
  obtain ⟨aq, haq⟩ : ∃ x, atF f gap room false E q = x := ⟨_, rfl⟩
  rw [haq] at CX A2 A4
  obtain ⟨fq, hfq⟩ : ∃ x, f q = x := ⟨_, rfl⟩
  rw [hfq] at CX A2 A5
  clear haq hfq
  have wb0 : IntKind.i64.wrap (room - aq) = room - aq := IntWalk.i64_in _ (by omega)
  obtain ⟨t0, ht0⟩ : ∃ t, room - aq = t := ⟨_, rfl⟩
  have wb := wb0.trans ht0
  have wc0 : IntKind.i64.wrap (t0 - fq) = t0 - fq := IntWalk.i64_in _ (by omega)
  obtain ⟨bh, hbh⟩ : ∃ t, t0 - fq = t := ⟨_, rfl⟩
  have wd := wc0.trans hbh
  have A6 : Hid (bh = free - sumB E n) := Lib.hid (by have := A2.out; omega)
  have A7 : Hid (-2199023255552 ≤ bh ∧ bh ≤ 2199023255552) := Lib.hid (by omega)
  clear wb0 wc0 ht0 hbh A2 A4 A5 hn0
  go_upto_region 9 with fail
  go_cut [8, 9, 10] from 49 (fun v8 v9 v10 wx => v8 = .int .i64 ah ∧ v9 = .int .i64 bh ∧ v10 = .int .i64 free ∧ Hid (Below w4.heap.size w4 wx))
  case first =>
    refine' wp_region_below [opV (.slice (some ⟨gO, 0, none⟩) n cO), opV (.pointer (some ⟨gO, 0, none⟩)), opV (.int .i64 ah), opV (.pointer (some ⟨g, 1, none⟩)), opV (.int .i64 room), opV (.slice (some ⟨gO, 0, none⟩) n cO), opV (.int .i64 q), opV (.pointer (some ⟨gO, q, none⟩)), opV (.int .i64 aq), opV (.int .i64 t0), opV (.slice (some ⟨bb, off, none⟩) n c), opV (.int .i64 q), opV (.pointer (some ⟨bb, off + q, none⟩)), opV (.int .i64 fq), opV (.int .i64 bh), opV (.slice (some ⟨bb, off, none⟩) n c), opV (.agg #[.int .i64 gap, .int .i64 room, .int .u8 j, .bool back]), opV (.int .i64 free), opV (.int .i64 ah), opV (.int .i64 bh), opV (.int .i64 free)] rfl (by kernel_rfl) ⟨?s0, ?s1, ?s2, ?s3, ?s4, ?s5, ?s6, ?s7, ?s8, ?s9, ?s10, ?s11, ?s12, ?s13, ?s14, ?s15, ?s16, ?s17, ?s18, ?s19, ?s20, trivial⟩ ?fin
    case s0 =>
      refine BStep.of [] [] (opV (.slice (some ⟨gO, 0, none⟩) n cO)) (by kernel_rfl) (fun _ _ => by kernel_rfl) rfl ?_
      intro vs wv hB hA
      clear hA
      simp only [fillP]
      have ct := CX.out wv hB; have k0 := ct.1.1; have k1 := ct.1.2.1; have k2 := ct.1.2.2.1; have k3 := ct.1.2.2.2; have k4 := ct.2.1; have k5 := ct.2.2.1; have k6 := ct.2.2.2.1; clear ct CX FA FF EB A1 A3 A6 A7 X LB OO KL; go_wp2_with fail; exact postB_val (by first | rfl | simp) (Below.refl _ _)
    case s1 =>
      refine BStep.of [0] [(49, 0)] (opV (.pointer (some ⟨gO, 0, none⟩))) (by kernel_rfl) (fun _ _ => by kernel_rfl) rfl ?_
      intro vs wv hB hA
      have h0 : vs 0 = _ := hA.1
      clear hA
      simp only [fillP, List.setIfInBounds_toArray, List.set_cons_zero, List.set_cons_succ, h0]
      have ct := CX.out wv hB; have k0 := ct.1.1; have k1 := ct.1.2.1; have k2 := ct.1.2.2.1; have k3 := ct.1.2.2.2; have k4 := ct.2.1; have k5 := ct.2.2.1; have k6 := ct.2.2.2.1; clear ct CX FA FF EB A1 A3 A6 A7 X LB OO KL; go_wp2_with fail; exact postB_val (by first | rfl | simp) (Below.refl _ _)
    case s2 =>
      refine BStep.of [1] [(50, 1)] (opV (.int .i64 ah)) (by kernel_rfl) (fun _ _ => by kernel_rfl) rfl ?_
      intro vs wv hB hA
      have h1 : vs 1 = _ := hA.1
      clear hA
      simp only [fillP, List.setIfInBounds_toArray, List.set_cons_zero, List.set_cons_succ, h1]
      have ct := CX.out wv hB; have k0 := ct.1.1; have k1 := ct.1.2.1; have k2 := ct.1.2.2.1; have k3 := ct.1.2.2.2; have k4 := ct.2.1; have k5 := ct.2.2.1; have k6 := ct.2.2.2.1; clear ct CX FA FF EB A1 A3 A6 A7 X LB OO KL; go_wp2_with fail; exact postB_val (by first | rfl | simp) (Below.refl _ _)
    case s3 =>
      refine BStep.of [] [] (opV (.pointer (some ⟨g, 1, none⟩))) (by kernel_rfl) (fun _ _ => by kernel_rfl) rfl ?_
      intro vs wv hB hA
      clear hA
      simp only [fillP]
      have ct := CX.out wv hB; have k0 := ct.1.1; have k1 := ct.1.2.1; have k2 := ct.1.2.2.1; have k3 := ct.1.2.2.2; have k4 := ct.2.1; have k5 := ct.2.2.1; have k6 := ct.2.2.2.1; clear ct CX FA FF EB A1 A3 A6 A7 X LB OO KL; go_wp2_with fail; exact postB_val (by first | rfl | simp) (Below.refl _ _)
    case s4 =>
      refine BStep.of [3] [(52, 3)] (opV (.int .i64 room)) (by kernel_rfl) (fun _ _ => by kernel_rfl) rfl ?_
      intro vs wv hB hA
      have h3 : vs 3 = _ := hA.1
      clear hA
      simp only [fillP, List.setIfInBounds_toArray, List.set_cons_zero, List.set_cons_succ, h3]
      have ct := CX.out wv hB; have k0 := ct.1.1; have k1 := ct.1.2.1; have k2 := ct.1.2.2.1; have k3 := ct.1.2.2.2; have k4 := ct.2.1; have k5 := ct.2.2.1; have k6 := ct.2.2.2.1; clear ct CX FA FF EB A1 A3 A6 A7 X LB OO KL; go_wp2_with fail; exact postB_val (by first | rfl | simp) (Below.refl _ _)
    case s5 =>
      refine BStep.of [] [] (opV (.slice (some ⟨gO, 0, none⟩) n cO)) (by kernel_rfl) (fun _ _ => by kernel_rfl) rfl ?_
      intro vs wv hB hA
      clear hA
      simp only [fillP]
      have ct := CX.out wv hB; have k0 := ct.1.1; have k1 := ct.1.2.1; have k2 := ct.1.2.2.1; have k3 := ct.1.2.2.2; have k4 := ct.2.1; have k5 := ct.2.2.1; have k6 := ct.2.2.2.1; clear ct CX FA FF EB A1 A3 A6 A7 X LB OO KL; go_wp2_with fail; exact postB_val (by first | rfl | simp) (Below.refl _ _)
    case s6 =>
      refine BStep.of [] [] (opV (.int .i64 q)) (by kernel_rfl) (fun _ _ => by kernel_rfl) rfl ?_
      intro vs wv hB hA
      clear hA
      simp only [fillP]
      have ct := CX.out wv hB; have k0 := ct.1.1; have k1 := ct.1.2.1; have k2 := ct.1.2.2.1; have k3 := ct.1.2.2.2; have k4 := ct.2.1; have k5 := ct.2.2.1; have k6 := ct.2.2.2.1; clear ct CX FA FF EB A1 A3 A6 A7 X LB OO KL; go_wp2_with fail; exact postB_val (by first | rfl | simp) (Below.refl _ _)
    case s7 =>
      refine BStep.of [5, 6] [(54, 5), (55, 6)] (opV (.pointer (some ⟨gO, q, none⟩))) (by kernel_rfl) (fun _ _ => by kernel_rfl) rfl ?_
      intro vs wv hB hA
      have h5 : vs 5 = _ := hA.1
      have h6 : vs 6 = _ := hA.2.1
      clear hA
      simp only [fillP, List.setIfInBounds_toArray, List.set_cons_zero, List.set_cons_succ, h5, h6]
      have ct := CX.out wv hB; have k0 := ct.1.1; have k1 := ct.1.2.1; have k2 := ct.1.2.2.1; have k3 := ct.1.2.2.2; have k4 := ct.2.1; have k5 := ct.2.2.1; have k6 := ct.2.2.2.1; clear ct CX FA FF EB A1 A3 A6 A7 X LB OO KL; go_wp2_with fail; exact postB_val (by first | rfl | simp) (Below.refl _ _)
    case s8 =>
      refine BStep.of [7] [(56, 7)] (opV (.int .i64 aq)) (by kernel_rfl) (fun _ _ => by kernel_rfl) rfl ?_
      intro vs wv hB hA
      have h7 : vs 7 = _ := hA.1
      clear hA
      simp only [fillP, List.setIfInBounds_toArray, List.set_cons_zero, List.set_cons_succ, h7]
      have ct := CX.out wv hB; have k0 := ct.1.1; have k1 := ct.1.2.1; have k2 := ct.1.2.2.1; have k3 := ct.1.2.2.2; have k4 := ct.2.1; have k5 := ct.2.2.1; have k6 := ct.2.2.2.1; clear ct CX FA FF EB A1 A3 A6 A7 X LB OO KL; go_wp2_with fail; exact postB_val (by first | rfl | simp) (Below.refl _ _)
    case s9 =>
      refine BStep.of [4, 8] [(53, 4), (57, 8)] (opV (.int .i64 t0)) (by kernel_rfl) (fun _ _ => by kernel_rfl) rfl ?_
      intro vs wv hB hA
      have h4 : vs 4 = _ := hA.1
      have h8 : vs 8 = _ := hA.2.1
      clear hA
      simp only [fillP, List.setIfInBounds_toArray, List.set_cons_zero, List.set_cons_succ, h4, h8]
      have ct := CX.out wv hB; have k0 := ct.1.1; have k1 := ct.1.2.1; have k2 := ct.1.2.2.1; have k3 := ct.1.2.2.2; have k4 := ct.2.1; have k5 := ct.2.2.1; have k6 := ct.2.2.2.1; clear ct CX FA FF EB A1 A3 A6 A7 X LB OO KL; go_wp2_with fail; exact postB_val (by first | rfl | simp) (Below.refl _ _)
    case s10 =>
      refine BStep.of [] [] (opV (.slice (some ⟨bb, off, none⟩) n c)) (by kernel_rfl) (fun _ _ => by kernel_rfl) rfl ?_
      intro vs wv hB hA
      clear hA
      simp only [fillP]
      have ct := CX.out wv hB; have k0 := ct.1.1; have k1 := ct.1.2.1; have k2 := ct.1.2.2.1; have k3 := ct.1.2.2.2; have k4 := ct.2.1; have k5 := ct.2.2.1; have k6 := ct.2.2.2.1; clear ct CX FA FF EB A1 A3 A6 A7 X LB OO KL; go_wp2_with fail; exact postB_val (by first | rfl | simp) (Below.refl _ _)
    case s11 =>
      refine BStep.of [] [] (opV (.int .i64 q)) (by kernel_rfl) (fun _ _ => by kernel_rfl) rfl ?_
      intro vs wv hB hA
      clear hA
      simp only [fillP]
      have ct := CX.out wv hB; have k0 := ct.1.1; have k1 := ct.1.2.1; have k2 := ct.1.2.2.1; have k3 := ct.1.2.2.2; have k4 := ct.2.1; have k5 := ct.2.2.1; have k6 := ct.2.2.2.1; clear ct CX FA FF EB A1 A3 A6 A7 X LB OO KL; go_wp2_with fail; exact postB_val (by first | rfl | simp) (Below.refl _ _)
    case s12 =>
      refine BStep.of [10, 11] [(59, 10), (60, 11)] (opV (.pointer (some ⟨bb, off + q, none⟩))) (by kernel_rfl) (fun _ _ => by kernel_rfl) rfl ?_
      intro vs wv hB hA
      have h10 : vs 10 = _ := hA.1
      have h11 : vs 11 = _ := hA.2.1
      clear hA
      simp only [fillP, List.setIfInBounds_toArray, List.set_cons_zero, List.set_cons_succ, h10, h11]
      have ct := CX.out wv hB; have k0 := ct.1.1; have k1 := ct.1.2.1; have k2 := ct.1.2.2.1; have k3 := ct.1.2.2.2; have k4 := ct.2.1; have k5 := ct.2.2.1; have k6 := ct.2.2.2.1; clear ct CX FA FF EB A1 A3 A6 A7 X LB OO KL; go_wp2_with fail; exact postB_val (by first | rfl | simp) (Below.refl _ _)
    case s13 =>
      refine BStep.of [12] [(61, 12)] (opV (.int .i64 fq)) (by kernel_rfl) (fun _ _ => by kernel_rfl) rfl ?_
      intro vs wv hB hA
      have h12 : vs 12 = _ := hA.1
      clear hA
      simp only [fillP, List.setIfInBounds_toArray, List.set_cons_zero, List.set_cons_succ, h12]
      have ct := CX.out wv hB; have k0 := ct.1.1; have k1 := ct.1.2.1; have k2 := ct.1.2.2.1; have k3 := ct.1.2.2.2; have k4 := ct.2.1; have k5 := ct.2.2.1; have k6 := ct.2.2.2.1; clear ct CX FA FF EB A1 A3 A6 A7 X LB OO KL; go_wp2_with fail; exact postB_val (by first | rfl | simp) (Below.refl _ _)
    case s14 =>
      refine BStep.of [9, 13] [(58, 9), (62, 13)] (opV (.int .i64 bh)) (by kernel_rfl) (fun _ _ => by kernel_rfl) rfl ?_
      intro vs wv hB hA
      have h9 : vs 9 = _ := hA.1
      have h13 : vs 13 = _ := hA.2.1
      clear hA
      simp only [fillP, List.setIfInBounds_toArray, List.set_cons_zero, List.set_cons_succ, h9, h13]
      have ct := CX.out wv hB; have k0 := ct.1.1; have k1 := ct.1.2.1; have k2 := ct.1.2.2.1; have k3 := ct.1.2.2.2; have k4 := ct.2.1; have k5 := ct.2.2.1; have k6 := ct.2.2.2.1; clear ct CX FA FF EB A1 A3 A6 A7 X LB OO KL; go_wp2_with fail; exact postB_val (by first | rfl | simp) (Below.refl _ _)
    case s15 =>
      refine BStep.of [] [] (opV (.slice (some ⟨bb, off, none⟩) n c)) (by kernel_rfl) (fun _ _ => by kernel_rfl) rfl ?_
      intro vs wv hB hA
      clear hA
      simp only [fillP]
      have ct := CX.out wv hB; have k0 := ct.1.1; have k1 := ct.1.2.1; have k2 := ct.1.2.2.1; have k3 := ct.1.2.2.2; have k4 := ct.2.1; have k5 := ct.2.2.1; have k6 := ct.2.2.2.1; clear ct CX FA FF EB A1 A3 A6 A7 X LB OO KL; go_wp2_with fail; exact postB_val (by first | rfl | simp) (Below.refl _ _)
    case s16 =>
      refine BStep.of [] [] (opV (.agg #[.int .i64 gap, .int .i64 room, .int .u8 j, .bool back])) (by kernel_rfl) (fun _ _ => by kernel_rfl) rfl ?_
      intro vs wv hB hA
      clear hA
      simp only [fillP]
      have ct := CX.out wv hB; have k0 := ct.1.1; have k1 := ct.1.2.1; have k2 := ct.1.2.2.1; have k3 := ct.1.2.2.2; have k4 := ct.2.1; have k5 := ct.2.2.1; have k6 := ct.2.2.2.1; clear ct CX FA FF EB A1 A3 A6 A7 X LB OO KL; go_wp2_with fail; exact postB_val (by first | rfl | simp) (Below.refl _ _)
    case s17 =>
      refine BStep.of [15, 16] [(64, 15), (65, 16)] (opV (.int .i64 free)) (by kernel_rfl) (fun _ _ => by kernel_rfl) rfl ?_
      intro vs wv hB hA
      have h15 : vs 15 = _ := hA.1
      have h16 : vs 16 = _ := hA.2.1
      clear hA
      simp only [fillP, List.setIfInBounds_toArray, List.set_cons_zero, List.set_cons_succ, h15, h16]
      (go_wp2_with (go_at_call 18; (with_reducible refine (KL.out _ (CX.out wv hB).2.2.2.2).mono ?_); rintro e w7 ⟨rfl, hb⟩)); exact postB_val rfl hb
    case s18 =>
      refine BStep.of [0, 1, 2, 17] [(49, 0), (50, 1), (51, 2), (66, 17)] (opV (.int .i64 ah)) (by kernel_rfl) (fun _ _ => by kernel_rfl) rfl ?_
      intro vs wv hB hA
      have h0 : vs 0 = _ := hA.1
      have h1 : vs 1 = _ := hA.2.1
      have h2 : vs 2 = _ := hA.2.2.1
      have h17 : vs 17 = _ := hA.2.2.2.1
      clear hA
      simp only [fillP, List.setIfInBounds_toArray, List.set_cons_zero, List.set_cons_succ, h0, h1, h2, h17]
      have ct := CX.out wv hB; have k0 := ct.1.1; have k1 := ct.1.2.1; have k2 := ct.1.2.2.1; have k3 := ct.1.2.2.2; have k4 := ct.2.1; have k5 := ct.2.2.1; have k6 := ct.2.2.2.1; clear ct CX FA FF EB A1 A3 A6 A7 X LB OO KL; go_wp2_with fail; exact postB_val (by first | rfl | simp) (Below.refl _ _)
    case s19 =>
      refine BStep.of [0, 1, 2, 3, 4, 5, 6, 7, 8, 9, 10, 11, 12, 13, 14, 18] [(49, 0), (50, 1), (51, 2), (52, 3), (53, 4), (54, 5), (55, 6), (56, 7), (57, 8), (58, 9), (59, 10), (60, 11), (61, 12), (62, 13), (63, 14), (8, 18)] (opV (.int .i64 bh)) (by kernel_rfl) (fun _ _ => by kernel_rfl) rfl ?_
      intro vs wv hB hA
      have h0 : vs 0 = _ := hA.1
      have h1 : vs 1 = _ := hA.2.1
      have h2 : vs 2 = _ := hA.2.2.1
      have h3 : vs 3 = _ := hA.2.2.2.1
      have h4 : vs 4 = _ := hA.2.2.2.2.1
      have h5 : vs 5 = _ := hA.2.2.2.2.2.1
      have h6 : vs 6 = _ := hA.2.2.2.2.2.2.1
      have h7 : vs 7 = _ := hA.2.2.2.2.2.2.2.1
      have h8 : vs 8 = _ := hA.2.2.2.2.2.2.2.2.1
      have h9 : vs 9 = _ := hA.2.2.2.2.2.2.2.2.2.1
      have h10 : vs 10 = _ := hA.2.2.2.2.2.2.2.2.2.2.1
      have h11 : vs 11 = _ := hA.2.2.2.2.2.2.2.2.2.2.2.1
      have h12 : vs 12 = _ := hA.2.2.2.2.2.2.2.2.2.2.2.2.1
      have h13 : vs 13 = _ := hA.2.2.2.2.2.2.2.2.2.2.2.2.2.1
      have h14 : vs 14 = _ := hA.2.2.2.2.2.2.2.2.2.2.2.2.2.2.1
      have h18 : vs 18 = _ := hA.2.2.2.2.2.2.2.2.2.2.2.2.2.2.2.1
      clear hA
      simp only [fillP, List.setIfInBounds_toArray, List.set_cons_zero, List.set_cons_succ, h0, h1, h2, h3, h4, h5, h6, h7, h8, h9, h10, h11, h12, h13, h14, h18]
      have ct := CX.out wv hB; have k0 := ct.1.1; have k1 := ct.1.2.1; have k2 := ct.1.2.2.1; have k3 := ct.1.2.2.2; have k4 := ct.2.1; have k5 := ct.2.2.1; have k6 := ct.2.2.2.1; clear ct CX FA FF EB A1 A3 A6 A7 X LB OO KL; go_wp2_with fail; exact postB_val (by first | rfl | simp) (Below.refl _ _)
    case s20 =>
      refine BStep.of [0, 1, 2, 3, 4, 5, 6, 7, 8, 9, 10, 11, 12, 13, 14, 15, 16, 17, 18, 19] [(49, 0), (50, 1), (51, 2), (52, 3), (53, 4), (54, 5), (55, 6), (56, 7), (57, 8), (58, 9), (59, 10), (60, 11), (61, 12), (62, 13), (63, 14), (64, 15), (65, 16), (66, 17), (8, 18), (9, 19)] (opV (.int .i64 free)) (by kernel_rfl) (fun _ _ => by kernel_rfl) rfl ?_
      intro vs wv hB hA
      have h0 : vs 0 = _ := hA.1
      have h1 : vs 1 = _ := hA.2.1
      have h2 : vs 2 = _ := hA.2.2.1
      have h3 : vs 3 = _ := hA.2.2.2.1
      have h4 : vs 4 = _ := hA.2.2.2.2.1
      have h5 : vs 5 = _ := hA.2.2.2.2.2.1
      have h6 : vs 6 = _ := hA.2.2.2.2.2.2.1
      have h7 : vs 7 = _ := hA.2.2.2.2.2.2.2.1
      have h8 : vs 8 = _ := hA.2.2.2.2.2.2.2.2.1
      have h9 : vs 9 = _ := hA.2.2.2.2.2.2.2.2.2.1
      have h10 : vs 10 = _ := hA.2.2.2.2.2.2.2.2.2.2.1
      have h11 : vs 11 = _ := hA.2.2.2.2.2.2.2.2.2.2.2.1
      have h12 : vs 12 = _ := hA.2.2.2.2.2.2.2.2.2.2.2.2.1
      have h13 : vs 13 = _ := hA.2.2.2.2.2.2.2.2.2.2.2.2.2.1
      have h14 : vs 14 = _ := hA.2.2.2.2.2.2.2.2.2.2.2.2.2.2.1
      have h15 : vs 15 = _ := hA.2.2.2.2.2.2.2.2.2.2.2.2.2.2.2.1
      have h16 : vs 16 = _ := hA.2.2.2.2.2.2.2.2.2.2.2.2.2.2.2.2.1
      have h17 : vs 17 = _ := hA.2.2.2.2.2.2.2.2.2.2.2.2.2.2.2.2.2.1
      have h18 : vs 18 = _ := hA.2.2.2.2.2.2.2.2.2.2.2.2.2.2.2.2.2.2.1
      have h19 : vs 19 = _ := hA.2.2.2.2.2.2.2.2.2.2.2.2.2.2.2.2.2.2.2.1
      clear hA
      simp only [fillP, List.setIfInBounds_toArray, List.set_cons_zero, List.set_cons_succ, h0, h1, h2, h3, h4, h5, h6, h7, h8, h9, h10, h11, h12, h13, h14, h15, h16, h17, h18, h19]
      have ct := CX.out wv hB; have k0 := ct.1.1; have k1 := ct.1.2.1; have k2 := ct.1.2.2.1; have k3 := ct.1.2.2.2; have k4 := ct.2.1; have k5 := ct.2.2.1; have k6 := ct.2.2.2.1; clear ct CX FA FF EB A1 A3 A6 A7 X LB OO KL; go_wp2_with fail; exact postB_val (by first | rfl | simp) (Below.refl _ _)
    case fin =>
      refine fin_of [0, 1, 2, 3, 4, 5, 6, 7, 8, 9, 10, 11, 12, 13, 14, 15, 16, 17, 18, 19, 20] [(49, 0), (50, 1), (51, 2), (52, 3), (53, 4), (54, 5), (55, 6), (56, 7), (57, 8), (58, 9), (59, 10), (60, 11), (61, 12), (62, 13), (63, 14), (64, 15), (65, 16), (66, 17), (8, 18), (9, 19), (10, 20)] (by kernel_rfl) (fun _ _ => by kernel_rfl) ?_
      intro vs wv hB hA
      have h0 : vs 0 = _ := hA.1
      have h1 : vs 1 = _ := hA.2.1
      have h2 : vs 2 = _ := hA.2.2.1
      have h3 : vs 3 = _ := hA.2.2.2.1
      have h4 : vs 4 = _ := hA.2.2.2.2.1
      have h5 : vs 5 = _ := hA.2.2.2.2.2.1
      have h6 : vs 6 = _ := hA.2.2.2.2.2.2.1
      have h7 : vs 7 = _ := hA.2.2.2.2.2.2.2.1
      have h8 : vs 8 = _ := hA.2.2.2.2.2.2.2.2.1
      have h9 : vs 9 = _ := hA.2.2.2.2.2.2.2.2.2.1
      have h10 : vs 10 = _ := hA.2.2.2.2.2.2.2.2.2.2.1
      have h11 : vs 11 = _ := hA.2.2.2.2.2.2.2.2.2.2.2.1
      have h12 : vs 12 = _ := hA.2.2.2.2.2.2.2.2.2.2.2.2.1
      have h13 : vs 13 = _ := hA.2.2.2.2.2.2.2.2.2.2.2.2.2.1
      have h14 : vs 14 = _ := hA.2.2.2.2.2.2.2.2.2.2.2.2.2.2.1
      have h15 : vs 15 = _ := hA.2.2.2.2.2.2.2.2.2.2.2.2.2.2.2.1
      have h16 : vs 16 = _ := hA.2.2.2.2.2.2.2.2.2.2.2.2.2.2.2.2.1
      have h17 : vs 17 = _ := hA.2.2.2.2.2.2.2.2.2.2.2.2.2.2.2.2.2.1
      have h18 : vs 18 = _ := hA.2.2.2.2.2.2.2.2.2.2.2.2.2.2.2.2.2.2.1
      have h19 : vs 19 = _ := hA.2.2.2.2.2.2.2.2.2.2.2.2.2.2.2.2.2.2.2.1
      have h20 : vs 20 = _ := hA.2.2.2.2.2.2.2.2.2.2.2.2.2.2.2.2.2.2.2.2.1
      clear hA
      simp only [fillP, List.setIfInBounds_toArray, List.set_cons_zero, List.set_cons_succ, h0, h1, h2, h3, h4, h5, h6, h7, h8, h9, h10, h11, h12, h13, h14, h15, h16, h17, h18, h19, h20]
      go_wp2_with fail; go_meet; exact ⟨rfl, rfl, rfl, Lib.hid hB⟩
  case rest =>
    obtain ⟨rfl, rfl, rfl, B5⟩ := hcut
    obtain ⟨w5, rfl⟩ : ∃ wq : World, wq = wc := ⟨_, rfl⟩
    clear KL wl wb wd
    go_wp2_with fail
    go_loopg [11, 12, 13, 14] n (fun g1 vl vm vi vn wr => ∃ (k : Nat) (lv mv : Int), vl = .int .i64 lv ∧ vm = .int .i64 mv ∧ vi = .int .i64 k ∧ 1 ≤ k ∧ k ≤ n ∧ n - k ≤ g1 ∧ Hid (Inv17 E k lv mv) ∧ Hid (Below w4.heap.size w4 wr))
    case atStart => exact ⟨1, 1099511627776, 0, rfl, rfl, rfl, by omega, by omega, by omega, Lib.hid (Inv17.first E), B5⟩
    case round =>
      obtain ⟨k, lv, mv, rfl, rfl, rfl, hk1, hk, hg1, HI, HB⟩ := hrel
      obtain ⟨wo, hwo⟩ : ∃ wo, wo = wr := ⟨_, rfl⟩
      subst hwo
      obtain ⟨⟨c0, c1, c2, c3⟩, -, -, -, Vo⟩ := CX.out wo HB.out
      by_cases hlt : k < n
      · have hz : (k : Int) < n := by omega
        have hz0 : (0 : Int) ≤ k := by omega
        have wi : IntKind.i64.wrap ((k : Int) + 1) = (k : Int) + 1 := IntWalk.i64_in _ (by omega)
        obtain ⟨p, hp⟩ : ∃ p, p + 1 = k := ⟨k - 1, by omega⟩
        have hpn : p < n := by omega
        have jz : (p : Int) < n := by omega
        have jz0 : (0 : Int) ≤ p := by omega
        have wj : IntKind.i64.wrap ((k : Int) - 1) = (p : Int) := by rw [IntWalk.i64_in _ (by omega)]; omega
        obtain ⟨bb', off', e, -, n0⟩ := Vo.at_ hpn
        injection e with e
        injection e with e1 e2 e3
        subst e1 e2
        obtain ⟨gO1, e, ho⟩ := own_then17 OO.out hpn
        injection e with e
        injection e with e1 e2 e3
        subst e1
        obtain ⟨gO2, e, ho2⟩ := own_then17 OO.out hlt
        injection e with e
        injection e with e1 e2 e3
        subst e1
        have n1 := ho wo HB.out
        have n2 := ho2 wo HB.out
        have S1 := beside_step (f := f) (gap := gap) (room := room) (E := E) (p := p)
        have P1 := FA.out p hpn
        have P2 := FA.out k hlt
        have P3 := FF.out p hpn
        have P4 := EB.out k hlt (by omega)
        have HI2 := Lib.hid (HI.out.next hk1 P4)
        rw [hp] at S1
        clear ho ho2 Vo HI
        generalize atF f gap room false E k = a at n2 S1 P2
        generalize atF f gap room false E p = a' at n1 S1 P1
        generalize f p = y' at n0 S1 P3
        generalize E k = x at S1 P4 HI2
        have wb0 : IntKind.i64.wrap (a - a') = a - a' := IntWalk.i64_in _ (by omega)
        obtain ⟨t1, ht1⟩ : ∃ t1, a - a' = t1 := ⟨_, rfl⟩
        have wb := wb0.trans ht1
        have wc0 : IntKind.i64.wrap (t1 - y') = t1 - y' := IntWalk.i64_in _ (by omega)
        obtain ⟨t2, ht2⟩ : ∃ t2, t1 - y' = t2 := ⟨_, rfl⟩
        have wd := wc0.trans ht2
        have we : IntKind.i64.wrap (t2 - gap) = x := by rw [IntWalk.i64_in _ (by omega)]; omega
        obtain ⟨lv2, hl2⟩ : ∃ u, min lv x = u := ⟨_, rfl⟩
        obtain ⟨mv2, hm2⟩ : ∃ u, max mv x = u := ⟨_, rfl⟩
        rw [hl2, hm2] at HI2
        clear wb0 wc0 ht1 ht2 S1 P1 P2 P3 P4
        go_upto_region 14 with fail
        go_quiet (fail)
        go_wp2_with fail
        go_roundg (n - (k + 1))
        case measure => omega
        case rel => exact ⟨k + 1, lv2, mv2, by first | rfl | rw [hl2], by first | rfl | rw [hm2], by go_num, by omega, by omega, Nat.le_refl _, HI2, Lib.hid (b_nx17 HB.out (drewN_below _ _ _))⟩
      · obtain rfl : k = n := by omega
        have hz : ¬ (k : Int) < k := by omega
        have BE := Lib.hid (b_nx17 (b_nx17 B0.out B4.out) HB.out)
        have EX := EB
        clear EB FA FF Vo CX B5 HB OO
        have hjs : j = 0 ∨ j = 1 ∨ j = 2 ∨ j = 3 ∨ j = 4 := by omega
        rcases hjs with rfl | rfl | rfl | rfl | rfl
        · have h1 := X.out.2.2.2.2 (by omega) (by omega) (by omega) (by omega)
          have a1 : (ah == 0) = true := by rw [A1.out, h1 0 h0n]; rfl
          have a2 : (bh == free) = true := by rw [A6.out, sumB_zero h1]; simp
          go_wp2_with fail
          go_ret
          exact ⟨by first | rfl | simp, BE.out⟩
        · have h1 := X.out.1 rfl
          have a1 : (ah == free) = true := by rw [A1.out, h1 0 h0n]; simp
          have a2 : (bh == 0) = true := by rw [A6.out, sumB_first free h1 _ (Nat.le_refl _), if_neg (by omega)]; simp
          go_wp2_with fail
          go_ret
          exact ⟨by first | rfl | simp, BE.out⟩
        · have h1 := X.out.2.1 rfl
          have b1 : ah = halfZ free := by rw [A1.out, h1 0 h0n, if_pos rfl]
          have b2 : bh = free - halfZ free := by rw [A6.out, sumB_first (halfZ free) h1 _ (Nat.le_refl _), if_neg (by omega)]
          have b3 : -107374182400 ≤ halfZ free ∧ halfZ free ≤ 274877906944 ∧ 2 * halfZ free ≤ free + 1 ∧ free ≤ 2 * halfZ free + 1 := by
            have := LB.out
            unfold halfZ
            split <;> omega
          have d1 : ((free : Int) == free) = true := by simp
          have wx1 : IntKind.i64.wrap (ah + bh) = free := by rw [IntWalk.i64_in _ (by have := LB.out; omega)]; omega
          have wy0 : IntKind.i64.wrap (ah - bh) = ah - bh := IntWalk.i64_in _ (by have := LB.out; omega)
          obtain ⟨u1, hu1⟩ : ∃ u, ah - bh = u := ⟨_, rfl⟩
          have wy := wy0.trans hu1
          have wz0 : IntKind.i64.wrap (bh - ah) = bh - ah := IntWalk.i64_in _ (by have := LB.out; omega)
          obtain ⟨u2, hu2⟩ : ∃ u, bh - ah = u := ⟨_, rfl⟩
          have wz := wz0.trans hu2
          have d2 : decide (u1 ≤ 1) = true := decide_eq_true (by omega)
          have d3 : decide (u2 ≤ 1) = true := decide_eq_true (by omega)
          clear b1 b2 b3 wy0 wz0 hu1 hu2 h1
          go_wp2_with fail
          go_ret
          exact ⟨by first | rfl | simp, BE.out⟩
        · by_cases hl : free ≤ 0
          · obtain ⟨b1, b2, b3⟩ := asked0 X.out (.inl rfl) hl h0n HI.out
            have d0 : decide (free ≤ 0) = true := decide_eq_true hl
            have a1 : (ah == 0) = true := by rw [A1.out, b1]; rfl
            have a2 : (bh == free) = true := by rw [A6.out, b2]; simp
            have a3 : (mv == 0) = true := by rw [b3]; rfl
            clear b1 b2 b3
            go_wp2_with fail
            go_ret
            exact ⟨by first | rfl | simp, BE.out⟩
          · obtain ⟨b1, b2⟩ := asked3 X.out (by omega) h0n HI.out
            have d0 : decide (free ≤ 0) = false := decide_eq_false hl
            have a1 : (ah == 0) = true := by rw [A1.out, b1]; rfl
            by_cases hk1' : k = 1
            · have a2 : ((q : Int) == 0) = true := by simp; omega
              clear b1 b2 hk1'
              go_wp2_with fail
              go_ret
              exact ⟨by first | rfl | simp, BE.out⟩
            · have a2 : ((q : Int) == 0) = false := by simp; omega
              have b3 := b2.resolve_left hk1'
              have a3 : (bh == 0) = true := by rw [A6.out, b3.1]; rfl
              have LM : Hid (0 ≤ mv ∧ mv ≤ 1099511627777 ∧ -2 ≤ lv ∧ lv ≤ 1099511627776) := Lib.hid (HI.out.bd (fun i hi h0 => EX.out i hi h0))
              have wy0 : IntKind.i64.wrap (mv - lv) = mv - lv := IntWalk.i64_in _ (by have := LM.out; omega)
              obtain ⟨u1, hu1⟩ : ∃ u, mv - lv = u := ⟨_, rfl⟩
              have wy := wy0.trans hu1
              have d1 : decide (u1 ≤ 1) = true := decide_eq_true (by omega)
              clear b1 b2 b3 hk1' wy0 hu1
              go_wp2_with fail
              go_ret
              exact ⟨by first | rfl | simp, BE.out⟩
        · by_cases hl : free ≤ 0
          · obtain ⟨b1, b2, b3⟩ := asked0 X.out (.inr rfl) hl h0n HI.out
            have d0 : decide (free ≤ 0) = true := decide_eq_true hl
            have a1 : (ah == 0) = true := by rw [A1.out, b1]; rfl
            have a2 : (bh == free) = true := by rw [A6.out, b2]; simp
            have a3 : (mv == 0) = true := by rw [b3]; rfl
            clear b1 b2 b3
            go_wp2_with fail
            go_ret
            exact ⟨by first | rfl | simp, BE.out⟩
          · have b := asked4 X.out (by omega) (by have := LB.out; omega) h0n HI.out
            rw [← A1.out, ← A6.out] at b
            have d0 : decide (free ≤ 0) = false := decide_eq_false hl
            have LM : Hid (0 ≤ mv ∧ mv ≤ 1099511627777 ∧ -2 ≤ lv ∧ lv ≤ 1099511627776) := Lib.hid (HI.out.bd (fun i hi h0 => EX.out i hi h0))
            obtain ⟨p1, hp1⟩ : ∃ u, min lv ah = u := ⟨_, rfl⟩
            obtain ⟨p2, hp2⟩ : ∃ u, min p1 bh = u := ⟨_, rfl⟩
            obtain ⟨r1, hr1⟩ : ∃ u, max mv ah = u := ⟨_, rfl⟩
            obtain ⟨r2, hr2⟩ : ∃ u, max r1 bh = u := ⟨_, rfl⟩
            have R : Hid (r2 - p2 ≤ 1 ∧ -4398046511104 ≤ r2 - p2) := Lib.hid (by
              have := LM.out
              have := A3.out
              have := A7.out
              omega)
            have wy0 : IntKind.i64.wrap (r2 - p2) = r2 - p2 := IntWalk.i64_in _ (by have := R.out; omega)
            obtain ⟨u1, hu1⟩ : ∃ u, r2 - p2 = u := ⟨_, rfl⟩
            have wy := wy0.trans hu1
            have d1 : decide (u1 ≤ 1) = true := decide_eq_true (by have := R.out; omega)
            have d2 : decide (bh ≤ ah) = true := decide_eq_true (by omega)
            clear b wy0 hu1
            go_wp2_with fail
            go_ret
            exact ⟨by first | rfl | simp, BE.out⟩
end Go.Proofs.Ytpjhhndjbpegcaa
