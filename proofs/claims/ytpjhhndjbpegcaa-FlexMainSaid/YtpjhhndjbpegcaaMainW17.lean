/-
  The law FlexMain, of any Main that answers as is asked.
-/
import Derived.Test.YtpjhhndjbpegcaaMain17
import Derived.Test.YtpjhhndjbpegcaaOrdersW15
namespace Go.Proofs.Ytpjhhndjbpegcaa
open Go.RowKit

theorem main_bd {f : Nat → Int} {n : Nat} {gap room j : Int} {back : Bool} {o : List Int} {z : Int} (h : MainIs f n gap room j back o z) : o.length ≤ n ∧ ∀ i, i < o.length → -9223372036854775808 ≤ o.getD i 0 ∧ o.getD i 0 ≤ 9223372036854775807 := by
  have z : ∀ i, i < ([] : List Int).length → -9223372036854775808 ≤ ([] : List Int).getD i 0 ∧ ([] : List Int).getD i 0 ≤ 9223372036854775807 := fun i hi => absurd hi (by simp)
  cases h with
  | bad => exact ⟨by simp, z⟩
  | none => exact ⟨by simp, z⟩
  | far => exact ⟨by simp, z⟩
  | ok E h hn hE hf =>
    rw [listG_len]
    refine ⟨Nat.le_refl _, fun i hi => ?_⟩
    have e : (listG (atF f gap room back E) n).getD i 0 = atF f gap room back E i := by
      rw [List.getD_eq_getElem?_getD, listG_get _ hi]
      rfl
    rw [e]
    have := fit_of.1 (hf i hi)
    omega
theorem own_ints17 {W : World} {B m c : Nat} {A : Option Addr} {o : List Int} (h : ownsI17 W B (.slice A m c) o) (hm : o.length = m) (hb : ∀ i, i < o.length → -9223372036854775808 ≤ o.getD i 0 ∧ o.getD i 0 ≤ 9223372036854775807) : Ints W A m (fun i => o.getD i 0) := by
  subst hm
  exact Ints.of_own h (fun i hi => by rw [List.getD_eq_getElem?_getD, List.getElem?_eq_getElem hi]; rfl) hb
set_option maxRecDepth 100000 in
set_option maxHeartbeats 8000000 in
theorem mainW17 (hM : MainOK 12) (A : Option Addr) (n c : Nat) (f : Nat → Int) (gap room j : Int) (back : Bool) (w : World) (hv : Ints w A n f) (hA : A = none → n = 0 ∧ c = 0) (hc : n ≤ c ∧ c ≤ 9223372036854775807) (hg : I64' gap) (hr : I64' room) (hj : 0 ≤ j ∧ j ≤ 255) :
    Calls Try.prog 3 #[.slice A n c, howV gap room j back] w fun e w' => e = .returned (.bool true) ∧ Below w.heap.size w w' := by
  have HV := Lib.hid hv
  have B0 : Hid (Below w.heap.size w (w.alloc (.cells #[.int .i64 gap, .int .i64 room, .int .u8 j, .bool back] 24))) := Lib.hid ((Below.refl _ w).alloc (Nat.le_refl _) _)
  have G0 : Hid ((w.alloc (.cells #[.int .i64 gap, .int .i64 room, .int .u8 j, .bool back] 24)).heap[w.heap.size]? = some (.cells #[.int .i64 gap, .int .i64 room, .int .u8 j, .bool back] 24)) := Lib.hid (heap_alloc_new w _)
  by_cases hbig : 400 < n
  · have d1 : decide ((400 : Int) < n) = true := decide_eq_true (by omega)
    have d1n : decide (400 < n) = true := decide_eq_true hbig
    clear hv hM hbig
    unfold howV
    go_enter Try.func3, Try.ntmps3
    go_wp2_with fail
    go_ret
    exact ⟨rfl, B0.out⟩
  have d1 : decide ((400 : Int) < n) = false := decide_eq_false (by omega)
  have d1n : decide (400 < n) = false := decide_eq_false hbig
  have hn : n ≤ 400 := by omega
  have KC := Lib.hid (fun W (hW : Ints W A n f) => copy15 A n c f W hW (by omega) hA)
  have KR := Lib.hid (fun W (hW : Ints W A n f) => refMain17 A n c f gap room j back W hW (by omega) hc hg hr hj)
  have KM := Lib.hid (fun A' c' W (hW : Ints W A' n f) (hc' : n ≤ c' ∧ c' ≤ 9223372036854775807) => hM A' n c' f gap room j back W hW (by omega) hc' hg hr hj)
  have FB := Lib.hid (fun i (hi : i < n) => hv.bd hi)
  have KS := Lib.hid (fun A' c' W (h1 : Ints W A' n f) (h2 : Ints W A n f) => same_yes A' A n c' c f W h1 h2 (by omega))
  clear hv hM hbig hA hg hr
  unfold howV
  go_enter Try.func3, Try.ntmps3
  go_upto_region 1 with fail
  have V1 := Lib.hid (HV.out.below B0.out)
  have GB : Hid (∀ W, Below (w.alloc (.cells #[.int .i64 gap, .int .i64 room, .int .u8 j, .bool back] 24)).heap.size (w.alloc (.cells #[.int .i64 gap, .int .i64 room, .int .u8 j, .bool back] 24)) W → W.cell? ⟨w.heap.size, 0, none⟩ = some (.int .i64 gap) ∧ W.cell? ⟨w.heap.size, 1, none⟩ = some (.int .i64 room) ∧ W.cell? ⟨w.heap.size, 2, none⟩ = some (.int .u8 j) ∧ W.cell? ⟨w.heap.size, 3, none⟩ = some (.bool back)) := Lib.hid (fun W hW => by
    have h := (hW.block w.heap.size (by rw [World.size_alloc]; omega)).trans G0.out
    refine ⟨?_, ?_, ?_, ?_⟩ <;> simp [World.cell?, h])
  generalize w.alloc (.cells #[.int .i64 gap, .int .i64 room, .int .u8 j, .bool back] 24) = w1 at B0 G0 V1 GB ⊢
  obtain ⟨g, hg⟩ : ∃ g, w.heap.size = g := ⟨_, rfl⟩
  rw [hg] at GB ⊢
  clear G0 HV hg
  go_upto_region 4 with (go_at_call 10; (with_reducible refine (KC.out _ V1.out).mono ?_); rintro e w2 ⟨A2, c2, rfl, hO, hb⟩; have O2 := Lib.hid (own_ints15 hO FB.out); have C2 := Lib.hid (own_form hO); have B2 := Lib.hid hb; have V2 := Lib.hid (V1.out.below hb); clear hO hb KC)
  have HC2 : Hid (n ≤ c2 ∧ c2 ≤ 9223372036854775807) := Lib.hid (by
    obtain ⟨A', c', e, h1, h2, -⟩ := C2.out
    injection e with e1 e2 e3
    rw [firstF_len] at h1
    subst e3
    exact ⟨h1, h2⟩)
  clear C2
  have k4 := GB.out w2 B2.out
  obtain ⟨k0, k1, k2, k3⟩ := k4
  go_upto_region 5 with (go_at_call 11; (with_reducible refine (KR.out _ V2.out).mono ?_); rintro e w3 ⟨v3, o, z, rfl, hI, hO, hb⟩; have I3 := Lib.hid hI; have R3 := Lib.hid hO; have B3 := Lib.hid (b_nx17 B2.out hb); have V3 := Lib.hid (V2.out.below hb); have O3 := Lib.hid (O2.out.below hb); clear hI hO hb KR)
  clear k0 k1 k2 k3 V2 O2 B2
  obtain ⟨A3, c3, e3, hc31, hc32, -⟩ := own_form R3.out
  subst e3
  obtain ⟨m, hm⟩ : ∃ m, o.length = m := ⟨_, rfl⟩
  have LM := Lib.hid hm
  have MB := Lib.hid (main_bd I3.out)
  have hmn : m ≤ 400 := by have := MB.out.1; omega
  rw [hm] at R3 ⊢
  have W3 := Lib.hid (own_ints17 R3.out hm MB.out.2)
  clear R3 hc31 hc32 hm
  go_wp2_with fail
  go_loopg [8, 9, 10, 11] 2 (fun g1 v8 v9 v10 v11 wr => ∃ k : Nat, v8 = .int .i64 k ∧ k ≤ 2 ∧ 2 - k ≤ g1 ∧ Hid (Below w3.heap.size w3 wr))
  case atStart => exact ⟨0, rfl, by omega, by omega, Lib.hid (Below.refl _ _)⟩
  case round =>
    obtain ⟨k, rfl, hk, hg1, HW⟩ := hrel
    obtain ⟨wo, hwo⟩ : ∃ wo, wo = wr := ⟨_, rfl⟩
    subst hwo
    by_cases hlt : k < 2
    · have hz : decide ((k : Int) < 2) = true := decide_eq_true (by omega)
      have hzn : decide (k < 2) = true := decide_eq_true hlt
      have wk : IntKind.i64.wrap ((k : Int) + 1) = ((k + 1 : Nat) : Int) := by rw [IntWalk.i64_in _ (by omega)]; rfl
      have V7 := Lib.hid (V3.out.below HW.out)
      have O7 := Lib.hid (O3.out.below HW.out)
      have T7 := Lib.hid (W3.out.below HW.out)
      have k4 := GB.out wo (b_nx17 B3.out HW.out)
      obtain ⟨k0, k1, k2, k3⟩ := k4
      go_upto_region 9 with (go_at_call 12; (with_reducible refine (KM.out _ _ _ O7.out HC2.out).mono ?_); rintro e w8 ⟨v8, o8, z8, rfl, hI, hO, hb⟩; have I8 := Lib.hid hI; have R8 := Lib.hid hO; have D8 := Lib.hid hb; have W8 := Lib.hid (b_nx17 HW.out hb); have V8 := Lib.hid (V7.out.below hb); have O8 := Lib.hid (O7.out.below hb); have T8 := Lib.hid (T7.out.below hb); clear hI hO hb)
      clear k0 k1 k2 k3 V7 O7 T7
      obtain ⟨e1, e2⟩ := I8.out.uniq I3.out
      subst e1 e2
      obtain ⟨A8, c8, e8, -, -, -⟩ := own_form R8.out
      rw [LM.out] at e8
      subst e8
      have P8 := Lib.hid (own_ints17 R8.out LM.out MB.out.2)
      have SS := Lib.hid (fun W (h1 : Ints W A8 m (fun i => o8.getD i 0)) (h2 : Ints W A3 m (fun i => o8.getD i 0)) => same_yes A8 A3 m c8 c3 _ W h1 h2 (by omega))
      have zz : (z8 != z8) = false := by simp
      clear I8
      go_upto_region 11 with (first
        | (go_at_call 13; (with_reducible refine (SS.out _ P8.out T8.out).mono ?_); rintro e w9 ⟨rfl, hd⟩; have E9 := Lib.hid hd.below; have R9 := Lib.hid (own_keep R8.out hd.below); have W9 := Lib.hid (b_nx17 W8.out hd.below); have V9 := Lib.hid (V8.out.below hd.below); have O9 := Lib.hid (O8.out.below hd.below); clear hd SS)
        | (go_at_call 13; (with_reducible refine (KS.out _ _ _ O9.out V9.out).mono ?_); rintro e w10 ⟨rfl, hd⟩; have R10 := Lib.hid (own_keep R9.out hd.below); have W10 := Lib.hid (b_nx17 W9.out hd.below); clear hd))
      clear R8 W8 V8 O8 T8 P8 R9 W9 V9 O9 E9 zz
      go_wp2_with fail
      go_loopg [11] m (fun g2 v11 wr => ∃ (i : Nat) (L : List Int), v11 = .int .i64 i ∧ i ≤ m ∧ m - i ≤ g2 ∧ Hid (L.length = m) ∧ Hid (wr.ownsRow wo.heap.size 3 1 (.slice A8 m c8) m (L.map (Value.int .i64))) ∧ Hid (Below w3.heap.size w3 wr))
      case atStart => exact ⟨0, o8, rfl, by omega, by omega, LM, Lib.hid (by have h := R10.out; rw [LM.out] at h; exact h), W10⟩
      case round =>
        obtain ⟨i, L, rfl, hi, hg2, HL, HO, HX⟩ := hrel
        obtain ⟨wi, hwi⟩ : ∃ wi, wi = wr := ⟨_, rfl⟩
        subst hwi
        by_cases hil : i < m
        · have hzi : (i : Int) < m := by omega
          have hz0 : (0 : Int) ≤ i := by omega
          have wi1 : IntKind.i64.wrap ((i : Int) + 1) = ((i + 1 : Nat) : Int) := by rw [IntWalk.i64_in _ (by omega)]; rfl
          obtain ⟨q, cq, e1, -, -, hq1, -, hq2, hq3⟩ := own_at HO.out (by omega)
          injection e1 with e1 e2 e3
          subst e1 e3
          clear e2
          have c0 := hq2 i (.int .i64 (L.getD i 0)) (by rw [List.getElem?_map, List.getD_eq_getElem?_getD, List.getElem?_eq_getElem (by rw [HL.out]; exact hil)]; rfl)
          have f0 := hq3 i
          have OX : Hid ((wi.setCell ⟨q, i, none⟩ (.int .i64 (-5))).ownsRow wo.heap.size 3 1 (.slice (some ⟨q, 0, none⟩) m c8) m ((L.set i (-5)).map (Value.int .i64))) := Lib.hid (by
            have h := (own_set HO.out i (.int .i64 (-5))).1
            rw [← List.map_set] at h
            exact h)
          have BX : Hid (Below w3.heap.size w3 (wi.setCell ⟨q, i, none⟩ (.int .i64 (-5)))) := Lib.hid (HX.out.setCell (p := ⟨q, i, none⟩) (Nat.le_trans HW.out.size hq1) _)
          have LX : Hid ((L.set i (-5)).length = m) := Lib.hid (by rw [List.length_set]; exact HL.out)
          clear hq2 hq3
          generalize L.getD i 0 = x at c0
          go_wp2_with fail
          go_roundg (m - (i + 1))
          case measure => omega
          case rel => exact ⟨i + 1, _, by go_num, by omega, Nat.le_refl _, LX, OX, BX⟩
        · obtain rfl : i = m := by omega
          have hzi : decide ((i : Int) < i) = false := decide_eq_false (by omega)
          go_wp2_with fail
          go_roundg (2 - (k + 1))
          case measure => omega
          case rel => exact ⟨k + 1, by go_num, by omega, Nat.le_refl _, HX⟩
    · obtain rfl : k = 2 := by omega
      go_wp2_with fail
      go_ret
      exact ⟨rfl, b_nx17 B0.out (b_nx17 B3.out HW.out)⟩
end Go.Proofs.Ytpjhhndjbpegcaa
