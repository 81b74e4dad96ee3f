/-
  The law FlexBack: of any Main that answers as is asked.
-/
import Derived.Test.YtpjhhndjbpegcaaTold17
import Derived.Test.YtpjhhndjbpegcaaAwake17
namespace Go.Proofs.Ytpjhhndjbpegcaa
open Go.RowKit

theorem back_sum {f : Nat → Int} {n : Nat} {gap room left j : Int} {E E' : Nat → Int} (h : Extra n left j E) (h' : Extra n left j E') : ∀ i, i < n → atF f gap room false E i + atF f gap room true E' i + f i = room := fun i hi => by
  unfold atF
  rw [endP_congr (h.uniq h') (i + 1) (by omega)]
  simp only [Bool.false_eq_true, if_false, if_true]
  omega
set_option maxRecDepth 100000 in
set_option maxHeartbeats 8000000 in
theorem back17 (hM : MainOK 12) (hA : AwakeOK17 16) (A : Option Addr) (n c : Nat) (f : Nat → Int) (gap room j : Int) (back : Bool) (w : World) (hv : Ints w A n f) (hc : n ≤ c ∧ c ≤ 9223372036854775807) (hj : 0 ≤ j ∧ j ≤ 255) :
    Calls Try.prog 7 #[.slice A n c, howV gap room j back] w fun e w' => e = .returned (.bool true) ∧ Below w.heap.size w w' := by
  have KA := Lib.hid (fun W => hA W)
  have HV := Lib.hid hv
  obtain ⟨bg, hbg⟩ : ∃ b, decide (Near17 f n gap room j) = b := ⟨_, rfl⟩
  have KN := Lib.hid (fun W (hW : Ints W A n f) => near17 A n c f gap room j back W hW hj bg hbg)
  have KM0 := Lib.hid (fun (h : Nigh17 f n gap room j) b W (hW : Ints W A n f) => main_near17 hM A n c f gap room j b W hW hc h)
  have B0 : Hid (Below w.heap.size w (w.alloc (.cells #[.int .i64 gap, .int .i64 room, .int .u8 j, .bool back] 24))) := Lib.hid ((Below.refl _ w).alloc (Nat.le_refl _) _)
  have CT := Lib.hid (how_new w gap room j back)
  clear hv hA hM hc
  unfold howV at KN ⊢
  unfold HowAt at CT
  go_enter Try.func7, Try.ntmps7
  go_upto_region 1 with fail
  have V1 := Lib.hid (HV.out.below B0.out)
  generalize w.alloc (.cells #[.int .i64 gap, .int .i64 room, .int .u8 j, .bool back] 24) = w1 at B0 CT V1 ⊢
  generalize w.heap.size = g at CT ⊢
  clear HV
  go_upto_region 3 with (go_at_call 16; (with_reducible refine (KA.out _).mono ?_); rintro e w2 ⟨rfl, hb⟩; have B2 := Lib.hid hb; clear hb)
  obtain ⟨c0, c1, c2, c3⟩ := CT.out w2 B2.out
  have V2 := Lib.hid (V1.out.below B2.out)
  cases bg with
  | false =>
    clear KM0 KA
    go_wp2_with (go_at_call 17; (with_reducible refine (KN.out _ V2.out).mono ?_); rintro e w3 ⟨rfl, hb⟩; have B3 := Lib.hid (b_nx17 B2.out hb); clear hb)
    go_ret
    exact ⟨rfl, b_nx17 B0.out B3.out⟩
  | true =>
  have NR := Lib.hid (of_decide_eq_true hbg)
  have hn1 : n ≤ 200 := NR.out.hn
  have hr1 : 0 ≤ room ∧ room ≤ 274877906944 := NR.out.hroom
  have KM := Lib.hid (KM0.out NR.out.nigh)
  clear KM0 KA hbg
  go_upto_region 5 with (go_at_call 17; (with_reducible refine (KN.out _ V2.out).mono ?_); rintro e w3 ⟨rfl, hb⟩; have B3 := Lib.hid (b_nx17 B2.out hb); clear hb)
  clear c0 c1 c2 c3
  obtain ⟨c0, c1, c2, c3⟩ := CT.out w3 B3.out
  have V3 := Lib.hid (V1.out.below B3.out)
  go_upto_region 6 with (go_at_call 12; (with_reducible refine (KM.out _ _ V3.out).mono ?_); rintro e w4 ⟨AO, cO, E, rfl, OO, EE, hb⟩; have D4 := Lib.hid hb; have B4 := Lib.hid (b_nx17 B3.out hb); clear hb)
  clear c0 c1 c2 c3
  obtain ⟨c0, c1, c2, c3⟩ := CT.out w4 B4.out
  have V4 := Lib.hid (V1.out.below B4.out)
  go_upto_region 7 with (go_at_call 12; (with_reducible refine (KM.out _ _ V4.out).mono ?_); rintro e w5 ⟨AP, cP, E', rfl, OP, EP, hb⟩; have D5 := Lib.hid hb; have B5 := Lib.hid (b_nx17 B4.out hb); clear hb)
  clear c0 c1 c2 c3
  have V5 := Lib.hid (V1.out.below B5.out)
  have SU := Lib.hid (fun i (hi : i < n) => back_sum (f := f) (gap := gap) (room := room) (EE.out (by omega)) (EP.out (by omega)) i hi)
  have FA := Lib.hid (fun i (hi : i < n) => NR.out.nigh.fit false (EE.out (by omega)) i hi)
  have FB := Lib.hid (fun i (hi : i < n) => NR.out.nigh.fit true (EP.out (by omega)) i hi)
  have FF := Lib.hid NR.out.hf
  clear KN KM V2 V3 V4 B2 NR EE EP
  go_wp2_with fail
  go_loopg [9] n (fun g1 vi wr => ∃ k : Nat, vi = .int .i64 k ∧ k ≤ n ∧ n - k ≤ g1 ∧ Hid (Below w5.heap.size w5 wr))
  case atStart => exact ⟨0, rfl, by omega, by omega, Lib.hid (Below.refl _ _)⟩
  case round =>
    obtain ⟨k, rfl, hk, hg1, HB⟩ := hrel
    obtain ⟨wo, hwo⟩ : ∃ wo, wo = wr := ⟨_, rfl⟩
    subst hwo
    by_cases hlt : k < n
    · have hz : (k : Int) < n := by omega
      have hz0 : (0 : Int) ≤ k := by omega
      have wi : IntKind.i64.wrap ((k : Int) + 1) = (k : Int) + 1 := IntWalk.i64_in _ (by omega)
      have Vo := Lib.hid (V5.out.below HB.out)
      obtain ⟨bb, off, rfl, -, m0⟩ := Vo.out.at_ hlt
      obtain ⟨gO, rfl, ho⟩ := own_then17 OO.out hlt
      obtain ⟨gP, rfl, hp⟩ := own_then17 OP.out hlt
      have m1 := ho wo (b_nx17 D5.out HB.out)
      have m2 := hp wo HB.out
      obtain ⟨c0, c1, c2, c3⟩ := CT.out wo (b_nx17 B5.out HB.out)
      have S1 := SU.out k hlt
      have F1 := FA.out k hlt
      have F2 := FB.out k hlt
      have F3 := FF.out k hlt
      clear ho hp c0 c2 c3
      generalize atF f gap room false E k = a at m1 S1 F1
      generalize atF f gap room true E' k = b at m2 S1 F2
      generalize f k = y at m0 S1 F3
      have wa0 : IntKind.i64.wrap (a + b) = a + b := IntWalk.i64_in _ (by omega)
      obtain ⟨t, ht⟩ : ∃ t, a + b = t := ⟨_, rfl⟩
      have wa := wa0.trans ht
      have wb : IntKind.i64.wrap (t + y) = room := by rw [IntWalk.i64_in _ (by omega)]; omega
      clear wa0 ht S1 F1 F2 F3
      go_upto_region 12 with fail
      go_quiet (fail)
      go_wp2_with fail
      go_roundg (n - (k + 1))
      case measure => omega
      case rel => exact ⟨k + 1, by go_num, by omega, Nat.le_refl _, Lib.hid (b_nx17 HB.out (drewN_below _ _ _))⟩
    · obtain rfl : k = n := by omega
      have hz : ¬ (k : Int) < k := by omega
      go_wp2_with fail
      go_ret
      exact ⟨rfl, b_nx17 B0.out (b_nx17 B5.out HB.out)⟩
end Go.Proofs.Ytpjhhndjbpegcaa
