/-
  The law FlexMore: of any Main that answers as is asked.
-/
import Derived.Test.YtpjhhndjbpegcaaTold17
import Derived.Test.YtpjhhndjbpegcaaAwake17
namespace Go.Proofs.Ytpjhhndjbpegcaa
open Go.RowKit

theorem at_end {f : Nat → Int} {n : Nat} {gap room left : Int} {E : Nat → Int} (h : Extra n left 1 E) : ∀ i, i < n → atF f gap room false E i = sumB f i + left + gapsZ gap (i + 1) := fun i hi => by
  unfold atF
  simp only [Bool.false_eq_true, if_false]
  rw [endP_sum, sumB_first left (h.1 rfl) (i + 1) (by omega), if_neg (Nat.succ_ne_zero i), sumB]
  omega
theorem at_start {f : Nat → Int} {n : Nat} {gap room left : Int} {E : Nat → Int} (h : Extra n left 0 E) : ∀ i, i < n → atF f gap room false E i = sumB f i + gapsZ gap (i + 1) := fun i hi => by
  unfold atF
  simp only [Bool.false_eq_true, if_false]
  rw [endP_sum, sumB_zero (f := E) (n := i + 1) (fun k hk => h.2.2.2.2 (by omega) (by omega) (by omega) (by omega) k (by omega)), sumB]
  omega
set_option maxRecDepth 100000 in
set_option maxHeartbeats 8000000 in
theorem more17 (hM : MainOK 12) (hA : AwakeOK17 16) (A : Option Addr) (n c : Nat) (f : Nat → Int) (gap room j : Int) (back : Bool) (more : Int) (w : World) (hv : Ints w A n f) (hc : n ≤ c ∧ c ≤ 9223372036854775807) (hj : 0 ≤ j ∧ j ≤ 255) :
    Calls Try.prog 9 #[.slice A n c, howV gap room j back, .int .i64 more] w fun e w' => e = .returned (.bool true) ∧ Below w.heap.size w w' := by
  have KA := Lib.hid (fun W => hA W)
  have HV := Lib.hid hv
  obtain ⟨bg, hbg⟩ : ∃ b, decide (Near17 f n gap room j) = b := ⟨_, rfl⟩
  have KN := Lib.hid (fun W (hW : Ints W A n f) => near17 A n c f gap room j back W hW hj bg hbg)
  have KM := Lib.hid (fun room j (h : Nigh17 f n gap room j) W (hW : Ints W A n f) => main_near17 hM A n c f gap room j false W hW hc h)
  have B0 : Hid (Below w.heap.size w (w.alloc (.cells #[.int .i64 gap, .int .i64 room, .int .u8 j, .bool back] 24))) := Lib.hid ((Below.refl _ w).alloc (Nat.le_refl _) _)
  have CT := Lib.hid (how_new w gap room j back)
  clear hv hA hM hc
  unfold howV at KN ⊢
  unfold HowAt at CT
  go_enter Try.func9, Try.ntmps9
  go_upto_region 1 with fail
  have V1 := Lib.hid (HV.out.below B0.out)
  generalize w.alloc (.cells #[.int .i64 gap, .int .i64 room, .int .u8 j, .bool back] 24) = w1 at B0 CT V1 ⊢
  generalize w.heap.size = g at CT ⊢
  clear HV
  go_upto_region 3 with (go_at_call 16; (with_reducible refine (KA.out _).mono ?_); rintro e w2 ⟨rfl, hb⟩; have B2 := Lib.hid hb; clear hb)
  obtain ⟨c0, c1, c2, c3⟩ := CT.out w2 B2.out
  have V2 := Lib.hid (V1.out.below B2.out)
  cases bg with
  | false =>
    clear KM KA
    go_wp2_with (go_at_call 17; (with_reducible refine (KN.out _ V2.out).mono ?_); rintro e w3 ⟨rfl, hb⟩; have B3 := Lib.hid (b_nx17 B2.out hb); clear hb)
    go_ret
    exact ⟨rfl, b_nx17 B0.out B3.out⟩
  | true =>
  have NR := Lib.hid (of_decide_eq_true hbg)
  clear KA hbg
  by_cases q0 : more < 0
  · have dq0 : decide (more < 0) = true := decide_eq_true q0
    clear q0 KM NR
    go_wp2_with (go_at_call 17; (with_reducible refine (KN.out _ V2.out).mono ?_); rintro e w3 ⟨rfl, hb⟩; have B3 := Lib.hid (b_nx17 B2.out hb); clear hb)
    go_ret
    exact ⟨rfl, b_nx17 B0.out B3.out⟩
  have dq0 : decide (more < 0) = false := decide_eq_false q0
  by_cases q1 : 268435456 < more
  · have dq1 : decide (268435456 < more) = true := decide_eq_true q1
    clear q0 q1 KM NR
    go_wp2_with (go_at_call 17; (with_reducible refine (KN.out _ V2.out).mono ?_); rintro e w3 ⟨rfl, hb⟩; have B3 := Lib.hid (b_nx17 B2.out hb); clear hb)
    go_ret
    exact ⟨rfl, b_nx17 B0.out B3.out⟩
  have dq1 : decide (268435456 < more) = false := decide_eq_false q1
  have MB : Hid (0 ≤ more ∧ more ≤ 268435456) := Lib.hid ⟨by omega, by omega⟩
  clear q0 q1
  go_upto_region 5 with (go_at_call 17; (with_reducible refine (KN.out _ V2.out).mono ?_); rintro e w3 ⟨rfl, hb⟩; have B3 := Lib.hid (b_nx17 B2.out hb); clear hb)
  clear c0 c1 c2 c3 dq0 dq1
  obtain ⟨c0, c1, c2, c3⟩ := CT.out w3 B3.out
  have V3 := Lib.hid (V1.out.below B3.out)
  have hn1 : n ≤ 200 := NR.out.hn
  obtain ⟨room2, hr2⟩ : ∃ r, room + more = r := ⟨_, rfl⟩
  have N1 : Hid (Nigh17 f n gap room 1) := Lib.hid (by have h := NR.out.nigh; exact ⟨h.hn, h.hgap, h.hroom, by omega, h.hf⟩)
  have N0 : Hid (Nigh17 f n gap room 0) := Lib.hid (by have h := NR.out.nigh; exact ⟨h.hn, h.hgap, h.hroom, by omega, h.hf⟩)
  have M1 : Hid (Nigh17 f n gap room2 1) := Lib.hid (by have h := NR.out; have := h.hroom; have := MB.out; exact ⟨h.hn, h.hgap, by omega, by omega, h.hf⟩)
  have M0 : Hid (Nigh17 f n gap room2 0) := Lib.hid (by have h := NR.out; have := h.hroom; have := MB.out; exact ⟨h.hn, h.hgap, by omega, by omega, h.hf⟩)
  have wr2 : IntKind.i64.wrap (room + more) = room2 := by rw [IntWalk.i64_in _ (by have := NR.out.hroom; have := MB.out; omega)]; exact hr2
  have HR := Lib.hid hr2
  clear hr2
  go_upto_region 6 with (go_at_call 12; (with_reducible refine (KM.out _ _ N1.out _ V3.out).mono ?_); rintro e w4 ⟨AO, cO, E, rfl, OO, EE, hb⟩; have D4 := Lib.hid hb; have B4 := Lib.hid (b_nx17 B3.out hb); clear hb)
  clear c0 c1 c2 c3
  obtain ⟨c0, c1, c2, c3⟩ := CT.out w4 B4.out
  have V4 := Lib.hid (V1.out.below B4.out)
  go_upto_region 7 with (go_at_call 12; (with_reducible refine (KM.out _ _ M1.out _ V4.out).mono ?_); rintro e w5 ⟨AP, cP, E', rfl, OP, EP, hb⟩; have D5 := Lib.hid hb; have B5 := Lib.hid (b_nx17 B4.out hb); clear hb)
  clear c0 c1 c2 c3
  obtain ⟨c0, c1, c2, c3⟩ := CT.out w5 B5.out
  have V5 := Lib.hid (V1.out.below B5.out)
  go_upto_region 8 with (go_at_call 12; (with_reducible refine (KM.out _ _ N0.out _ V5.out).mono ?_); rintro e w6 ⟨AQ, cQ, F, rfl, OQ, FQ, hb⟩; have D6 := Lib.hid hb; have B6 := Lib.hid (b_nx17 B5.out hb); clear hb)
  clear c0 c1 c2 c3
  obtain ⟨c0, c1, c2, c3⟩ := CT.out w6 B6.out
  have V6 := Lib.hid (V1.out.below B6.out)
  go_upto_region 9 with (go_at_call 12; (with_reducible refine (KM.out _ _ M0.out _ V6.out).mono ?_); rintro e w7 ⟨AR, cR, F', rfl, OR, FR, hb⟩; have D7 := Lib.hid hb; have B7 := Lib.hid (b_nx17 B6.out hb); clear hb)
  clear c0 c1 c2 c3
  have SU := Lib.hid (fun i (hi : i < n) => show atF f gap room2 false E' i = atF f gap room false E i + more by
    have h1 := at_end (f := f) (gap := gap) (room := room) (EE.out (by omega)) i hi
    have h2 := at_end (f := f) (gap := gap) (room := room2) (EP.out (by omega)) i hi
    rw [h1, h2, ← HR.out]
    unfold leftF
    omega)
  have SV := Lib.hid (fun i (hi : i < n) => show atF f gap room2 false F' i = atF f gap room false F i by
    rw [at_start (f := f) (gap := gap) (room := room) (FQ.out (by omega)) i hi, at_start (f := f) (gap := gap) (room := room2) (FR.out (by omega)) i hi])
  have FA := Lib.hid (fun i (hi : i < n) => N1.out.fit false (EE.out (by omega)) i hi)
  clear KN KM V2 V3 V4 V5 V6 B2 NR EE EP FQ FR wr2 N0 N1 M0 M1 HR
  go_wp2_with fail
  go_loopg [15] n (fun g1 vi wr => ∃ k : Nat, vi = .int .i64 k ∧ k ≤ n ∧ n - k ≤ g1 ∧ Hid (Below w7.heap.size w7 wr))
  case atStart => exact ⟨0, rfl, by omega, by omega, Lib.hid (Below.refl _ _)⟩
  case round =>
    obtain ⟨k, rfl, hk, hg1, HB⟩ := hrel
    obtain ⟨wo, hwo⟩ : ∃ wo, wo = wr := ⟨_, rfl⟩
    subst hwo
    by_cases hlt : k < n
    · have hz : (k : Int) < n := by omega
      have hz0 : (0 : Int) ≤ k := by omega
      have wi : IntKind.i64.wrap ((k : Int) + 1) = (k : Int) + 1 := IntWalk.i64_in _ (by omega)
      have BB := Lib.hid (b_nx17 D7.out HB.out)
      have BC := Lib.hid (b_nx17 D6.out BB.out)
      have BD := Lib.hid (b_nx17 D5.out BC.out)
      obtain ⟨gO, rfl, ho⟩ := own_then17 OO.out hlt
      obtain ⟨gP, rfl, hp⟩ := own_then17 OP.out hlt
      obtain ⟨gQ, rfl, hq⟩ := own_then17 OQ.out hlt
      obtain ⟨gR, rfl, hr⟩ := own_then17 OR.out hlt
      have m1 := ho wo BD.out
      have m2 := hp wo BC.out
      have m3 := hq wo BB.out
      have m4 := hr wo HB.out
      have S1 := SU.out k hlt
      have F1 := FA.out k hlt
      have S2 := MB.out
      rw [SV.out k hlt] at m4
      clear ho hp hq hr BB BC BD
      generalize atF f gap room false E k = a at m1 S1 F1
      generalize atF f gap room2 false E' k = b at m2 S1
      generalize atF f gap room false F k = d at m3 m4
      have wa : IntKind.i64.wrap (a + more) = b := by rw [IntWalk.i64_in _ (by omega)]; omega
      have db : ((b : Int) != b) = (!true) := by simp
      have dd : ((d : Int) != d) = (!true) := by simp
      clear S1 F1 S2
      go_upto_region 14 with fail
      go_quiet (fail)
      go_wp2_with fail
      go_roundg (n - (k + 1))
      case measure => omega
      case rel => exact ⟨k + 1, by go_num, by omega, Nat.le_refl _, Lib.hid (b_nx17 HB.out (drewN_below _ _ _))⟩
    · obtain rfl : k = n := by omega
      have hz : ¬ (k : Int) < k := by omega
      go_wp2_with fail
      go_ret
      exact ⟨rfl, b_nx17 B0.out (b_nx17 B7.out HB.out)⟩
end Go.Proofs.Ytpjhhndjbpegcaa
