/-
  The law FlexBeside: of any Main that answers as is asked.
-/
import Derived.Test.YtpjhhndjbpegcaaTold17
import Derived.Test.YtpjhhndjbpegcaaAwake17
namespace Go.Proofs.Ytpjhhndjbpegcaa
open Go.RowKit

theorem beside_in {f : Nat → Int} {n : Nat} {gap room j : Int} {E : Nat → Int} (hN : Near17 f n gap room j) (hE : Extra n (leftF f gap room n) j E) (h0 : 0 ≤ leftF f gap room n) : ∀ i, i < n → 0 ≤ atF f gap room false E i ∧ atF f gap room false E i + f i ≤ room := fun i hi => by
  have s1 := near_sum hN.hn hN.hgap hN.hf (i + 1) (by omega)
  have s0 := near_sum hN.hn hN.hgap hN.hf i (by omega)
  have u := hE.facts.up h0 (i + 1) (by omega)
  have e := endP_sum f gap E (i + 1)
  have hs : sumB f (i + 1) = sumB f i + f i := rfl
  unfold leftF at u
  unfold atF
  simp only [Bool.false_eq_true, if_false]
  omega
theorem beside_step {f : Nat → Int} {gap room : Int} {E : Nat → Int} {p : Nat} : atF f gap room false E (p + 1) - atF f gap room false E p - f p = gap + E (p + 1) := by
  unfold atF
  simp only [Bool.false_eq_true, if_false]
  rw [endP, if_pos (Nat.succ_pos p)]
  omega
theorem beside_more {f : Nat → Int} {n : Nat} {gap room j : Int} {E : Nat → Int} (hE : Extra n (leftF f gap room n) j E) {p : Nat} (hp : p + 1 < n) : 0 ≤ E (p + 1) ∧ (0 < E (p + 1) → 0 < leftF f gap room n ∧ (j = 3 ∨ j = 4)) := by
  have x := hE.facts
  by_cases h : leftF f gap room n ≤ 0 ∨ (j ≠ 3 ∧ j ≠ 4)
  · rw [x.none h (p + 1) hp (Nat.succ_pos p)]
    omega
  · have := x.nn (by omega) (p + 1) hp
    omega
set_option maxRecDepth 100000 in
set_option maxHeartbeats 8000000 in
theorem beside17 (hM : MainOK 12) (hA : AwakeOK17 16) (A : Option Addr) (n c : Nat) (f : Nat → Int) (gap room j : Int) (back : Bool) (w : World) (hv : Ints w A n f) (hc : n ≤ c ∧ c ≤ 9223372036854775807) (hj : 0 ≤ j ∧ j ≤ 255) :
    Calls Try.prog 5 #[.slice A n c, howV gap room j back] w fun e w' => e = .returned (.bool true) ∧ Below w.heap.size w w' := by
  have KA := Lib.hid (fun W => hA W)
  have HV := Lib.hid hv
  obtain ⟨bg, hbg⟩ : ∃ b, decide (Near17 f n gap room j) = b := ⟨_, rfl⟩
  have KN := Lib.hid (fun W (hW : Ints W A n f) => near17 A n c f gap room j back W hW hj bg hbg)
  have KM0 := Lib.hid (fun (h : Nigh17 f n gap room j) W (hW : Ints W A n f) => main_near17 hM A n c f gap room j false W hW hc h)
  have KL0 := Lib.hid (fun (h : Near17 f n gap room 0) W (hW : Ints W A n f) => left17 A n c f gap room j false W hW h)
  have B0 : Hid (Below w.heap.size w (w.alloc (.cells #[.int .i64 gap, .int .i64 room, .int .u8 j, .bool back] 24))) := Lib.hid ((Below.refl _ w).alloc (Nat.le_refl _) _)
  have G0 : Hid ((w.alloc (.cells #[.int .i64 gap, .int .i64 room, .int .u8 j, .bool back] 24)).heap[w.heap.size]? = some (.cells #[.int .i64 gap, .int .i64 room, .int .u8 j, .bool back] 24)) := Lib.hid (heap_alloc_new w _)
  clear hv hA hM hc
  unfold howV at KN KL0 ⊢
  go_enter Try.func5, Try.ntmps5
  go_upto_region 1 with fail
  generalize w.alloc (.cells #[.int .i64 gap, .int .i64 room, .int .u8 j, .bool back] 24) = w1 at B0 G0 ⊢
  obtain ⟨g, hg⟩ : ∃ g, w.heap.size = g := ⟨_, rfl⟩
  have HG := Lib.hid hg
  rw [hg] at G0 ⊢
  clear hg
  have CT : Hid (∀ W, Below w1.heap.size w1 W → HowAt W g gap room j back) := Lib.hid (how_at G0.out)
  unfold HowAt at CT
  go_upto_region 3 with (go_at_call 16; (with_reducible refine (KA.out _).mono ?_); rintro e w2 ⟨rfl, hb⟩; have B2 := Lib.hid hb; clear hb)
  obtain ⟨c0, c1, c2, c3⟩ := CT.out w2 B2.out
  have V2 := Lib.hid (HV.out.below (b_nx17 B0.out B2.out))
  cases bg with
  | false =>
    clear KM0 KA KL0
    go_wp2_with (go_at_call 17; (with_reducible refine (KN.out _ V2.out).mono ?_); rintro e w3 ⟨rfl, hb⟩; have B3 := Lib.hid (b_nx17 B2.out hb); clear hb)
    go_ret
    exact ⟨rfl, b_nx17 B0.out B3.out⟩
  | true =>
  have NR := Lib.hid (of_decide_eq_true hbg)
  have hn1 : n ≤ 200 := NR.out.hn
  have KM := Lib.hid (KM0.out NR.out.nigh)
  have KL := Lib.hid (KL0.out (by have h := NR.out; exact ⟨h.hn, h.hgap, h.hroom, by omega, h.hf⟩))
  clear KM0 KA KL0 hbg
  go_upto_region 5 with (go_at_call 17; (with_reducible refine (KN.out _ V2.out).mono ?_); rintro e w3 ⟨rfl, hb⟩; have B3 := Lib.hid (b_nx17 B2.out hb); clear hb)
  clear c0 c1 c2 c3 V2 KN
  have G3 : Hid (w3.heap[g]? = some (.cells #[.int .i64 gap, .int .i64 room, .int .u8 j, .bool back] 24)) := Lib.hid ((B3.out.block g (Array.getElem?_eq_some_iff.1 G0.out).1).trans G0.out)
  have c3 : w3.cell? ⟨g, 3, none⟩ = some (.bool back) := (CT.out w3 B3.out).2.2.2
  have f3 : w3.frozen? ⟨g, 3, none⟩ = false := by simp [World.frozen?, G3.out]
  have B4 : Hid (Below w.heap.size w (w3.setCell ⟨g, 3, none⟩ (.bool false))) := Lib.hid ((b_nx17 B0.out B3.out).setCell (by show w.heap.size ≤ g; have := HG.out; omega) _)
  have G4 : Hid ((w3.setCell ⟨g, 3, none⟩ (.bool false)).heap[g]? = some (.cells #[.int .i64 gap, .int .i64 room, .int .u8 j, .bool false] 24)) := Lib.hid (by simp [World.setCell, Array.getElem?_modify, G3.out])
  go_upto_region 6 with fail
  clear c3 f3 CT G0 G3 B0 B2 B3
  generalize w3.setCell ⟨g, 3, none⟩ (.bool false) = w4 at B4 G4 ⊢
  have CT : Hid (∀ W, Below w4.heap.size w4 W → HowAt W g gap room j false) := Lib.hid (how_at G4.out)
  unfold HowAt at CT
  obtain ⟨c0, c1, c2, c3⟩ := CT.out w4 (Below.refl _ _)
  have V4 := Lib.hid (HV.out.below B4.out)
  go_upto_region 9 with (go_at_call 12; (with_reducible refine (KM.out _ V4.out).mono ?_); rintro e w5 ⟨AO, cO, E, rfl, OO, EE, hb⟩; have B5 := Lib.hid hb; clear hb; have V5 := Lib.hid (V4.out.below B5.out))
  clear c0 c1 c2 c3
  obtain ⟨c0, c1, c2, c3⟩ := CT.out w5 B5.out
  go_upto_region 10 with (go_at_call 18; (with_reducible refine (KL.out _ V5.out).mono ?_); rintro e w6 ⟨rfl, hb⟩; have D6 := Lib.hid hb; clear hb)
  clear c0 c1 c2 c3
  have V6 := Lib.hid (V5.out.below D6.out)
  have B6 := Lib.hid (b_nx17 B5.out D6.out)
  have IN := Lib.hid (fun h0 i (hi : i < n) => beside_in NR.out (EE.out (by omega)) h0 i hi)
  have ST := Lib.hid (fun p (hp : p + 1 < n) => And.intro (beside_step (f := f) (gap := gap) (room := room) (E := E) (p := p)) (beside_more (f := f) (gap := gap) (room := room) (EE.out (by omega)) hp))
  have FA := Lib.hid (fun i (hi : i < n) => NR.out.nigh.fit false (EE.out (by omega)) i hi)
  have FF := Lib.hid NR.out.hf
  have hgp : 0 ≤ gap ∧ gap ≤ 268435456 := NR.out.hgap
  have hrm : 0 ≤ room ∧ room ≤ 274877906944 := NR.out.hroom
  generalize leftF f gap room n = free at IN ST ⊢
  clear KM KL NR EE V4 V5 G4
  go_wp2_with fail
  go_loopg [8, 9] n (fun g1 vi vb wr => ∃ k : Nat, vi = .int .i64 k ∧ k ≤ n ∧ n - k ≤ g1 ∧ Hid (Below w6.heap.size w6 wr))
  case atStart => exact ⟨0, rfl, by omega, by omega, Lib.hid (Below.refl _ _)⟩
  case round =>
    obtain ⟨k, rfl, hk, hg1, HB⟩ := hrel
    obtain ⟨wo, hwo⟩ : ∃ wo, wo = wr := ⟨_, rfl⟩
    subst hwo
    by_cases hlt : k < n
    · have hz : (k : Int) < n := by omega
      have hz0 : (0 : Int) ≤ k := by omega
      have wi : IntKind.i64.wrap ((k : Int) + 1) = (k : Int) + 1 := IntWalk.i64_in _ (by omega)
      have Vo := Lib.hid (V6.out.below HB.out)
      obtain ⟨bb, off, rfl, -, m0⟩ := Vo.out.at_ hlt
      obtain ⟨gO, rfl, ho⟩ := own_then17 OO.out hlt
      have m1 := ho wo (b_nx17 D6.out HB.out)
      obtain ⟨c0, c1, c2, c3⟩ := CT.out wo (b_nx17 B6.out HB.out)
      have I1 := Lib.hid (fun h => IN.out h k hlt)
      have F1 := FA.out k hlt
      have F3 := FF.out k hlt
      have M1 := Lib.hid (fun W hW => ho W (b_nx17 D6.out hW))
      clear ho
      obtain ⟨a, ha⟩ : ∃ a, atF f gap room false E k = a := ⟨_, rfl⟩
      obtain ⟨y, hy⟩ : ∃ y, f k = y := ⟨_, rfl⟩
      rw [ha] at m1 I1 F1 M1
      rw [hy] at m0 I1 F3
      have wa0 : IntKind.i64.wrap (a + y) = a + y := IntWalk.i64_in _ (by omega)
      obtain ⟨t, ht⟩ : ∃ t, a + y = t := ⟨_, rfl⟩
      have wa := wa0.trans ht
      have HA := Lib.hid ha
      clear wa0 hy ha
      go_upto_region 13 with fail
      go_cut [68] from 40 to 110 (fun v wx => v = .bool false ∧ Hid (Below wo.heap.size wo wx))
      case first =>
        by_cases h0 : 0 ≤ free
        · have d0 : decide (0 ≤ free) = true := decide_eq_true h0
          have d1 : decide (a < 0) = false := decide_eq_false (by have := I1.out h0; omega)
          have d2 : decide (room < t) = false := decide_eq_false (by have := I1.out h0; omega)
          go_quiet (fail)
          go_wp2_with fail
          go_meet
          exact ⟨rfl, Lib.hid (drewN_below _ _ _)⟩
        · have d0 : decide (0 ≤ free) = false := decide_eq_false h0
          go_quiet (fail)
          go_wp2_with fail
          go_meet
          exact ⟨rfl, Lib.hid (drewN_below _ _ _)⟩
      case rest =>
        obtain ⟨rfl, BX⟩ := hcut
        obtain ⟨wp, rfl⟩ : ∃ wq : World, wq = wc := ⟨_, rfl⟩
        clear m0 m1 c0 c1 c2 c3 I1 wa ht
        have HP := Lib.hid (b_nx17 HB.out BX.out)
        clear BX HB Vo
        by_cases h0 : k = 0
        · have e0 : ((k : Int) == 0) = true := by simp [h0]
          go_wp2_with fail
          go_roundg (n - (k + 1))
          case measure => omega
          case rel => exact ⟨k + 1, by go_num, by omega, Nat.le_refl _, HP⟩
        · have e0 : ((k : Int) == 0) = false := by simp [h0]
          obtain ⟨p, hp⟩ : ∃ p, p + 1 = k := ⟨k - 1, by omega⟩
          have hpn : p < n := by omega
          have jz : (p : Int) < n := by omega
          have jz0 : (0 : Int) ≤ p := by omega
          have wj : IntKind.i64.wrap ((k : Int) - 1) = (p : Int) := by rw [IntWalk.i64_in _ (by omega)]; omega
          have Vp := Lib.hid (V6.out.below HP.out)
          obtain ⟨bb', off', e, -, n0⟩ := Vp.out.at_ hpn
          injection e with e
          injection e with e1 e2 e3
          subst e1 e2
          obtain ⟨gO', e, ho⟩ := own_then17 OO.out hpn
          injection e with e
          injection e with e1 e2 e3
          subst e1
          have n1 := ho wp (b_nx17 D6.out HP.out)
          have n2 := M1.out wp HP.out
          obtain ⟨c0, c1, c2, c3⟩ := CT.out wp (b_nx17 B6.out HP.out)
          obtain ⟨S1, S2, S3⟩ := ST.out p (by omega)
          have P1 := FA.out p hpn
          have P3 := FF.out p hpn
          rw [hp, HA.out] at S1
          rw [hp] at S2 S3
          clear ho
          generalize atF f gap room false E p = a' at n1 S1 P1
          generalize f p = y' at n0 S1 P3
          generalize E k = x at S1 S2 S3
          have wb0 : IntKind.i64.wrap (a - a') = a - a' := IntWalk.i64_in _ (by omega)
          obtain ⟨t1, ht1⟩ : ∃ t1, a - a' = t1 := ⟨_, rfl⟩
          have wb := wb0.trans ht1
          have wc0 : IntKind.i64.wrap (t1 - y') = t1 - y' := IntWalk.i64_in _ (by omega)
          obtain ⟨t2, ht2⟩ : ∃ t2, t1 - y' = t2 := ⟨_, rfl⟩
          have wd := wc0.trans ht2
          have d1 : decide (t2 < gap) = false := decide_eq_false (by omega)
          have XT : Hid (t2 = gap + x) := Lib.hid (by omega)
          clear wb0 wc0 ht1 ht2 S1
          go_upto_region 16 with fail
          go_quiet (fail)
          by_cases hx : 0 < x
          · obtain ⟨hf0, hj34⟩ := S3 hx
            have d2 : decide (gap < t2) = true := decide_eq_true (by have := XT.out; omega)
            have d3 : decide (free ≤ 0) = false := decide_eq_false (by omega)
            rcases hj34 with hj3 | hj4
            · have d4 : ((j : Int) != 3) = (!true) := by simp [hj3]
              clear hj3
              go_wp2_with fail
              go_roundg (n - (k + 1))
              case measure => omega
              case rel => exact ⟨k + 1, by go_num, by omega, Nat.le_refl _, Lib.hid (b_nx17 HP.out (drewN_below _ _ _))⟩
            · have d4 : ((j : Int) != 3) = (!false) := by simp [hj4]
              have d5 : ((j : Int) != 4) = (!true) := by simp [hj4]
              clear hj4
              go_wp2_with fail
              go_roundg (n - (k + 1))
              case measure => omega
              case rel => exact ⟨k + 1, by go_num, by omega, Nat.le_refl _, Lib.hid (b_nx17 HP.out (drewN_below _ _ _))⟩
          · have d2 : decide (gap < t2) = false := decide_eq_false (by have := XT.out; omega)
            go_wp2_with fail
            go_roundg (n - (k + 1))
            case measure => omega
            case rel => exact ⟨k + 1, by go_num, by omega, Nat.le_refl _, Lib.hid (b_nx17 HP.out (drewN_below _ _ _))⟩
    · obtain rfl : k = n := by omega
      have hz : ¬ (k : Int) < k := by omega
      go_wp2_with fail
      go_ret
      exact ⟨rfl, b_nx17 (b_nx17 B4.out B6.out) HB.out⟩
end Go.Proofs.Ytpjhhndjbpegcaa
