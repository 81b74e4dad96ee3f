/-
  The law FlexAcross: of any Main, Cross that answer as is asked.
-/
import Derived.Test.YtpjhhndjbpegcaaAskedM17
namespace Go.Proofs.Ytpjhhndjbpegcaa
open Go.RowKit

/-- where a box begins across a line that it may be near -/
def vA (outer room j : Int) : Int := if j = 1 then room - outer else if j = 2 then halfZ (room - outer) else 0
theorem half_bd {x : Int} (h : -268435456 ≤ x ∧ x ≤ 274877906944) : -268435456 ≤ halfZ x ∧ halfZ x ≤ 274877906944 ∧ 2 * halfZ x ≤ x + 1 ∧ x ≤ 2 * halfZ x + 1 ∧ (0 ≤ x → 0 ≤ halfZ x ∧ halfZ x ≤ x) := by
  unfold halfZ
  split <;> omega
theorem cross_near {outer room j : Int} (ho : 0 ≤ outer ∧ outer ≤ 268435456) (hr : 0 ≤ room ∧ room ≤ 274877906944) (hj : j = 0 ∨ j = 1 ∨ j = 2 ∨ j = 5) : crossA outer room j = (vA outer room j, 0) := by
  have hb := half_bd (x := room - outer) (by omega)
  unfold crossA
  rw [if_neg (by omega), if_neg (by omega), if_neg]
  · rfl
  · intro c
    refine c ⟨?_, ?_⟩ <;> (repeat' split) <;> omega
theorem alone_near {outer room j : Int} (ho : 0 ≤ outer ∧ outer ≤ 268435456) (hr : 0 ≤ room ∧ room ≤ 274877906944) (hj : j = 0 ∨ j = 1 ∨ j = 2) : Nigh17 (pk [outer]) 1 7 room j :=
  ⟨by omega, by omega, by omega, by omega, fun i hi => by obtain rfl : i = 0 := by omega
                                                          exact ho⟩
theorem alone_at {outer room j : Int} {E : Nat → Int} (hj : j = 0 ∨ j = 1 ∨ j = 2) (hE : Extra 1 (leftF (pk [outer]) 7 room 1) j E) : atF (pk [outer]) 7 room false E 0 = vA outer room j := by
  have hl : leftF (pk [outer]) 7 room 1 = room - outer := by
    show room - (0 + outer) - gapsZ 7 1 = room - outer
    have : gapsZ 7 1 = 0 := by decide
    omega
  rw [hl] at hE
  rw [ahead17]
  unfold vA
  rcases hj with rfl | rfl | rfl
  · exact hE.2.2.2.2 (by omega) (by omega) (by omega) (by omega) 0 (by omega)
  · exact hE.1 rfl 0 (by omega)
  · exact hE.2.1 rfl 0 (by omega)
set_option maxRecDepth 100000 in
set_option maxHeartbeats 8000000 in
theorem across17 (hM : MainOK 12) (hC : CrossOK 14) (hA : AwakeOK17 16) (outer room : Int) (w : World) :
    Calls Try.prog 8 #[.int .i64 outer, .int .i64 room] w fun e w' => e = .returned (.bool true) ∧ Below w.heap.size w w' := by
  have KA := Lib.hid (fun W => hA W)
  have HM := Lib.hid hM
  have HC := Lib.hid hC
  clear hM hC hA
  go_enter Try.func8, Try.ntmps8
  go_upto_region 3 with (go_at_call 16; (with_reducible refine (KA.out _).mono ?_); rintro e w1 ⟨rfl, hb⟩; have B1 := Lib.hid hb; clear hb)
  clear KA
  by_cases q0 : outer < 0
  · have d : decide (outer < 0) = true := decide_eq_true q0
    clear q0 HM HC
    go_wp2_with fail
    go_ret
    exact ⟨by first | rfl | simp, B1.out⟩
  have d0 : decide (outer < 0) = false := decide_eq_false q0
  by_cases q1 : 268435456 < outer
  · have d : decide (268435456 < outer) = true := decide_eq_true q1
    clear q0 q1 HM HC
    go_wp2_with fail
    go_ret
    exact ⟨by first | rfl | simp, B1.out⟩
  have d1 : decide (268435456 < outer) = false := decide_eq_false q1
  by_cases q2 : room < 0
  · have d : decide (room < 0) = true := decide_eq_true q2
    clear q0 q1 q2 HM HC
    go_wp2_with fail
    go_ret
    exact ⟨by first | rfl | simp, B1.out⟩
  have d2 : decide (room < 0) = false := decide_eq_false q2
  by_cases q3 : 274877906944 < room
  · have d : decide (274877906944 < room) = true := decide_eq_true q3
    clear q0 q1 q2 q3 HM HC
    go_wp2_with fail
    go_ret
    exact ⟨by first | rfl | simp, B1.out⟩
  have d3 : decide (274877906944 < room) = false := decide_eq_false q3
  have ho : 0 ≤ outer ∧ outer ≤ 268435456 := by omega
  have hr : 0 ≤ room ∧ room ≤ 274877906944 := by omega
  have KC : Hid (∀ j : Int, (j = 0 ∨ j = 1 ∨ j = 2 ∨ j = 5) → ∀ W : World, Calls Try.prog 14 #[.int .i64 outer, .int .i64 room, .int .u8 j] W fun e w' => e = .returned (.tuple #[.int .i64 (vA outer room j), .int .i64 0]) ∧ Below W.heap.size W w') := Lib.hid (fun j hj W => by
    have h := HC.out outer room j W ⟨by omega, by omega⟩ ⟨by omega, by omega⟩ (by omega)
    rw [cross_near ho hr hj] at h
    exact h)
  have KM : Hid (∀ j : Int, (j = 0 ∨ j = 1 ∨ j = 2) → ∀ W : World, Calls Try.prog 12 #[.slice (some ⟨W.heap.size, 0, none⟩) 1 1, .int .i64 7, .int .i64 room, .int .u8 j, .bool false] (W.alloc (.cells #[.int .i64 outer] 3)) fun e w' => ∃ A c, e = .returned (.tuple #[.slice (some ⟨A, 0, none⟩) 1 c, .int .i64 0]) ∧ w'.cell? ⟨A, 0, none⟩ = some (.int .i64 (vA outer room j)) ∧ Below W.heap.size W w') := Lib.hid (fun j hj W => by
    refine (main_near17 HM.out _ 1 1 (pk [outer]) 7 room j false _ (pk_new W 3 [outer] (by intro x hx; simp at hx; omega)) (by omega) (alone_near ho hr hj)).mono ?_
    rintro e w' ⟨AO, cO, E, rfl, h1, h2, hb⟩
    obtain ⟨g, rfl, h3⟩ := own_then17 h1.out (i := 0) (by omega)
    refine ⟨g, cO, rfl, ?_, ((Below.refl _ W).alloc (Nat.le_refl _) _).trans (hb.mono (by rw [World.size_alloc]; omega))⟩
    rw [h3 w' (Below.refl _ _), alone_at hj (h2.out (by omega))])
  clear HM HC q0 q1 q2 q3
  have HBD := Lib.hid (half_bd (x := room - outer) (by omega))
  have B2 : Hid (Below w.heap.size w (w1.alloc (.cells #[.int .u8 0, .int .u8 1, .int .u8 2] 5))) := Lib.hid (B1.out.alloc B1.out.size _)
  have CT : Hid (∀ W, Below (w1.alloc (.cells #[.int .u8 0, .int .u8 1, .int .u8 2] 5)).heap.size (w1.alloc (.cells #[.int .u8 0, .int .u8 1, .int .u8 2] 5)) W → W.cell? ⟨w1.heap.size, 0, none⟩ = some (.int .u8 0) ∧ W.cell? ⟨w1.heap.size, 1, none⟩ = some (.int .u8 1) ∧ W.cell? ⟨w1.heap.size, 2, none⟩ = some (.int .u8 2)) := Lib.hid (fun W hW => by
    have G := heap_alloc_new w1 (.cells #[.int .u8 0, .int .u8 1, .int .u8 2] 5)
    have hg : w1.heap.size < (w1.alloc (.cells #[.int .u8 0, .int .u8 1, .int .u8 2] 5)).heap.size := by rw [World.size_alloc]; omega
    generalize w1.alloc (.cells #[.int .u8 0, .int .u8 1, .int .u8 2] 5) = w2 at G hg hW
    exact ⟨(hW.cell (p := ⟨_, 0, none⟩) hg).trans (by simp [World.cell?, G]), (hW.cell (p := ⟨_, 1, none⟩) hg).trans (by simp [World.cell?, G]), (hW.cell (p := ⟨_, 2, none⟩) hg).trans (by simp [World.cell?, G])⟩)
  go_upto_region 6 with fail
  clear d0 d1 d2 d3 B1
  generalize w1.alloc (.cells #[.int .u8 0, .int .u8 1, .int .u8 2] 5) = w2 at B2 CT ⊢
  generalize w1.heap.size = g at CT ⊢
  go_wp2_with fail
  go_loopg [6, 7, 8, 9, 10, 11] 3 (fun g1 vi v7 v8 v9 v10 v11 wr => ∃ k : Nat, vi = .int .i64 k ∧ k ≤ 3 ∧ 3 - k ≤ g1 ∧ Hid (Below w2.heap.size w2 wr))
  case atStart => exact ⟨0, rfl, by omega, by omega, Lib.hid (Below.refl _ _)⟩
  case round =>
    obtain ⟨k, rfl, hk, hg1, HB⟩ := hrel
    obtain ⟨wo, hwo⟩ : ∃ wo, wo = wr := ⟨_, rfl⟩
    subst hwo
    have hks : k = 0 ∨ k = 1 ∨ k = 2 ∨ k = 3 := by omega
    rcases hks with rfl | rfl | rfl | rfl
    · obtain ⟨c0, c1, c2⟩ := CT.out wo HB.out
      obtain ⟨v, hv⟩ : ∃ v, vA outer room 0 = v := ⟨_, rfl⟩
      have E0h : Hid (v = 0) := Lib.hid (by rw [← hv]; rfl)
      have K1 := Lib.hid (KC.out 0 (by omega) wo)
      have K2 := Lib.hid (KM.out 0 (by omega))
      rw [hv] at K1 K2
      clear hv
      go_upto_region 10 with (go_at_call 14; (with_reducible refine K1.out.mono ?_); rintro e w3 ⟨rfl, hb⟩; have D3 := Lib.hid (b_nx17 HB.out hb); clear hb)
      clear c0 c1 c2
      obtain ⟨c0, c1, c2⟩ := CT.out w3 D3.out
      have D3' := Lib.hid (b_nx17 D3.out ((Below.refl w3.heap.size w3).alloc (Nat.le_refl _) (.cells #[.int .i64 outer] 3)))
      obtain ⟨a0, a1, a2⟩ := CT.out _ D3'.out
      go_upto_region 11 with (go_at_call 12; (with_reducible refine (K2.out _).mono ?_); rintro e w4 ⟨AM, cM, rfl, m0, hb⟩; have D4 := Lib.hid (b_nx17 D3.out hb); clear hb)
      clear c0 c1 c2 a0 a1 a2 D3'
      have HD := HBD.out
      have E0 := E0h.out
      have wa0 : IntKind.i64.wrap (v + outer) = v + outer := IntWalk.i64_in _ (by omega)
      obtain ⟨t, ht⟩ : ∃ t, v + outer = t := ⟨_, rfl⟩
      have wa := wa0.trans ht
      have wb0 : IntKind.i64.wrap (room - outer) = room - outer := IntWalk.i64_in _ (by omega)
      obtain ⟨t1, ht1⟩ : ∃ t, room - outer = t := ⟨_, rfl⟩
      have wb := wb0.trans ht1
      have wc0 : IntKind.i64.wrap (t1 - v) = t1 - v := IntWalk.i64_in _ (by omega)
      obtain ⟨bh, hbh⟩ : ∃ t, t1 - v = t := ⟨_, rfl⟩
      have wd := wc0.trans hbh
      have we0 : IntKind.i64.wrap (v - bh) = v - bh := IntWalk.i64_in _ (by omega)
      obtain ⟨u1, hu1⟩ : ∃ t, v - bh = t := ⟨_, rfl⟩
      have we := we0.trans hu1
      have wf0 : IntKind.i64.wrap (bh - v) = bh - v := IntWalk.i64_in _ (by omega)
      obtain ⟨u2, hu2⟩ : ∃ t, bh - v = t := ⟨_, rfl⟩
      have wf := wf0.trans hu2
      have dv : ((v : Int) != v) = (!true) := by simp
      have f1 : ((v : Int) != 0) = (!true) := by simp; omega
      have FIT : Hid ((outer ≤ room → decide (v < 0) = false ∧ decide (room < t) = false)) := Lib.hid (fun h => ⟨decide_eq_false (by omega), decide_eq_false (by omega)⟩)
      clear wa0 wb0 wc0 we0 wf0 ht ht1 hbh hu1 hu2 HD E0
      by_cases hf : outer ≤ room
      · have g1 : decide (outer ≤ room) = true := decide_eq_true hf
        obtain ⟨g2, g3⟩ := FIT.out hf
        clear hf
        go_wp2_with fail
        go_roundg (3 - (0 + 1))
        case measure => omega
        case rel => exact ⟨0 + 1, by go_num, by omega, Nat.le_refl _, D4⟩
      · have g1 : decide (outer ≤ room) = false := decide_eq_false hf
        clear hf
        go_wp2_with fail
        go_roundg (3 - (0 + 1))
        case measure => omega
        case rel => exact ⟨0 + 1, by go_num, by omega, Nat.le_refl _, D4⟩
    · obtain ⟨c0, c1, c2⟩ := CT.out wo HB.out
      obtain ⟨v, hv⟩ : ∃ v, vA outer room 1 = v := ⟨_, rfl⟩
      have E0h : Hid (v = room - outer) := Lib.hid (by rw [← hv]; rfl)
      have K1 := Lib.hid (KC.out 1 (by omega) wo)
      have K2 := Lib.hid (KM.out 1 (by omega))
      rw [hv] at K1 K2
      clear hv
      go_upto_region 10 with (go_at_call 14; (with_reducible refine K1.out.mono ?_); rintro e w3 ⟨rfl, hb⟩; have D3 := Lib.hid (b_nx17 HB.out hb); clear hb)
      clear c0 c1 c2
      obtain ⟨c0, c1, c2⟩ := CT.out w3 D3.out
      have D3' := Lib.hid (b_nx17 D3.out ((Below.refl w3.heap.size w3).alloc (Nat.le_refl _) (.cells #[.int .i64 outer] 3)))
      obtain ⟨a0, a1, a2⟩ := CT.out _ D3'.out
      go_upto_region 11 with (go_at_call 12; (with_reducible refine (K2.out _).mono ?_); rintro e w4 ⟨AM, cM, rfl, m0, hb⟩; have D4 := Lib.hid (b_nx17 D3.out hb); clear hb)
      clear c0 c1 c2 a0 a1 a2 D3'
      have HD := HBD.out
      have E0 := E0h.out
      have wa0 : IntKind.i64.wrap (v + outer) = v + outer := IntWalk.i64_in _ (by omega)
      obtain ⟨t, ht⟩ : ∃ t, v + outer = t := ⟨_, rfl⟩
      have wa := wa0.trans ht
      have wb0 : IntKind.i64.wrap (room - outer) = room - outer := IntWalk.i64_in _ (by omega)
      obtain ⟨t1, ht1⟩ : ∃ t, room - outer = t := ⟨_, rfl⟩
      have wb := wb0.trans ht1
      have wc0 : IntKind.i64.wrap (t1 - v) = t1 - v := IntWalk.i64_in _ (by omega)
      obtain ⟨bh, hbh⟩ : ∃ t, t1 - v = t := ⟨_, rfl⟩
      have wd := wc0.trans hbh
      have we0 : IntKind.i64.wrap (v - bh) = v - bh := IntWalk.i64_in _ (by omega)
      obtain ⟨u1, hu1⟩ : ∃ t, v - bh = t := ⟨_, rfl⟩
      have we := we0.trans hu1
      have wf0 : IntKind.i64.wrap (bh - v) = bh - v := IntWalk.i64_in _ (by omega)
      obtain ⟨u2, hu2⟩ : ∃ t, bh - v = t := ⟨_, rfl⟩
      have wf := wf0.trans hu2
      have dv : ((v : Int) != v) = (!true) := by simp
      have f1 : ((bh : Int) != 0) = (!true) := by simp; omega
      have FIT : Hid ((outer ≤ room → decide (v < 0) = false ∧ decide (room < t) = false)) := Lib.hid (fun h => ⟨decide_eq_false (by omega), decide_eq_false (by omega)⟩)
      clear wa0 wb0 wc0 we0 wf0 ht ht1 hbh hu1 hu2 HD E0
      by_cases hf : outer ≤ room
      · have g1 : decide (outer ≤ room) = true := decide_eq_true hf
        obtain ⟨g2, g3⟩ := FIT.out hf
        clear hf
        go_wp2_with fail
        go_roundg (3 - (1 + 1))
        case measure => omega
        case rel => exact ⟨1 + 1, by go_num, by omega, Nat.le_refl _, D4⟩
      · have g1 : decide (outer ≤ room) = false := decide_eq_false hf
        clear hf
        go_wp2_with fail
        go_roundg (3 - (1 + 1))
        case measure => omega
        case rel => exact ⟨1 + 1, by go_num, by omega, Nat.le_refl _, D4⟩
    · obtain ⟨c0, c1, c2⟩ := CT.out wo HB.out
      obtain ⟨v, hv⟩ : ∃ v, vA outer room 2 = v := ⟨_, rfl⟩
      have E0h : Hid (v = halfZ (room - outer)) := Lib.hid (by rw [← hv]; rfl)
      have K1 := Lib.hid (KC.out 2 (by omega) wo)
      have K2 := Lib.hid (KM.out 2 (by omega))
      rw [hv] at K1 K2
      clear hv
      go_upto_region 10 with (go_at_call 14; (with_reducible refine K1.out.mono ?_); rintro e w3 ⟨rfl, hb⟩; have D3 := Lib.hid (b_nx17 HB.out hb); clear hb)
      clear c0 c1 c2
      obtain ⟨c0, c1, c2⟩ := CT.out w3 D3.out
      have D3' := Lib.hid (b_nx17 D3.out ((Below.refl w3.heap.size w3).alloc (Nat.le_refl _) (.cells #[.int .i64 outer] 3)))
      obtain ⟨a0, a1, a2⟩ := CT.out _ D3'.out
      go_upto_region 11 with (go_at_call 12; (with_reducible refine (K2.out _).mono ?_); rintro e w4 ⟨AM, cM, rfl, m0, hb⟩; have D4 := Lib.hid (b_nx17 D3.out hb); clear hb)
      clear c0 c1 c2 a0 a1 a2 D3'
      have HD := HBD.out
      have E0 := E0h.out
      have wa0 : IntKind.i64.wrap (v + outer) = v + outer := IntWalk.i64_in _ (by omega)
      obtain ⟨t, ht⟩ : ∃ t, v + outer = t := ⟨_, rfl⟩
      have wa := wa0.trans ht
      have wb0 : IntKind.i64.wrap (room - outer) = room - outer := IntWalk.i64_in _ (by omega)
      obtain ⟨t1, ht1⟩ : ∃ t, room - outer = t := ⟨_, rfl⟩
      have wb := wb0.trans ht1
      have wc0 : IntKind.i64.wrap (t1 - v) = t1 - v := IntWalk.i64_in _ (by omega)
      obtain ⟨bh, hbh⟩ : ∃ t, t1 - v = t := ⟨_, rfl⟩
      have wd := wc0.trans hbh
      have we0 : IntKind.i64.wrap (v - bh) = v - bh := IntWalk.i64_in _ (by omega)
      obtain ⟨u1, hu1⟩ : ∃ t, v - bh = t := ⟨_, rfl⟩
      have we := we0.trans hu1
      have wf0 : IntKind.i64.wrap (bh - v) = bh - v := IntWalk.i64_in _ (by omega)
      obtain ⟨u2, hu2⟩ : ∃ t, bh - v = t := ⟨_, rfl⟩
      have wf := wf0.trans hu2
      have dv : ((v : Int) != v) = (!true) := by simp
      rw [ht1] at HD E0
      have f1 : decide (1 < u1) = false := decide_eq_false (by omega)
      have f2 : decide (1 < u2) = false := decide_eq_false (by omega)
      have FIT : Hid ((outer ≤ room → decide (v < 0) = false ∧ decide (room < t) = false)) := Lib.hid (fun h => ⟨decide_eq_false (by omega), decide_eq_false (by omega)⟩)
      clear wa0 wb0 wc0 we0 wf0 ht ht1 hbh hu1 hu2 HD E0
      by_cases hf : outer ≤ room
      · have g1 : decide (outer ≤ room) = true := decide_eq_true hf
        obtain ⟨g2, g3⟩ := FIT.out hf
        clear hf
        go_wp2_with fail
        go_roundg (3 - (2 + 1))
        case measure => omega
        case rel => exact ⟨2 + 1, by go_num, by omega, Nat.le_refl _, D4⟩
      · have g1 : decide (outer ≤ room) = false := decide_eq_false hf
        clear hf
        go_wp2_with fail
        go_roundg (3 - (2 + 1))
        case measure => omega
        case rel => exact ⟨2 + 1, by go_num, by omega, Nat.le_refl _, D4⟩
    · have K1 := Lib.hid (KC.out 5 (by omega))
      have v5 : vA outer room 5 = 0 := rfl
      rw [v5] at K1
      go_wp2_with (go_at_call 14; (with_reducible refine (K1.out _).mono ?_); rintro e w3 ⟨rfl, hb⟩; have D3 := Lib.hid (b_nx17 HB.out hb); clear hb)
      go_ret
      exact ⟨by first | rfl | simp, b_nx17 B2.out D3.out⟩
end Go.Proofs.Ytpjhhndjbpegcaa
