/-
  The law's near: are spots, and a line's own numbers, from 0 to 2^28, and at most 200?
-/
import Derived.Test.YtnhbegdoedbpeaaOpenSpots
namespace Go.Proofs.Ytnhbegdoedbpeaa
open Go.RowKit

def NearS (l : List Sp) (i : Nat) : Prop := (0 ≤ sw l i ∧ sw l i ≤ 268435456) ∧ (0 ≤ su l i ∧ su l i ≤ 268435456) ∧ (0 ≤ sd l i ∧ sd l i ≤ 268435456) ∧ sa l i ≤ 2
def NearO (x : RO) : Prop := (0 ≤ x.up ∧ x.up ≤ 268435456) ∧ (0 ≤ x.down ∧ x.down ≤ 268435456) ∧ (0 ≤ x.width ∧ x.width ≤ 274877906944) ∧ x.lines ≤ 2
def Near (l : List Sp) (x : RO) : Prop := l.length ≤ 200 ∧ NearO x ∧ ∀ i, i < l.length → NearS l i
instance (l : List Sp) (i : Nat) : Decidable (NearS l i) := by unfold NearS; infer_instance
instance (x : RO) : Decidable (NearO x) := by unfold NearO; infer_instance
instance (l : List Sp) (x : RO) : Decidable (Near l x) := by unfold Near; infer_instance
set_option maxRecDepth 100000 in
set_option maxHeartbeats 4000000 in
theorem near_any (l : List Sp) (v : Value) (x : RO) (w : World) (hv : SpIn w v l) (r : Bool) (hr : decide (Near l x) = r) :
    Calls Try.prog 12 #[v, ownV x] w fun e w' => e = .returned (.bool r) ∧ Below w.heap.size w w' := by
  have HV := Lib.hid hv
  have HR := Lib.hid hr
  obtain ⟨up, down, width, lines⟩ := x
  obtain ⟨A, c, rfl, hcc, -⟩ := hv
  obtain ⟨n, en⟩ : ∃ n, l.length = n := ⟨_, rfl⟩
  have HN := Lib.hid en
  rw [en] at HV hcc ⊢
  have B0 : Hid (Below w.heap.size w (w.alloc (.cells #[.int .i64 up, .int .i64 down, .int .i64 width, .int .u8 (lines : Nat)] 24))) := Lib.hid ((Below.refl _ w).alloc (Nat.le_refl _) _)
  unfold ownV
  dsimp only
  by_cases h0 : n ≤ 200 ∧ NearO ⟨up, down, width, lines⟩
  · have HO := Lib.hid h0
    have hn := h0.1
    obtain ⟨h1, h2, h3, h4⟩ := h0.2
    dsimp only at h1 h2 h3 h4
    have d0 : decide ((200 : Int) < n) = false := decide_eq_false (by omega)
    have d1 : decide (up < 0) = false := decide_eq_false (by omega)
    have d2 : decide (268435456 < up) = false := decide_eq_false (by omega)
    have d3 : decide (down < 0) = false := decide_eq_false (by omega)
    have d4 : decide (268435456 < down) = false := decide_eq_false (by omega)
    have d5 : decide (width < 0) = false := decide_eq_false (by omega)
    have d6 : decide (274877906944 < width) = false := decide_eq_false (by omega)
    have d7 : decide ((2 : Int) < (lines : Nat)) = false := decide_eq_false (by omega)
    generalize ((lines : Nat) : Int) = g at d7 B0 ⊢
    clear hr en h0 h1 h2 h3 h4
    go_enter Try.func12, Try.ntmps12
    go_wp2_with fail
    go_loopg [5] n (fun g1 vi wr => ∃ k : Nat, vi = .int .i64 k ∧ k ≤ n ∧ n - k ≤ g1 ∧ Hid (∀ i, i < k → NearS l i) ∧ Hid (Below w.heap.size w wr))
    case atStart => exact ⟨0, rfl, by omega, by omega, Lib.hid (fun i hi => absurd hi (by omega)), B0⟩
    case round =>
      obtain ⟨k, rfl, hk, hg1, HK, HG⟩ := hrel
      obtain ⟨wo, hwo⟩ : ∃ wo, wo = wr := ⟨_, rfl⟩
      subst hwo
      clear B0 d0 d1 d2 d3 d4 d5 d6 d7
      by_cases hlt : k < n
      · have hz : (k : Int) < n := by omega
        have hz0 : (0 : Int) ≤ k := by omega
        have wi : IntKind.i64.wrap ((k : Int) + 1) = (k : Int) + 1 := IntWalk.i64_in _ (by omega)
        obtain ⟨b, off, c', e, c0, c1, c2, c3⟩ := (HV.out.keep HG.out).get (i := k) (by have := HN.out; omega)
        injection e with e1 e2 e3
        subst e1 e3
        clear e2
        have G2 := Lib.hid (HG.out.alloc HG.out.size (.cells #[.int .i64 (sw l k), .int .i64 (su l k), .int .i64 (sd l k), .int .u8 (sa l k : Nat)] 33))
        by_cases h : NearS l k
        · have K2 : Hid (∀ i, i < k + 1 → NearS l i) := Lib.hid (fun i hi => by
            by_cases e : i = k
            · rw [e]; exact h
            · exact HK.out i (by omega))
          obtain ⟨h1, h2, h3, h4⟩ := h
          have d1 : decide (sw l k < 0) = false := decide_eq_false (by omega)
          have d2 : decide (268435456 < sw l k) = false := decide_eq_false (by omega)
          have d3 : decide (su l k < 0) = false := decide_eq_false (by omega)
          have d4 : decide (268435456 < su l k) = false := decide_eq_false (by omega)
          have d5 : decide (sd l k < 0) = false := decide_eq_false (by omega)
          have d6 : decide (268435456 < sd l k) = false := decide_eq_false (by omega)
          have d7 : decide ((2 : Int) < (sa l k : Nat)) = false := decide_eq_false (by omega)
          clear h1 h2 h3 h4 HK
          generalize ((sa l k : Nat) : Int) = y at c3 G2 d7
          generalize sw l k = x0 at c0 G2 d1 d2
          generalize su l k = x1 at c1 G2 d3 d4
          generalize sd l k = x2 at c2 G2 d5 d6
          go_wp2_with fail
          go_roundg (n - (k + 1))
          case measure => omega
          case rel => exact ⟨k + 1, by go_num, by omega, Nat.le_refl _, K2, G2⟩
        · have R : Hid (r = false) := Lib.hid (by rw [← HR.out]; exact decide_eq_false (fun h' => h (h'.2.2 k (by have := HN.out; omega))))
          have HF : ¬ ((0 ≤ sw l k ∧ sw l k ≤ 268435456) ∧ (0 ≤ su l k ∧ su l k ≤ 268435456) ∧ (0 ≤ sd l k ∧ sd l k ≤ 268435456) ∧ ((sa l k : Nat) : Int) ≤ 2) := fun h' => h ⟨h'.1, h'.2.1, h'.2.2.1, by omega⟩
          have HF := Lib.hid HF
          clear h HK
          generalize ((sa l k : Nat) : Int) = y at c3 G2 HF
          generalize sw l k = x0 at c0 G2 HF
          generalize su l k = x1 at c1 G2 HF
          generalize sd l k = x2 at c2 G2 HF
          go_wp2_with fail
          all_goals first
            | (go_ret; exact ⟨by rw [R.out]; rfl, G2.out⟩)
            | (exfalso; have := HF.out; omega)
      · obtain rfl : k = n := by omega
        have hz : ¬ (k : Int) < k := by omega
        have R : Hid (r = true) := Lib.hid (by rw [← HR.out]; exact decide_eq_true ⟨by rw [HN.out]; exact HO.out.1, HO.out.2, by rw [HN.out]; exact HK.out⟩)
        go_wp2_with fail
        go_ret
        exact ⟨by rw [R.out]; rfl, HG.out⟩
  · have R : Hid (r = false) := Lib.hid (by rw [← HR.out]; exact decide_eq_false (fun h' => h0 ⟨by rw [← HN.out]; exact h'.1, h'.2.1⟩))
    have HF : Hid (¬ ((n : Int) ≤ 200 ∧ (0 ≤ up ∧ up ≤ 268435456) ∧ (0 ≤ down ∧ down ≤ 268435456) ∧ (0 ≤ width ∧ width ≤ 274877906944) ∧ ((lines : Nat) : Int) ≤ 2)) := Lib.hid (fun h' => h0 ⟨by omega, h'.2.1, h'.2.2.1, h'.2.2.2.1, by show lines ≤ 2; omega⟩)
    generalize ((lines : Nat) : Int) = g at HF B0 ⊢
    clear h0 hr en
    go_enter Try.func12, Try.ntmps12
    go_wp2_with fail
    all_goals first
      | (go_ret; exact ⟨by rw [R.out]; rfl, B0.out⟩)
      | (exfalso; have := HF.out; omega)
end Go.Proofs.Ytnhbegdoedbpeaa
