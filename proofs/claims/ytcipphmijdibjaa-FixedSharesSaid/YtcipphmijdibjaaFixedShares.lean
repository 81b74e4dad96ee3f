/-
  The law FixedShares: a total is given out to weights as the document's Share gives it out, or refused; the weights stay, and what is told is the caller's own.
-/
import Derived.Test.YtcipphmijdibjaaAwake
import Derived.Test.YtcipphmijdibjaaDiv
import Derived.Test.YtcipphmijdibjaaRefShareNo
import Derived.Test.YtcipphmijdibjaaFixedPairs
namespace Go.Proofs.Ytcipphmijdibjaa
open Go.RowKit

theorem shareOf_ex (t : Int) (v : Nat → Nat) (n : Nat) : ∃ X, ShareOf t v n X := by
  by_cases hs : sumN v n = 0
  · exact ⟨fun _ => 0, share_zero hs⟩
  · obtain ⟨q, hq⟩ := ordered_ex (fun i => (lost t.natAbs v (sumN v n) i : Int)) n
    exact ⟨_, _, .inr ⟨by omega, q, hq, fun i _ => rfl⟩, fun i _ => rfl⟩
/-- what both tell: these numbers, in memory of the call's own, and this code -/
def Told (m : Nat) (X : Nat → Int) (z : Int) (W : World) (e : Ending) (w' : World) : Prop :=
  ∃ A c, e = .returned (.tuple #[.slice A m c, .int .i64 z]) ∧ Below W.heap.size W w' ∧ (m = 0 ∨ ∃ g, A = some ⟨g, 0, none⟩ ∧ W.heap.size ≤ g ∧ Whole w' g 3 (cellsOf .i64 m X))
theorem SharePost.told {t : Int} {v : Nat → Nat} {n : Nat} {X : Nat → Int} {W w' : World} {e : Ending} (hX : ShareOf t v n X) (h : SharePost t v n W e w') : Told n X 0 W e w' := by
  obtain ⟨g, Y, rfl, hw, hb, hg, hY⟩ := h
  refine ⟨_, _, rfl, hb, .inr ⟨g, rfl, hg, ?_⟩⟩
  rw [cellsOf_congr (fun i hi => hX.uniq hY i hi)]
  exact hw
theorem told_none {W w' : World} {e : Ending} (he : e = .returned (.tuple #[.slice none 0 0, .int .i64 2])) (hb : Below W.heap.size W w') : Told 0 (fun _ => 0) 2 W e w' :=
  ⟨_, _, he, hb, .inl rfl⟩
theorem both_told (t : Int) (ht : Big t) (n : Nat) (hn : n ≤ 2100) (f : Nat → Int) : ∃ (m : Nat) (X : Nat → Int) (z : Int), m ≤ 2048 ∧ (z = 0 ∨ z = 2) ∧ (∀ i, i < m → Big (X i)) ∧
    (∀ A c W, Ints W A n f → Calls Try.prog 26 #[.int .i64 t, .slice A n c] W (Told m X z W)) ∧
    (∀ A c W, Ints W A n f → Calls Try.prog 27 #[.int .i64 t, .slice A n c] W (Told m X z W)) := by
  by_cases h : Fit t ∧ n ≤ 2048 ∧ ∀ i, i < n → IsW (f i)
  · obtain ⟨hF, hl, hw⟩ := h
    obtain ⟨v, hv⟩ : ∃ v : Nat → Nat, ∀ i, i < n → f i = (v i : Int) := ⟨fun i => (f i).toNat, fun i hi => by have := (hw i hi).1; show f i = ((f i).toNat : Int); omega⟩
    have vb : ∀ i, i < n → v i ≤ 1125899906842624 := fun i hi => by have := (hw i hi).2; have := hv i hi; omega
    obtain ⟨X, hX⟩ := shareOf_ex t v n
    refine ⟨n, X, 0, hl, .inl rfl, ?_, fun A c W hI => ?_, fun A c W hI => ?_⟩
    · intro i hi
      obtain ⟨Y, hY, hXY⟩ := hX
      have b := hY.bd (by unfold Fit at hF; omega) hl i hi
      rw [hXY i hi]
      unfold Big
      split <;> omega
    · exact (refShare_yes t n c A v W hF hl vb (hI.congr hv)).mono fun e w' hp => hp.told hX
    · exact (share_yes t n c A v W hF hl vb (hI.congr hv) (.inr div_any)).mono fun e w' hp => hp.told hX
  · refine ⟨0, fun _ => 0, 2, by omega, .inr rfl, fun i hi => absurd hi (by omega), fun A c W hI => ?_, fun A c W hI => ?_⟩
    · exact (refShare_no t n c A f W (by omega) hI h).mono fun e w' ⟨he, hw⟩ => told_none he (hw ▸ Below.refl _ _)
    · exact (share_no t n c A f W ht (by omega) hI h).mono fun e w' ⟨he, hb⟩ => told_none he hb
theorem Told.ints {m : Nat} {X : Nat → Int} {W w' : World} {A : Option Addr} (hX : ∀ i, i < m → Big (X i)) (h : m = 0 ∨ ∃ g, A = some ⟨g, 0, none⟩ ∧ W.heap.size ≤ g ∧ Whole w' g 3 (cellsOf .i64 m X)) : Ints w' A m X := by
  rcases h with rfl | ⟨g, rfl, _, hw⟩
  · exact Ints.zero _ _
  · exact ⟨hX, fun _ => ⟨g, 0, rfl, hw.lt, fun i hi => by rw [Nat.zero_add]; exact (hw.cell i).trans (cellsOf_get hi)⟩⟩

set_option maxHeartbeats 1000000 in
theorem walkFixedShares (t : Int) (A : Option Addr) (n c : Nat) (z : List Int) (w : World) (ht : (Lit.int .i64 t).wf = true) (h : RowIn w A n c z) :
    Calls Try.prog 5 #[.int .i64 t, .slice A n c] w fun e w' => e = .returned (.bool true) ∧ Below w.heap.size w w' := by
  have hb := h.bd
  have hN := Lib.hid h.nil
  have HI := Lib.hid h.ints
  have hbt : Big t := big_of_wf ht
  generalize (fun i => z.getD i 0) = f at HI
  clear h
  by_cases hbig : 2100 < n
  · go_enter Try.func5, Try.ntmps5
    go_wp2_with fail
    go_ret
    exact ⟨rfl, Below.refl _ _⟩
  · obtain ⟨m, X, z, hm, hz, hX, hR, hS⟩ := both_told t hbt n (by omega) f
    have HR := Lib.hid hR
    have HS := Lib.hid hS
    have HX := Lib.hid hX
    have HZ := Lib.hid hz
    clear hR hS hX hz
    go_enter Try.func5, Try.ntmps5
    go_wp2_with fail
    refine (copy_any A n c f w HI.out (by omega) hN.out).mono ?_
    rintro e w1 ⟨B, d, rfl, hI, hbel, -⟩
    have J := Lib.hid hI
    have K := Lib.hid hbel
    have I1 := Lib.hid (HI.out.below hbel)
    clear hI hbel HI hN
    go_wp2_with fail
    refine (HR.out A c w1 I1.out).mono ?_
    rintro e w2 ⟨C, cc, rfl, hbel, hw⟩
    have J2 := Lib.hid (J.out.below hbel)
    have I2 := Lib.hid (I1.out.below hbel)
    have K2 := Lib.hid (K.out.trans (hbel.mono K.out.size))
    have C2 := Lib.hid (Told.ints HX.out hw)
    clear hbel hw J I1 K HR
    go_wp2
    go_loopg [8] 2 (fun g1 vi wr => ∃ k : Nat, vi = .int .i64 k ∧ k ≤ 2 ∧ 2 - k ≤ g1 ∧ Hid (Below w2.heap.size w2 wr))
    case atStart => exact ⟨0, rfl, by omega, by omega, Lib.hid (Below.refl _ _)⟩
    case round =>
      obtain ⟨k, rfl, hk, hg1, HB⟩ := hrel
      by_cases hk2 : k < 2
      · have hkz : (k : Int) < 2 := by omega
        have J3 := Lib.hid (J2.out.below HB.out)
        have I3 := Lib.hid (I2.out.below HB.out)
        have C3 := Lib.hid (C2.out.below HB.out)
        go_wp2_with fail
        refine (HS.out B d _ J3.out).mono ?_
        rintro e w4 ⟨E, ce, rfl, hbel, hw⟩
        have E4 := Lib.hid (Told.ints HX.out hw)
        have L4 := Lib.hid hw
        have B4 := Lib.hid hbel
        have J4 := Lib.hid (J3.out.below hbel)
        have I4 := Lib.hid (I3.out.below hbel)
        have C4 := Lib.hid (C3.out.below hbel)
        clear hbel hw J3 I3 C3
        go_wp2_with fail
        refine (same_yes E C m ce cc X w4 E4.out C4.out (by omega)).mono ?_
        rintro e w5 ⟨rfl, hd⟩
        obtain ⟨q1, rfl⟩ := hd
        go_wp2_with fail
        refine (same_yes B A n d c f _ (J4.out.drewN q1) (I4.out.drewN q1) (by omega)).mono ?_
        rintro e w5 ⟨rfl, hd⟩
        obtain ⟨q2, rfl⟩ := hd
        have L5 : Hid (m = 0 ∨ ∃ g Y, E = some ⟨g, 0, none⟩ ∧ w2.heap.size ≤ g ∧ Whole (w4.drewN (q1 + q2)) g 3 (cellsOf .i64 m Y)) := Lib.hid (L4.out.elim .inl (fun ⟨g, e, hg, hw⟩ => .inr ⟨g, X, e, Nat.le_trans HB.out.size hg, hw.drewN _⟩))
        have B5 : Hid (Below w2.heap.size w2 (w4.drewN (q1 + q2))) := Lib.hid (below_drewN (HB.out.trans (B4.out.mono HB.out.size)) _)
        clear J4 I4 C4 E4 L4 B4 HB
        go_wp2
        go_loopg [11] m (fun g2 vi wq => ∃ j : Nat, vi = .int .i64 j ∧ j ≤ m ∧ m - j ≤ g2 ∧ Hid (Below w2.heap.size w2 wq) ∧ Hid (m = 0 ∨ ∃ g Y, E = some ⟨g, 0, none⟩ ∧ w2.heap.size ≤ g ∧ Whole wq g 3 (cellsOf .i64 m Y)))
        case atStart => exact ⟨0, rfl, by omega, by omega, B5, L5⟩
        case round =>
          clear B5 L5
          obtain ⟨j, rfl, hj, hg2, B5, L5⟩ := hrel
          by_cases hjm : j < m
          · have hjz : (j : Int) < m := by omega
            obtain ⟨g, Y, rfl, hg, hw⟩ : ∃ g Y, E = some ⟨g, 0, none⟩ ∧ w2.heap.size ≤ g ∧ Whole wr g 3 (cellsOf .i64 m Y) := by
              rcases L5.out with e | h
              · omega
              · exact h
            have c1 := (hw.cell j).trans (cellsOf_get hjm)
            have f1 := hw.frozen j
            have B6 : Hid (Below w2.heap.size w2 (wr.setCell ⟨g, j, none⟩ (.int .i64 (-5)))) := Lib.hid (B5.out.setCell hg _)
            have L6 : Hid (m = 0 ∨ ∃ g' Y, some (⟨g, 0, none⟩ : Addr) = some ⟨g', 0, none⟩ ∧ w2.heap.size ≤ g' ∧ Whole (wr.setCell ⟨g, j, none⟩ (.int .i64 (-5))) g' 3 (cellsOf .i64 m Y)) := Lib.hid (by
              have h9 := hw.set_ j (.int .i64 (-5))
              rw [cellsOf_set] at h9
              exact .inr ⟨g, _, rfl, hg, h9⟩)
            clear L5 B5 hw hg
            go_wp2
            go_roundg (m - (j + 1))
            case measure => omega
            case rel => exact ⟨j + 1, by go_num, by omega, Nat.le_refl _, B6, L6⟩
          · obtain rfl : m = j := by omega
            go_wp2
            go_roundg (2 - (k + 1))
            case measure => omega
            case rel => exact ⟨k + 1, by go_num, by omega, Nat.le_refl _, B5⟩
      · obtain rfl : k = 2 := by omega
        have BB : Hid (Below w.heap.size w wr) := Lib.hid (K2.out.trans (HB.out.mono K2.out.size))
        go_wp2
        go_ret
        exact ⟨rfl, BB.out⟩
end Go.Proofs.Ytcipphmijdibjaa
