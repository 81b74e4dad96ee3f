/-
  The chapter's examples, which each of the outright laws begins with, are met.
-/
import Derived.Test.YtcipphmijdibjaaShare
import Derived.Test.YtcipphmijdibjaaPart
namespace Go.Proofs.Ytcipphmijdibjaa
open Go.RowKit

def three (a b c : Int) (i : Nat) : Int := if i = 0 then a else if i = 1 then b else c
theorem Ints.three (w : World) (a b c : Int) (ha : Big a) (hb : Big b) (hc : Big c) (t : TypeId) :
    Ints (w.alloc (.cells #[.int .i64 a, .int .i64 b, .int .i64 c] t)) (some ⟨w.heap.size, 0, none⟩) 3 (three a b c) := by
  refine ⟨fun i hi => ?_, fun _ => ⟨_, _, rfl, by simp, fun i hi => ?_⟩⟩
  · unfold Proofs.Ytcipphmijdibjaa.three
    split
    · exact ha
    · split
      · exact hb
      · exact hc
  · rcases (show i = 0 ∨ i = 1 ∨ i = 2 by omega) with rfl | rfl | rfl <;> simp [World.cell?_alloc_at, Proofs.Ytcipphmijdibjaa.three]
theorem share_ten {X : Nat → Int} (h : ShareOf 10 (fun _ => 1) 3 X) : X 0 = 4 ∧ X 1 = 3 ∧ X 2 = 3 := by
  obtain ⟨Y, hG, hX⟩ := h
  have e : (10 : Int).natAbs = 10 := rfl
  rw [e] at hG
  rcases hG with ⟨hs, _⟩ | ⟨_, q, ⟨_, hr, hq⟩, hY⟩
  · simp [sumN] at hs
  · have q01 := hq 0 1 (by omega) (by omega) (by omega)
    have q12 := hq 1 2 (by omega) (by omega) (by omega)
    have r0 := hr 0 (by omega)
    have r1 := hr 1 (by omega)
    have r2 := hr 2 (by omega)
    simp [T, lost, sumN] at q01 q12
    have q0 : q 0 = 0 := by omega
    have Y0 := hY 0 (by omega)
    have Y1 := hY 1 (by omega)
    have Y2 := hY 2 (by omega)
    simp [sumN, base, bumped, q0] at Y0 Y1 Y2
    have X0 := hX 0 (by omega)
    have X1 := hX 1 (by omega)
    have X2 := hX 2 (by omega)
    simp at X0 X1 X2
    omega
theorem share_minus {X : Nat → Int} (h : ShareOf (-10) (fun i => i + 1) 2 X) : X 0 = -3 ∧ X 1 = -7 := by
  obtain ⟨Y, hG, hX⟩ := h
  have e : (-10 : Int).natAbs = 10 := rfl
  rw [e] at hG
  rcases hG with ⟨hs, _⟩ | ⟨_, q, ⟨_, hr, hq⟩, hY⟩
  · simp [sumN] at hs
  · have q01 := hq 0 1 (by omega) (by omega) (by omega)
    have r0 := hr 0 (by omega)
    have r1 := hr 1 (by omega)
    have q0 : q 0 = 1 := by
      rcases (show q 0 = 0 ∨ q 0 = 1 by omega) with c | c
      · rcases (show q 1 = 0 ∨ q 1 = 1 by omega) with d | d <;> simp [T, lost, sumN, c, d] at q01
      · exact c
    have Y0 := hY 0 (by omega)
    have Y1 := hY 1 (by omega)
    simp [sumN, base, bumped, q0] at Y0 Y1
    have X0 := hX 0 (by omega)
    have X1 := hX 1 (by omega)
    simp at X0 X1
    omega
theorem a1 : addRes (three 1 2 3) 3 = (6, 0) := by decide
theorem a2 : addRes (two 1099511627776 1) 2 = (0, 10) := by decide
theorem a3 : mulRes 1048576 1048576 = (1099511627776, 0) := by decide
theorem a4 : mulRes 2097152 1048576 = (0, 10) := by decide
theorem a5 : partRes 5000 (-7) = (-3, 0) := by decide
theorem a6 : partRes 100001 1 = (0, 2) := by decide
theorem a7 : clampV 5 1 3 = 3 := by decide
theorem a8 : clampV 5 7 3 = 7 := by decide
theorem a9 : allFit (fun _ => 1099511627776) 1 = true := by decide
theorem a10 : allFit (two 0 1099511627777) 2 = false := by decide
set_option maxRecDepth 100000 in
set_option maxHeartbeats 2000000 in
theorem awake_any (w : World) : Calls Try.prog 28 #[] w fun e w' => e = .returned (.bool true) ∧ Below w.heap.size w w' := by
  have big (x : Int) (h : -1099511627777 ≤ x ∧ x ≤ 1099511627777) : Big x := by unfold Big; omega
  have BIG := Lib.hid big
  clear big
  go_enter Try.func28, Try.ntmps28
  go_wp2_with fail
  refine (add_any _ 3 _ (three 1 2 3) _ (Ints.three _ 1 2 3 (BIG.out _ (by omega)) (BIG.out _ (by omega)) (BIG.out _ (by omega)) _) (by omega) _ a1).mono ?_
  rintro e w1 ⟨rfl, hb⟩
  have K1 := Lib.hid (((Below.refl w.heap.size w).alloc (Nat.le_refl _) _).trans (hb.mono (by simp)))
  clear hb
  go_wp2_with fail
  refine (add_any _ 2 _ (two 1099511627776 1) _ (Ints.two _ 1099511627776 1 (BIG.out _ (by omega)) (BIG.out _ (by omega)) _) (by omega) _ a2).mono ?_
  rintro e w2 ⟨rfl, hb⟩
  have K2 := Lib.hid ((K1.out.alloc K1.out.size _).trans (hb.mono (by have := K1.out.size; simp; omega)))
  clear hb K1
  go_wp2_with fail
  refine (mul_any 1048576 1048576 (BIG.out _ (by omega)) (BIG.out _ (by omega)) _ _ a3).mono ?_
  rintro e w3 ⟨rfl, hb⟩
  have K3 := Lib.hid (K2.out.trans (hb.mono K2.out.size))
  clear hb K2
  go_wp2_with fail
  refine (mul_any 2097152 1048576 (BIG.out _ (by omega)) (BIG.out _ (by omega)) _ _ a4).mono ?_
  rintro e w4 ⟨rfl, hb⟩
  have K4 := Lib.hid (K3.out.trans (hb.mono K3.out.size))
  clear hb K3
  go_wp2_with fail
  refine (part_any 5000 (-7) (BIG.out _ (by omega)) _ _ a5).mono ?_
  rintro e w5 ⟨rfl, hb⟩
  have K5 := Lib.hid (K4.out.trans (hb.mono K4.out.size))
  clear hb K4
  go_wp2_with fail
  refine (part_any 100001 1 (BIG.out _ (by omega)) _ _ a6).mono ?_
  rintro e w6 ⟨rfl, hb⟩
  have K6 := Lib.hid (K5.out.trans (hb.mono K5.out.size))
  clear hb K5
  go_wp2_with fail
  refine (share_yes 10 3 _ _ (fun _ => 1) _ (by unfold Fit; omega) (by omega) (fun i _ => by show 1 ≤ _; omega) ((Ints.three _ 1 1 1 (BIG.out _ (by omega)) (BIG.out _ (by omega)) (BIG.out _ (by omega)) _).congr (fun i hi => by
    rcases (show i = 0 ∨ i = 1 ∨ i = 2 by omega) with rfl | rfl | rfl <;> rfl)) (.inl (fun i _ => by decide))).mono ?_
  rintro e w7 ⟨g, X, rfl, hw, hb, hg, hX⟩
  obtain ⟨x0, x1, x2⟩ := share_ten hX
  have K7 := Lib.hid ((K6.out.alloc K6.out.size _).trans (hb.mono (by have := K6.out.size; simp; omega)))
  have W7 := Lib.hid hw
  have X0 := Lib.hid x0
  have X1 := Lib.hid x1
  have X2 := Lib.hid x2
  clear hw hb hg hX x0 x1 x2 K6
  go_wp2_with fail
  refine (share_yes (-10) 2 _ _ (fun i => i + 1) _ (by unfold Fit; omega) (by omega) (fun i hi => by show i + 1 ≤ _; omega) ((Ints.two _ 1 2 (BIG.out _ (by omega)) (BIG.out _ (by omega)) _).congr (fun i hi => by
    rcases (show i = 0 ∨ i = 1 by omega) with rfl | rfl <;> rfl)) (.inl (fun i hi => by have e : (-10 : Int).natAbs = 10 := rfl; rw [e]; show 10 * (i + 1) < _; omega))).mono ?_
  rintro e w8 ⟨g2, Y, rfl, hw, hb, hg, hY⟩
  obtain ⟨y0, y1⟩ := share_minus hY
  have K8 := Lib.hid ((K7.out.alloc K7.out.size _).trans (hb.mono (by have := K7.out.size; simp; omega)))
  have W8 := (W7.out.alloc (.cells #[.int .i64 1, .int .i64 2] 3)).below hb (by have := W7.out.lt; simp; omega)
  have c0 := (W8.cell 0).trans (cellsOf_get (by omega))
  have c1 := (W8.cell 1).trans (cellsOf_get (by omega))
  have c2 := (W8.cell 2).trans (cellsOf_get (by omega))
  have d0 := (hw.cell 0).trans (cellsOf_get (by omega))
  have d1 := (hw.cell 1).trans (cellsOf_get (by omega))
  rw [X0.out] at c0
  rw [X1.out] at c1
  rw [X2.out] at c2
  rw [y0] at d0
  rw [y1] at d1
  clear hw hb hg hY y0 y1 W8 K7 W7 X0 X1 X2
  go_wp2_with fail
  refine (clamp_any 5 1 3 _ _ a7).mono ?_
  rintro e w9 ⟨rfl, rfl⟩
  go_wp2_with fail
  refine (clamp_any 5 7 3 _ _ a8).mono ?_
  rintro e w9 ⟨rfl, rfl⟩
  go_wp2_with fail
  refine (fits_any _ 1 _ (fun _ => 1099511627776) _ (Ints.one _ _ (by omega) _) (by omega) _ a9).mono ?_
  rintro e w9 ⟨rfl, rfl⟩
  go_wp2_with fail
  have I12 := Ints.two (w8.alloc (.cells #[.int .i64 1099511627776] 3)) 0 1099511627777 (by omega) (by omega) 3
  simp only [World.size_alloc] at I12
  refine (fits_any _ 2 _ (two 0 1099511627777) _ I12 (by omega) _ a10).mono ?_
  rintro e w9 ⟨rfl, rfl⟩
  go_wp2_with fail
  go_ret
  exact ⟨rfl, (K8.out.alloc K8.out.size _).alloc (by have := K8.out.size; simp; omega) _⟩
end Go.Proofs.Ytcipphmijdibjaa
