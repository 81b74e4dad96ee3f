/-
  The furniture of stage 17's laws: told, awake.
-/
import Derived.Test.YtpjhhndjbpegcaaFlex17
import Derived.Test.YtpjhhndjbpegcaaPicked
namespace Go.Proofs.Ytpjhhndjbpegcaa
open Go.RowKit

/-- the chapter's two boxes -/
abbrev two17 : Nat → Int := pk [10, 20]
theorem two_near {room j : Int} (hr : 0 ≤ room ∧ room ≤ 1000) (hj : 0 ≤ j ∧ j ≤ 4) : Near17 two17 2 5 room j :=
  ⟨by omega, by omega, by omega, hj, fun i hi => by rcases (show i = 0 ∨ i = 1 by omega) with rfl | rfl <;> (show (0 : Int) ≤ _ ∧ _; decide)⟩
theorem two_is {room j : Int} (hr : 0 ≤ room ∧ room ≤ 1000) (hj : 0 ≤ j ∧ j ≤ 4) {back : Bool} {o : List Int} {z : Int} (h : MainIs two17 2 5 room j back o z) :
    ∃ E, o = [if back = true then room - (E 0 + 10) else E 0, if back = true then room - (E 0 + 10 + E 1 + 5 + 20) else E 0 + 10 + E 1 + 5] ∧ z = 0 ∧ Extra 2 (room - 35) j E := by
  obtain ⟨E, rfl, rfl, hE⟩ := (two_near hr hj).nigh.told h
  have hl : leftF two17 5 room 2 = room - 35 := by
    show room - (0 + 10 + 20) - gapsZ 5 2 = room - 35
    have : gapsZ 5 2 = 5 := by decide
    omega
  have h1 : endP two17 5 E 1 = E 0 + 10 := by show 0 + E 0 + 0 + 10 = E 0 + 10; omega
  have h2 : endP two17 5 E 2 = E 0 + 10 + E 1 + 5 + 20 := by show endP two17 5 E 1 + E 1 + 5 + 20 = _; rw [h1]
  have f0 : two17 0 = 10 := rfl
  have f1 : two17 1 = 20 := rfl
  refine ⟨E, ?_, rfl, by rw [← hl]; exact hE (by omega)⟩
  show [atF two17 5 room back E 0, atF two17 5 room back E 1] = _
  unfold atF
  rw [h1, h2, f0, f1]
  cases back
  · simp only [Bool.false_eq_true, if_false]
    rw [show E 0 + 10 - 10 = E 0 by omega, show E 0 + 10 + E 1 + 5 + 20 - 20 = E 0 + 10 + E 1 + 5 by omega]
  · rfl
theorem ex_zero {room : Int} {E : Nat → Int} (h : Extra 2 (room - 35) 0 E) : E 0 = 0 ∧ E 1 = 0 := ⟨h.2.2.2.2 (by omega) (by omega) (by omega) (by omega) 0 (by omega), h.2.2.2.2 (by omega) (by omega) (by omega) (by omega) 1 (by omega)⟩
theorem ex_end {room : Int} {E : Nat → Int} (h : Extra 2 (room - 35) 1 E) : E 0 = room - 35 ∧ E 1 = 0 := ⟨h.1 rfl 0 (by omega), h.1 rfl 1 (by omega)⟩
theorem ex_mid {room : Int} {E : Nat → Int} (h : Extra 2 (room - 35) 2 E) : E 0 = halfZ (room - 35) ∧ E 1 = 0 := ⟨h.2.1 rfl 0 (by omega), h.2.1 rfl 1 (by omega)⟩
theorem ex_betw {room : Int} {E : Nat → Int} (h : Extra 2 (room - 35) 3 E) (hr : 35 < room) : E 0 = 0 ∧ E 1 = room - 35 := by
  obtain ⟨X, hX, e⟩ := (h.2.2.1 rfl).2 (by omega)
  have s := (share_ones hX (by omega) (by omega)).1
  have s2 : sumB X 1 = room - 35 := s
  have s3 : sumB X 1 = 0 + X 0 := rfl
  refine ⟨e 0 (by omega), ?_⟩
  rw [e 1 (by omega), if_neg (by omega)]
  show X 0 = _
  omega
theorem ex_betw0 {room : Int} {E : Nat → Int} (h : Extra 2 (room - 35) 3 E) (hr : room ≤ 35) : E 0 = 0 ∧ E 1 = 0 := ⟨(h.2.2.1 rfl).1 (.inl (by omega)) 0 (by omega), (h.2.2.1 rfl).1 (.inl (by omega)) 1 (by omega)⟩
theorem ex_even {E : Nat → Int} (h : Extra 2 (65 - 35) 4 E) : E 0 = 10 ∧ E 1 = 10 := by
  obtain ⟨X, hX, e⟩ := (h.2.2.2.1 rfl).2 (by omega)
  obtain ⟨s, -, n, d⟩ := share_ones hX (by omega) (by omega)
  have s3 : sumB X 3 = 0 + X 0 + X 1 + X 2 := rfl
  have s2 : sumB X 3 = 65 - 35 := s
  have n1 := n 2 (by omega) 0 (by omega)
  have d1 := d 1 (by omega) 0 (by omega)
  have d2 := d 2 (by omega) 1 (by omega)
  rw [e 0 (by omega), e 1 (by omega)]
  omega
theorem exT {room j : Int} {back : Bool} {a b : Int} (hr : 0 ≤ room ∧ room ≤ 1000) (hj : 0 ≤ j ∧ j ≤ 4) (hE : ∀ E, Extra 2 (room - 35) j E → (if back = true then room - (E 0 + 10) else E 0) = a ∧ (if back = true then room - (E 0 + 10 + E 1 + 5 + 20) else E 0 + 10 + E 1 + 5) = b) :
    ∀ o z, MainIs two17 2 5 room j back o z → o = [a, b] ∧ z = 0 := by
  intro o z h
  obtain ⟨E, rfl, rfl, hx⟩ := two_is hr hj h
  obtain ⟨h1, h2⟩ := hE E hx
  rw [h1, h2]
  exact ⟨rfl, rfl⟩
set_option maxRecDepth 100000 in
set_option maxHeartbeats 4000000 in
theorem told17 (hM : MainOK 12) (room j : Int) (back : Bool) (a b : Int) (hr : I64' room) (hj : 0 ≤ j ∧ j ≤ 255) (hE : ∀ o z, MainIs two17 2 5 room j back o z → o = [a, b] ∧ z = 0) (w : World) :
    Calls Try.prog 28 #[.int .i64 room, .int .u8 j, .bool back, .int .i64 a, .int .i64 b] w fun e w' => e = .returned (.bool true) ∧ Below w.heap.size w w' := by
  have K : Hid (∀ W : World, Calls Try.prog 12 #[.slice (some ⟨W.heap.size, 0, none⟩) 2 2, .int .i64 5, .int .i64 room, .int .u8 j, .bool back] (W.alloc (.cells #[.int .i64 10, .int .i64 20] 3)) fun e w' => ∃ A c, e = .returned (.tuple #[.slice (some ⟨A, 0, none⟩) 2 c, .int .i64 0]) ∧ w'.cell? ⟨A, 0, none⟩ = some (.int .i64 a) ∧ w'.cell? ⟨A, 1, none⟩ = some (.int .i64 b) ∧ Below W.heap.size W w') := Lib.hid (fun W => by
    refine (hM _ 2 2 two17 5 room j back _ (pk_new W 3 [10, 20] (by decide)) (by omega) (by omega) (by decide) hr hj).mono ?_
    rintro e w' ⟨v, o, z, rfl, h1, h2, hb⟩
    obtain ⟨rfl, rfl⟩ := hE _ _ h1
    obtain ⟨g, c, rfl, -, -, -, -, h6, -⟩ := own_at h2 (by simp)
    exact ⟨g, c, rfl, h6 0 _ rfl, h6 1 _ rfl, ((Below.refl _ W).alloc (Nat.le_refl _) _).trans (hb.mono (by rw [World.size_alloc]; omega))⟩)
  clear hM hE hr hj
  have ea : (a == a) = true := by simp
  have eb : (b == b) = true := by simp
  go_enter Try.func28, Try.ntmps28
  go_wp2_with (go_at_call 12; (with_reducible refine (K.out _).mono ?_); rintro e w1 ⟨A, c, rfl, h1, h2, hb⟩; have B1 := Lib.hid hb; clear hb)
  go_ret
  exact ⟨by first | rfl | simp, B1.out⟩
def AwakeOK17 (f : Nat) : Prop := ∀ w : World, Calls Try.prog f #[] w fun e w' => e = .returned (.bool true) ∧ Below w.heap.size w w'
set_option maxRecDepth 100000 in
set_option maxHeartbeats 8000000 in
theorem awake17_any (hM : MainOK 12) (hC : CrossOK 14) : AwakeOK17 16 := by
  intro w
  have TA : Hid (∀ W, Calls Try.prog 28 #[.int .i64 65, .int .u8 0, .bool false, .int .i64 (0), .int .i64 15] W fun e w' => e = .returned (.bool true) ∧ Below W.heap.size W w') := Lib.hid (fun W => told17 hM 65 0 false (0) 15 (by decide) (by decide) (exT (by omega) (by omega) (fun E hx => by
    have h := ex_zero hx
    rw [h.1, h.2]
    decide)) W)
  have TB : Hid (∀ W, Calls Try.prog 28 #[.int .i64 65, .int .u8 1, .bool false, .int .i64 (30), .int .i64 45] W fun e w' => e = .returned (.bool true) ∧ Below W.heap.size W w') := Lib.hid (fun W => told17 hM 65 1 false (30) 45 (by decide) (by decide) (exT (by omega) (by omega) (fun E hx => by
    have h := ex_end hx
    rw [h.1, h.2]
    decide)) W)
  have TC : Hid (∀ W, Calls Try.prog 28 #[.int .i64 65, .int .u8 2, .bool false, .int .i64 (15), .int .i64 30] W fun e w' => e = .returned (.bool true) ∧ Below W.heap.size W w') := Lib.hid (fun W => told17 hM 65 2 false (15) 30 (by decide) (by decide) (exT (by omega) (by omega) (fun E hx => by
    have h := ex_mid hx
    rw [h.1, h.2]
    decide)) W)
  have TD : Hid (∀ W, Calls Try.prog 28 #[.int .i64 65, .int .u8 3, .bool false, .int .i64 (0), .int .i64 45] W fun e w' => e = .returned (.bool true) ∧ Below W.heap.size W w') := Lib.hid (fun W => told17 hM 65 3 false (0) 45 (by decide) (by decide) (exT (by omega) (by omega) (fun E hx => by
    have h := ex_betw hx (by omega)
    rw [h.1, h.2]
    decide)) W)
  have TE : Hid (∀ W, Calls Try.prog 28 #[.int .i64 65, .int .u8 4, .bool false, .int .i64 (10), .int .i64 35] W fun e w' => e = .returned (.bool true) ∧ Below W.heap.size W w') := Lib.hid (fun W => told17 hM 65 4 false (10) 35 (by decide) (by decide) (exT (by omega) (by omega) (fun E hx => by
    have h := ex_even hx
    rw [h.1, h.2]
    decide)) W)
  have TF : Hid (∀ W, Calls Try.prog 28 #[.int .i64 65, .int .u8 0, .bool true, .int .i64 (55), .int .i64 30] W fun e w' => e = .returned (.bool true) ∧ Below W.heap.size W w') := Lib.hid (fun W => told17 hM 65 0 true (55) 30 (by decide) (by decide) (exT (by omega) (by omega) (fun E hx => by
    have h := ex_zero hx
    rw [h.1, h.2]
    decide)) W)
  have TG : Hid (∀ W, Calls Try.prog 28 #[.int .i64 65, .int .u8 3, .bool true, .int .i64 (55), .int .i64 0] W fun e w' => e = .returned (.bool true) ∧ Below W.heap.size W w') := Lib.hid (fun W => told17 hM 65 3 true (55) 0 (by decide) (by decide) (exT (by omega) (by omega) (fun E hx => by
    have h := ex_betw hx (by omega)
    rw [h.1, h.2]
    decide)) W)
  have TH : Hid (∀ W, Calls Try.prog 28 #[.int .i64 20, .int .u8 2, .bool false, .int .i64 (-7), .int .i64 8] W fun e w' => e = .returned (.bool true) ∧ Below W.heap.size W w') := Lib.hid (fun W => told17 hM 20 2 false (-7) 8 (by decide) (by decide) (exT (by omega) (by omega) (fun E hx => by
    have h := ex_mid hx
    rw [h.1, h.2]
    decide)) W)
  have TI : Hid (∀ W, Calls Try.prog 28 #[.int .i64 20, .int .u8 3, .bool false, .int .i64 (0), .int .i64 15] W fun e w' => e = .returned (.bool true) ∧ Below W.heap.size W w') := Lib.hid (fun W => told17 hM 20 3 false (0) 15 (by decide) (by decide) (exT (by omega) (by omega) (fun E hx => by
    have h := ex_betw0 hx (by omega)
    rw [h.1, h.2]
    decide)) W)
  have MA : Hid (∀ W : World, Calls Try.prog 12 #[.slice (some ⟨W.heap.size, 0, none⟩) 2 2, .int .i64 5, .int .i64 65, .int .u8 5, .bool false] (W.alloc (.cells #[.int .i64 10, .int .i64 20] 3)) fun e w' => ∃ A c, e = .returned (.tuple #[.slice A 0 c, .int .i64 2]) ∧ Below W.heap.size W w') := Lib.hid (fun W => by
    refine (hM _ 2 2 two17 5 65 5 false _ (pk_new W 3 [10, 20] (by decide)) (by omega) (by omega) (by decide) (by decide) (by decide)).mono ?_
    rintro e w' ⟨v, o, z, rfl, h1, h2, hb⟩
    have hk : askM two17 2 5 65 5 = 2 := by unfold askM; rw [if_pos (by omega)]
    have hbad := MainIs.bad (f := two17) (n := 2) (gap := 5) (room := 65) (j := 5) (back := false) (by rw [hk]; decide)
    rw [hk] at hbad
    obtain ⟨rfl, rfl⟩ := h1.uniq hbad
    obtain ⟨A, c, rfl, -, -, -⟩ := own_form h2
    exact ⟨A, c, rfl, ((Below.refl _ W).alloc (Nat.le_refl _) _).trans (hb.mono (by rw [World.size_alloc]; omega))⟩)
  have MB : Hid (∀ W : World, Calls Try.prog 12 #[.slice (some ⟨W.heap.size, 0, none⟩) 2 2, .int .i64 (-1), .int .i64 65, .int .u8 0, .bool false] (W.alloc (.cells #[.int .i64 10, .int .i64 20] 3)) fun e w' => ∃ A c, e = .returned (.tuple #[.slice A 0 c, .int .i64 2]) ∧ Below W.heap.size W w') := Lib.hid (fun W => by
    refine (hM _ 2 2 two17 (-1) 65 0 false _ (pk_new W 3 [10, 20] (by decide)) (by omega) (by omega) (by decide) (by decide) (by decide)).mono ?_
    rintro e w' ⟨v, o, z, rfl, h1, h2, hb⟩
    have hk : askM two17 2 (-1) 65 0 = 2 := by unfold askM; rw [if_pos (by omega)]
    have hbad := MainIs.bad (f := two17) (n := 2) (gap := -1) (room := 65) (j := 0) (back := false) (by rw [hk]; decide)
    rw [hk] at hbad
    obtain ⟨rfl, rfl⟩ := h1.uniq hbad
    obtain ⟨A, c, rfl, -, -, -⟩ := own_form h2
    exact ⟨A, c, rfl, ((Below.refl _ W).alloc (Nat.le_refl _) _).trans (hb.mono (by rw [World.size_alloc]; omega))⟩)
  have MC : Hid (∀ W : World, Calls Try.prog 12 #[.slice none 0 0, .int .i64 5, .int .i64 65, .int .u8 4, .bool true] W fun e w' => ∃ A c, e = .returned (.tuple #[.slice A 0 c, .int .i64 0]) ∧ Below W.heap.size W w') := Lib.hid (fun W => by
    refine (hM none 0 0 (fun _ => 0) 5 65 4 true _ (Ints.zero _ _) (by omega) (by omega) (by decide) (by decide) (by decide)).mono ?_
    rintro e w' ⟨v, o, z, rfl, h1, h2, hb⟩
    obtain ⟨E, rfl, rfl, -⟩ := (show Near17 (fun _ => 0) 0 5 65 4 from ⟨by omega, by omega, by omega, by omega, fun i hi => absurd hi (by omega)⟩).nigh.told h1
    obtain ⟨A, c, rfl, -, -, -⟩ := own_form h2
    exact ⟨A, c, rfl, hb⟩)
  have CA : Hid (∀ W, Calls Try.prog 14 #[.int .i64 10, .int .i64 25, .int .u8 1] W fun e w' => e = .returned (.tuple #[.int .i64 15, .int .i64 0]) ∧ Below W.heap.size W w') := Lib.hid (fun W => hC 10 25 1 W (by decide) (by decide) (by decide))
  have CB : Hid (∀ W, Calls Try.prog 14 #[.int .i64 10, .int .i64 25, .int .u8 2] W fun e w' => e = .returned (.tuple #[.int .i64 7, .int .i64 0]) ∧ Below W.heap.size W w') := Lib.hid (fun W => hC 10 25 2 W (by decide) (by decide) (by decide))
  have CC : Hid (∀ W, Calls Try.prog 14 #[.int .i64 10, .int .i64 25, .int .u8 5] W fun e w' => e = .returned (.tuple #[.int .i64 0, .int .i64 0]) ∧ Below W.heap.size W w') := Lib.hid (fun W => hC 10 25 5 W (by decide) (by decide) (by decide))
  have CD : Hid (∀ W, Calls Try.prog 14 #[.int .i64 10, .int .i64 25, .int .u8 3] W fun e w' => e = .returned (.tuple #[.int .i64 0, .int .i64 2]) ∧ Below W.heap.size W w') := Lib.hid (fun W => hC 10 25 3 W (by decide) (by decide) (by decide))
  clear hM hC
  go_enter Try.func16, Try.ntmps16
  go_upto_region 8 with (first
    | (go_at_call 12; (with_reducible refine (MA.out _).mono ?_); rintro e w1 ⟨AA, cA, rfl, hb⟩; have B1 := Lib.hid hb; clear hb)
    | (go_at_call 12; (with_reducible refine (MB.out _).mono ?_); rintro e w2 ⟨AB, cB, rfl, hb⟩; have B2 := Lib.hid (b_nx17 B1.out hb); clear hb)
    | (go_at_call 12; (with_reducible refine (MC.out _).mono ?_); rintro e w3 ⟨AC, cC, rfl, hb⟩; have B3 := Lib.hid (b_nx17 B2.out hb); clear hb)
    | (go_at_call 14; (with_reducible refine (CA.out _).mono ?_); rintro e w4 ⟨rfl, hb⟩; have B4 := Lib.hid (b_nx17 B3.out hb); clear hb)
    | (go_at_call 14; (with_reducible refine (CB.out _).mono ?_); rintro e w5 ⟨rfl, hb⟩; have B5 := Lib.hid (b_nx17 B4.out hb); clear hb)
    | (go_at_call 14; (with_reducible refine (CC.out _).mono ?_); rintro e w6 ⟨rfl, hb⟩; have B6 := Lib.hid (b_nx17 B5.out hb); clear hb)
    | (go_at_call 14; (with_reducible refine (CD.out _).mono ?_); rintro e w7 ⟨rfl, hb⟩; have B7 := Lib.hid (b_nx17 B6.out hb); clear hb))
  clear MA MB MC CA CB CC CD B1 B2 B3 B4 B5 B6
  go_wp2_with (first
    | (go_at_call 28; (with_reducible refine (TA.out _).mono ?_); rintro e v0 ⟨rfl, hb⟩; have DA := Lib.hid (b_nx17 B7.out hb); clear hb)
    | (go_at_call 28; (with_reducible refine (TB.out _).mono ?_); rintro e v1 ⟨rfl, hb⟩; have DB := Lib.hid (b_nx17 DA.out hb); clear hb)
    | (go_at_call 28; (with_reducible refine (TC.out _).mono ?_); rintro e v2 ⟨rfl, hb⟩; have DC := Lib.hid (b_nx17 DB.out hb); clear hb)
    | (go_at_call 28; (with_reducible refine (TD.out _).mono ?_); rintro e v3 ⟨rfl, hb⟩; have DD := Lib.hid (b_nx17 DC.out hb); clear hb)
    | (go_at_call 28; (with_reducible refine (TE.out _).mono ?_); rintro e v4 ⟨rfl, hb⟩; have DE := Lib.hid (b_nx17 DD.out hb); clear hb)
    | (go_at_call 28; (with_reducible refine (TF.out _).mono ?_); rintro e v5 ⟨rfl, hb⟩; have DF := Lib.hid (b_nx17 DE.out hb); clear hb)
    | (go_at_call 28; (with_reducible refine (TG.out _).mono ?_); rintro e v6 ⟨rfl, hb⟩; have DG := Lib.hid (b_nx17 DF.out hb); clear hb)
    | (go_at_call 28; (with_reducible refine (TH.out _).mono ?_); rintro e v7 ⟨rfl, hb⟩; have DH := Lib.hid (b_nx17 DG.out hb); clear hb)
    | (go_at_call 28; (with_reducible refine (TI.out _).mono ?_); rintro e v8 ⟨rfl, hb⟩; have DI := Lib.hid (b_nx17 DH.out hb); clear hb))
  go_ret
  exact ⟨by first | rfl | simp, DI.out⟩
end Go.Proofs.Ytpjhhndjbpegcaa
