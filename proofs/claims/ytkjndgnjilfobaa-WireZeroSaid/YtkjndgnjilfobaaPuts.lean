/-
  What the letters of the landed wire make of a value: its bytes.
-/
import Derived.Test.YtkjndgnjilfobaaOnly
import Derived.Test.YtkjndgnjilfobaaConcat
import Derived.Deep.RegionHeld3
namespace Go.Proofs.Ytkjndgnjilfobaa
open Go.RowKit

theorem made_up {w W w' : World} {l : List Nat} {e : Ending} (h : Made W l e w') (hb : Below w.heap.size w W) : Made w l e w' := by
  obtain ⟨A, c, rfl, q1, q2, q3, hB, hO, hbel⟩ := h
  exact ⟨A, c, rfl, q1, q2, q3, hB, hO.down hb.size, hb.trans (hbel.mono hb.size)⟩
def two (p q : Piece) (i : Nat) : Piece := if i = 0 then p else q
theorem cat_two (p q : Piece) : cat (two p q) 2 = seg p.f 0 p.n ++ seg q.f 0 q.n := rfl
theorem total_two (p q : Piece) : total (two p q) 2 = p.n + q.n := by show 0 + p.n + q.n = _; omega
theorem pieces_two {w : World} {p q : Piece} (hp : p.ok w) (hq : q.ok w) : Pieces (w.alloc (.cells #[.slice p.A p.n p.c, .slice q.A q.n q.c] 25)) (some ⟨w.heap.size, 0, none⟩) 2 (two p q) := by
  have hb := (Below.refl w.heap.size w).alloc (Nat.le_refl _) (.cells #[.slice p.A p.n p.c, .slice q.A q.n q.c] 25)
  refine ⟨fun j hj => ?_, fun _ => ⟨w.heap.size, 0, rfl, by simp, fun j hj => ?_⟩⟩
  · unfold two
    split
    · exact hp.below hb
    · exact hq.below hb
  · rw [cell_of_row _ w.heap.size _ _ _ _ (heap_alloc_new w _)]
    rcases (show j = 0 ∨ j = 1 by omega) with rfl | rfl <;> rfl
theorem concat_two {w0 w : World} {p q : Piece} {l : List Nat} (hl : seg p.f 0 p.n ++ seg q.f 0 q.n = l) (hb : Below w0.heap.size w0 w) (hp : p.ok w) (hq : q.ok w) (hn : p.n + q.n ≤ 100000000) :
    Calls Try.prog 28 #[.slice (some ⟨w.heap.size, 0, none⟩) 2 2] (w.alloc (.cells #[.slice p.A p.n p.c, .slice q.A q.n q.c] 25)) fun e w' => Made w0 l e w' ∧ Below w.heap.size w w' :=
  (concat_any _ 2 2 (two p q) _ (pieces_two hp hq) (by omega) (by rw [total_two]; exact hn)).mono fun e w' h => by
    rw [cat_two, hl] at h
    have h2 := made_up h ((Below.refl w.heap.size w).alloc (Nat.le_refl _) _)
    refine ⟨made_up h (hb.alloc hb.size _), ?_⟩
    obtain ⟨A, c, _, _, _, _, _, _, hbel⟩ := h2
    exact hbel

set_option maxRecDepth 100000 in
set_option maxHeartbeats 4000000 in
theorem put_b (v : RV) (w : World) (hv : v.ok w) (hb : v.bn ≤ 262144) : Calls Try.prog 60 #[v.val] w (Made w (form 98 v.mean)) := by
  obtain ⟨-, -, ⟨b1, b2, b3, b4, b5⟩, -⟩ := hv
  obtain ⟨vn, vi, vf, bA, bn, bc, bf, lA, ln, lc, lf⟩ := v
  dsimp only at b1 b2 b3 b4 b5 hb
  have F : Hid (form 98 (RV.mk vn vi vf bA bn bc bf lA ln lc lf).mean = word bn ++ seg bf 0 bn) := Lib.hid (by unfold form RV.mean; simp [seg_len])
  have OKB : Hid (∀ W, Below w.heap.size w W → (Piece.mk bA bn bc bf).ok W) := Lib.hid (fun W hW => ⟨b1.below hW, b2, b4, b5⟩)
  have P := Lib.hid (fun W => put_any bn (by omega) W)
  have WT := Lib.hid (word_ten (n := bn) (by omega))
  rw [F.out]
  obtain ⟨L0, hL0⟩ : ∃ l, word bn ++ seg bf 0 bn = l := ⟨_, rfl⟩
  rw [hL0]
  have HL := Lib.hid hL0
  clear hL0
  have C3 : Hid ((w.alloc (.cells #[.int .u64 (vn : Nat), .int .i64 vi, .bool vf, .slice bA bn bc, .slice lA ln lc] 42)).cell? ⟨w.heap.size, 3, none⟩ = some (.slice bA bn bc)) := Lib.hid (by simp [World.cell?_alloc_at])
  have BB : Hid (Below w.heap.size w (w.alloc (.cells #[.int .u64 (vn : Nat), .int .i64 vi, .bool vf, .slice bA bn bc, .slice lA ln lc] 42))) := Lib.hid ((Below.refl _ w).alloc (Nat.le_refl _) _)
  have SZ : Hid (w.heap.size < (w.alloc (.cells #[.int .u64 (vn : Nat), .int .i64 vi, .bool vf, .slice bA bn bc, .slice lA ln lc] 42)).heap.size) := Lib.hid (by rw [World.size_alloc]; omega)
  have e1 : IntKind.u64.wrap (bn : Int) = (bn : Int) := by rw [show IntKind.u64.wrap (bn : Int) = (bn : Int) % 18446744073709551616 from rfl]; omega
  clear b1 b2 b4 b5 F
  unfold RV.val
  dsimp only
  go_enter Try.func60, Try.ntmps60
  go_wp2_with fail
  generalize w.alloc (.cells #[.int .u64 (vn : Nat), .int .i64 vi, .bool vf, .slice bA bn bc, .slice lA ln lc] 42) = w0 at C3 BB SZ ⊢
  have BD : Hid (Below w.heap.size w w0.drew) := Lib.hid BB.out.drew
  go_region_held3 (fun W' => W'.cell? ⟨w.heap.size, 3, none⟩ = some (.slice bA bn bc) ∧ Below w.heap.size w W')
    (first | exact ⟨C3.out, BD.out⟩ | exact ⟨C4.out, B4.out⟩ | exact ⟨C5.out, B5.out⟩ | exact ⟨C6.out, B6.out⟩)
    (first
    | (go_at_call 48; (with_reducible refine (P.out _).mono ?_); rintro e w2 ⟨A2, c2, rfl, q1, q2, q3, hB, hO, hbel⟩; have C4 : Hid (w2.cell? ⟨w.heap.size, 3, none⟩ = some (.slice bA bn bc)) := Lib.hid ((hbel.cell (p := ⟨w.heap.size, 3, none⟩) SZ.out).trans C3.out); have B4 : Hid (Below w.heap.size w w2) := Lib.hid (BD.out.trans (hbel.mono BD.out.size)); have KC := Lib.hid (concat_two (p := ⟨A2, (word bn).length, c2, pick (word bn)⟩) (q := ⟨bA, bn, bc, bf⟩) (l := L0) (by dsimp only; rw [pick_seg]; exact HL.out) B4.out ⟨hB, q3, q1, (by unfold maxLen at q2; omega)⟩ (OKB.out w2 B4.out) (Nat.le_trans (Nat.add_le_add WT.out hb) (by omega))); have B5 : Hid (Below w.heap.size w (w2.alloc (.cells #[.slice A2 (word bn).length c2, .slice bA bn bc] 25))) := Lib.hid (B4.out.alloc B4.out.size _); have C5 : Hid ((w2.alloc (.cells #[.slice A2 (word bn).length c2, .slice bA bn bc] 25)).cell? ⟨w.heap.size, 3, none⟩ = some (.slice bA bn bc)) := Lib.hid (by rw [World.cell?_alloc_lt w2 _ _ (lt_of_cell C4.out)]; exact C4.out); clear q1 q2 q3 hB hO hbel)
    | (go_at_call 28; (with_reducible refine KC.out.mono ?_); rintro e w6 ⟨⟨A6, c6, rfl, q1, q2, q3, hB, hO, hbel⟩, hb6⟩; have B6 : Hid (Below w.heap.size w w6) := Lib.hid hbel; have C6 : Hid (w6.cell? ⟨w.heap.size, 3, none⟩ = some (.slice bA bn bc)) := Lib.hid ((hb6.cell (p := ⟨w.heap.size, 3, none⟩) (lt_of_cell C4.out)).trans C4.out); have M6 : Hid (Made w L0 (.returned (.slice A6 L0.length c6)) w6) := Lib.hid ⟨A6, c6, rfl, q1, q2, q3, hB, hO, hbel⟩; clear q1 q2 q3 hB hO hbel hb6))
  all_goals
    go_wp2
    go_ret
    exact M6.out

set_option maxRecDepth 100000 in
set_option maxHeartbeats 4000000 in
theorem put_l (v : RV) (w : World) (hv : v.ok w) (hb : v.ln ≤ 4096) : Calls Try.prog 63 #[v.val] w (Made w (form 108 v.mean)) := by
  obtain ⟨-, -, -, ⟨b1, b2, b3, b4, b5⟩⟩ := hv
  obtain ⟨vn, vi, vf, bA, bn, bc, bf, lA, ln, lc, lf⟩ := v
  dsimp only at b1 b2 b3 b4 b5 hb
  have F : Hid (form 108 (RV.mk vn vi vf bA bn bc bf lA ln lc lf).mean = word ln ++ (seg lf 0 ln).flatMap word) := Lib.hid (by unfold form RV.mean; simp [seg_len])
  have P := Lib.hid (fun W => put_any ln (by omega) W)
  have R := Lib.hid (fun (W : World) (hW : Below w.heap.size w W) => row_any lA ln lc lf W (b1.below hW) (by omega))
  have WT := Lib.hid (word_ten (n := ln) (by omega))
  have LL : Hid ((flat lf ln).length ≤ 40960) := Lib.hid (by
    have := (flat_len (seg lf 0 ln) (longs_lt b1)).2
    rw [seg_len] at this
    unfold flat
    omega)
  rw [F.out]
  obtain ⟨L0, hL0⟩ : ∃ l, word ln ++ flat lf ln = l := ⟨_, rfl⟩
  rw [show word ln ++ (seg lf 0 ln).flatMap word = L0 from hL0]
  obtain ⟨L1, hL1⟩ : ∃ l, flat lf ln = l := ⟨_, rfl⟩
  rw [hL1] at hL0 LL R
  have HL := Lib.hid hL0
  clear hL0 hL1
  have C3 : Hid ((w.alloc (.cells #[.int .u64 (vn : Nat), .int .i64 vi, .bool vf, .slice bA bn bc, .slice lA ln lc] 42)).cell? ⟨w.heap.size, 4, none⟩ = some (.slice lA ln lc)) := Lib.hid (by simp [World.cell?_alloc_at])
  have BB : Hid (Below w.heap.size w (w.alloc (.cells #[.int .u64 (vn : Nat), .int .i64 vi, .bool vf, .slice bA bn bc, .slice lA ln lc] 42))) := Lib.hid ((Below.refl _ w).alloc (Nat.le_refl _) _)
  have SZ : Hid (w.heap.size < (w.alloc (.cells #[.int .u64 (vn : Nat), .int .i64 vi, .bool vf, .slice bA bn bc, .slice lA ln lc] 42)).heap.size) := Lib.hid (by rw [World.size_alloc]; omega)
  have e1 : IntKind.u64.wrap (ln : Int) = (ln : Int) := by rw [show IntKind.u64.wrap (ln : Int) = (ln : Int) % 18446744073709551616 from rfl]; omega
  clear b1 b2 b4 b5 F
  unfold RV.val
  dsimp only
  go_enter Try.func63, Try.ntmps63
  go_wp2_with fail
  generalize w.alloc (.cells #[.int .u64 (vn : Nat), .int .i64 vi, .bool vf, .slice bA bn bc, .slice lA ln lc] 42) = w0 at C3 BB SZ ⊢
  have BD : Hid (Below w.heap.size w w0.drew) := Lib.hid BB.out.drew
  go_region_held3 (fun W' => W'.cell? ⟨w.heap.size, 4, none⟩ = some (.slice lA ln lc) ∧ Below w.heap.size w W')
    (first | exact ⟨C3.out, BD.out⟩ | exact ⟨C4.out, B4.out⟩ | exact ⟨C5.out, B5.out⟩ | exact ⟨C7.out, B7.out⟩ | exact ⟨C6.out, B6.out⟩)
    (first
    | (go_at_call 48; (with_reducible refine (P.out _).mono ?_); rintro e w2 ⟨A2, c2, rfl, q1, q2, q3, hB, hO, hbel⟩; have C4 : Hid (w2.cell? ⟨w.heap.size, 4, none⟩ = some (.slice lA ln lc)) := Lib.hid ((hbel.cell (p := ⟨w.heap.size, 4, none⟩) SZ.out).trans C3.out); have B4 : Hid (Below w.heap.size w w2) := Lib.hid (BD.out.trans (hbel.mono BD.out.size)); have P4 : Hid (∀ W, Below w2.heap.size w2 W → (Piece.mk A2 (word ln).length c2 (pick (word ln))).ok W) := Lib.hid (fun W hW => ⟨hB.below hW, q3, q1, (by unfold maxLen at q2; dsimp only; omega)⟩); clear q1 q2 q3 hB hO hbel)
    | (go_at_call 64; (with_reducible refine (R.out _ B4.out).mono ?_); rintro e w3 ⟨A3, c3, rfl, q1, q2, q3, hB, hO, hbel⟩; have C5 : Hid (w3.cell? ⟨w.heap.size, 4, none⟩ = some (.slice lA ln lc)) := Lib.hid ((hbel.cell (p := ⟨w.heap.size, 4, none⟩) (lt_of_cell C4.out)).trans C4.out); have B5 : Hid (Below w.heap.size w w3) := Lib.hid (B4.out.trans (hbel.mono B4.out.size)); have KC := Lib.hid (concat_two (p := ⟨A2, (word ln).length, c2, pick (word ln)⟩) (q := ⟨A3, L1.length, c3, pick L1⟩) (l := L0) (by dsimp only; rw [pick_seg, pick_seg]; exact HL.out) B5.out (P4.out w3 hbel) ⟨hB, q3, q1, (by unfold maxLen at q2; dsimp only; omega)⟩ (Nat.le_trans (Nat.add_le_add WT.out LL.out) (by omega))); have B7 : Hid (Below w.heap.size w (w3.alloc (.cells #[.slice A2 (word ln).length c2, .slice A3 L1.length c3] 25))) := Lib.hid (B5.out.alloc B5.out.size _); have C7 : Hid ((w3.alloc (.cells #[.slice A2 (word ln).length c2, .slice A3 L1.length c3] 25)).cell? ⟨w.heap.size, 4, none⟩ = some (.slice lA ln lc)) := Lib.hid (by rw [World.cell?_alloc_lt w3 _ _ (lt_of_cell C5.out)]; exact C5.out); clear q1 q2 q3 hB hO hbel)
    | (go_at_call 28; (with_reducible refine KC.out.mono ?_); rintro e w6 ⟨⟨A6, c6, rfl, q1, q2, q3, hB, hO, hbel⟩, hb6⟩; have B6 : Hid (Below w.heap.size w w6) := Lib.hid hbel; have C6 : Hid (w6.cell? ⟨w.heap.size, 4, none⟩ = some (.slice lA ln lc)) := Lib.hid ((hb6.cell (p := ⟨w.heap.size, 4, none⟩) (lt_of_cell C5.out)).trans C5.out); have M6 : Hid (Made w L0 (.returned (.slice A6 L0.length c6)) w6) := Lib.hid ⟨A6, c6, rfl, q1, q2, q3, hB, hO, hbel⟩; clear q1 q2 q3 hB hO hbel hb6))
  all_goals
    go_wp2
    go_ret
    exact M6.out

set_option maxRecDepth 100000 in
set_option maxHeartbeats 4000000 in
theorem put_n (v : RV) (w : World) (hv : v.ok w) : Calls Try.prog 47 #[v.val] w (Made w (form 110 v.mean)) := by
  have P := Lib.hid (fun W => put_any v.n hv.1 W)
  have F : Hid (form 110 v.mean = word v.n) := Lib.hid (by unfold form RV.mean; simp)
  rw [F.out]
  clear hv F
  obtain ⟨vn, vi, vf, bA, bn, bc, bf, lA, ln, lc, lf⟩ := v
  unfold RV.val
  dsimp only at P ⊢
  have BB : Hid (Below w.heap.size w (w.alloc (.cells #[.int .u64 (vn : Nat), .int .i64 vi, .bool vf, .slice bA bn bc, .slice lA ln lc] 42))) := Lib.hid ((Below.refl _ w).alloc (Nat.le_refl _) _)
  go_enter Try.func47, Try.ntmps47
  go_wp2_with fail
  refine (P.out _).mono ?_
  intro e w2 hm
  have M : Hid (Made w (word vn) e w2) := Lib.hid (made_up hm BB.out)
  obtain ⟨A, c, rfl, -⟩ := hm
  go_wp2
  go_ret
  exact M.out

set_option maxRecDepth 100000 in
set_option maxHeartbeats 4000000 in
theorem put_i (v : RV) (w : World) (hv : v.ok w) : Calls Try.prog 52 #[v.val] w (Made w (form 105 v.mean)) := by
  have P := Lib.hid (fun W => put_any (foldN v.i) (foldN_lt hv.2.1) W)
  have Q := Lib.hid (fun W => fold_any v.i hv.2.1.1 hv.2.1.2 W)
  have F : Hid (form 105 v.mean = word (foldN v.i)) := Lib.hid (by unfold form RV.mean; simp)
  rw [F.out]
  clear hv F
  obtain ⟨vn, vi, vf, bA, bn, bc, bf, lA, ln, lc, lf⟩ := v
  unfold RV.val
  dsimp only at P Q ⊢
  have BB : Hid (Below w.heap.size w (w.alloc (.cells #[.int .u64 (vn : Nat), .int .i64 vi, .bool vf, .slice bA bn bc, .slice lA ln lc] 42))) := Lib.hid ((Below.refl _ w).alloc (Nat.le_refl _) _)
  go_enter Try.func52, Try.ntmps52
  go_wp2_with fail
  refine (Q.out _).mono ?_
  rintro e w1 ⟨rfl, rfl⟩
  go_wp2_with fail
  refine (P.out _).mono ?_
  intro e w2 hm
  have M : Hid (Made w (word (foldN vi)) e w2) := Lib.hid (made_up hm BB.out)
  obtain ⟨A, c, rfl, -⟩ := hm
  go_wp2
  go_ret
  exact M.out

set_option maxRecDepth 100000 in
set_option maxHeartbeats 4000000 in
theorem put_f (v : RV) (w : World) : Calls Try.prog 57 #[v.val] w (Made w (form 102 v.mean)) := by
  have F : Hid (form 102 v.mean = [if v.f then 1 else 0]) := Lib.hid (by unfold form RV.mean; simp)
  rw [F.out]
  clear F
  obtain ⟨vn, vi, vf, bA, bn, bc, bf, lA, ln, lc, lf⟩ := v
  unfold RV.val
  dsimp only
  have BB : Hid (Below w.heap.size w (w.alloc (.cells #[.int .u64 (vn : Nat), .int .i64 vi, .bool vf, .slice bA bn bc, .slice lA ln lc] 42))) := Lib.hid ((Below.refl _ w).alloc (Nat.le_refl _) _)
  have O : Hid (∀ x : Nat, x < 256 → ∀ w0 : World, Below w.heap.size w w0 → Made w [x] (.returned (.slice (some ⟨w0.heap.size, 0, none⟩) 1 1)) (w0.alloc (.cells #[.int .u8 (x : Nat)] 5))) := Lib.hid (fun x hx w0 hb =>
    made_of (by simpa using hx) (owns.one w0 5 .u8 x) hb.size (hb.alloc hb.size _))
  cases vf
  · have M := Lib.hid (O.out 0 (by omega) _ BB.out)
    go_enter Try.func57, Try.ntmps57
    go_wp2
    go_ret
    simpa using M.out
  · have M := Lib.hid (O.out 1 (by omega) _ BB.out)
    go_enter Try.func57, Try.ntmps57
    go_wp2
    go_ret
    simpa using M.out
end Go.Proofs.Ytkjndgnjilfobaa
