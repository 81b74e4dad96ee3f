/-
  The document's one: a value's bytes, in a row of their own.
-/
import Derived.Test.YtkjndgnjilfobaaRefFits
import Derived.Test.YtkjndgnjilfobaaRefPut
import Derived.Test.YtkjndgnjilfobaaRefRow
import Derived.Test.YtkjndgnjilfobaaStepAppend
import Derived.Deep.RegionHeld3
namespace Go.Proofs.Ytkjndgnjilfobaa
open Go.RowKit

theorem bytes_lt {w : World} {A : Option Addr} {n : Nat} {f : Nat → Nat} (h : Bytes w A n f) : ∀ x ∈ seg f 0 n, x < 256 := fun x hx => by
  obtain ⟨i, hi, rfl⟩ := seg_mem hx
  rw [Nat.zero_add]
  exact h.bd hi
theorem longs_lt {w : World} {A : Option Addr} {n : Nat} {f : Nat → Nat} (h : Longs w A n f) : ∀ x ∈ seg f 0 n, x < 18446744073709551616 := fun x hx => by
  obtain ⟨i, hi, rfl⟩ := seg_mem hx
  rw [Nat.zero_add]
  exact h.bd hi

set_option maxRecDepth 100000 in
set_option maxHeartbeats 4000000 in
theorem refOne_b (v : RV) (w : World) (hv : v.ok w) (hb : v.bn ≤ 262144) :
    Calls Try.prog 31 #[.int .u8 98, v.val] w (Made w (form 98 v.mean)) := by
  obtain ⟨-, -, ⟨b1, b2, b3, b4⟩, -⟩ := hv
  obtain ⟨vn, vi, vf, bA, bn, bc, bf, lA, ln, lc, lf⟩ := v
  dsimp only at b1 b2 b3 b4 hb
  have F : Hid (form 98 (RV.mk vn vi vf bA bn bc bf lA ln lc lf).mean = word bn ++ seg bf 0 bn) := Lib.hid (by unfold form RV.mean; simp [seg_len])
  have LT := Lib.hid (bytes_lt b1)
  have B1 := Lib.hid b1
  have B2 := Lib.hid b2
  have P := Lib.hid (fun W => refPut_any bn (by omega) W)
  have WT := Lib.hid (word_ten (n := bn) (by omega))
  have WB := Lib.hid (word_byte bn)
  rw [F.out]
  have C3 : Hid ((w.alloc (.cells #[.int .u64 (vn : Nat), .int .i64 vi, .bool vf, .slice bA bn bc, .slice lA ln lc] 42)).cell? ⟨w.heap.size, 3, none⟩ = some (.slice bA bn bc)) := Lib.hid (by simp [World.cell?_alloc_at])
  have BB : Hid (Below w.heap.size w (w.alloc (.cells #[.int .u64 (vn : Nat), .int .i64 vi, .bool vf, .slice bA bn bc, .slice lA ln lc] 42))) := Lib.hid ((Below.refl _ w).alloc (Nat.le_refl _) _)
  have SZ : Hid (w.heap.size < (w.alloc (.cells #[.int .u64 (vn : Nat), .int .i64 vi, .bool vf, .slice bA bn bc, .slice lA ln lc] 42)).heap.size) := Lib.hid (by rw [World.size_alloc]; omega)
  have e1 : IntKind.u64.wrap (bn : Int) = (bn : Int) := by rw [show IntKind.u64.wrap (bn : Int) = (bn : Int) % 18446744073709551616 from rfl]; omega
  clear b1 b2 F
  unfold RV.val
  dsimp only
  go_enter Try.func31, Try.ntmps31
  go_wp2_with fail
  generalize w.alloc (.cells #[.int .u64 (vn : Nat), .int .i64 vi, .bool vf, .slice bA bn bc, .slice lA ln lc] 42) = w0 at C3 BB SZ ⊢
  have BD : Hid (Below w.heap.size w w0.drew) := Lib.hid BB.out.drew
  go_region_held3 (fun W' => W'.cell? ⟨w.heap.size, 3, none⟩ = some (.slice bA bn bc) ∧ Below w.heap.size w W')
    (first | exact ⟨C3.out, BD.out⟩ | exact ⟨C4.out, B4.out⟩ | exact ⟨C6.out, B6.out⟩)
    (first
    | (go_at_call 22; (with_reducible refine (P.out _).mono ?_); rintro e w2 ⟨A2, c2, rfl, q1, q2, q3, hB, hO, hbel⟩; have C4 : Hid (w2.cell? ⟨w.heap.size, 3, none⟩ = some (.slice bA bn bc)) := Lib.hid ((hbel.cell (p := ⟨w.heap.size, 3, none⟩) SZ.out).trans C3.out); have B4 : Hid (Below w.heap.size w w2) := Lib.hid (BD.out.trans (hbel.mono BD.out.size)); have O4 : Hid (owns w2 w0.heap.size 5 .u8 (.slice A2 (word bn).length c2) (word bn)) := Lib.hid hO; have H4 := Lib.hid (B1.out.below B4.out); have S4 : Hid (w0.heap.size ≤ w2.heap.size) := Lib.hid hbel.size; have L4 : Hid ((word bn).length + bn ≤ 4194304) := Lib.hid (Nat.le_trans (Nat.add_le_add WT.out hb) (by omega)); clear q1 q2 q3 hB hO hbel)
    | ((refine step_append_more (by rfl) _ _ (by rfl) w0.heap.size _ (word bn) (by rfl) O4.out bA bn bc bf (by rfl) B2.out H4.out L4.out S4.out ?_); intro A5 c5 w5 hown k1 k2 hbel; have B6 : Hid (Below w.heap.size w w5) := Lib.hid (B4.out.trans (hbel.mono BB.out.size)); have C6 : Hid (w5.cell? ⟨w.heap.size, 3, none⟩ = some (.slice bA bn bc)) := Lib.hid ((hbel.cell (p := ⟨w.heap.size, 3, none⟩) SZ.out).trans C4.out)))
  have M : Hid (Made w (word bn ++ seg bf 0 bn) (.returned (.slice A5 ((word bn).length + bn) c5)) w5) := Lib.hid (made_of (fun x hx => by
    rcases List.mem_append.1 hx with h | h
    · exact WB.out x h
    · exact LT.out x h) hown (Nat.le_trans BB.out.size (Nat.le_refl _)) B6.out)
  clear hown k1 k2 hbel O4 C3 C4 C6 B4 B6
  go_wp2
  go_ret
  exact M.out

set_option maxRecDepth 100000 in
set_option maxHeartbeats 4000000 in
theorem refOne_l (v : RV) (w : World) (hv : v.ok w) (hb : v.ln ≤ 4096) :
    Calls Try.prog 31 #[.int .u8 108, v.val] w (Made w (form 108 v.mean)) := by
  obtain ⟨-, -, -, ⟨b1, b2, b3, b4⟩⟩ := hv
  obtain ⟨vn, vi, vf, bA, bn, bc, bf, lA, ln, lc, lf⟩ := v
  dsimp only at b1 b2 b3 b4 hb
  have F : Hid (form 108 (RV.mk vn vi vf bA bn bc bf lA ln lc lf).mean = word ln ++ (seg lf 0 ln).flatMap word) := Lib.hid (by unfold form RV.mean; simp [seg_len])
  have B1 := Lib.hid b1
  have P := Lib.hid (fun W => refPut_any ln (by omega) W)
  have WT := Lib.hid (word_ten (n := ln) (by omega))
  have WB := Lib.hid (word_byte ln)
  have LB := Lib.hid (flat_byte (seg lf 0 ln))
  have LL : Hid (((seg lf 0 ln).flatMap word).length ≤ 40960) := Lib.hid (by
    have := (flat_len (seg lf 0 ln) (longs_lt b1)).2
    rw [seg_len] at this
    omega)
  have R := Lib.hid (fun (W : World) (hW : Below w.heap.size w W) => refRow_any lA ln lc lf W (b1.below hW) (by omega))
  rw [F.out]
  have C3 : Hid ((w.alloc (.cells #[.int .u64 (vn : Nat), .int .i64 vi, .bool vf, .slice bA bn bc, .slice lA ln lc] 42)).cell? ⟨w.heap.size, 4, none⟩ = some (.slice lA ln lc)) := Lib.hid (by simp [World.cell?_alloc_at])
  have BB : Hid (Below w.heap.size w (w.alloc (.cells #[.int .u64 (vn : Nat), .int .i64 vi, .bool vf, .slice bA bn bc, .slice lA ln lc] 42))) := Lib.hid ((Below.refl _ w).alloc (Nat.le_refl _) _)
  have SZ : Hid (w.heap.size < (w.alloc (.cells #[.int .u64 (vn : Nat), .int .i64 vi, .bool vf, .slice bA bn bc, .slice lA ln lc] 42)).heap.size) := Lib.hid (by rw [World.size_alloc]; omega)
  have e1 : IntKind.u64.wrap (ln : Int) = (ln : Int) := by rw [show IntKind.u64.wrap (ln : Int) = (ln : Int) % 18446744073709551616 from rfl]; omega
  clear b1 b2 F
  unfold RV.val
  dsimp only
  go_enter Try.func31, Try.ntmps31
  go_wp2_with fail
  generalize w.alloc (.cells #[.int .u64 (vn : Nat), .int .i64 vi, .bool vf, .slice bA bn bc, .slice lA ln lc] 42) = w0 at C3 BB SZ ⊢
  have BD : Hid (Below w.heap.size w w0.drew) := Lib.hid BB.out.drew
  obtain ⟨rw_, hrw⟩ : ∃ l, (seg lf 0 ln).flatMap word = l := ⟨_, rfl⟩
  have R2 : Hid (∀ W, Below w.heap.size w W → Calls Try.prog 43 #[.slice lA ln lc] W (Made W rw_)) := Lib.hid (by rw [← hrw]; exact R.out)
  rw [hrw] at LB LL
  have HRW := Lib.hid hrw
  clear hrw R
  go_region_held3 (fun W' => W'.cell? ⟨w.heap.size, 4, none⟩ = some (.slice lA ln lc) ∧ Below w.heap.size w W')
    (first | exact ⟨C3.out, BD.out⟩ | exact ⟨C4.out, B4.out⟩ | exact ⟨C5.out, B5.out⟩ | exact ⟨C6.out, B6.out⟩)
    (first
    | (go_at_call 22; (with_reducible refine (P.out _).mono ?_); rintro e w2 ⟨A2, c2, rfl, q1, q2, q3, hB, hO, hbel⟩; have C4 : Hid (w2.cell? ⟨w.heap.size, 4, none⟩ = some (.slice lA ln lc)) := Lib.hid ((hbel.cell (p := ⟨w.heap.size, 4, none⟩) SZ.out).trans C3.out); have B4 : Hid (Below w.heap.size w w2) := Lib.hid (BD.out.trans (hbel.mono BD.out.size)); have O4 : Hid (owns w2 w0.heap.size 5 .u8 (.slice A2 (word ln).length c2) (word ln)) := Lib.hid hO; have S4 : Hid (w0.heap.size ≤ w2.heap.size) := Lib.hid hbel.size; clear q1 q2 q3 hB hO hbel)
    | (go_at_call 43; (with_reducible refine (R2.out _ B4.out).mono ?_); rintro e w3 ⟨A3, c3, rfl, q1, q2, q3, hB, hO, hbel⟩; have C5 : Hid (w3.cell? ⟨w.heap.size, 4, none⟩ = some (.slice lA ln lc)) := Lib.hid ((hbel.cell (p := ⟨w.heap.size, 4, none⟩) (Nat.lt_of_lt_of_le SZ.out S4.out)).trans C4.out); have B5 : Hid (Below w.heap.size w w3) := Lib.hid (B4.out.trans (hbel.mono B4.out.size)); have O5 := Lib.hid (O4.out.keep hbel); have H5 := Lib.hid hB; have N5 := Lib.hid q3; have S5 : Hid (w0.heap.size ≤ w3.heap.size) := Lib.hid (Nat.le_trans S4.out hbel.size); have L5 : Hid ((word ln).length + rw_.length ≤ 4194304) := Lib.hid (Nat.le_trans (Nat.add_le_add WT.out LL.out) (by omega)); clear q1 q2 q3 hB hO hbel)
    | ((refine step_append_more (by rfl) _ _ (by rfl) w0.heap.size _ (word ln) (by rfl) O5.out A3 rw_.length c3 (pick rw_) (by rfl) N5.out H5.out L5.out S5.out ?_); intro A6 c6 w6 hown k1 k2 hbel; have B6 : Hid (Below w.heap.size w w6) := Lib.hid (B5.out.trans (hbel.mono BB.out.size)); have C6 : Hid (w6.cell? ⟨w.heap.size, 4, none⟩ = some (.slice lA ln lc)) := Lib.hid ((hbel.cell (p := ⟨w.heap.size, 4, none⟩) SZ.out).trans C5.out)))
  rw [pick_seg] at hown
  have M : Hid (Made w (word ln ++ rw_) (.returned (.slice A6 ((word ln).length + rw_.length) c6)) w6) := Lib.hid (made_of (fun x hx => by
    rcases List.mem_append.1 hx with h | h
    · exact WB.out x h
    · exact LB.out x h) hown BB.out.size B6.out)
  clear hown k1 k2 hbel O4 C3 C4 C5 C6 B4 B5 B6
  go_wp2
  go_ret
  rw [HRW.out]
  exact M.out

set_option maxRecDepth 100000 in
set_option maxHeartbeats 4000000 in
theorem refOne_n (v : RV) (w : World) (hv : v.ok w) : Calls Try.prog 31 #[.int .u8 110, v.val] w (Made w (form 110 v.mean)) := by
  have P := Lib.hid (fun W => refPut_any v.n hv.1 W)
  have F : Hid (form 110 v.mean = word v.n) := Lib.hid (by unfold form RV.mean; simp)
  rw [F.out]
  clear hv F
  obtain ⟨vn, vi, vf, bA, bn, bc, bf, lA, ln, lc, lf⟩ := v
  unfold RV.val
  dsimp only at P ⊢
  have BB : Hid (Below w.heap.size w (w.alloc (.cells #[.int .u64 (vn : Nat), .int .i64 vi, .bool vf, .slice bA bn bc, .slice lA ln lc] 42))) := Lib.hid ((Below.refl _ w).alloc (Nat.le_refl _) _)
  go_enter Try.func31, Try.ntmps31
  go_wp2_with fail
  refine (P.out _).mono ?_
  intro e w2 hm
  have M : Hid (Made w (word vn) e w2) := Lib.hid (by
    obtain ⟨A, c, rfl, q1, q2, q3, hB, hO, hbel⟩ := hm
    exact ⟨A, c, rfl, q1, q2, q3, hB, hO.down BB.out.size, BB.out.trans (hbel.mono BB.out.size)⟩)
  obtain ⟨A, c, rfl, -⟩ := hm
  go_wp2
  go_ret
  exact M.out

set_option maxRecDepth 100000 in
set_option maxHeartbeats 4000000 in
theorem refOne_i (v : RV) (w : World) (hv : v.ok w) : Calls Try.prog 31 #[.int .u8 105, v.val] w (Made w (form 105 v.mean)) := by
  have P := Lib.hid (fun W => refPut_any (foldN v.i) (foldN_lt hv.2.1) W)
  have Q := Lib.hid (fun W => refFold_any v.i hv.2.1.1 hv.2.1.2 W)
  have F : Hid (form 105 v.mean = word (foldN v.i)) := Lib.hid (by unfold form RV.mean; simp)
  rw [F.out]
  clear hv F
  obtain ⟨vn, vi, vf, bA, bn, bc, bf, lA, ln, lc, lf⟩ := v
  unfold RV.val
  dsimp only at P Q ⊢
  have BB : Hid (Below w.heap.size w (w.alloc (.cells #[.int .u64 (vn : Nat), .int .i64 vi, .bool vf, .slice bA bn bc, .slice lA ln lc] 42))) := Lib.hid ((Below.refl _ w).alloc (Nat.le_refl _) _)
  go_enter Try.func31, Try.ntmps31
  go_wp2_with fail
  refine (Q.out _).mono ?_
  rintro e w1 ⟨rfl, rfl⟩
  go_wp2_with fail
  refine (P.out _).mono ?_
  intro e w2 hm
  have M : Hid (Made w (word (foldN vi)) e w2) := Lib.hid (by
    obtain ⟨A, c, rfl, q1, q2, q3, hB, hO, hbel⟩ := hm
    exact ⟨A, c, rfl, q1, q2, q3, hB, hO.down BB.out.size, BB.out.trans (hbel.mono BB.out.size)⟩)
  obtain ⟨A, c, rfl, -⟩ := hm
  go_wp2
  go_ret
  exact M.out

set_option maxRecDepth 100000 in
set_option maxHeartbeats 4000000 in
theorem refOne_f (v : RV) (w : World) : Calls Try.prog 31 #[.int .u8 102, v.val] w (Made w (form 102 v.mean)) := by
  have F : Hid (form 102 v.mean = [if v.f then 1 else 0]) := Lib.hid (by unfold form RV.mean; simp)
  rw [F.out]
  clear F
  obtain ⟨vn, vi, vf, bA, bn, bc, bf, lA, ln, lc, lf⟩ := v
  unfold RV.val
  dsimp only
  have BB : Hid (Below w.heap.size w (w.alloc (.cells #[.int .u64 (vn : Nat), .int .i64 vi, .bool vf, .slice bA bn bc, .slice lA ln lc] 42))) := Lib.hid ((Below.refl _ w).alloc (Nat.le_refl _) _)
  have O : Hid (∀ x : Nat, x < 256 → ∀ w0 : World, Below w.heap.size w w0 → Made w [x] (.returned (.slice (some ⟨w0.heap.size, 0, none⟩) 1 1)) (w0.alloc (.cells #[.int .u8 (x : Nat)] 5))) := Lib.hid (fun x hx w0 hb =>
    made_of (by simpa using hx) (owns.one w0 5 .u8 x) hb.size (hb.alloc hb.size _))
  cases vf
  · have M := Lib.hid (O.out 0 (by omega) _ BB.out)
    go_enter Try.func31, Try.ntmps31
    go_wp2
    go_ret
    simpa using M.out
  · have M := Lib.hid (O.out 1 (by omega) _ BB.out)
    go_enter Try.func31, Try.ntmps31
    go_wp2
    go_ret
    simpa using M.out

/-- a value's bytes -/
theorem refOne_any (c : Nat) (hc : Letter c) (v : RV) (w : World) (hv : v.ok w) (hs : v.bn ≤ 262144 ∧ v.ln ≤ 4096) :
    Calls Try.prog 31 #[.int .u8 (c : Nat), v.val] w (Made w (form c v.mean)) := by
  rcases hc with rfl | rfl | rfl | rfl | rfl
  · exact refOne_n v w hv
  · exact refOne_i v w hv
  · exact refOne_f v w
  · exact refOne_b v w hv hs.1
  · exact refOne_l v w hv hs.2
end Go.Proofs.Ytkjndgnjilfobaa
