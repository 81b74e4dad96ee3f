/-
  The chapter's examples of sums, which each of the outright laws begins with, are met.
-/
import Derived.Test.YtfdjedhbbbdeiaaWhole
import Derived.Test.YtfdjedhbbbdeiaaDiffer
import Derived.Lib.SlBytesConst
namespace Go.Proofs.Ytfdjedhbbbdeiaa
open Go.RowKit

theorem lit_marked (w : World) (l : List Nat) (hl : ∀ x ∈ l, x < 256) (t : TypeId) (fr : Nat × Nat) : Bytes (w.alloc (.cells (l.map fun (x : Nat) => Value.int .u8 (x : Nat)).toArray t fr)) (some ⟨w.heap.size, 0, none⟩) l.length (pick l) := by
  refine ⟨fun i hi => pick_lt hl hi, fun _ => ⟨_, 0, rfl, by simp, fun i hi => ?_⟩⟩
  have h := pick_get hi
  rw [World.cell?_alloc_mark]
  simp [h]
theorem lit_bytes (w : World) (l : List Nat) (hl : ∀ x ∈ l, x < 256) (t : TypeId) : Bytes (w.alloc (.cells (l.map fun (x : Nat) => Value.int .u8 (x : Nat)).toArray t)) (some ⟨w.heap.size, 0, none⟩) l.length (pick l) := lit_marked w l hl t (0, 0)

/-- n noughts, in a row of their own -/
theorem made_noughts (W : World) (n : Nat) (hn : n ≤ 1048576) : ∃ W', (Instr.makeSlice 22 (.int .i64 (n : Int)) (.int .i64 (n : Int))).run Try.prog W = .ok (.slice (some ⟨W.heap.size, 0, none⟩) n n) W' ∧ OwnB W' W.heap.size (some ⟨W.heap.size, 0, none⟩) n (fun _ => 0) ∧ Below W.heap.size W W' := by
  obtain ⟨i0, hi, hz0, hz1, hz2⟩ := info_parts Try.info5
  have h := run_make (P := Try.prog) W 22 5 i0 (.int .u8 0) Try.underlying22 hi hz0 .i64 .i64 n n (by omega) (by omega) (by rw [hz2]; omega) (by omega)
  rw [hz1] at h
  simp only [Int.toNat_natCast] at h
  refine ⟨_, h, ⟨fun i hi => by show 0 < 256; omega, .inr ⟨W.heap.size, _, rfl, Nat.le_refl _, heap_alloc_new W _, fun i hi => ?_⟩⟩, (Below.refl _ W).alloc (Nat.le_refl _) _⟩
  rw [Nat.mul_one]
  unfold madeCells
  rw [Array.getElem?_map, Array.getElem?_range]
  simp [hi, Value.cells, Nat.mod_one]

theorem made_4 (W : World) : ∃ W', (Instr.makeSlice 22 (.int .i64 4) (.int .i64 4)).run Try.prog W = .ok (.slice (some ⟨W.heap.size, 0, none⟩) 4 4) W' ∧ OwnB W' W.heap.size (some ⟨W.heap.size, 0, none⟩) 4 (fun _ => 0) ∧ Below W.heap.size W W' := made_noughts W 4 (by omega)
theorem made_3 (W : World) : ∃ W', (Instr.makeSlice 22 (.int .i64 3) (.int .i64 3)).run Try.prog W = .ok (.slice (some ⟨W.heap.size, 0, none⟩) 3 3) W' ∧ OwnB W' W.heap.size (some ⟨W.heap.size, 0, none⟩) 3 (fun _ => 0) ∧ Below W.heap.size W W' := made_noughts W 3 (by omega)
theorem s0 (w : World) : Calls Try.prog 12 #[.slice none 0 0] w fun e w' => e = .returned (.int .u32 0) ∧ Below w.heap.size w w' := by
  have := sum_any none 0 0 (fun _ => 0) w (Nums.zero _ _) (by omega)
  rw [sum_none] at this
  exact this
theorem s9 (w : World) (H : Nat) (hH : w.heap.size = H) : Calls Try.prog 12 #[.slice (some ⟨H, 0, none⟩) 9 9] (w.alloc (.cells #[.int .u8 49, .int .u8 50, .int .u8 51, .int .u8 52, .int .u8 53, .int .u8 54, .int .u8 55, .int .u8 56, .int .u8 57] 5 (9, 10)))
    fun e w' => e = .returned (.int .u32 3421780262) ∧ Below w.heap.size w w' := by
  subst hH
  refine (sum_any _ 9 9 (pick [49, 50, 51, 52, 53, 54, 55, 56, 57]) _ (lit_marked w [49, 50, 51, 52, 53, 54, 55, 56, 57] (by simp) 5 (9, 10)) (by omega)).mono ?_
  rintro e w' ⟨rfl, hb⟩
  rw [sum_nine]
  exact ⟨rfl, ((Below.refl _ w).alloc (Nat.le_refl _) _).trans (hb.mono (by simp))⟩
theorem s1 (w : World) (H : Nat) (hH : w.heap.size = H) : Calls Try.prog 12 #[.slice (some ⟨H, 0, none⟩) 1 1] (w.alloc (.cells #[.int .u8 0] 5))
    fun e w' => e = .returned (.int .u32 3523407757) ∧ Below w.heap.size w w' := by
  subst hH
  refine (sum_any _ 1 1 (pick [0]) _ (lit_bytes w [0] (by simp) 5) (by omega)).mono ?_
  rintro e w' ⟨rfl, hb⟩
  rw [sum_nought]
  exact ⟨rfl, ((Below.refl _ w).alloc (Nat.le_refl _) _).trans (hb.mono (by simp))⟩
theorem w0 (w : World) : Calls Try.prog 11 #[.slice none 0 0] w fun e w' => ∃ A c, e = .returned (.slice A 4 c) ∧ Below w.heap.size w w' := by
  refine (with_any none 0 0 (fun _ => 0) w (Nums.zero _ _) (by omega) (fun _ => ⟨rfl, rfl⟩)).mono ?_
  rintro e w' ⟨A, c, rfl, -, -, -, -, -, hb⟩
  rw [seg_len]
  exact ⟨A, c, rfl, hb⟩
theorem whole_noughts (n : Nat) (hn : n ≤ 132) (A : Option Addr) (W : World) (h : Bytes W A n (fun _ => 0)) :
    Calls Try.prog 18 #[.slice A n n] W fun e w' => e = .returned (.bool (decide (n = 4))) ∧ Below W.heap.size W w' := by
  refine whole_any A n n (fun _ => 0) W h (by omega) (Nat.le_refl _) (by unfold maxLen; omega) _ ?_
  rw [decide_eq_true_eq]
  unfold Stands
  constructor
  · rintro rfl
    exact ⟨by omega, (noughts_law (n := 0) (by omega)).2 rfl⟩
  · rintro ⟨h1, h2⟩
    obtain ⟨m, rfl⟩ : ∃ m, n = m + 4 := ⟨n - 4, by omega⟩
    rw [Nat.add_sub_cancel] at h2
    have := (noughts_law (n := m) (by omega)).1 h2
    omega
theorem d13 : differOf (pick [1]) 1 (pick [3]) 1 = 1 := by decide +kernel
theorem d255 : differOf (pick [255, 0]) 2 (pick [255]) 1 = 8 := by decide +kernel
theorem d1 (w : World) (H : Nat) (hH : w.heap.size = H) : Calls Try.prog 19 #[.slice (some ⟨H, 0, none⟩) 1 1, .slice (some ⟨H + 1, 0, none⟩) 1 1] ((w.alloc (.cells #[.int .u8 1] 5)).alloc (.cells #[.int .u8 3] 5))
    fun e w' => e = .returned (.int .i64 1) ∧ Below w.heap.size w w' := by
  subst hH
  have h2 := lit_bytes (w.alloc (.cells #[.int .u8 1] 5)) [3] (by simp) 5
  rw [World.size_alloc] at h2
  refine (differ_any _ _ 1 1 1 1 (pick [1]) (pick [3]) _ ((lit_bytes w [1] (by simp) 5).alloc _) h2 (by omega) (by omega)).mono ?_
  rintro e w' ⟨rfl, rfl⟩
  rw [d13]
  exact ⟨rfl, ((Below.refl _ w).alloc (Nat.le_refl _) _).alloc (by simp) _⟩
theorem d2 (w : World) (H : Nat) (hH : w.heap.size = H) : Calls Try.prog 19 #[.slice (some ⟨H, 0, none⟩) 2 2, .slice (some ⟨H + 1, 0, none⟩) 1 1] ((w.alloc (.cells #[.int .u8 255, .int .u8 0] 5)).alloc (.cells #[.int .u8 255] 5))
    fun e w' => e = .returned (.int .i64 8) ∧ Below w.heap.size w w' := by
  subst hH
  have h2 := lit_bytes (w.alloc (.cells #[.int .u8 255, .int .u8 0] 5)) [255] (by simp) 5
  rw [World.size_alloc] at h2
  refine (differ_any _ _ 2 1 2 1 (pick [255, 0]) (pick [255]) _ ((lit_bytes w [255, 0] (by simp) 5).alloc _) h2 (by omega) (by omega)).mono ?_
  rintro e w' ⟨rfl, rfl⟩
  rw [d255]
  exact ⟨rfl, ((Below.refl _ w).alloc (Nat.le_refl _) _).alloc (by simp) _⟩

set_option maxRecDepth 100000 in
set_option maxHeartbeats 4000000 in
theorem awake_any (w : World) : Calls Try.prog 21 #[] w fun e w' => e = .returned (.bool true) ∧ Below w.heap.size w w' := by
  have kc := fun (w : World) (C : Array Value) (n c : Nat) => Lib.run_convert_bytes_const (P := Try.prog) w 22 5 C n c Try.underlying22 Try.underlying5
  go_enter Try.func21, Try.ntmps21
  go_wp2_with fail
  refine (s0 _).mono ?_
  rintro e w1 ⟨rfl, hb⟩
  have K1 := Lib.hid hb
  clear hb
  go_wp2_with fail
  refine (s9 _ _ rfl).mono ?_
  rintro e w2 ⟨rfl, hb⟩
  have K2 := Lib.hid (K1.out.trans (hb.mono K1.out.size))
  clear hb K1
  go_wp2_with fail
  refine (s1 _ _ rfl).mono ?_
  rintro e w3 ⟨rfl, hb⟩
  have K3 := Lib.hid (K2.out.trans (hb.mono K2.out.size))
  clear hb K2
  go_wp2_with fail
  refine (w0 _).mono ?_
  rintro e w4 ⟨A, c, rfl, hb⟩
  have K4 := Lib.hid (K3.out.trans (hb.mono K3.out.size))
  clear hb K3
  obtain ⟨w5, hm4, ho, hb⟩ := made_4 w4
  have N4 := Lib.hid (whole_noughts 4 (by omega) _ w5 ho.bytes)
  have K5 := Lib.hid (K4.out.trans (hb.mono K4.out.size))
  clear hb K4 ho
  go_wp2_with fail
  refine N4.out.mono ?_
  rintro e w6 ⟨rfl, hb⟩
  have K6 := Lib.hid (K5.out.trans (hb.mono K5.out.size))
  clear hb K5 N4 hm4
  obtain ⟨w7, hm3, ho, hb⟩ := made_3 w6
  have N3 := Lib.hid (whole_noughts 3 (by omega) _ w7 ho.bytes)
  have K7 := Lib.hid (K6.out.trans (hb.mono K6.out.size))
  clear hb K6 ho
  go_wp2_with fail
  refine N3.out.mono ?_
  rintro e w8 ⟨rfl, hb⟩
  have K8 := Lib.hid (K7.out.trans (hb.mono K7.out.size))
  clear hb K7 N3 hm3
  go_wp2_with fail
  refine (d1 _ _ rfl).mono ?_
  rintro e w9 ⟨rfl, hb⟩
  have K9 := Lib.hid (K8.out.trans (hb.mono K8.out.size))
  clear hb K8
  go_wp2_with fail
  refine (d2 _ _ rfl).mono ?_
  rintro e w10 ⟨rfl, hb⟩
  have K10 := Lib.hid (K9.out.trans (hb.mono K9.out.size))
  clear hb K9
  go_wp2
  go_ret
  exact ⟨rfl, K10.out⟩
end Go.Proofs.Ytfdjedhbbbdeiaa
