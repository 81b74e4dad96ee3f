/-
  The chapter's examples of words, which each of the outright laws begins with, are met.
-/
import Derived.Test.YtjbkjpkelbigmaaSize
import Derived.Test.YtjbkjpkelbigmaaFold
import Derived.Test.YtjbkjpkelbigmaaRows2
namespace Go.Proofs.Ytjbkjpkelbigmaa
open Go.RowKit

theorem lit_bytes (w : World) (l : List Nat) (hl : ∀ x ∈ l, x < 256) (t : TypeId) : Bytes (w.alloc (.cells (l.map fun (x : Nat) => Value.int .u8 (x : Nat)).toArray t)) (some ⟨w.heap.size, 0, none⟩) l.length (pick l) := by
  refine ⟨fun i hi => pick_lt hl hi, fun _ => ⟨_, 0, rfl, by simp, fun i hi => ?_⟩⟩
  have h := pick_get hi
  simp [World.cell?_alloc_at, h]
theorem w300 : word 300 = [172, 2] := by rw [word_big (by omega), word_small (by omega)]
theorem w127 : word 127 = [127] := word_small (by omega)
theorem w2 : word 2 = [2] := word_small (by omega)
theorem w1 : word 1 = [1] := word_small (by omega)

theorem put300 (w : World) : Calls Try.prog 11 #[.int .u64 300] w (Made w [172, 2]) := by
  have := put_any 300 (by omega) w
  rw [w300] at this; exact this
theorem put127 (w : World) : Calls Try.prog 11 #[.int .u64 127] w (Made w [127]) := by
  have := put_any 127 (by omega) w
  rw [w127] at this; exact this
theorem two_cells {w : World} {A : Option Addr} {x y : Nat} (h : Bytes w A 2 (pick [x, y])) : ∃ b off, A = some ⟨b, off, none⟩ ∧ b < w.heap.size ∧ w.cell? ⟨b, off, none⟩ = some (.int .u8 (x : Nat)) ∧ w.cell? ⟨b, off + 1, none⟩ = some (.int .u8 (y : Nat)) := by
  obtain ⟨b, off, e, hb, hc⟩ := h.2 (by omega)
  exact ⟨b, off, e, hb, hc 0 (by omega), hc 1 (by omega)⟩
theorem one_cell {w : World} {A : Option Addr} {x : Nat} (h : Bytes w A 1 (pick [x])) : ∃ b off, A = some ⟨b, off, none⟩ ∧ b < w.heap.size ∧ w.cell? ⟨b, off, none⟩ = some (.int .u8 (x : Nat)) := by
  obtain ⟨b, off, e, hb, hc⟩ := h.2 (by omega)
  exact ⟨b, off, e, hb, hc 0 (by omega)⟩
theorem two_longs {w : World} {A : Option Addr} {x y : Nat} (h : Longs w A 2 (pick [x, y])) : ∃ b off, A = some ⟨b, off, none⟩ ∧ w.cell? ⟨b, off, none⟩ = some (.int .u64 (x : Nat)) ∧ w.cell? ⟨b, off + 1, none⟩ = some (.int .u64 (y : Nat)) := by
  obtain ⟨b, off, e, hb, hc⟩ := h.2 (by omega)
  exact ⟨b, off, e, hc 0 (by omega), hc 1 (by omega)⟩

theorem g1 (w : World) (H : Nat) (hH : w.heap.size = H) : Calls Try.prog 18 #[.slice (some ⟨H, 0, none⟩) 4 4, .int .i64 1] (w.alloc (.cells #[.int .u8 9, .int .u8 172, .int .u8 2, .int .u8 7] 5)) fun e w' => e = .returned (.tuple #[.int .u64 300, .int .i64 2, .bool true]) ∧ (w.alloc (.cells #[.int .u8 9, .int .u8 172, .int .u8 2, .int .u8 7] 5)) = w' := hH ▸
  get_in _ 4 4 (pick [9, 172, 2, 7]) 1 _ (lit_bytes w [9, 172, 2, 7] (by simp) 5) (by omega) (by omega) (by omega) (some (300, 2)) (by
    have := Got.word 300 [7] (by omega)
    rw [w300] at this; exact this)
theorem g2 (w : World) (H : Nat) (hH : w.heap.size = H) : Calls Try.prog 18 #[.slice (some ⟨H, 0, none⟩) 4 4, .int .i64 2] (w.alloc (.cells #[.int .u8 9, .int .u8 172, .int .u8 2, .int .u8 7] 5)) fun e w' => e = .returned (.tuple #[.int .u64 2, .int .i64 1, .bool true]) ∧ (w.alloc (.cells #[.int .u8 9, .int .u8 172, .int .u8 2, .int .u8 7] 5)) = w' := hH ▸
  get_in _ 4 4 (pick [9, 172, 2, 7]) 2 _ (lit_bytes w [9, 172, 2, 7] (by simp) 5) (by omega) (by omega) (by omega) (some (2, 1)) (by
    have := Got.word 2 [7] (by omega)
    rw [w2] at this; exact this)
theorem g3 (w : World) (H : Nat) (hH : w.heap.size = H) : Calls Try.prog 18 #[.slice (some ⟨H, 0, none⟩) 2 2, .int .i64 0] (w.alloc (.cells #[.int .u8 128, .int .u8 0] 5)) fun e w' => e = .returned (.tuple #[.int .u64 0, .int .i64 0, .bool false]) ∧ (w.alloc (.cells #[.int .u8 128, .int .u8 0] 5)) = w' := hH ▸
  get_in _ 2 2 (pick [128, 0]) 0 _ (lit_bytes w [128, 0] (by simp) 5) (by omega) (by omega) (by omega) none (got_no_nought (a := [128]) (r := []) (by simp) (by simp))
theorem g4 (w : World) (H : Nat) (hH : w.heap.size = H) : Calls Try.prog 18 #[.slice (some ⟨H, 0, none⟩) 1 1, .int .i64 0] (w.alloc (.cells #[.int .u8 172] 5)) fun e w' => e = .returned (.tuple #[.int .u64 0, .int .i64 0, .bool false]) ∧ (w.alloc (.cells #[.int .u8 172] 5)) = w' := hH ▸
  get_in _ 1 1 (pick [172]) 0 _ (lit_bytes w [172] (by simp) 5) (by omega) (by omega) (by omega) none (got_no_short (a := [172]) (by simp))
theorem r1 (w : World) (H : Nat) (hH : w.heap.size = H) : Calls Try.prog 20 #[.slice (some ⟨H, 0, none⟩) 3 3] (w.alloc (.cells #[.int .u8 1, .int .u8 172, .int .u8 2] 5)) (RowsMade (w.alloc (.cells #[.int .u8 1, .int .u8 172, .int .u8 2] 5)) (some [1, 300])) := hH ▸
  rows_any _ 3 3 (pick [1, 172, 2]) _ (lit_bytes w [1, 172, 2] (by simp) 5) (by omega) (by omega) (some [1, 300]) ⟨by simp, by simp [w1, w300]; rfl⟩
theorem r2 (w : World) (H : Nat) (hH : w.heap.size = H) : Calls Try.prog 20 #[.slice (some ⟨H, 0, none⟩) 1 1] (w.alloc (.cells #[.int .u8 172] 5)) (RowsMade (w.alloc (.cells #[.int .u8 172] 5)) none) := hH ▸
  rows_any _ 1 1 (pick [172]) _ (lit_bytes w [172] (by simp) 5) (by omega) (by omega) none (parsed_no (ns := []) (l := [172]) (by simp) (got_no_short (a := [172]) (by simp)))
theorem f0 (w : World) : Calls Try.prog 13 #[.int .i64 0] w fun e w' => e = .returned (.int .u64 0) ∧ w = w' := fold_any 0 (by omega) (by omega) w
theorem f1 (w : World) : Calls Try.prog 13 #[.int .i64 (-1)] w fun e w' => e = .returned (.int .u64 1) ∧ w = w' := fold_any (-1) (by omega) (by omega) w
theorem f2 (w : World) : Calls Try.prog 13 #[.int .i64 1] w fun e w' => e = .returned (.int .u64 2) ∧ w = w' := fold_any 1 (by omega) (by omega) w
theorem f3 (w : World) : Calls Try.prog 13 #[.int .i64 (-64)] w fun e w' => e = .returned (.int .u64 127) ∧ w = w' := fold_any (-64) (by omega) (by omega) w
theorem f4 (w : World) : Calls Try.prog 15 #[.int .u64 127] w fun e w' => e = .returned (.int .i64 (-64)) ∧ w = w' := unfold_any 127 (by omega) w

set_option maxRecDepth 100000 in
set_option maxHeartbeats 4000000 in
theorem awake_any (w : World) : Calls Try.prog 24 #[] w fun e w' => e = .returned (.bool true) ∧ Below w.heap.size w w' := by
  go_enter Try.func24, Try.ntmps24
  go_wp2_with fail
  refine (put300 _).mono ?_
  rintro e w1 ⟨A, c, rfl, -, -, -, hb, -, hbel⟩
  have J := Lib.hid hb; have K := Lib.hid hbel
  clear hb hbel
  go_wp2_with fail
  refine (put127 _).mono ?_
  rintro e w2 ⟨B, d, rfl, -, -, -, hb, -, hbel⟩
  have J2 := J.out.below hbel; have K2 := Lib.hid (K.out.trans (hbel.mono K.out.size))
  clear hbel K J
  obtain ⟨b, off, rfl, hlt, hc1, hc2⟩ := two_cells J2
  obtain ⟨b', off', rfl, hlt', hc3⟩ := one_cell hb
  clear hb J2 hlt hlt'
  go_wp2_with fail
  clear hc1 hc2 hc3
  refine (g1 _ _ (by simp)).mono ?_
  rintro e w3 ⟨rfl, rfl⟩
  go_wp2_with fail
  refine (g2 _ _ (by simp)).mono ?_
  rintro e w3 ⟨rfl, rfl⟩
  go_wp2_with fail
  refine (g3 _ _ (by simp)).mono ?_
  rintro e w3 ⟨rfl, rfl⟩
  go_wp2_with fail
  refine (g4 _ _ (by simp)).mono ?_
  rintro e w3 ⟨rfl, rfl⟩
  go_wp2_with fail
  refine (r1 _ _ (by simp)).mono ?_
  rintro e w3 ⟨C, c3, rfl, -, -, hL, hbel⟩
  have K3 : Hid (Below w.heap.size w w3) := Lib.hid (K2.out.trans (((((((Below.refl _ _).alloc (by simp) _).alloc (by simp) _).alloc (by simp; omega) _).alloc (by simp; omega) _).alloc (by simp; omega) _).trans (hbel.mono (by simp; omega)) |>.mono K2.out.size))
  have L3 := Lib.hid hL
  clear hL hbel K2
  go_wp2_with fail
  refine (r2 _ _ (by simp)).mono ?_
  rintro e w4 ⟨rfl, hbel⟩
  have K4 : Hid (Below w.heap.size w w4) := Lib.hid ((K3.out.alloc K3.out.size _).trans (hbel.mono (by have := K3.out.size; simp; omega)))
  have L4 := (L3.out.alloc (.cells #[.int .u8 172] 5)).below hbel
  clear hbel K3 L3
  obtain ⟨b2, off2, rfl, hd1, hd2⟩ := two_longs L4
  clear L4
  go_wp2_with fail
  refine (f0 _).mono ?_
  rintro e w' ⟨rfl, rfl⟩
  go_wp2_with fail
  refine (f1 _).mono ?_
  rintro e w' ⟨rfl, rfl⟩
  go_wp2_with fail
  refine (f2 _).mono ?_
  rintro e w' ⟨rfl, rfl⟩
  go_wp2_with fail
  refine (f3 _).mono ?_
  rintro e w' ⟨rfl, rfl⟩
  go_wp2_with fail
  refine (f4 _).mono ?_
  rintro e w' ⟨rfl, rfl⟩
  go_wp2
  go_ret
  exact ⟨rfl, K4.out⟩
end Go.Proofs.Ytjbkjpkelbigmaa
