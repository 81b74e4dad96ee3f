/-
  The document's join of two margins, and what it asks of kids.
-/
import Derived.Test.YtidbfkbeploagaaKids14
import Derived.Test.YtidbfkbeploagaaRefJoin13
import Derived.Test.YtidbfkbeploagaaPicked
import Derived.Deep.Cut
namespace Go.Proofs.Ytidbfkbeploagaa
open Go.RowKit

set_option maxRecDepth 100000 in
set_option maxHeartbeats 4000000 in
theorem join14_any (a b : Mg) (w : World) : Calls Try.prog 18 #[mgV a, mgV b] w fun e w' => e = .returned (mgV (mjoin a b)) ∧ Below w.heap.size w w' := by
  have KJ := Lib.hid (fun W v (h : MgIn W v [a, b]) => refJoin_any13 [a, b] v W h (by simp))
  rw [joinM_two] at KJ
  have G1 := Lib.hid (MgAt.new w a)
  have G2 := Lib.hid (MgAt.new (w.alloc (.cells (mgCells a).toArray 25)) b)
  have G3 := Lib.hid (MgAt.new ((w.alloc (.cells (mgCells a).toArray 25)).alloc (.cells (mgCells b).toArray 25)) mgZ)
  have C2 : Below (w.alloc (.cells (mgCells a).toArray 25)).heap.size (w.alloc (.cells (mgCells a).toArray 25)) ((w.alloc (.cells (mgCells a).toArray 25)).alloc (.cells (mgCells b).toArray 25)) := (Below.refl _ _).alloc (Nat.le_refl _) _
  have C3 : Below ((w.alloc (.cells (mgCells a).toArray 25)).alloc (.cells (mgCells b).toArray 25)).heap.size ((w.alloc (.cells (mgCells a).toArray 25)).alloc (.cells (mgCells b).toArray 25)) (((w.alloc (.cells (mgCells a).toArray 25)).alloc (.cells (mgCells b).toArray 25)).alloc (.cells (mgCells mgZ).toArray 25)) := (Below.refl _ _).alloc (Nat.le_refl _) _
  have B3 : Hid (Below w.heap.size w (((w.alloc (.cells (mgCells a).toArray 25)).alloc (.cells (mgCells b).toArray 25)).alloc (.cells (mgCells mgZ).toArray 25))) := Lib.hid (b_next (b_next ((Below.refl _ w).alloc (Nat.le_refl _) _) C2) C3)
  replace G1 := Lib.hid ((G1.out.keep C2).keep C3)
  replace G2 := Lib.hid (G2.out.keep C3)
  rw [World.size_alloc] at G2
  rw [World.size_alloc, World.size_alloc] at G3
  clear C2 C3
  obtain ⟨m, hm⟩ : ∃ m, mjoin a b = m := ⟨_, rfl⟩
  rw [hm] at KJ ⊢
  obtain ⟨a1, a2⟩ := a
  obtain ⟨b1, b2⟩ := b
  obtain ⟨p, q⟩ := m
  unfold mgV at KJ ⊢
  unfold mgCells mgZ at G1 G2 G3 B3
  dsimp only at KJ G1 G2 G3 B3 ⊢
  clear hm
  go_enter Try.func18, Try.ntmps18
  go_upto_region 1 with fail
  generalize ((w.alloc (.cells #[.int .i64 a1, .int .i64 a2] 25)).alloc (.cells #[.int .i64 b1, .int .i64 b2] 25)).alloc (.cells #[.int .i64 0, .int .i64 0] 25) = w3 at G1 G2 G3 B3 ⊢
  obtain ⟨c0, c1⟩ := MgAt.cells (a := (a1, a2)) G1.out
  obtain ⟨d0, d1⟩ := MgAt.cells (a := (b1, b2)) G2.out
  have MN : Hid (MgIn (w3.alloc (.cells #[.int .i64 a1, .int .i64 a2, .int .i64 b1, .int .i64 b2] 25)) (.slice (some ⟨w3.heap.size, 0, none⟩) 2 2) [(a1, a2), (b1, b2)]) := Lib.hid (mgs_new [(a1, a2), (b1, b2)] (by simp) _)
  have C4 : Hid (Below w3.heap.size w3 (w3.alloc (.cells #[.int .i64 a1, .int .i64 a2, .int .i64 b1, .int .i64 b2] 25))) := Lib.hid ((Below.refl _ _).alloc (Nat.le_refl _) _)
  dsimp only at c0 c1 d0 d1
  go_wp2_with (go_at_call 32; (with_reducible refine (KJ.out _ _ MN.out).mono ?_); rintro e w5 ⟨rfl, hb⟩; have M5 : Hid (MgAt w5 (w.heap.size + 1 + 1) (0, 0)) := Lib.hid ((G3.out.keep C4.out).keep hb); have B5 := Lib.hid (b_next (b_next B3.out C4.out) hb); have z0 := MgAt.fro M5.out 0; have z1 := MgAt.fro M5.out 1; obtain ⟨y0, y1⟩ := MgAt.cells (a := (0, 0)) M5.out; dsimp only at y0 y1; clear hb)
  have R5 : Hid (MgAt ((w5.setCell ⟨w.heap.size + 1 + 1, 0, none⟩ (.int .i64 p)).setCell ⟨w.heap.size + 1 + 1, 1, none⟩ (.int .i64 q)) (w.heap.size + 1 + 1) (p, q)) := Lib.hid ((M5.out.set 0 (.int .i64 p) (p, 0) rfl).set 1 (.int .i64 q) (p, q) rfl)
  refine bodyPost_ret (results_cell_row rfl _ _ (w.heap.size + 1 + 1) _ _ _ _ rfl R5.out Try.underlying25 rfl (by kernel_rfl)) rfl ?_
  exact ⟨rfl, (B5.out.setCell (by show w.heap.size ≤ w.heap.size + 1 + 1; omega) _).setCell (by show w.heap.size ≤ w.heap.size + 1 + 1; omega) _⟩
end Go.Proofs.Ytidbfkbeploagaa
