/-
  metric.sharer: rows of questions and shares; what its closure answers; metric.Share.
-/
import Derived.Test.YtcphjmfiiodbhaaContains
import Derived.Below
namespace Go.Proofs.Ytcphjmfiiodbhaa
open Go.RowKit

theorem below_drawnN {B : Nat} {a w : World} (h : Below B a w) (n : Nat) : Below B a (w.drewN n) := ⟨h.os, h.tape, h.output, h.size, h.block⟩
theorem cell_of_block {W : World} {b : Nat} {cs : Array Value} {t : TypeId} {x : Nat × Nat} (h : W.heap[b]? = some (.cells cs t x)) (j : Nat) : W.cell? ⟨b, j, none⟩ = cs[j]? := by
  simp [World.cell?, h]
theorem pushes_heap (os : List Obj) : ∀ w : World, (os.foldl World.alloc w).heap = w.heap ++ os.toArray := by
  induction os with
  | nil => intro w; simp
  | cons o os ih =>
    intro w
    rw [List.foldl_cons, ih]
    show w.heap.push o ++ os.toArray = _
    apply Array.ext'
    simp
theorem pushes_get (w : World) (os : List Obj) (i : Nat) : (os.foldl World.alloc w).heap[w.heap.size + i]? = os[i]? := by
  rw [pushes_heap, Array.getElem?_append_right (by omega)]
  simp
/-- the rows, as they lie from block H on -/
structure Rows8 (H : Nat) (W : World) : Prop where
  size : H + 14 ≤ W.heap.size
  x0 : W.cell? ⟨H, 0, none⟩ = some (.int .i32 4352)
  x1 : W.cell? ⟨H + 1, 0, none⟩ = some (.int .i32 2147483647)
  x2 : W.cell? ⟨H + 2, 0, none⟩ = some (.int .i32 768)
  x3 : W.cell? ⟨H + 3, 0, none⟩ = some (.int .i32 879)
  x4 : W.cell? ⟨H + 4, 0, none⟩ = some (.string nb8)
  x5 : W.cell? ⟨H + 5, 0, none⟩ = some (.int .i32 (-2147483648))
  x6 : W.cell? ⟨H + 6, 0, none⟩ = some (.int .i32 31)
  x7 : W.cell? ⟨H + 7, 0, none⟩ = some (.string bb8)
  x8 : W.cell? ⟨H + 8, 0, none⟩ = some (.int .i32 65)
  x9 : W.cell? ⟨H + 9, 0, none⟩ = some (.int .i32 90)
  x10 : W.cell? ⟨H + 10, 0, none⟩ = some (.int .i32 (-2147483648))
  x11 : W.cell? ⟨H + 11, 0, none⟩ = some (.int .i32 2147483647)
  f0 : W.cell? ⟨H + 12, 0, none⟩ = some (.func (.func 28) #[] #[.pointer (some ⟨H, 0, none⟩), .pointer (some ⟨H + 1, 0, none⟩)])
  s0 : W.cell? ⟨H + 12, 1, none⟩ = some (.int .i64 64)
  f1 : W.cell? ⟨H + 12, 2, none⟩ = some (.func (.func 28) #[] #[.pointer (some ⟨H + 2, 0, none⟩), .pointer (some ⟨H + 3, 0, none⟩)])
  s1 : W.cell? ⟨H + 12, 3, none⟩ = some (.int .i64 0)
  f2 : W.cell? ⟨H + 12, 4, none⟩ = some (.func (.func 29) #[] #[.pointer (some ⟨H + 4, 0, none⟩)])
  s2 : W.cell? ⟨H + 12, 5, none⟩ = some (.int .i64 16)
  f3 : W.cell? ⟨H + 12, 6, none⟩ = some (.func (.func 28) #[] #[.pointer (some ⟨H + 5, 0, none⟩), .pointer (some ⟨H + 6, 0, none⟩)])
  s3 : W.cell? ⟨H + 12, 7, none⟩ = some (.int .i64 0)
  f4 : W.cell? ⟨H + 12, 8, none⟩ = some (.func (.func 29) #[] #[.pointer (some ⟨H + 7, 0, none⟩)])
  s4 : W.cell? ⟨H + 12, 9, none⟩ = some (.int .i64 48)
  f5 : W.cell? ⟨H + 12, 10, none⟩ = some (.func (.func 28) #[] #[.pointer (some ⟨H + 8, 0, none⟩), .pointer (some ⟨H + 9, 0, none⟩)])
  s5 : W.cell? ⟨H + 12, 11, none⟩ = some (.int .i64 40)
  f6 : W.cell? ⟨H + 12, 12, none⟩ = some (.func (.func 28) #[] #[.pointer (some ⟨H + 10, 0, none⟩), .pointer (some ⟨H + 11, 0, none⟩)])
  s6 : W.cell? ⟨H + 12, 13, none⟩ = some (.int .i64 32)
  rows : W.cell? ⟨H + 13, 0, none⟩ = some (.slice (some ⟨H + 12, 0, none⟩) 7 7)
theorem Rows8.below {H : Nat} {W W' : World} (h : Rows8 H W) (hb : Below W.heap.size W W') : Rows8 H W' := by
  have hs := h.size
  have c : ∀ i j, i < 14 → W'.cell? ⟨H + i, j, none⟩ = W.cell? ⟨H + i, j, none⟩ := fun i j hi => hb.cell (by show H + i < _; omega)
  exact ⟨Nat.le_trans hs hb.size, (c 0 0 (by omega)).trans h.x0, (c 1 0 (by omega)).trans h.x1, (c 2 0 (by omega)).trans h.x2, (c 3 0 (by omega)).trans h.x3, (c 4 0 (by omega)).trans h.x4, (c 5 0 (by omega)).trans h.x5, (c 6 0 (by omega)).trans h.x6,
    (c 7 0 (by omega)).trans h.x7, (c 8 0 (by omega)).trans h.x8, (c 9 0 (by omega)).trans h.x9, (c 10 0 (by omega)).trans h.x10, (c 11 0 (by omega)).trans h.x11,
    (c 12 0 (by omega)).trans h.f0, (c 12 1 (by omega)).trans h.s0, (c 12 2 (by omega)).trans h.f1, (c 12 3 (by omega)).trans h.s1, (c 12 4 (by omega)).trans h.f2, (c 12 5 (by omega)).trans h.s2, (c 12 6 (by omega)).trans h.f3, (c 12 7 (by omega)).trans h.s3,
    (c 12 8 (by omega)).trans h.f4, (c 12 9 (by omega)).trans h.s4, (c 12 10 (by omega)).trans h.f5, (c 12 11 (by omega)).trans h.s5, (c 12 12 (by omega)).trans h.f6, (c 12 13 (by omega)).trans h.s6, (c 13 0 (by omega)).trans h.rows⟩
set_option maxRecDepth 100000 in
set_option maxHeartbeats 4000000 in
theorem sharer_any (w : World) :
    Calls Try.prog 21 #[] w fun e w' => e = .returned (.func (.func 27) #[] #[.pointer (some ⟨w.heap.size + 13, 0, none⟩)]) ∧ Below w.heap.size w w' ∧ Rows8 w.heap.size w' := by
  go_enter Try.func21, Try.ntmps21
  go_wp2
  go_ret
  refine ⟨rfl, ?_, ?_⟩
  · repeat' (first | exact Below.refl _ _ | (refine Below.alloc ?_ (by first | exact Nat.le_refl _ | (simp only [World.size_alloc]; omega)) _))
  · refine ⟨by simp only [World.size_alloc]; omega, ?_, ?_, ?_, ?_, ?_, ?_, ?_, ?_, ?_, ?_, ?_, ?_, ?_, ?_, ?_, ?_, ?_, ?_, ?_, ?_, ?_, ?_, ?_, ?_, ?_, ?_, ?_⟩
    · exact (cell_of_block ((pushes_get w [_, _, _, _, _, _, _, _, _, _, _, _, _, _] 0).trans rfl) _).trans rfl
    · exact (cell_of_block ((pushes_get w [_, _, _, _, _, _, _, _, _, _, _, _, _, _] 1).trans rfl) _).trans rfl
    · exact (cell_of_block ((pushes_get w [_, _, _, _, _, _, _, _, _, _, _, _, _, _] 2).trans rfl) _).trans rfl
    · exact (cell_of_block ((pushes_get w [_, _, _, _, _, _, _, _, _, _, _, _, _, _] 3).trans rfl) _).trans rfl
    · exact (cell_of_block ((pushes_get w [_, _, _, _, _, _, _, _, _, _, _, _, _, _] 4).trans rfl) _).trans rfl
    · exact (cell_of_block ((pushes_get w [_, _, _, _, _, _, _, _, _, _, _, _, _, _] 5).trans rfl) _).trans rfl
    · exact (cell_of_block ((pushes_get w [_, _, _, _, _, _, _, _, _, _, _, _, _, _] 6).trans rfl) _).trans rfl
    · exact (cell_of_block ((pushes_get w [_, _, _, _, _, _, _, _, _, _, _, _, _, _] 7).trans rfl) _).trans rfl
    · exact (cell_of_block ((pushes_get w [_, _, _, _, _, _, _, _, _, _, _, _, _, _] 8).trans rfl) _).trans rfl
    · exact (cell_of_block ((pushes_get w [_, _, _, _, _, _, _, _, _, _, _, _, _, _] 9).trans rfl) _).trans rfl
    · exact (cell_of_block ((pushes_get w [_, _, _, _, _, _, _, _, _, _, _, _, _, _] 10).trans rfl) _).trans rfl
    · exact (cell_of_block ((pushes_get w [_, _, _, _, _, _, _, _, _, _, _, _, _, _] 11).trans rfl) _).trans rfl
    · exact (cell_of_block ((pushes_get w [_, _, _, _, _, _, _, _, _, _, _, _, _, _] 12).trans rfl) _).trans rfl
    · exact (cell_of_block ((pushes_get w [_, _, _, _, _, _, _, _, _, _, _, _, _, _] 12).trans rfl) _).trans rfl
    · exact (cell_of_block ((pushes_get w [_, _, _, _, _, _, _, _, _, _, _, _, _, _] 12).trans rfl) _).trans rfl
    · exact (cell_of_block ((pushes_get w [_, _, _, _, _, _, _, _, _, _, _, _, _, _] 12).trans rfl) _).trans rfl
    · exact (cell_of_block ((pushes_get w [_, _, _, _, _, _, _, _, _, _, _, _, _, _] 12).trans rfl) _).trans rfl
    · exact (cell_of_block ((pushes_get w [_, _, _, _, _, _, _, _, _, _, _, _, _, _] 12).trans rfl) _).trans rfl
    · exact (cell_of_block ((pushes_get w [_, _, _, _, _, _, _, _, _, _, _, _, _, _] 12).trans rfl) _).trans rfl
    · exact (cell_of_block ((pushes_get w [_, _, _, _, _, _, _, _, _, _, _, _, _, _] 12).trans rfl) _).trans rfl
    · exact (cell_of_block ((pushes_get w [_, _, _, _, _, _, _, _, _, _, _, _, _, _] 12).trans rfl) _).trans rfl
    · exact (cell_of_block ((pushes_get w [_, _, _, _, _, _, _, _, _, _, _, _, _, _] 12).trans rfl) _).trans rfl
    · exact (cell_of_block ((pushes_get w [_, _, _, _, _, _, _, _, _, _, _, _, _, _] 12).trans rfl) _).trans rfl
    · exact (cell_of_block ((pushes_get w [_, _, _, _, _, _, _, _, _, _, _, _, _, _] 12).trans rfl) _).trans rfl
    · exact (cell_of_block ((pushes_get w [_, _, _, _, _, _, _, _, _, _, _, _, _, _] 12).trans rfl) _).trans rfl
    · exact (cell_of_block ((pushes_get w [_, _, _, _, _, _, _, _, _, _, _, _, _, _] 12).trans rfl) _).trans rfl
    · exact (cell_of_block ((pushes_get w [_, _, _, _, _, _, _, _, _, _, _, _, _, _] 13).trans rfl) _).trans rfl
end Go.Proofs.Ytcphjmfiiodbhaa
