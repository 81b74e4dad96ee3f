/-
  The landed places: a place for each spot, by methods of a line that are picked from an array.
-/
import Derived.Test.YtnhbegdoedbpeaaLineOf11
import Derived.Shelf.Abstract
import Derived.Deep.RegionHeld3
namespace Go.Proofs.Ytnhbegdoedbpeaa
open Go.RowKit Go.Shelf

/-- a method of a line, as a value -/
def edgeV (y : Nat) (h b : Int) : Value := .func (.func y) #[.agg #[.int .i64 h, .int .i64 b]] #[]
def edgesA (h b : Int) : Array Value := #[edgeV 27 h b, edgeV 28 h b, edgeV 29 h b]
theorem run_store_bound {P : Program} {w : World} {a : Addr} {m : Mode} (f : Fn) (xs ys : Array Value) : (store a (.func f xs ys) m).run P w = stored P w a (.func f xs ys) m := run_store P w a _ m rfl
attribute [local go_sem] run_store_bound
set_option maxRecDepth 100000 in
set_option maxHeartbeats 1000000 in
theorem edges_any (h b : Int) (w : World) :
    Calls Try.prog 26 #[.agg #[.int .i64 h, .int .i64 b]] w fun e w' => e = .returned (.agg (edgesA h b)) ∧ Below w.heap.size w w' := by
  go_enter Try.func26, Try.ntmps26
  go_wp2_with fail
  have D1 := heap_alloc_new (w.alloc (.cells #[.int .i64 h, .int .i64 b] 47)) (.cells (edgesA h b) 56)
  rw [World.size_alloc] at D1
  refine bodyPost_ret (results_cell_row rfl _ _ (w.heap.size + 1) _ _ _ _ rfl D1 Try.underlying56 rfl (by kernel_rfl)) rfl ?_
  exact ⟨rfl, ((Below.refl _ w).alloc (Nat.le_refl _) _).alloc (by rw [World.size_alloc]; omega) _⟩
set_option maxHeartbeats 1000000 in
theorem onBase_any (h b z0 z1 z2 k : Int) (w : World) (hw : IntKind.i64.wrap (b - z1) = b - z1) :
    Calls Try.prog 27 #[.agg #[.int .i64 h, .int .i64 b], .agg #[.int .i64 z0, .int .i64 z1, .int .i64 z2, .int .u8 k]] w fun e w' => e = .returned (.int .i64 (b - z1)) ∧ Below w.heap.size w w' := by
  go_enter Try.func27, Try.ntmps27
  go_wp2_with fail
  go_ret
  exact ⟨rfl, ((Below.refl _ w).alloc (Nat.le_refl _) _).alloc (by rw [World.size_alloc]; omega) _⟩
set_option maxHeartbeats 1000000 in
theorem atTop_any (h b z0 z1 z2 k : Int) (w : World) :
    Calls Try.prog 28 #[.agg #[.int .i64 h, .int .i64 b], .agg #[.int .i64 z0, .int .i64 z1, .int .i64 z2, .int .u8 k]] w fun e w' => e = .returned (.int .i64 0) ∧ Below w.heap.size w w' := by
  go_enter Try.func28, Try.ntmps28
  go_wp2_with fail
  go_ret
  exact ⟨rfl, ((Below.refl _ w).alloc (Nat.le_refl _) _).alloc (by rw [World.size_alloc]; omega) _⟩
set_option maxRecDepth 100000 in
set_option maxHeartbeats 2000000 in
theorem atBottom_any (h b z0 z1 z2 k : Int) (w : World) (hw : IntKind.i64.wrap (z1 + z2) = z1 + z2) (hw2 : IntKind.i64.wrap (h - (z1 + z2)) = h - (z1 + z2)) :
    Calls Try.prog 29 #[.agg #[.int .i64 h, .int .i64 b], .agg #[.int .i64 z0, .int .i64 z1, .int .i64 z2, .int .u8 k]] w fun e w' => e = .returned (.int .i64 (h - (z1 + z2))) ∧ Below w.heap.size w w' := by
  have KT := Lib.hid (fun W => tall_any z0 z1 z2 k W hw)
  clear hw
  generalize z1 + z2 = t at KT hw2 ⊢
  have X1 := Lib.hid (heap_alloc_new w (.cells #[.int .i64 h, .int .i64 b] 47))
  have X2 := Lib.hid (heap_alloc_new (w.alloc (.cells #[.int .i64 h, .int .i64 b] 47)) (.cells #[.int .i64 z0, .int .i64 z1, .int .i64 z2, .int .u8 k] 33))
  rw [World.size_alloc] at X2
  have B0 : Hid (Below w.heap.size w ((w.alloc (.cells #[.int .i64 h, .int .i64 b] 47)).alloc (.cells #[.int .i64 z0, .int .i64 z1, .int .i64 z2, .int .u8 k] 33))) := Lib.hid (((Below.refl _ w).alloc (Nat.le_refl _) _).alloc (by rw [World.size_alloc]; omega) _)
  have X0 : Hid (((w.alloc (.cells #[.int .i64 h, .int .i64 b] 47)).alloc (.cells #[.int .i64 z0, .int .i64 z1, .int .i64 z2, .int .u8 k] 33)).heap[w.heap.size]? = some (.cells #[.int .i64 h, .int .i64 b] 47)) := Lib.hid (((Below.refl (w.heap.size + 1) (w.alloc (.cells #[.int .i64 h, .int .i64 b] 47))).alloc (by rw [World.size_alloc]; omega) _).block w.heap.size (by omega) |>.trans X1.out)
  go_enter Try.func29, Try.ntmps29
  go_wp2_with fail
  generalize (w.alloc (.cells #[.int .i64 h, .int .i64 b] 47)).alloc (.cells #[.int .i64 z0, .int .i64 z1, .int .i64 z2, .int .u8 k] 33) = W1 at B0 X0 X2 ⊢
  have LT : Hid (w.heap.size + 1 < W1.heap.size) := Lib.hid (Array.getElem?_eq_some_iff.1 X2.out).1
  have CELLS : Hid (∀ W', Below W1.heap.size W1 W' → W'.cell? ⟨w.heap.size, 0, none⟩ = some (.int .i64 h) ∧ W'.cell? ⟨w.heap.size + 1, 0, none⟩ = some (.int .i64 z0) ∧ W'.cell? ⟨w.heap.size + 1, 1, none⟩ = some (.int .i64 z1) ∧ W'.cell? ⟨w.heap.size + 1, 2, none⟩ = some (.int .i64 z2) ∧ W'.cell? ⟨w.heap.size + 1, 3, none⟩ = some (.int .u8 k)) := Lib.hid (fun W' hb => by
    have h0 := (hb.block w.heap.size (by have := LT.out; omega)).trans X0.out
    have h1 := (hb.block (w.heap.size + 1) LT.out).trans X2.out
    simp [World.cell?, h0, h1])
  have C1 := Lib.hid (CELLS.out _ (Below.refl _ _))
  clear X1 X2 X0
  go_region_held3 (fun W' => W'.cell? ⟨w.heap.size, 0, none⟩ = some (.int .i64 h) ∧ W'.cell? ⟨w.heap.size + 1, 0, none⟩ = some (.int .i64 z0) ∧ W'.cell? ⟨w.heap.size + 1, 1, none⟩ = some (.int .i64 z1) ∧ W'.cell? ⟨w.heap.size + 1, 2, none⟩ = some (.int .i64 z2) ∧ W'.cell? ⟨w.heap.size + 1, 3, none⟩ = some (.int .u8 k))
    (first | exact C1.out | exact C2.out)
    (first
    | (go_at_call 25; (with_reducible refine (KT.out _).mono ?_); rintro e w2 ⟨rfl, hb⟩; have B2 : Hid (Below W1.heap.size W1 w2) := Lib.hid ((Below.refl _ W1).drew.trans hb); have C2 := Lib.hid (CELLS.out w2 B2.out); clear hb))
  rename_i hS
  clear hS
  have B3 : Hid (Below w.heap.size w w2) := Lib.hid (B0.out.trans (B2.out.mono B0.out.size))
  go_wp2_with fail
  go_ret
  exact ⟨rfl, B3.out⟩
/-- the method that tells how such a spot stands -/
theorem edge_any (h b z0 z1 z2 : Int) (a : Nat) (ha : a ≤ 2) (hb : IntKind.i64.wrap (b - z1) = b - z1) (h1 : IntKind.i64.wrap (z1 + z2) = z1 + z2) (h2 : IntKind.i64.wrap (h - (z1 + z2)) = h - (z1 + z2)) :
    ∃ y : Nat, (edgesA h b)[a]? = some (edgeV y h b) ∧ (∀ args w, (callFunc y args).run Try.prog w = .ok (.enter y args) w) ∧
      ∀ W : World, Calls Try.prog y #[.agg #[.int .i64 h, .int .i64 b], .agg #[.int .i64 z0, .int .i64 z1, .int .i64 z2, .int .u8 (a : Nat)]] W fun e w' => e = .returned (.int .i64 (yT h b (z0, z1, z2, a))) ∧ Below W.heap.size W w' := by
  have h3 : a = 0 ∨ a = 1 ∨ a = 2 := by omega
  rcases h3 with rfl | rfl | rfl
  · exact ⟨_, rfl, enters_of Try.func27 (by kernel_rfl) rfl, fun W => onBase_any h b z0 z1 z2 _ W hb⟩
  · exact ⟨_, rfl, enters_of Try.func28 (by kernel_rfl) rfl, fun W => atTop_any h b z0 z1 z2 _ W⟩
  · refine ⟨_, rfl, enters_of Try.func29 (by kernel_rfl) rfl, fun W => ?_⟩
    have e : yT h b (z0, z1, z2, 2) = h - (z1 + z2) := by
      show h - z1 - z2 = h - (z1 + z2)
      omega
    rw [e]
    exact atBottom_any h b z0 z1 z2 _ W h1 h2
end Go.Proofs.Ytnhbegdoedbpeaa
