/-
  What the letters of wire leave of a value: the letter's own field.
-/
import Derived.Test.YtkjndgnjilfobaaRefTake
import Derived.Outline
namespace Go.Proofs.Ytkjndgnjilfobaa
open Go.RowKit

theorem results_row {P : Program} {fn : Func} {p : Tmp} {ty : TypeId} (h : fn.results = #[.cell p ty]) (tmps : Array Value) (w : World) (g : Nat) (t : TypeId) (cs : Array Value) (fr : Nat × Nat) (d : TypeDesc)
    (hp : tmps.getD p undef = .pointer (some ⟨g, 0, none⟩)) (hg : w.heap[g]? = some (.cells cs t fr))
    (hu : P.underlying ty = some d) (hd : (match d with | .struct _ | .array _ _ => true | _ => false) = true) (hi : (P.info? ty).map (·.size) = some cs.size) :
    (results fn tmps).run P w = .ok (.agg cs) w := by
  have hr := run_loadVar_row w g t ty cs fr d hg hu hd hi
  have hp' : tmps[p]?.getD undef = .pointer (some ⟨g, 0, none⟩) := by simpa using hp
  simp only [results, h]
  simp [Sem.run_bind, Result.andThen]
  rw [hp']
  simp [asAddr, hr]
theorem results_row_tmp2 {P : Program} {fn : Func} {p u v : Tmp} {ty : TypeId} (h : fn.results = #[.cell p ty, .tmp u, .tmp v]) (tmps : Array Value) (w : World) (g : Nat) (t : TypeId) (cs : Array Value) (fr : Nat × Nat) (d : TypeDesc)
    (hp : tmps.getD p undef = .pointer (some ⟨g, 0, none⟩)) (hg : w.heap[g]? = some (.cells cs t fr))
    (hu : P.underlying ty = some d) (hd : (match d with | .struct _ | .array _ _ => true | _ => false) = true) (hi : (P.info? ty).map (·.size) = some cs.size) :
    (results fn tmps).run P w = .ok (.tuple #[.agg cs, tmps.getD u undef, tmps.getD v undef]) w := by
  have hr := run_loadVar_row w g t ty cs fr d hg hu hd hi
  have hp' : tmps[p]?.getD undef = .pointer (some ⟨g, 0, none⟩) := by simpa using hp
  simp only [results, h]
  simp [Sem.run_bind, Result.andThen]
  rw [hp']
  simp [asAddr, hr]

/-- the value with its letter's field alone -/
def onlyOf (c : Nat) (v : RV) : RV := ⟨if c = 110 then v.n else 0, if c = 105 then v.i else 0, if c = 102 then v.f else false,
  if c = 98 then v.bA else none, if c = 98 then v.bn else 0, if c = 98 then v.bc else 0, if c = 98 then v.bf else fun _ => 0,
  if c = 108 then v.lA else none, if c = 108 then v.ln else 0, if c = 108 then v.lc else 0, if c = 108 then v.lf else fun _ => 0⟩
theorem only_n (v : RV) (w : World) : Calls Try.prog 46 #[v.val] w fun e w' => e = .returned (onlyOf 110 v).val ∧ Below w.heap.size w w' := by
  unfold RV.val
  go_enter Try.func46, Try.ntmps46
  go_wp2
  refine bodyPost_ret (results_row rfl _ _ (w.heap.size + 1) _ _ _ _ rfl (heap_alloc2_new _ _ _) Try.underlying42 rfl (by kernel_rfl)) rfl ?_
  exact ⟨rfl, ((Below.refl _ _).alloc (Nat.le_refl _) _).alloc (by simp) _⟩
theorem only_i (v : RV) (w : World) : Calls Try.prog 51 #[v.val] w fun e w' => e = .returned (onlyOf 105 v).val ∧ Below w.heap.size w w' := by
  unfold RV.val
  go_enter Try.func51, Try.ntmps51
  go_wp2
  refine bodyPost_ret (results_row rfl _ _ (w.heap.size + 1) _ _ _ _ rfl (heap_alloc2_new _ _ _) Try.underlying42 rfl (by kernel_rfl)) rfl ?_
  exact ⟨rfl, ((Below.refl _ _).alloc (Nat.le_refl _) _).alloc (by simp) _⟩
theorem only_f (v : RV) (w : World) : Calls Try.prog 56 #[v.val] w fun e w' => e = .returned (onlyOf 102 v).val ∧ Below w.heap.size w w' := by
  unfold RV.val
  go_enter Try.func56, Try.ntmps56
  go_wp2
  refine bodyPost_ret (results_row rfl _ _ (w.heap.size + 1) _ _ _ _ rfl (heap_alloc2_new _ _ _) Try.underlying42 rfl (by kernel_rfl)) rfl ?_
  exact ⟨rfl, ((Below.refl _ _).alloc (Nat.le_refl _) _).alloc (by simp) _⟩
theorem only_b (v : RV) (w : World) : Calls Try.prog 59 #[v.val] w fun e w' => e = .returned (onlyOf 98 v).val ∧ Below w.heap.size w w' := by
  unfold RV.val
  go_enter Try.func59, Try.ntmps59
  go_wp2
  refine bodyPost_ret (results_row rfl _ _ (w.heap.size + 1) _ _ _ _ rfl (heap_alloc2_new _ _ _) Try.underlying42 rfl (by kernel_rfl)) rfl ?_
  exact ⟨rfl, ((Below.refl _ _).alloc (Nat.le_refl _) _).alloc (by simp) _⟩
theorem only_l (v : RV) (w : World) : Calls Try.prog 62 #[v.val] w fun e w' => e = .returned (onlyOf 108 v).val ∧ Below w.heap.size w w' := by
  unfold RV.val
  go_enter Try.func62, Try.ntmps62
  go_wp2
  refine bodyPost_ret (results_row rfl _ _ (w.heap.size + 1) _ _ _ _ rfl (heap_alloc2_new _ _ _) Try.underlying42 rfl (by kernel_rfl)) rfl ?_
  exact ⟨rfl, ((Below.refl _ _).alloc (Nat.le_refl _) _).alloc (by simp) _⟩
end Go.Proofs.Ytkjndgnjilfobaa
