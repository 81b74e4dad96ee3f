/-
  tree.Same of the landed code; nodes compared in a region that draws its order.
-/
import Derived.Test.YtmodegkpfdlccaaWithin
import Derived.Test.YtmodegkpfdlccaaCopy5
import Derived.Deep.MidRow
import Derived.Deep.LoopGhost
import Derived.StillTailTactics
namespace Go.Proofs.Ytmodegkpfdlccaa
open Go.RowKit

set_option maxRecDepth 100000 in
theorem node_range {W : World} {b o : Nat} {v : RN} (hv : v.ok) (h : NodeAt W b o v) : W.rangeAt b o v.cells := fun j u hu => by
  have hj : j < 51 := by
    have := hv.len
    rcases Nat.lt_or_ge j 51 with h1 | h1
    · exact h1
    · rw [List.getElem?_eq_none (by omega)] at hu; cases hu
  exact (h j hj).trans hu

set_option maxRecDepth 100000 in
theorem run_node_eq_all {u v : RN} (hu : u.ok) (hv : v.ok) : ∃ r : Bool, (∀ w : World, (Op.equalIn 10000 32 (.agg u.cells.toArray) (.agg v.cells.toArray)).run Try.prog w = .ok r w) ∧ (r = true ↔ u = v) := by
  classical
  refine ⟨decide (u = v), fun w => ?_, by simp⟩
  obtain ⟨r, hr, hiff⟩ := run_node_eq hu hv w
  unfold RN.val at hr
  rw [hr]
  congr 1
  rw [Bool.eq_iff_iff, decide_eq_true_iff]
  exact hiff

set_option maxRecDepth 100000 in
theorem wp_region_still_d {P : Program} {id : Nat} {Q : Exit → Act → World → Prop} {a : Act} {w : World} {l : List Oper} (hm : P.follows .mixedOrders = true) (hB : Region.lexB .any l.toArray = true)
    (h : wpStill P l.toArray w.drew (fun a' => Q .normal a' w.drew) l a) : (Code.region id l.toArray true).wp P Q a w := wp_region_still_lit hm hB h

section
variable {P : Program} {ops : Array Oper} {w : World} {Q : Act → Prop} {a : Act} {o : Oper} {rest : List Oper}
set_option maxRecDepth 100000 in
/-- a struct in the middle of a row is read, in a region that draws its order -/
theorem wpStill_load_mid (hg : o.guard = none) (ty : TypeId) (x : Operand) (ho : o.op = .load ty x)
    (b off : Nat) (hx : a.eval x = .pointer (some ⟨b, off, none⟩)) (cs : List Value) (d : TypeDesc) (hc : w.rangeAt b off cs)
    (hu : P.underlying ty = some d) (hd : d.isRow = true) (hi : (P.info? ty).map (·.size) = some cs.length)
    (h : wpStill P ops w Q rest (a.put o.dst (.agg cs.toArray))) : wpStill P ops w Q (o :: rest) a := by
  refine wpStill_step fun K hK => ?_
  rw [if_pos (by simp [Region.wanted, hg])]
  unfold Oper.still execOp
  simp only [ho, hx, Instr.loadAt, Instr.sureAddr, Sem.run_bind, Sem.run_pure, Result.andThen_ok, run_loadVar_mid w b off ty cs d hc hu hd hi, Oper.stillUpon_value]
  exact hK _ h
set_option maxRecDepth 100000 in
/-- two structs are compared there -/
theorem wpStill_eq_struct (hg : o.guard = none) (neq : Bool) (t rt : TypeId) (x y : Operand) (ho : o.op = .binOp (if neq then .neq else .eql) t x y rt)
    (xs ys : Array Value) (hx : a.eval x = .agg xs) (hy : a.eval y = .agg ys) (hm : P.eqGuardType P.depth t = false) (r : Bool) (hr : ∀ w : World, (Op.equalIn 10000 t (.agg xs) (.agg ys)).run P w = .ok r w)
    (h : wpStill P ops w Q rest (a.put o.dst (.bool (if neq then !r else r)))) : wpStill P ops w Q (o :: rest) a := by
  refine wpStill_step fun K hK => ?_
  rw [if_pos (by simp [Region.wanted, hg])]
  unfold Oper.still execOp
  cases neq
  · simp only [ho, hx, hy, Sem.run_bind, Sem.run_pure, run_eqGuard_agg _ _ _ _ _ _ _ hm, Bool.false_eq_true, if_false, run_eql_struct, hr, Result.andThen_ok, Oper.stillUpon_value]
    exact hK _ h
  · simp only [ho, hx, hy, Sem.run_bind, Sem.run_pure, run_eqGuard_agg _ _ _ _ _ _ _ hm, if_true, run_neq_struct, hr, Result.andThen_ok, Oper.stillUpon_value]
    exact hK _ h
end

set_option maxRecDepth 100000 in
theorem node_guard : Try.prog.eqGuardType Try.prog.depth 32 = false := by kernel_rfl
set_option maxRecDepth 100000 in
theorem node_isize : (Try.prog.info? 32).map (·.size) = some 51 := by kernel_rfl

end Go.Proofs.Ytmodegkpfdlccaa
