/-
  A loop's variable of a node: made, and stored into, whole.
-/
import Derived.Test.YtmodegkpfdlccaaCopy5
import Derived.Deep.MidRow
namespace Go.Proofs.Ytmodegkpfdlccaa
open Go.RowKit

/-- the noughts of a new node -/
def nodeZero : Array Value := (box 0 0).cells.toArray
theorem nodeZero_size : nodeZero.size = 51 := by kernel_rfl
theorem wpList_alloc_node {w : World} {ops : Array Oper} {rest : List Oper} {o : Oper} {a : Act} {Q : Exit → Act → World → Prop} (hgd : o.guard = none) (ho : o.op = .alloc 32)
    (h : wpList Try.prog ops Q rest (a.put o.dst (.pointer (some ⟨w.heap.size, 0, none⟩))) (w.alloc (.cells nodeZero 32))) : wpList Try.prog ops Q (o :: rest) a w := by
  refine wpList_plain hgd fun K hK => ?_
  unfold Oper.wp execOp
  have hr : (Instr.alloc 32 true (.tuple #[])).run Try.prog w = .ok (.pointer (some ⟨w.heap.size, 0, none⟩)) (w.alloc (.cells nodeZero 32)) := by
    simp [Instr.alloc, Sem.run_bind, go_sem, Result.andThen, Value.cells]
    exact congrArg (fun z => w.alloc (.cells z 32)) (by kernel_rfl)
  simp only [ho, Sem.run_bind, hr, Result.andThen_ok, Sem.run_pure]
  exact hK _ _ h

theorem setRow_alloc (w : World) (Z X : Array Value) (ty : TypeId) : (w.alloc (.cells Z ty)).setRow w.heap.size X = w.alloc (.cells X ty) := by
  unfold World.setRow World.alloc
  congr 1
  apply Array.ext_getElem?
  intro k
  rw [Array.getElem?_modify, Array.getElem?_push, Array.getElem?_push]
  by_cases hk : k = w.heap.size
  · subst hk; simp
  · rw [if_neg hk, if_neg (fun e => hk e.symm), if_neg hk]

theorem wpList_store_new {P : Program} {w : World} {ops : Array Oper} {rest : List Oper} {o : Oper} {a : Act} {Q : Exit → Act → World → Prop} (hgd : o.guard = none) (ty : TypeId) (x y : Operand) (ho : o.op = .store ty x y) (Z X : Array Value)
    (hx : a.eval x = .pointer (some ⟨w.heap.size, 0, none⟩)) (hy : a.eval y = .agg X) (hZ : Z.size = X.size) (hi : (P.info? ty).map (·.size) = some X.size) (h1 : ∀ v ∈ X.toList, v.oneCell' = true)
    (h : wpList P ops Q rest (a.put o.dst undef) (w.alloc (.cells X ty))) : wpList P ops Q (o :: rest) a (w.alloc (.cells Z ty)) := by
  refine wpList_plain hgd fun K hK => ?_
  have hst := run_storeCells_at P w.heap.size 0 ty X.toList 0 Z (w.alloc (.cells Z ty)) (World.alloc_heap_new w _) (by simp [hZ]) h1
  have hz : Z.toList.drop X.toList.length = [] := List.drop_of_length_le (by simp [hZ])
  simp only [Nat.zero_add, Nat.add_zero, List.take_zero, List.nil_append, hz, List.append_nil, Array.toArray_toList] at hst
  rw [setRow_alloc] at hst
  cases hq : P.info? ty with
  | none => simp [hq] at hi
  | some i =>
    have hs : X.size = i.size := by simp [hq] at hi; omega
    have hr : (Instr.storeAt ty (.pointer (some ⟨w.heap.size, 0, none⟩)) (.agg X)).run P (w.alloc (.cells Z ty)) = .ok () (w.alloc (.cells X ty)) := by
      simp only [Instr.storeAt, Instr.sureAddr, Sem.run_bind, Sem.run_pure, Result.andThen_ok]
      simp [storeVar, sizeOf, typeInfo, hq, Value.cells, hs, hst]
    unfold Oper.wp execOp
    simp only [ho, hx, hy, Sem.run_bind, hr, Result.andThen_ok, Sem.run_pure]
    exact hK _ _ h
end Go.Proofs.Ytmodegkpfdlccaa
