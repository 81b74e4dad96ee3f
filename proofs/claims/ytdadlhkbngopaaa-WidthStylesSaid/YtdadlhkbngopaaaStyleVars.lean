/-
  Variables of styles: made, read, written into, whole or in part; the worlds behind are letters, told by what lies in which block.
-/
import Derived.Test.YtdadlhkbngopaaaHeld6
import Derived.Laws.NewBlocks
namespace Go.Proofs.Ytdadlhkbngopaaa
open Go.RowKit

/-- a block more -/
structure Grew (W W' : World) (g : Nat) (X : Array Value) : Prop where
  at_ : g = W.heap.size
  box : Box27 W' g X
  other : ∀ b A, Box27 W b A → Box27 W' b A
  below : ∀ B w0, B ≤ W.heap.size → Below B w0 W → Below B w0 W'
  size : W'.heap.size = W.heap.size + 1
/-- a block was written into -/
structure Wrote (W W' : World) (g : Nat) (X : Array Value) : Prop where
  box : Box27 W' g X
  other : ∀ b A, b ≠ g → Box27 W b A → Box27 W' b A
  below : ∀ B w0, B ≤ g → Below B w0 W → Below B w0 W'
  size : W'.heap.size = W.heap.size
theorem grew_alloc (W : World) (X : Array Value) : Grew W (W.alloc (.cells X 27)) W.heap.size X :=
  ⟨rfl, Box27.new W X, fun _ _ h => h.alloc _, fun _ _ hB h => h.alloc hB _, by simp⟩
theorem wrote_row {W : World} {g : Nat} {Z : Array Value} (X : Array Value) (h : Box27 W g Z) : Wrote W (W.setRow g X) g X :=
  ⟨⟨by rw [size_setRow]; exact h.1, setRow_heap W g Z X _ _ h.2⟩, fun b A hb hA => ⟨by rw [size_setRow]; exact hA.1, (setRow_other W g b X hb).trans hA.2⟩,
   fun B w0 hB hb => ⟨hb.os, hb.tape, hb.output, by rw [size_setRow]; exact hb.size, fun i hi => (setRow_other W g i X (by omega)).trans (hb.block i hi)⟩, size_setRow W g X⟩

/-- the style that nobody has set -/
def zeroS : RS := ⟨0, false, ⟨0, 0⟩, ⟨0, 0⟩, ⟨0, 0⟩, ⟨0, 0⟩, ⟨0, 0⟩, ⟨0, 0⟩, fun _ => ⟨0, 0⟩, fun _ => 0, fun _ => 0, 0, 0, 0, 0, 0, 0, 0, 0, false, 0, 0, 0, 0, 0, ⟨0, 0⟩, 0⟩
theorem run_alloc_style (W : World) : (Instr.alloc 27 true (.tuple #[])).run Try.prog W = .ok (.pointer (some ⟨W.heap.size, 0, none⟩)) (W.alloc (.cells zeroS.cells.toArray 27)) := by
  simp [Instr.alloc, Sem.run_bind, go_sem, Result.andThen, Value.cells]
  exact congrArg (fun z => W.alloc (.cells z 27)) (by kernel_rfl)
theorem wp_alloc_style {o : Oper} {a : Act} {W : World} {K : Act → World → Prop} {Q : Exit → Act → World → Prop} (ho : o.op = .alloc 27)
    (h : ∀ W' g, Grew W W' g zeroS.cells.toArray → K (a.put o.dst (.pointer (some ⟨g, 0, none⟩))) W') : o.wp Try.prog a W K Q := by
  unfold Oper.wp execOp
  simp only [ho, Sem.run_bind, run_alloc_style W, Result.andThen_ok, Sem.run_pure]
  exact h _ _ (grew_alloc W _)
theorem run_store_part {W : World} (ty : TypeId) (g k : Nat) (V : Value) (Z : Array Value) (hZ : Box27 W g Z)
    (hi : (Try.prog.info? ty).map (·.size) = some V.cells.size) (h1 : ∀ v ∈ V.cells.toList, v.oneCell' = true) (hk : k + V.cells.size ≤ Z.size) :
    (Instr.storeAt ty (.pointer (some ⟨g, k, none⟩)) V).run Try.prog W = .ok () (W.setRow g (Z.toList.take k ++ V.cells.toList ++ Z.toList.drop (k + V.cells.size)).toArray) := by
  have hst := run_storeCells_at Try.prog g k 27 V.cells.toList 0 Z W hZ.2 (by simpa using hk) h1
  simp only [Nat.add_zero, Array.length_toList] at hst
  cases hq : Try.prog.info? ty with
  | none => simp [hq] at hi
  | some i =>
    have hs : V.cells.size = i.size := by simp [hq] at hi; omega
    simp only [Instr.storeAt, Instr.sureAddr, Sem.run_bind, Sem.run_pure, Result.andThen_ok]
    rw [List.append_assoc, hs] at hst
    simp [storeVar, sizeOf, typeInfo, hq, hs, hst]
theorem wp_store_part {o : Oper} {a : Act} {W : World} {K : Act → World → Prop} {Q : Exit → Act → World → Prop} (ty : TypeId) (x y : Operand) (ho : o.op = .store ty x y)
    (g k : Nat) (hx : a.eval x = .pointer (some ⟨g, k, none⟩)) (V : Value) (hy : a.eval y = V) (Z : Array Value) (hZ : Box27 W g Z)
    (hi : (Try.prog.info? ty).map (·.size) = some V.cells.size) (h1 : ∀ v ∈ V.cells.toList, v.oneCell' = true) (hk : k + V.cells.size ≤ Z.size)
    (X : Array Value) (hX : X = (Z.toList.take k ++ V.cells.toList ++ Z.toList.drop (k + V.cells.size)).toArray)
    (h : ∀ W', Wrote W W' g X → K (a.put o.dst undef) W') : o.wp Try.prog a W K Q := by
  unfold Oper.wp execOp
  simp only [ho, hx, hy, Sem.run_bind, run_store_part ty g k V Z hZ hi h1 hk, Result.andThen_ok, Sem.run_pure]
  rw [← hX]
  exact h _ (wrote_row X hZ)
section
variable {W : World} {ops : Array Oper} {rest : List Oper} {o : Oper} {a : Act} {Q : Exit → Act → World → Prop}
theorem wpList_alloc_style (hgd : o.guard = none) (ho : o.op = .alloc 27)
    (h : ∀ W' g, Grew W W' g zeroS.cells.toArray → wpList Try.prog ops Q rest (a.put o.dst (.pointer (some ⟨g, 0, none⟩))) W') : wpList Try.prog ops Q (o :: rest) a W :=
  wpList_plain hgd fun _ hK => wp_alloc_style ho fun W' g hg => hK _ _ (h W' g hg)
theorem wpList_store_part (hgd : o.guard = none) (ty : TypeId) (x y : Operand) (ho : o.op = .store ty x y)
    (g k : Nat) (hx : a.eval x = .pointer (some ⟨g, k, none⟩)) (V : Value) (hy : a.eval y = V) (Z : Array Value) (hZ : Box27 W g Z)
    (hi : (Try.prog.info? ty).map (·.size) = some V.cells.size) (h1 : ∀ v ∈ V.cells.toList, v.oneCell' = true) (hk : k + V.cells.size ≤ Z.size)
    (X : Array Value) (hX : X = (Z.toList.take k ++ V.cells.toList ++ Z.toList.drop (k + V.cells.size)).toArray)
    (h : ∀ W', Wrote W W' g X → wpList Try.prog ops Q rest (a.put o.dst undef) W') : wpList Try.prog ops Q (o :: rest) a W :=
  wpList_plain hgd fun _ hK => wp_store_part ty x y ho g k hx V hy Z hZ hi h1 hk X hX fun W' hw => hK _ _ (h W' hw)
theorem wpList_wanted (hw : Region.wanted o (yielded ops a.tmps) = true)
    (h : ∀ K : Act → World → Prop, (∀ a w, wpList Try.prog ops Q rest a w → K a w) → o.wp Try.prog a W K Q) : wpList Try.prog ops Q (o :: rest) a W :=
  wpList_step fun K hK => by rw [if_pos hw]; exact h K hK
theorem wpList_load_style (hw : Region.wanted o (yielded ops a.tmps) = true) (x : Operand) (ho : o.op = .load 27 x) (g : Nat) (hx : a.eval x = .pointer (some ⟨g, 0, none⟩)) (X : Array Value) (hB : Box27 W g X) (hs : X.size = 47)
    (h : wpList Try.prog ops Q rest (a.put o.dst (.agg X)) W) : wpList Try.prog ops Q (o :: rest) a W :=
  wpList_wanted hw fun _ hK => wp_load_row 27 x ho g hx _ X _ _ hB.2 Try.underlying27 rfl (by rw [hs]; exact style_size) (hK _ _ h)
theorem wpList_build_val (hgd : Region.wanted o (yielded ops a.tmps) = true) (ty : TypeId) (parts : Array (Nat × Operand)) (ho : o.op = .build ty parts) (V : Value) (hr : ∀ W, (Instr.build ty (parts.map fun (i, x) => (i, a.eval x))).run Try.prog W = .ok V W)
    (h : wpList Try.prog ops Q rest (a.put o.dst V) W) : wpList Try.prog ops Q (o :: rest) a W := by
  refine wpList_wanted hgd fun K hK => ?_
  unfold Oper.wp execOp
  simp only [ho, Sem.run_bind, hr, Result.andThen_ok, Sem.run_pure]
  exact hK _ _ h
end
theorem style_whole (Z X : List Value) (h : Z.length ≤ X.length) : (Z.take 0 ++ X ++ Z.drop (0 + X.length)) = X := by
  rw [List.take_zero, List.nil_append, List.drop_of_length_le (by omega), List.append_nil]
/-- each cell of a style is one cell -/
theorem style_one (s : RS) : ∀ v ∈ s.cells, v.oneCell' = true := by
  intro v hv
  unfold RS.cells at hv
  obtain ⟨l, -, rfl⟩ := List.mem_map.1 hv
  cases l <;> rfl
/-- a style stored whole -/
theorem wp_store_style {o : Oper} {a : Act} {W : World} {K : Act → World → Prop} {Q : Exit → Act → World → Prop} (x y : Operand) (ho : o.op = .store 27 x y)
    (g : Nat) (hx : a.eval x = .pointer (some ⟨g, 0, none⟩)) (X : Array Value) (hy : a.eval y = .agg X) (h1 : X.size = 47 ∧ ∀ v ∈ X.toList, v.oneCell' = true) (Z : Array Value) (hZ : Box27 W g Z) (hs : Z.size = 47)
    (h : ∀ W', Wrote W W' g X → K (a.put o.dst undef) W') : o.wp Try.prog a W K Q :=
  wp_store_part 27 x y ho g 0 hx (.agg X) hy Z hZ (by rw [style_size]; simp [Value.cells, h1.1]) h1.2 (by simp [Value.cells, h1.1, hs]) X
    (by rw [show (Value.agg X).cells = X from rfl, show X.size = X.toList.length by simp, style_whole _ _ (by simp [h1.1, hs])]) h
theorem wpList_store_style {W : World} {ops : Array Oper} {rest : List Oper} {o : Oper} {a : Act} {Q : Exit → Act → World → Prop} (hgd : o.guard = none) (x y : Operand) (ho : o.op = .store 27 x y)
    (g : Nat) (hx : a.eval x = .pointer (some ⟨g, 0, none⟩)) (X : Array Value) (hy : a.eval y = .agg X) (h1 : X.size = 47 ∧ ∀ v ∈ X.toList, v.oneCell' = true) (Z : Array Value) (hZ : Box27 W g Z) (hs : Z.size = 47)
    (h : ∀ W', Wrote W W' g X → wpList Try.prog ops Q rest (a.put o.dst undef) W') : wpList Try.prog ops Q (o :: rest) a W :=
  wpList_plain hgd fun _ hK => wp_store_style x y ho g hx X hy h1 Z hZ hs fun W' hw => hK _ _ (h W' hw)
end Go.Proofs.Ytdadlhkbngopaaa
