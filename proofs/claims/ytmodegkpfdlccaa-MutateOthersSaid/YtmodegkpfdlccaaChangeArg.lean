/-
  A change as it lies: 55 cells; a change that came in as an argument.
-/
import Derived.Test.YtmodegkpfdlccaaNodes
namespace Go.Proofs.Ytmodegkpfdlccaa
open Go.RowKit Go.ChangeShapes Go.WideShapes

structure RC where
  kind : Int
  key : Int
  parent : Int
  at_ : Int
  node : RN
def RC.cells (c : RC) : List Value := .int .u8 c.kind :: .int .i64 c.key :: .int .i64 c.parent :: .int .i64 c.at_ :: c.node.cells
structure RC.ok (c : RC) : Prop where
  kind : 0 ≤ c.kind ∧ c.kind < 256
  key : -9223372036854775808 ≤ c.key ∧ c.key ≤ 9223372036854775807
  parent : -9223372036854775808 ≤ c.parent ∧ c.parent ≤ 9223372036854775807
  at_ : -9223372036854775808 ≤ c.at_ ∧ c.at_ ≤ 9223372036854775807
  node : c.node.ok
def changeV (c : RC) : Value := .agg c.cells.toArray
set_option maxRecDepth 100000 in
theorem RC.ok.len {c : RC} (h : c.ok) : c.cells.length = 55 := by
  simp [RC.cells, h.node.len]
def changeNone : Value := changeV ⟨0, 0, 0, 0, ⟨0, 0, 0, [.int .u8 0, .bool false] ++ (List.replicate 10 [.int .u8 0, .int .i64 0]).flatten ++ List.replicate 11 (.int .i64 0) ++ List.replicate 5 (.int .u8 0) ++ [.bool false, .int .u8 0] ++ List.replicate 4 (.int .i64 0) ++ [.int .u8 0, .int .i64 0, .int .i64 0], []⟩⟩
set_option maxRecDepth 100000 in
theorem change_cells : Try.prog.cellsOf 34 = 55 := by kernel_rfl
section
variable {H : Type} {enc : TypeId × Value → H} {w : World} {held : Bool} {base : Nat} {sp : Nat → Bool}
set_option maxRecDepth 100000 in
theorem open_change {fuel : Nat} {cs : List Value} {y : DataW H × List MemPlace} (h : DataW.trod enc Try.prog w base sp held fuel 34 cs = some y) : ∃ c : RC, cs = c.cells ∧ c.ok := by
  obtain ⟨xs, m, rfl, rfl, hlen, hxl, hf⟩ := DataW.trod_struct Try.underlying34 h
  have c1 : Try.prog.cellsOf 3 = 1 := by kernel_rfl
  have c2 : Try.prog.cellsOf 5 = 1 := by kernel_rfl
  have c3 := node_cells
  have hl : cs.length = 55 := hlen.trans change_cells
  have hx : xs.length = 5 := hxl.trans (by kernel_rfl)
  have e : ∀ k (hk : k < 5), xs[k]? = some (xs[k]'(by omega)) := fun k hk => List.getElem?_eq_getElem _
  have g0 : DataW.trod enc Try.prog w base sp held m 5 ((cs.drop 0).take (Try.prog.cellsOf 5)) = some (xs[0]'(by omega)) := (hf 0 _ rfl).trans (e 0 (by omega))
  have g1 : DataW.trod enc Try.prog w base sp held m 3 ((cs.drop 1).take (Try.prog.cellsOf 3)) = some (xs[1]'(by omega)) := (hf 1 _ rfl).trans (e 1 (by omega))
  have g2 : DataW.trod enc Try.prog w base sp held m 3 ((cs.drop 2).take (Try.prog.cellsOf 3)) = some (xs[2]'(by omega)) := (hf 2 _ rfl).trans (e 2 (by omega))
  have g3 : DataW.trod enc Try.prog w base sp held m 3 ((cs.drop 3).take (Try.prog.cellsOf 3)) = some (xs[3]'(by omega)) := (hf 3 _ rfl).trans (e 3 (by omega))
  have g4 : DataW.trod enc Try.prog w base sp held m 32 ((cs.drop 4).take (Try.prog.cellsOf 32)) = some (xs[4]'(by omega)) := (hf 4 _ rfl).trans (e 4 (by omega))
  rw [c2] at g0
  rw [c1] at g1 g2 g3
  rw [c3] at g4
  obtain ⟨n0, e0, -, w0⟩ := DataW.trod_int Try.underlying5 g0
  obtain ⟨n1, e1, -, w1⟩ := DataW.trod_int Try.underlying3 g1
  obtain ⟨n2, e2, -, w2⟩ := DataW.trod_int Try.underlying3 g2
  obtain ⟨n3, e3, -, w3⟩ := DataW.trod_int Try.underlying3 g3
  obtain ⟨v, e4, ok, -⟩ := open_node g4
  have chain : ∀ {L : List Value} {o s : Nat}, (cs.drop o).take s = L → cs.drop o = L ++ cs.drop (o + s) := fun {L o s} h => by
    rw [← h, ← List.drop_drop, List.take_append_drop]
  have t0 := chain e0
  have t1 := chain e1
  have t2 := chain e2
  have t3 := chain e3
  have t4 := chain e4
  have te : cs.drop 55 = [] := List.drop_of_length_le (by omega)
  refine ⟨⟨n0, n1, n2, n3, v⟩, ?_, ⟨u8_in w0, i64_in w1, i64_in w2, i64_in w3, ok⟩⟩
  have t : cs = cs.drop 0 := rfl
  rw [t0, t1, t2, t3, t4, te] at t
  rw [t]
  simp [RC.cells]
end
section
variable {H : Type} {enc : TypeId × Value → H} {w : World} {held : Bool}
set_option maxRecDepth 100000 in
theorem open_change_arg {r : Reach} {b : Nat} {v : Value} {d : DataW H} {p : List MemPlace} (hv : Value.okWide Try.prog w r b 34 v) (h : DataW.Trod enc Try.prog w 0 (fun _ => true) held 34 v d p) :
    ∃ c : RC, v = changeV c ∧ c.ok := by
  obtain ⟨fuel, hf⟩ := h
  obtain ⟨cs, rfl, _⟩ := okWide_struct Try.underlying34 hv
  obtain ⟨s, e, ok⟩ := open_change hf
  refine ⟨s, ?_, ok⟩
  obtain ⟨l⟩ := cs
  simp only [Value.cells] at e
  rw [changeV, ← e]
end
end Go.Proofs.Ytmodegkpfdlccaa
