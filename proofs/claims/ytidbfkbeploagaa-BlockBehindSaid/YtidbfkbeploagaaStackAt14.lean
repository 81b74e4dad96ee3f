/-
  Where the document's Stack stands: what is told, what waits, the places so far.
-/
import Derived.Test.YtidbfkbeploagaaRefAsk14
import Derived.Laws.Rows
namespace Go.Proofs.Ytidbfkbeploagaa
open Go.RowKit

theorem Try.infoI14 : (Try.prog.info? 3).map (fun i => (i.zero, i.size, i.bytes)) = some (some (.int .i64 0), 1, 8) := by kernel_rfl
def skCells (v : Value) (r : Sk) : List Value := [v, .int .i64 r.h, .int .i64 r.top.1, .int .i64 r.top.2, .int .i64 r.bot.1, .int .i64 r.bot.2, .bool r.thr]
def skV (v : Value) (r : Sk) : Value := .agg #[v, .int .i64 r.h, .int .i64 r.top.1, .int .i64 r.top.2, .int .i64 r.bot.1, .int .i64 r.bot.2, .bool r.thr]
def ownsI14 (w : World) (base : Nat) (v : Value) (l : List Int) : Prop := w.ownsRow base 3 1 v l.length (l.map (Value.int .i64))
theorem ownsI14.nil (w : World) (base : Nat) : ownsI14 w base (.slice none 0 0) [] := ⟨rfl, .inl ⟨rfl, rfl⟩⟩
theorem ownsI14.keep {w w' : World} {base : Nat} {v : Value} {l : List Int} (h : ownsI14 w base v l) (hb : Below w.heap.size w w') : ownsI14 w' base v l := own_keep h hb
theorem own_set14 {w : World} {B : Nat} {T : TypeId} {k : Nat} {v : Value} {n : Nat} {xs : List Value} (h : w.ownsRow B T k v n xs) {g j : Nat} (hg : g < B) (u : Value) : (w.setCell ⟨g, j, none⟩ u).ownsRow B T k v n xs := by
  obtain ⟨h1, h2⟩ := h
  rcases h2 with h2 | ⟨g', cap, cur, rfl, hb, hw, rest⟩
  · exact ⟨h1, .inl h2⟩
  · exact ⟨h1, .inr ⟨g', cap, cur, rfl, hb, by simp [World.setCell, Array.getElem?_modify, show g ≠ g' by omega, hw], rest⟩⟩
/-- what is asked of a Stack -/
def StackOK (f : Nat) : Prop := ∀ (l : List Kd) (v : Value) (above below : Bool) (w : World), KdIn w v l → l.length ≤ 100000 → BigK l → Calls Try.prog f #[v, .bool above, .bool below] w fun e w' => ∃ vA, e = .returned (.tuple #[skV vA (stackA l above below).1, .int .i64 (stackA l above below).2]) ∧ ownsI14 w' w.heap.size vA (stackA l above below).1.ats ∧ Below w.heap.size w w'
/-- a block of what is told -/
def SkAt (w : World) (b : Nat) (v : Value) (r : Sk) : Prop := w.heap[b]? = some (.cells (skCells v r).toArray 27)
theorem SkAt.new (w : World) (v : Value) (r : Sk) : SkAt (w.alloc (.cells (skCells v r).toArray 27)) w.heap.size v r := heap_alloc_new w _
theorem SkAt.lt {w : World} {b : Nat} {v : Value} {r : Sk} (h : SkAt w b v r) : b < w.heap.size := (Array.getElem?_eq_some_iff.1 h).1
theorem SkAt.keep {w w' : World} {b : Nat} {v : Value} {r : Sk} (h : SkAt w b v r) (hb : Below w.heap.size w w') : SkAt w' b v r := (hb.block b h.lt).trans h
theorem SkAt.keepB {w w' : World} {b B : Nat} {v : Value} {r : Sk} (h : SkAt w b v r) (hb : Below B w w') (hl : b < B) : SkAt w' b v r := (hb.block b hl).trans h
theorem SkAt.cells {w : World} {b : Nat} {v : Value} {r : Sk} (h : SkAt w b v r) : w.cell? ⟨b, 0, none⟩ = some v ∧ w.cell? ⟨b, 1, none⟩ = some (.int .i64 r.h) ∧ w.cell? ⟨b, 2, none⟩ = some (.int .i64 r.top.1) ∧ w.cell? ⟨b, 3, none⟩ = some (.int .i64 r.top.2) ∧ w.cell? ⟨b, 4, none⟩ = some (.int .i64 r.bot.1) ∧ w.cell? ⟨b, 5, none⟩ = some (.int .i64 r.bot.2) ∧ w.cell? ⟨b, 6, none⟩ = some (.bool r.thr) := by
  have h' : w.heap[b]? = some (.cells (skCells v r).toArray 27) := h
  simp [World.cell?, h', skCells]
theorem SkAt.fro {w : World} {b : Nat} {v : Value} {r : Sk} (h : SkAt w b v r) (j : Nat) : w.frozen? ⟨b, j, none⟩ = false := by
  have h' : w.heap[b]? = some (.cells (skCells v r).toArray 27) := h
  simp [World.frozen?, h']
theorem SkAt.set {w : World} {b : Nat} {v : Value} {r : Sk} (h : SkAt w b v r) (j : Nat) (u : Value) (v' : Value) (r' : Sk) (e : (skCells v r).set j u = skCells v' r') : SkAt (w.setCell ⟨b, j, none⟩ u) b v' r' := by
  have h' : w.heap[b]? = some (.cells (skCells v r).toArray 27) := h
  unfold SkAt
  rw [← e]
  simp [World.setCell, Array.getElem?_modify, h']
theorem SkAt.off {w : World} {b g j : Nat} {v u : Value} {r : Sk} (h : SkAt w b v r) (hn : g ≠ b) : SkAt (w.setCell ⟨g, j, none⟩ u) b v r := by
  have h' : w.heap[b]? = some (.cells (skCells v r).toArray 27) := h
  unfold SkAt
  simp [World.setCell, Array.getElem?_modify, hn, h']
theorem MgAt.keepB {W W' : World} {b B : Nat} {a : Mg} (h : MgAt W b a) (hb : Below B W W') (hl : b < B) : MgAt W' b a := (hb.block b hl).trans h
/-- where it stands: the result, what is told (but the places), what waits, the places -/
structure SIt (w W : World) (r o q : Nat) (v : Value) (ats : List Int) (k : Sk) (wt : Mg) : Prop where
  below : Below w.heap.size w W
  res : SkAt W r (.slice none 0 0) skZ
  out : SkAt W o v k
  mine : MgAt W q wt
  own : ownsI14 W (q + 1) v ats
  lt : w.heap.size ≤ r ∧ r < o ∧ o < q ∧ q < W.heap.size
theorem SIt.of {w W W' : World} {r o q : Nat} {v : Value} {ats : List Int} {k : Sk} {wt : Mg} (h : SIt w W r o q v ats k wt) (hb : Below W.heap.size W W') : SIt w W' r o q v ats k wt :=
  ⟨h.below.trans (hb.mono h.below.size), h.res.keep hb, h.out.keep hb, h.mine.keep hb, h.own.keep hb, h.lt.1, h.lt.2.1, h.lt.2.2.1, Nat.lt_of_lt_of_le h.lt.2.2.2 hb.size⟩
theorem SIt.any {w W : World} {r o q : Nat} {v : Value} {ats : List Int} {k : Sk} {wt : Mg} (h : SIt w W r o q v ats k wt) (a : List Int) : SIt w W r o q v ats ⟨a, k.h, k.top, k.bot, k.thr⟩ wt := ⟨h.below, h.res, h.out, h.mine, h.own, h.lt⟩
/-- what waits, written -/
theorem SIt.wait {w W : World} {r o q : Nat} {v : Value} {ats : List Int} {k : Sk} {wt : Mg} (h : SIt w W r o q v ats k wt) (a b : Int) : SIt w ((W.setCell ⟨q, 0, none⟩ (.int .i64 a)).setCell ⟨q, 1, none⟩ (.int .i64 b)) r o q v ats k (a, b) := by
  have hl := h.lt
  refine ⟨(h.below.setCell (by show w.heap.size ≤ q; omega) _).setCell (by show w.heap.size ≤ q; omega) _, (h.res.off (by omega)).off (by omega), (h.out.off (by omega)).off (by omega), ?_, own_set14 (own_set14 h.own (by omega) _) (by omega) _, by simpa [World.setCell] using hl⟩
  obtain ⟨w1, w2⟩ := wt
  exact (h.mine.set 0 (.int .i64 a) (a, w2) rfl).set 1 (.int .i64 b) (a, b) rfl
/-- a cell of what is told, written -/
theorem SIt.tell {w W : World} {r o q : Nat} {v : Value} {ats : List Int} {k : Sk} {wt : Mg} (h : SIt w W r o q v ats k wt) (j : Nat) (u : Value) (k' : Sk) (e : (skCells v k).set j u = skCells v k') : SIt w (W.setCell ⟨o, j, none⟩ u) r o q v ats k' wt := by
  have hl := h.lt
  exact ⟨h.below.setCell (by show w.heap.size ≤ o; omega) _, h.res.off (by omega), h.out.set j u v k' e, h.mine.off (by omega), own_set14 h.own (by omega) _, by simpa [World.setCell] using hl⟩
/-- the places, put on, and written -/
theorem SIt.put {w W W' : World} {r o q : Nat} {v v' : Value} {ats : List Int} {k : Sk} {wt : Mg} (h : SIt w W r o q v ats k wt) (y : Int) (hb : Below (q + 1) W W') (ho : ownsI14 W' (q + 1) v' (ats ++ [y])) : SIt w (W'.setCell ⟨o, 0, none⟩ v') r o q v' (ats ++ [y]) k wt := by
  have hl := h.lt
  have hs := hb.size
  exact ⟨(h.below.trans (hb.mono (by omega))).setCell (by show w.heap.size ≤ o; omega) _, (h.res.keepB hb (by omega)).off (by omega), (h.out.keepB hb (by omega)).set 0 v' v' k rfl, (h.mine.keepB hb (by omega)).off (by omega), own_set14 ho (by omega) _, by
    have e : (W'.setCell ⟨o, 0, none⟩ v').heap.size = W'.heap.size := by simp [World.setCell]
    rw [e]
    omega⟩
theorem wpList_append_i14 {w : World} {ops : Array Oper} {rest : List Oper} {o : Oper} {a : Act} {Q : Exit → Act → World → Prop} (hgd : o.guard = none) (s x : Operand)
    (ho : o.op = .call { callee := .builtin .append, args := #[s, x], argTypes := #[23, 23] })
    (base : Nat) (v : Value) (l : List Int) (hs : a.eval s = v) (hown : ownsI14 w base v l) (y : Int) (T : TypeId) (hx : a.eval x = .slice (some ⟨w.heap.size, 0, none⟩) 1 1)
    (hb : l.length ≤ 90000) (hbase : base ≤ w.heap.size)
    (h : ∀ v' w', ownsI14 w' base v' (l ++ [y]) → Below base w w' → wpList Try.prog ops Q rest (a.put o.dst v') w') :
    wpList Try.prog ops Q (o :: rest) a (w.alloc (.cells #[.int .i64 y] T)) := by
  obtain ⟨i0, hi, hz0, hz1, hz2⟩ := info_parts10 Try.infoI14
  have ha : Below base w (w.alloc (.cells #[.int .i64 y] T)) := (Below.refl _ _).alloc hbase _
  have hown2 : (w.alloc (.cells #[.int .i64 y] T)).ownsRow base 3 1 v l.length (l.map (Value.int .i64)) := hown.alloc _
  refine wpList_append_own _ hgd s x 23 ho base 3 i0 (.int .i64 0) 1 8 Try.underlying23 hi hz0 hz1 hz2 rfl (by decide) v l.length _ hs hown2 ⟨w.heap.size, 0, none⟩ 1 1 [.int .i64 y] hx rfl (fun j u hj => ?_) (fun u hu => by simp at hu; subst hu; rfl) (by unfold maxLen; omega) (by omega) (by have := ha.size; omega) ?_
  · match j, hj with
    | 0, hj => simp at hj; subst hj; simp [Addr.add, World.cell?_alloc_at]
  · intro v' w' hown' hgrow _
    have ho2 : Below base (w.alloc (.cells #[.int .i64 y] T)) w' := (Below.refl base _).grown hgrow (by have := ha.size; omega) (fun k e => by
      rcases hown2.2 with ⟨rfl, _⟩ | ⟨g, cap, cur, rfl, hbg, _⟩
      · cases e
      · cases e; exact hbg)
    refine h v' w' ?_ (ha.trans ho2)
    unfold ownsI14
    rw [List.map_append, List.length_append]
    exact hown'
theorem results_row_tmp14 {P : Program} {fn : Func} {p u : Tmp} {ty : TypeId} (h : fn.results = #[.cell p ty, .tmp u]) (tmps : Array Value) (w : World) (g : Nat) (t : TypeId) (cs : Array Value) (fr : Nat × Nat) (d : TypeDesc)
    (hp : tmps.getD p undef = .pointer (some ⟨g, 0, none⟩)) (hg : w.heap[g]? = some (.cells cs t fr))
    (hu : P.underlying ty = some d) (hd : (match d with | .struct _ | .array _ _ => true | _ => false) = true) (hi : (P.info? ty).map (·.size) = some cs.size) :
    (results fn tmps).run P w = .ok (.tuple #[.agg cs, tmps.getD u undef]) w := by
  rw [results_cell_tmp h, hp]
  simp [asAddr, run_loadVar_row w g t ty cs fr d hg hu hd hi, Result.andThen]
/-- the result, written whole -/
theorem SkAt.whole {w : World} {b : Nat} {v0 : Value} {r0 : Sk} (h : SkAt w b v0 r0) (v : Value) (h1 t1 t2 b1 b2 : Int) (th : Bool) :
    SkAt (((((((w.setCell ⟨b, 0, none⟩ v).setCell ⟨b, 1, none⟩ (.int .i64 h1)).setCell ⟨b, 2, none⟩ (.int .i64 t1)).setCell ⟨b, 3, none⟩ (.int .i64 t2)).setCell ⟨b, 4, none⟩ (.int .i64 b1)).setCell ⟨b, 5, none⟩ (.int .i64 b2)).setCell ⟨b, 6, none⟩ (.bool th)) b v ⟨[], h1, (t1, t2), (b1, b2), th⟩ := by
  obtain ⟨a, h0, ⟨u1, u2⟩, ⟨d1, d2⟩, t0⟩ := r0
  exact ((((((h.set 0 v v ⟨a, h0, (u1, u2), (d1, d2), t0⟩ rfl).set 1 _ v ⟨a, h1, (u1, u2), (d1, d2), t0⟩ rfl).set 2 _ v ⟨a, h1, (t1, u2), (d1, d2), t0⟩ rfl).set 3 _ v ⟨a, h1, (t1, t2), (d1, d2), t0⟩ rfl).set 4 _ v ⟨a, h1, (t1, t2), (b1, d2), t0⟩ rfl).set 5 _ v ⟨a, h1, (t1, t2), (b1, b2), t0⟩ rfl).set 6 _ v ⟨[], h1, (t1, t2), (b1, b2), th⟩ rfl
theorem below_whole {w W : World} {b : Nat} (h : Below w.heap.size w W) (hb : w.heap.size ≤ b) (v : Value) (h1 t1 t2 b1 b2 : Int) (th : Bool) :
    Below w.heap.size w (((((((W.setCell ⟨b, 0, none⟩ v).setCell ⟨b, 1, none⟩ (.int .i64 h1)).setCell ⟨b, 2, none⟩ (.int .i64 t1)).setCell ⟨b, 3, none⟩ (.int .i64 t2)).setCell ⟨b, 4, none⟩ (.int .i64 b1)).setCell ⟨b, 5, none⟩ (.int .i64 b2)).setCell ⟨b, 6, none⟩ (.bool th)) :=
  ((((((h.setCell hb _).setCell hb _).setCell hb _).setCell hb _).setCell hb _).setCell hb _).setCell hb _
theorem own_whole {W : World} {B b : Nat} {T : TypeId} {k : Nat} {u : Value} {n : Nat} {xs : List Value} (h : W.ownsRow B T k u n xs) (hb : b < B) (v : Value) (h1 t1 t2 b1 b2 : Int) (th : Bool) :
    (((((((W.setCell ⟨b, 0, none⟩ v).setCell ⟨b, 1, none⟩ (.int .i64 h1)).setCell ⟨b, 2, none⟩ (.int .i64 t1)).setCell ⟨b, 3, none⟩ (.int .i64 t2)).setCell ⟨b, 4, none⟩ (.int .i64 b1)).setCell ⟨b, 5, none⟩ (.int .i64 b2)).setCell ⟨b, 6, none⟩ (.bool th)).ownsRow B T k u n xs :=
  own_set14 (own_set14 (own_set14 (own_set14 (own_set14 (own_set14 (own_set14 h hb _) hb _) hb _) hb _) hb _) hb _) hb _
theorem own_base {w : World} {B B' : Nat} {T : TypeId} {k : Nat} {v : Value} {n : Nat} {xs : List Value} (h : w.ownsRow B T k v n xs) (hb : B' ≤ B) : w.ownsRow B' T k v n xs := by
  obtain ⟨h1, h2⟩ := h
  rcases h2 with h2 | ⟨g', cap, cur, rfl, hg, rest⟩
  · exact ⟨h1, .inl h2⟩
  · exact ⟨h1, .inr ⟨g', cap, cur, rfl, by omega, rest⟩⟩
end Go.Proofs.Ytidbfkbeploagaa
