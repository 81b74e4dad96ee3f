/-
  A copy of a document whose row is a block of one's own; a cell of a node written; boxes of documents.
-/
import Derived.Test.YtmodegkpfdlccaaNodeRows
namespace Go.Proofs.Ytmodegkpfdlccaa
open Go.RowKit Go.WideShapes

set_option maxRecDepth 100000 in
theorem node_ok {v : RN} (h : v.ok) {k d : Int} (hk : -9223372036854775808 ≤ k ∧ k ≤ 9223372036854775807) (hd : -9223372036854775808 ≤ d ∧ d ≤ 9223372036854775807) : ({ v with key := k, depth := d } : RN).ok := by
  have h1 : IntKind.i64.min = -9223372036854775808 := by decide
  have h2 : IntKind.i64.max = 9223372036854775807 := by decide
  have h3 : IntKind.u8.min = 0 := by decide
  have h4 : IntKind.u8.max = 255 := by decide
  have wk : (Lit.int .i64 k).wf = true := by simp only [Lit.wf, h1, h2, Bool.and_eq_true, decide_eq_true_eq]; exact hk
  have wd : (Lit.int .i64 d).wf = true := by simp only [Lit.wf, h1, h2, Bool.and_eq_true, decide_eq_true_eq]; exact hd
  have wu : (Lit.int .u8 v.kind).wf = true := by have := h.kind; simp only [Lit.wf, h3, h4, Bool.and_eq_true, decide_eq_true_eq]; omega
  have hs := h.style
  have fk : Try.prog.keyLits 5 3 [.int .i64 k] = some [.int .i64 k] := by simp [Program.keyLits, Try.underlying3, wk]
  have fd : Try.prog.keyLits 5 3 [.int .i64 d] = some [.int .i64 d] := by simp [Program.keyLits, Try.underlying3, wd]
  have fu : Try.prog.keyLits 5 5 [.int .u8 v.kind] = some [.int .u8 v.kind] := by simp [Program.keyLits, Try.underlying5, wu]
  have hm : v.text.length ≤ maxLen := by have := h.text; unfold maxLen; omega
  have ft : Try.prog.keyLits 5 9 [.string ⟨v.text.toArray⟩] = some [.string v.text] := by simp [Program.keyLits, Try.underlying9, ByteArray.size, hm]
  have c1 : Try.prog.cellsOf 3 = 1 := by kernel_rfl
  have c2 : Try.prog.cellsOf 5 = 1 := by kernel_rfl
  have c3 : Try.prog.cellsOf 9 = 1 := by kernel_rfl
  have hl : (v.style.map Lit.toCell).length = 47 := by rw [List.length_map]; exact h.style_len
  refine ⟨?_, hs, hk, hd, h.kind, h.text⟩
  unfold RN.cells RN.lits
  rw [show (6 : Nat) = 5 + 1 from rfl]
  unfold Program.keyLits
  rw [Try.underlying32]
  dsimp only
  generalize v.style = s at hs hl ⊢
  simp only [List.map_cons, List.map_append, List.map_nil, Lit.toCell]
  rw [if_pos ⟨by simp only [List.length_cons, List.length_append, hl, List.length_nil, node_cells], by kernel_rfl⟩]
  simp [c1, c2, c3, style_cells, fk, fd, fu, ft, hl, hs]

/-- a copy: its row is a block of one's own -/
structure Copied (W : World) (b o n d : Nat) (x : Int) (N : Nat → RN) : Prop where
  doc : DocIn W (some ⟨b, o, none⟩) n d x N
  own : ∃ cs, W.heap[b]? = some (.cells cs 32 (0, 0))
set_option maxRecDepth 100000 in
theorem Copied.lt {W : World} {b o n d : Nat} {x : Int} {N : Nat → RN} (h : Copied W b o n d x N) : b < W.heap.size := let ⟨_, e⟩ := h.own; (Array.getElem?_eq_some_iff.1 e).1
set_option maxRecDepth 100000 in
theorem Copied.below {W W' : World} {b o n d : Nat} {x : Int} {N : Nat → RN} (h : Copied W b o n d x N) (hb : Below W.heap.size W W') : Copied W' b o n d x N :=
  ⟨h.doc.below hb, let ⟨cs, e⟩ := h.own; ⟨cs, (hb.block b h.lt).trans e⟩⟩
set_option maxRecDepth 100000 in
theorem Copied.alloc {W : World} {b o n d : Nat} {x : Int} {N : Nat → RN} (h : Copied W b o n d x N) (z : Obj) : Copied (W.alloc z) b o n d x N := h.below ((Below.refl _ _).alloc (Nat.le_refl _) _)
set_option maxRecDepth 100000 in
theorem Copied.drew {W : World} {b o n d : Nat} {x : Int} {N : Nat → RN} (h : Copied W b o n d x N) : Copied W.drew b o n d x N := h.below (Below.refl _ _).drew
set_option maxRecDepth 100000 in
theorem Nodes.far {w w' : World} {b o n : Nat} {N : Nat → RN} (h : Nodes w (some ⟨b, o, none⟩) n N) (hs : w.heap.size ≤ w'.heap.size) (hk : ∀ k, w'.cell? ⟨b, k, none⟩ = w.cell? ⟨b, k, none⟩) : Nodes w' (some ⟨b, o, none⟩) n N :=
  ⟨h.1, fun hn => by
    obtain ⟨b', off, e, hb, hc⟩ := h.2 hn
    cases e
    exact ⟨b, o, rfl, by omega, fun j hj => (hc j hj).keep hk⟩⟩
set_option maxRecDepth 100000 in
theorem Copied.set {W : World} {b o n d : Nat} {x : Int} {N : Nat → RN} (h : Copied W b o n d x N) {p : Addr} (hp : p.block ≠ b) (v : Value) : Copied (W.setCell p v) b o n d x N := by
  have e : (W.setCell p v).heap[b]? = W.heap[b]? := Below.heap_setCell _ _ _ _ (fun e => hp e.symm)
  refine ⟨⟨⟨h.doc.1.1.far (by simp [World.setCell]) fun k => World.cell?_of_block e, h.doc.1.2⟩, h.doc.2⟩, ?_⟩
  rw [e]; exact h.own
set_option maxRecDepth 100000 in
theorem Copied.cell {W : World} {b o n d : Nat} {x : Int} {N : Nat → RN} (h : Copied W b o n d x N) {i : Nat} (hi : i < n) {k : Nat} (hk : k < 51) : W.cell? ⟨b, o + i * 51 + k, none⟩ = (N i).cells[k]? := by
  obtain ⟨b', off, e, _, hc⟩ := h.doc.1.1.2 (by omega)
  cases e
  exact hc i hi k hk
set_option maxRecDepth 100000 in
theorem Copied.free {W : World} {b o n d : Nat} {x : Int} {N : Nat → RN} (h : Copied W b o n d x N) (i : Nat) : W.frozen? ⟨b, i, none⟩ = false := by
  obtain ⟨cs, e⟩ := h.own
  simp [World.frozen?, e]
set_option maxRecDepth 100000 in
theorem copied_set {W : World} {b o n d : Nat} {x : Int} {N M : Nat → RN} (h : Copied W b o n d x N) {i k : Nat} (hi : i < n) (hk : k < 51) (v : Value) (hok : (M i).ok) (hM : ∀ j, j ≠ i → M j = N j) (hv : ∀ q, q < 51 → (M i).cells[q]? = if q = k then some v else (N i).cells[q]?) :
    Copied (W.setCell ⟨b, o + i * 51 + k, none⟩ v) b o n d x M := by
  have sz : (W.setCell ⟨b, o + i * 51 + k, none⟩ v).heap.size = W.heap.size := by simp [World.setCell]
  refine ⟨⟨⟨⟨fun j hj => ?_, fun _ => ⟨b, o, rfl, by rw [sz]; exact h.lt, fun j hj q hq => ?_⟩⟩, h.doc.1.2⟩, h.doc.2⟩, ?_⟩
  · by_cases e : j = i
    · subst e; exact hok
    · rw [hM j e]; exact h.doc.1.1.1 j hj
  · have c := h.cell hj hq
    by_cases e : o + j * 51 + q = o + i * 51 + k
    · have e1 : j = i := by omega
      subst e1
      have e2 : q = k := by omega
      subst e2
      rw [hv q hq, if_pos rfl]
      exact World.cell?_setCell_same _ _ _ (by rw [c, List.getElem?_eq_getElem (by rw [(h.doc.1.1.1 j hj).len]; exact hq)])
    · rw [World.cell?_setCell_other _ _ _ _ (fun e' => e (by injection e' with _ e2; first | exact e2 | exact e2.symm)), c]
      by_cases e1 : j = i
      · subst e1
        rw [hv q hq, if_neg (by omega)]
      · rw [hM j e1]
  · obtain ⟨cs, e⟩ := h.own
    simp [World.setCell, Array.getElem?_modify, e]
/-- a box of a document, whatever it holds -/
def BoxAt (W : World) (q : Nat) : Prop := ∃ a b, DocBox W q a b
set_option maxRecDepth 100000 in
theorem docBox_new {X : World} {q : Nat} {a b : Value} (h : q = X.heap.size) : DocBox (X.alloc (.cells #[a, b] 24)) q a b := by subst h; exact World.alloc_heap_new _ _
set_option maxRecDepth 100000 in
theorem boxAt_new {X : World} {q : Nat} {a b : Value} (h : q = X.heap.size) : BoxAt (X.alloc (.cells #[a, b] 24)) q := ⟨_, _, docBox_new h⟩
set_option maxRecDepth 100000 in
theorem DocBox.alloc {X : World} {q : Nat} {a b : Value} (h : DocBox X q a b) (z : Obj) : DocBox (X.alloc z) q a b := h.keep (((Below.refl X.heap.size X).alloc (Nat.le_refl _) z).block _ h.lt)
set_option maxRecDepth 100000 in
theorem DocBox.drew {X : World} {q : Nat} {a b : Value} (h : DocBox X q a b) : DocBox X.drew q a b := h
set_option maxRecDepth 100000 in
theorem DocBox.below {X X' : World} {q : Nat} {a b : Value} (h : DocBox X q a b) (hb : Below X.heap.size X X') : DocBox X' q a b := h.keep (hb.block _ h.lt)
set_option maxRecDepth 100000 in
theorem DocBox.set {X : World} {q : Nat} {a b : Value} (h : DocBox X q a b) {p : Addr} (hp : p.block ≠ q) (v : Value) : DocBox (X.setCell p v) q a b := h.keep (Below.heap_setCell _ _ _ _ (fun e => hp e.symm))
set_option maxRecDepth 100000 in
theorem DocBox.putb {X : World} {q : Nat} (h : BoxAt X q) (a b : Value) : DocBox ((X.setCell ⟨q, 0, none⟩ a).setCell ⟨q, 1, none⟩ b) q a b := let ⟨_, _, h⟩ := h; h.put a b
set_option maxRecDepth 100000 in
theorem BoxAt.drew {X : World} {q : Nat} (h : BoxAt X q) : BoxAt X.drew q := h
set_option maxRecDepth 100000 in
theorem BoxAt.alloc {X : World} {q : Nat} (h : BoxAt X q) (z : Obj) : BoxAt (X.alloc z) q := let ⟨_, _, h⟩ := h; ⟨_, _, h.alloc z⟩
set_option maxRecDepth 100000 in
theorem BoxAt.below {X X' : World} {q : Nat} (h : BoxAt X q) (hb : Below X.heap.size X X') : BoxAt X' q := let ⟨_, _, h⟩ := h; ⟨_, _, h.below hb⟩
set_option maxRecDepth 100000 in
theorem BoxAt.set {X : World} {q : Nat} (h : BoxAt X q) {p : Addr} (hp : p.block ≠ q) (v : Value) : BoxAt (X.setCell p v) q := let ⟨_, _, h⟩ := h; ⟨_, _, h.set hp v⟩
set_option maxRecDepth 100000 in
theorem below_alloc {a X : World} (h : Below a.heap.size a X) (z : Obj) : Below a.heap.size a (X.alloc z) := h.alloc h.size z
set_option maxRecDepth 100000 in
theorem box_row {W : World} {q b o n d : Nat} {u v : Value} {x : Int} {N : Nat → RN} (h : DocBox W q u v) (h' : Copied W b o n d x N) : q ≠ b := fun e => by
  subst e
  obtain ⟨cs, e⟩ := h'.own
  rw [show W.heap[q]? = _ from h] at e
  injection e with e
  injection e with _ e
  exact absurd e (by decide)

end Go.Proofs.Ytmodegkpfdlccaa
