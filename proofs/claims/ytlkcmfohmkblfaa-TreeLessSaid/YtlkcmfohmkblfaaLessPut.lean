/-
  Two copies of a document, in which a cell of a node is written.
-/
import Derived.Test.YtlkcmfohmkblfaaLessSet
namespace Go.Proofs.Ytlkcmfohmkblfaa
open Go.RowKit Go.WideShapes

theorem node_ok {v : RN} (h : v.ok) {k d : Int} (hk : -9223372036854775808 ≤ k ∧ k ≤ 9223372036854775807) (hd : -9223372036854775808 ≤ d ∧ d ≤ 9223372036854775807) : ({ v with key := k, depth := d } : RN).ok := by
  have h1 : IntKind.i64.min = -9223372036854775808 := by decide
  have h2 : IntKind.i64.max = 9223372036854775807 := by decide
  have h3 : IntKind.u8.min = 0 := by decide
  have h4 : IntKind.u8.max = 255 := by decide
  have wk : (Lit.int .i64 k).wf = true := by simp only [Lit.wf, h1, h2, Bool.and_eq_true, decide_eq_true_eq]; exact hk
  have wd : (Lit.int .i64 d).wf = true := by simp only [Lit.wf, h1, h2, Bool.and_eq_true, decide_eq_true_eq]; exact hd
  have wu : (Lit.int .u8 v.kind).wf = true := by have := h.kind; simp only [Lit.wf, h3, h4, Bool.and_eq_true, decide_eq_true_eq]; omega
  have hs := h.style
  have fk : Try.prog.keyLits 5 3 [.int .i64 k] = some [.int .i64 k] := by simp [Program.keyLits, Try.underlying3, wk]
  have fd : Try.prog.keyLits 5 3 [.int .i64 d] = some [.int .i64 d] := by simp [Program.keyLits, Try.underlying3, wd]
  have fu : Try.prog.keyLits 5 5 [.int .u8 v.kind] = some [.int .u8 v.kind] := by simp [Program.keyLits, Try.underlying5, wu]
  have hm : v.text.length ≤ maxLen := by have := h.text; unfold maxLen; omega
  have ft : Try.prog.keyLits 5 9 [.string ⟨v.text.toArray⟩] = some [.string v.text] := by simp [Program.keyLits, Try.underlying9, ByteArray.size, hm]
  have c1 : Try.prog.cellsOf 3 = 1 := by kernel_rfl
  have c2 : Try.prog.cellsOf 5 = 1 := by kernel_rfl
  have c3 : Try.prog.cellsOf 9 = 1 := by kernel_rfl
  have hl : (v.style.map Lit.toCell).length = 47 := by rw [List.length_map]; exact h.style_len
  refine ⟨?_, hs, hk, hd, h.kind, h.text⟩
  unfold RN.cells RN.lits
  rw [show (6 : Nat) = 5 + 1 from rfl]
  unfold Program.keyLits
  rw [Try.underlying36]
  dsimp only
  generalize v.style = s at hs hl ⊢
  simp only [List.map_cons, List.map_append, List.map_nil, Lit.toCell]
  rw [if_pos ⟨by simp only [List.length_cons, List.length_append, hl, List.length_nil, node_cells], by kernel_rfl⟩]
  simp [c1, c2, c3, style_cells, fk, fd, fu, ft, hl, hs]

/-- a copy: its row is a block of one's own -/
structure Copied (W : World) (b o n d : Nat) (x : Int) (N : Nat → RN) : Prop where
  doc : DocIn W (some ⟨b, o, none⟩) n d x N
  own : ∃ cs, W.heap[b]? = some (.cells cs 36 (0, 0))
theorem Copied.lt {W : World} {b o n d : Nat} {x : Int} {N : Nat → RN} (h : Copied W b o n d x N) : b < W.heap.size := let ⟨_, e⟩ := h.own; (Array.getElem?_eq_some_iff.1 e).1
theorem Copied.below {W W' : World} {b o n d : Nat} {x : Int} {N : Nat → RN} (h : Copied W b o n d x N) (hb : Below W.heap.size W W') : Copied W' b o n d x N :=
  ⟨h.doc.below hb, let ⟨cs, e⟩ := h.own; ⟨cs, (hb.block b h.lt).trans e⟩⟩
theorem Copied.alloc {W : World} {b o n d : Nat} {x : Int} {N : Nat → RN} (h : Copied W b o n d x N) (z : Obj) : Copied (W.alloc z) b o n d x N := h.below ((Below.refl _ _).alloc (Nat.le_refl _) _)
theorem Copied.drew {W : World} {b o n d : Nat} {x : Int} {N : Nat → RN} (h : Copied W b o n d x N) : Copied W.drew b o n d x N := h.below (Below.refl _ _).drew
theorem Nodes.far {w w' : World} {b o n : Nat} {N : Nat → RN} (h : Nodes w (some ⟨b, o, none⟩) n N) (hs : w.heap.size ≤ w'.heap.size) (hk : ∀ k, w'.cell? ⟨b, k, none⟩ = w.cell? ⟨b, k, none⟩) : Nodes w' (some ⟨b, o, none⟩) n N :=
  ⟨h.1, fun hn => by
    obtain ⟨b', off, e, hb, hc⟩ := h.2 hn
    cases e
    exact ⟨b, o, rfl, by omega, fun j hj => (hc j hj).keep hk⟩⟩
theorem Copied.set {W : World} {b o n d : Nat} {x : Int} {N : Nat → RN} (h : Copied W b o n d x N) {p : Addr} (hp : p.block ≠ b) (v : Value) : Copied (W.setCell p v) b o n d x N := by
  have e : (W.setCell p v).heap[b]? = W.heap[b]? := Below.heap_setCell _ _ _ _ (fun e => hp e.symm)
  refine ⟨⟨⟨h.doc.1.1.far (by simp [World.setCell]) fun k => World.cell?_of_block e, h.doc.1.2⟩, h.doc.2⟩, ?_⟩
  rw [e]; exact h.own
theorem Copied.cell {W : World} {b o n d : Nat} {x : Int} {N : Nat → RN} (h : Copied W b o n d x N) {i : Nat} (hi : i < n) {k : Nat} (hk : k < 51) : W.cell? ⟨b, o + i * 51 + k, none⟩ = (N i).cells[k]? := by
  obtain ⟨b', off, e, _, hc⟩ := h.doc.1.1.2 (by omega)
  cases e
  exact hc i hi k hk
theorem Copied.free {W : World} {b o n d : Nat} {x : Int} {N : Nat → RN} (h : Copied W b o n d x N) (i : Nat) : W.frozen? ⟨b, i, none⟩ = false := by
  obtain ⟨cs, e⟩ := h.own
  simp [World.frozen?, e]
theorem copied_set {W : World} {b o n d : Nat} {x : Int} {N M : Nat → RN} (h : Copied W b o n d x N) {i k : Nat} (hi : i < n) (hk : k < 51) (v : Value) (hok : (M i).ok) (hM : ∀ j, j ≠ i → M j = N j) (hv : ∀ q, q < 51 → (M i).cells[q]? = if q = k then some v else (N i).cells[q]?) :
    Copied (W.setCell ⟨b, o + i * 51 + k, none⟩ v) b o n d x M := by
  have sz : (W.setCell ⟨b, o + i * 51 + k, none⟩ v).heap.size = W.heap.size := by simp [World.setCell]
  refine ⟨⟨⟨⟨fun j hj => ?_, fun _ => ⟨b, o, rfl, by rw [sz]; exact h.lt, fun j hj q hq => ?_⟩⟩, h.doc.1.2⟩, h.doc.2⟩, ?_⟩
  · by_cases e : j = i
    · subst e; exact hok
    · rw [hM j e]; exact h.doc.1.1.1 j hj
  · have c := h.cell hj hq
    by_cases e : o + j * 51 + q = o + i * 51 + k
    · have e1 : j = i := by omega
      subst e1
      have e2 : q = k := by omega
      subst e2
      rw [hv q hq, if_pos rfl]
      exact World.cell?_setCell_same _ _ _ (by rw [c, List.getElem?_eq_getElem (by rw [(h.doc.1.1.1 j hj).len]; exact hq)])
    · rw [World.cell?_setCell_other _ _ _ _ (fun e' => e (by injection e' with _ e2; first | exact e2 | exact e2.symm)), c]
      by_cases e1 : j = i
      · subst e1
        rw [hv q hq, if_neg (by omega)]
      · rw [hM j e1]
  · obtain ⟨cs, e⟩ := h.own
    simp [World.setCell, Array.getElem?_modify, e]
theorem Copied.key {W : World} {b o n d : Nat} {x : Int} {N : Nat → RN} (h : Copied W b o n d x N) {i : Nat} (hi : i < n) {k : Int} (hk : -9223372036854775808 ≤ k ∧ k ≤ 9223372036854775807) :
    Copied (W.setCell ⟨b, o + i * 51, none⟩ (.int .i64 k)) b o n d x (withKey N i k) := by
  have ok := h.doc.1.1.1 i hi
  have e : withKey N i k i = { N i with key := k } := by unfold withKey; rw [if_pos rfl]
  refine copied_set (k := 0) h hi (by omega) _ (by rw [e]; exact node_ok ok hk ok.depth) (fun j hj => by unfold withKey; rw [if_neg hj]) fun q hq => ?_
  rw [e]
  match q with
  | 0 => rfl
  | q + 1 => rw [if_neg (by omega)]; rfl
theorem Copied.depth {W : World} {b o n d : Nat} {x : Int} {N : Nat → RN} (h : Copied W b o n d x N) {i : Nat} (hi : i < n) {k : Int} (hk : -9223372036854775808 ≤ k ∧ k ≤ 9223372036854775807) :
    Copied (W.setCell ⟨b, o + i * 51 + 1, none⟩ (.int .i64 k)) b o n d x (withDepth N i k) := by
  have ok := h.doc.1.1.1 i hi
  have e : withDepth N i k i = { N i with depth := k } := by unfold withDepth; rw [if_pos rfl]
  refine copied_set (k := 1) h hi (by omega) _ (by rw [e]; exact node_ok ok ok.key hk) (fun j hj => by unfold withDepth; rw [if_neg hj]) fun q hq => ?_
  rw [e]
  match q with
  | 0 => rfl
  | 1 => rfl
  | q + 2 => rw [if_neg (by omega)]; rfl

/-- a box of a document, whatever it holds -/
def BoxAt (W : World) (q : Nat) : Prop := ∃ a b, DocBox W q a b
theorem docBox_new {X : World} {q : Nat} {a b : Value} (h : q = X.heap.size) : DocBox (X.alloc (.cells #[a, b] 24)) q a b := by subst h; exact World.alloc_heap_new _ _
theorem boxAt_new {X : World} {q : Nat} {a b : Value} (h : q = X.heap.size) : BoxAt (X.alloc (.cells #[a, b] 24)) q := ⟨_, _, docBox_new h⟩
theorem DocBox.alloc {X : World} {q : Nat} {a b : Value} (h : DocBox X q a b) (z : Obj) : DocBox (X.alloc z) q a b := h.keep (((Below.refl X.heap.size X).alloc (Nat.le_refl _) z).block _ h.lt)
theorem DocBox.drew {X : World} {q : Nat} {a b : Value} (h : DocBox X q a b) : DocBox X.drew q a b := h
theorem DocBox.below {X X' : World} {q : Nat} {a b : Value} (h : DocBox X q a b) (hb : Below X.heap.size X X') : DocBox X' q a b := h.keep (hb.block _ h.lt)
theorem DocBox.set {X : World} {q : Nat} {a b : Value} (h : DocBox X q a b) {p : Addr} (hp : p.block ≠ q) (v : Value) : DocBox (X.setCell p v) q a b := h.keep (Below.heap_setCell _ _ _ _ (fun e => hp e.symm))
theorem DocBox.putb {X : World} {q : Nat} (h : BoxAt X q) (a b : Value) : DocBox ((X.setCell ⟨q, 0, none⟩ a).setCell ⟨q, 1, none⟩ b) q a b := let ⟨_, _, h⟩ := h; h.put a b
theorem BoxAt.drew {X : World} {q : Nat} (h : BoxAt X q) : BoxAt X.drew q := h
theorem BoxAt.alloc {X : World} {q : Nat} (h : BoxAt X q) (z : Obj) : BoxAt (X.alloc z) q := let ⟨_, _, h⟩ := h; ⟨_, _, h.alloc z⟩
theorem BoxAt.below {X X' : World} {q : Nat} (h : BoxAt X q) (hb : Below X.heap.size X X') : BoxAt X' q := let ⟨_, _, h⟩ := h; ⟨_, _, h.below hb⟩
theorem BoxAt.set {X : World} {q : Nat} (h : BoxAt X q) {p : Addr} (hp : p.block ≠ q) (v : Value) : BoxAt (X.setCell p v) q := let ⟨_, _, h⟩ := h; ⟨_, _, h.set hp v⟩
theorem below_alloc {a X : World} (h : Below a.heap.size a X) (z : Obj) : Below a.heap.size a (X.alloc z) := h.alloc h.size z
theorem box_row {W : World} {q b o n d : Nat} {u v : Value} {x : Int} {N : Nat → RN} (h : DocBox W q u v) (h' : Copied W b o n d x N) : q ≠ b := fun e => by
  subst e
  obtain ⟨cs, e⟩ := h'.own
  rw [show W.heap[q]? = _ from h] at e
  injection e with e
  injection e with _ e
  exact absurd e (by decide)

/-- both copies in their boxes -/
structure Three (wc W : World) (q8 q9 b8 o8 d8 b9 o9 d9 n : Nat) (x : Int) (M8 M9 : Nat → RN) : Prop where
  below : Below wc.heap.size wc W
  box8 : DocBox W q8 (.slice (some ⟨b8, o8, none⟩) n d8) (.int .i64 x)
  box9 : DocBox W q9 (.slice (some ⟨b9, o9, none⟩) n d9) (.int .i64 x)
  c8 : Copied W b8 o8 n d8 x M8
  c9 : Copied W b9 o9 n d9 x M9
  ne : b8 ≠ b9
  far8 : wc.heap.size ≤ b8
  far9 : wc.heap.size ≤ b9
theorem Three.next {wc W W' : World} {q8 q9 b8 o8 d8 b9 o9 d9 n : Nat} {x : Int} {M8 M9 : Nat → RN} (h : Three wc W q8 q9 b8 o8 d8 b9 o9 d9 n x M8 M9) (hb : Below W.heap.size W W') : Three wc W' q8 q9 b8 o8 d8 b9 o9 d9 n x M8 M9 :=
  ⟨h.below.trans (hb.mono h.below.size), h.box8.below hb, h.box9.below hb, h.c8.below hb, h.c9.below hb, h.ne, h.far8, h.far9⟩
theorem Three.key {wc W : World} {q8 q9 b8 o8 d8 b9 o9 d9 n : Nat} {x : Int} {M8 M9 : Nat → RN} (h : Three wc W q8 q9 b8 o8 d8 b9 o9 d9 n x M8 M9) {i : Nat} (hi : i < n) {k : Int} (hk : -9223372036854775808 ≤ k ∧ k ≤ 9223372036854775807) :
    Three wc (W.setCell ⟨b8, o8 + i * 51, none⟩ (.int .i64 k)) q8 q9 b8 o8 d8 b9 o9 d9 n x (withKey M8 i k) M9 :=
  ⟨h.below.setCell h.far8 _, h.box8.set (fun e => box_row h.box8 h.c8 e.symm) _, h.box9.set (fun e => box_row h.box9 h.c8 e.symm) _, h.c8.key hi hk, h.c9.set h.ne _, h.ne, h.far8, h.far9⟩
theorem Three.depth {wc W : World} {q8 q9 b8 o8 d8 b9 o9 d9 n : Nat} {x : Int} {M8 M9 : Nat → RN} (h : Three wc W q8 q9 b8 o8 d8 b9 o9 d9 n x M8 M9) {i : Nat} (hi : i < n) {k : Int} (hk : -9223372036854775808 ≤ k ∧ k ≤ 9223372036854775807) :
    Three wc (W.setCell ⟨b9, o9 + i * 51 + 1, none⟩ (.int .i64 k)) q8 q9 b8 o8 d8 b9 o9 d9 n x M8 (withDepth M9 i k) :=
  ⟨h.below.setCell h.far9 _, h.box8.set (fun e => box_row h.box8 h.c9 e.symm) _, h.box9.set (fun e => box_row h.box9 h.c9 e.symm) _, h.c8.set (fun e => h.ne e.symm) _, h.c9.depth hi hk, h.ne, h.far8, h.far9⟩
/-- a copy's contract, wherever the document stands -/
def CopyAns (W w' : World) (e : Ending) (n : Nat) (x : Int) (N : Nat → RN) : Prop := ∃ b o d, e = .returned (.agg #[.slice (some ⟨b, o, none⟩) n d, .int .i64 x]) ∧ W.heap.size ≤ b ∧ Copied w' b o n d x N ∧ Below W.heap.size W w'
theorem copy_three (hC : CopyOK5) {A : Option Addr} {n c : Nat} {x : Int} {N : Nat → RN} {wc : World} (h0 : 0 < n) (hD : DocIn wc A n c x N) : ∀ W, Below wc.heap.size wc W →
    Calls Try.prog 15 #[.agg #[.slice A n c, .int .i64 x]] W fun e w' => CopyAns W w' e n x N := fun W h =>
  (hC A n c x N W (hD.below h)).mono fun e w' ⟨B, d, he, hd, ho, hb⟩ => by
    obtain ⟨b, off, cs, rfl, hle, hg⟩ := ho h0
    exact ⟨b, off, d, he, hle, ⟨hd, cs, hg⟩, hb⟩
theorem lying_S {v3 w W W' : World} {A : Option Addr} {n c : Nat} {x : Int} {N : Nat → RN} {g k cap : Nat} {C : Nat → RN} (h : Lying v3 w W A n c x N g k cap C) (hb : Below W.heap.size W W') :
    Below W.heap.size W W' ∧ W'.cell? ⟨w.heap.size, 0, none⟩ = some (.slice A n c) ∧ W'.cell? ⟨w.heap.size, 1, none⟩ = some (.int .i64 x) := ⟨hb, (h.next hb).one.x0, (h.next hb).one.x1⟩
theorem lying_of {v3 w W : World} {A : Option Addr} {n c : Nat} {x : Int} {N : Nat → RN} {u : Value} {a e k g cap : Nat} (h3 : One w.heap.size w.heap.size A n c x N w v3) (hC : Cut v3 W u x)
    (hO : W.ownsRow (v3.heap.size + 1) 36 51 (.slice (some ⟨g, 0, none⟩) k cap) k (rowCells N a ++ rowCells (fun i => N (e + i)) (n - e))) (hk : a + (n - e) = k) (ha : a ≤ n) (he : e ≤ n) (hb : k ≤ 600) :
    Lying v3 w (W.setCell ⟨v3.heap.size, 0, none⟩ (.slice (some ⟨g, 0, none⟩) k cap)) A n c x N g k cap (cutN N a e) := by
  subst hk
  have hC' := hC.put (.slice (some ⟨g, 0, none⟩) (a + (n - e)) cap)
  have hO' := ownsRow_setCell_below hO (a := ⟨v3.heap.size, 0, none⟩) (by show v3.heap.size < v3.heap.size + 1; omega) (.slice (some ⟨g, 0, none⟩) (a + (n - e)) cap)
  refine ⟨h3.next hC'.below, hC'.box, cut_doc hO' h3.doc.2 (fun j hj => h3.doc.1.1.1 j (by omega)) (fun j hj => h3.doc.1.1.1 (e + j) (by omega)) hb⟩
theorem may_yes (hM : MayOK) {A : Option Addr} {n c : Nat} {x : Int} {N : Nat → RN} {W0 : World} (hD : DocIn W0 A n c x N) (hs : Shape n x N) : ∀ W, Below W0.heap.size W0 W →
    Calls Try.prog 10 #[.agg #[.slice A n c, .int .i64 x]] W fun e w' => e = .returned (.bool true) ∧ Below W.heap.size W w' := fun W h =>
  (hM A n c x N W (hD.below h)).mono fun e w' ⟨b, he, hb, hl⟩ => ⟨by rw [he, hb.2 hs], hl⟩
theorem may_no (hM : MayOK) {A : Option Addr} {n c : Nat} {x : Int} {N : Nat → RN} {W0 : World} (hD : DocIn W0 A n c x N) (hs : ¬ Shape n x N) : ∀ W, Below W0.heap.size W0 W →
    Calls Try.prog 10 #[.agg #[.slice A n c, .int .i64 x]] W fun e w' => e = .returned (.bool false) ∧ Below W.heap.size W w' := fun W h =>
  (hM A n c x N W (hD.below h)).mono fun e w' ⟨b, he, hb, hl⟩ => ⟨by
    cases b
    · exact he
    · exact absurd (hb.1 rfl) hs, hl⟩
theorem last_S {W W' : World} {p q8 q9 : Nat} {u0 u1 v0 v1 y0 y1 : Value} (h7 : DocBox W p u0 u1) (h8 : DocBox W q8 v0 v1) (h9 : DocBox W q9 y0 y1) (hb : Below W.heap.size W W') :
    Below W.heap.size W W' ∧ W'.cell? ⟨p, 0, none⟩ = some u0 ∧ W'.cell? ⟨p, 1, none⟩ = some u1 ∧ W'.cell? ⟨q8, 0, none⟩ = some v0 ∧ W'.cell? ⟨q8, 1, none⟩ = some v1 ∧ W'.cell? ⟨q9, 0, none⟩ = some y0 ∧ W'.cell? ⟨q9, 1, none⟩ = some y1 :=
  ⟨hb, (h7.below hb).c0, (h7.below hb).c1, (h8.below hb).c0, (h8.below hb).c1, (h9.below hb).c0, (h9.below hb).c1⟩
end Go.Proofs.Ytlkcmfohmkblfaa
