/-
  What a style asks for: the document's Of.
-/
import Derived.Test.YtdadlhkbngopaaaAskAt12
import Derived.Test.YtdadlhkbngopaaaRefWidth
import Derived.Laws.Rows
namespace Go.Proofs.Ytdadlhkbngopaaa
open Go.RowKit

def zeroA : RA := ⟨false, 0, 0, 0, 0, 0, false, false, 0⟩
/-- what Of answers -/
def ofA (s : RS) (x : Int) : RA × Int :=
  if mayB s = true then
    if (widthR s x).2.2 ≠ 0 then (zeroA, (widthR s x).2.2)
    else if (widthsR s x).2.2 ≠ 0 then (zeroA, (widthsR s x).2.2)
    else if (resolveR (s.margin 3) x).2.2 ≠ 0 then (zeroA, (resolveR (s.margin 3) x).2.2)
    else if (resolveR (s.margin 1) x).2.2 ≠ 0 then (zeroA, (resolveR (s.margin 1) x).2.2)
    else (⟨(widthR s x).2.1, (widthR s x).1, (widthsR s x).1, (widthsR s x).2.1, (resolveR (s.margin 3) x).1, (resolveR (s.margin 1) x).1, !(resolveR (s.margin 3) x).2.1, !(resolveR (s.margin 1) x).2.1, acrossV s⟩, 0)
  else (zeroA, 60)
/-- what is asked of the landed Of -/
def OfOK (f : Nat) : Prop := ∀ (s : RS) (x : Int) (w : World), s.ok → Big x → Calls Try.prog f #[.agg s.cells.toArray, .int .i64 x] w fun e w' => e = .returned (.tuple #[askedV (ofA s x).1, .int .i64 (ofA s x).2]) ∧ Below w.heap.size w w'
theorem results_row_tmp12 {P : Program} {fn : Func} {p u : Tmp} {ty : TypeId} (h : fn.results = #[.cell p ty, .tmp u]) (tmps : Array Value) (w : World) (g : Nat) (t : TypeId) (cs : Array Value) (fr : Nat × Nat) (d : TypeDesc)
    (hp : tmps.getD p undef = .pointer (some ⟨g, 0, none⟩)) (hg : w.heap[g]? = some (.cells cs t fr))
    (hu : P.underlying ty = some d) (hd : (match d with | .struct _ | .array _ _ => true | _ => false) = true) (hi : (P.info? ty).map (·.size) = some cs.size) :
    (results fn tmps).run P w = .ok (.tuple #[.agg cs, tmps.getD u undef]) w := by
  rw [results_cell_tmp h, hp]
  simp [asAddr, run_loadVar_row w g t ty cs fr d hg hu hd hi, Result.andThen]
theorem Box27.off12 {W : World} {b g j : Nat} {X : Array Value} (h : Box27 W b X) (hn : g ≠ b) (v : Value) : Box27 (W.setCell ⟨g, j, none⟩ v) b X :=
  ⟨by have := h.1; simpa [World.setCell] using this, by simp [World.setCell, Array.getElem?_modify, hn, h.2]⟩
/-- where Of stands: the style, the result, what is asked for -/
structure OfAt (w W : World) (X : Array Value) (g : Nat) (a : RA) : Prop where
  below : Below w.heap.size w W
  box : Box27 W w.heap.size X
  res : AskAt W (w.heap.size + 1) zeroA
  var : AskAt W g a
  gt : w.heap.size + 1 < g
theorem OfAt.of {w W W' : World} {X : Array Value} {g : Nat} {a : RA} (h : OfAt w W X g a) (hb : Below W.heap.size W W') : OfAt w W' X g a :=
  ⟨h.below.trans (hb.mono h.below.size), h.box.below hb, h.res.keep hb, h.var.keep hb, h.gt⟩
theorem OfAt.set {w W : World} {X : Array Value} {g : Nat} {a : RA} (h : OfAt w W X g a) (j : Nat) (v : Value) (a' : RA) (e : a.cells.set j v = a'.cells) : OfAt w (W.setCell ⟨g, j, none⟩ v) X g a' :=
  ⟨h.below.setCell (by show w.heap.size ≤ g; have := h.gt; omega) _, h.box.off12 (by have := h.gt; omega) v, h.res.off (by have := h.gt; omega), h.var.set j v a' e, h.gt⟩
/-- the result written -/
theorem AskAt.whole {W : World} {b : Nat} {a : RA} (h : AskAt W b a) (is : Bool) (width least most left right : Int) (al ar : Bool) (edges : Int) :
    AskAt (((((((((W.setCell ⟨b, 0, none⟩ (.bool is)).setCell ⟨b, 1, none⟩ (.int .i64 width)).setCell ⟨b, 2, none⟩ (.int .i64 least)).setCell ⟨b, 3, none⟩ (.int .i64 most)).setCell ⟨b, 4, none⟩ (.int .i64 left)).setCell ⟨b, 5, none⟩ (.int .i64 right)).setCell ⟨b, 6, none⟩ (.bool al)).setCell ⟨b, 7, none⟩ (.bool ar)).setCell ⟨b, 8, none⟩ (.int .i64 edges)) b ⟨is, width, least, most, left, right, al, ar, edges⟩ := by
  obtain ⟨i0, i1, i2, i3, i4, i5, i6, i7, i8⟩ := a
  exact ((((((((h.set 0 _ ⟨is, i1, i2, i3, i4, i5, i6, i7, i8⟩ rfl).set 1 _ ⟨is, width, i2, i3, i4, i5, i6, i7, i8⟩ rfl).set 2 _ ⟨is, width, least, i3, i4, i5, i6, i7, i8⟩ rfl).set 3 _ ⟨is, width, least, most, i4, i5, i6, i7, i8⟩ rfl).set 4 _ ⟨is, width, least, most, left, i5, i6, i7, i8⟩ rfl).set 5 _ ⟨is, width, least, most, left, right, i6, i7, i8⟩ rfl).set 6 _ ⟨is, width, least, most, left, right, al, i7, i8⟩ rfl).set 7 _ ⟨is, width, least, most, left, right, al, ar, i8⟩ rfl).set 8 _ _ rfl
/-- how Of ends -/
theorem of_end {w W : World} {X : Array Value} {g : Nat} {b : RA} (h : OfAt w W X g b) (is : Bool) (width least most left right : Int) (al ar : Bool) (edges : Int) :
    (((((((((W.setCell ⟨w.heap.size + 1, 0, none⟩ (.bool is)).setCell ⟨w.heap.size + 1, 1, none⟩ (.int .i64 width)).setCell ⟨w.heap.size + 1, 2, none⟩ (.int .i64 least)).setCell ⟨w.heap.size + 1, 3, none⟩ (.int .i64 most)).setCell ⟨w.heap.size + 1, 4, none⟩ (.int .i64 left)).setCell ⟨w.heap.size + 1, 5, none⟩ (.int .i64 right)).setCell ⟨w.heap.size + 1, 6, none⟩ (.bool al)).setCell ⟨w.heap.size + 1, 7, none⟩ (.bool ar)).setCell ⟨w.heap.size + 1, 8, none⟩ (.int .i64 edges)).heap[w.heap.size + 1]? = some (.cells #[.bool is, .int .i64 width, .int .i64 least, .int .i64 most, .int .i64 left, .int .i64 right, .bool al, .bool ar, .int .i64 edges] 29) ∧
    Below w.heap.size w (((((((((W.setCell ⟨w.heap.size + 1, 0, none⟩ (.bool is)).setCell ⟨w.heap.size + 1, 1, none⟩ (.int .i64 width)).setCell ⟨w.heap.size + 1, 2, none⟩ (.int .i64 least)).setCell ⟨w.heap.size + 1, 3, none⟩ (.int .i64 most)).setCell ⟨w.heap.size + 1, 4, none⟩ (.int .i64 left)).setCell ⟨w.heap.size + 1, 5, none⟩ (.int .i64 right)).setCell ⟨w.heap.size + 1, 6, none⟩ (.bool al)).setCell ⟨w.heap.size + 1, 7, none⟩ (.bool ar)).setCell ⟨w.heap.size + 1, 8, none⟩ (.int .i64 edges)) :=
  ⟨h.res.whole is width least most left right al ar edges, ((((((((h.below.setCell (by show w.heap.size ≤ w.heap.size + 1; omega) _).setCell (by show w.heap.size ≤ w.heap.size + 1; omega) _).setCell (by show w.heap.size ≤ w.heap.size + 1; omega) _).setCell (by show w.heap.size ≤ w.heap.size + 1; omega) _).setCell (by show w.heap.size ≤ w.heap.size + 1; omega) _).setCell (by show w.heap.size ≤ w.heap.size + 1; omega) _).setCell (by show w.heap.size ≤ w.heap.size + 1; omega) _).setCell (by show w.heap.size ≤ w.heap.size + 1; omega) _).setCell (by show w.heap.size ≤ w.heap.size + 1; omega) _⟩
set_option maxRecDepth 100000 in
set_option maxHeartbeats 8000000 in
theorem refOf_any (s : RS) (x : Int) (w : World) (hs : s.ok) : Calls Try.prog 11 #[.agg s.cells.toArray, .int .i64 x] w fun e w' => e = .returned (.tuple #[askedV (ofA s x).1, .int .i64 (ofA s x).2]) ∧ Below w.heap.size w w' := by
  have BX := Lib.hid (Box27.new w s.cells.toArray)
  have SZ : Hid ((Try.prog.info? 27).map (·.size) = some s.cells.toArray.size) := Lib.hid style_size
  by_cases hm : mayB s = true
  · have E := Lib.hid (fun W => refMay_any s hs W true hm)
    have D := Lib.hid (fun W => refEdges_any s hm W _ _ rfl rfl)
    have C1 := Lib.hid (fun W => refWidth_any s hs x W _ rfl)
    have C2 := Lib.hid (fun W => refWidths_any s hs x W _ rfl)
    have C3 := Lib.hid (fun W => refResolve_any (s.margin 3).kind (s.margin 3).n x (hs.margin 3 (by omega)) W _ rfl)
    have C4 := Lib.hid (fun W => refResolve_any (s.margin 1).kind (s.margin 1).n x (hs.margin 1 (by omega)) W _ rfl)
    obtain ⟨R, hR⟩ : ∃ R, ofA s x = R := ⟨_, rfl⟩
    have OA : Hid ((if (widthR s x).2.2 ≠ 0 then (zeroA, (widthR s x).2.2)
      else if (widthsR s x).2.2 ≠ 0 then (zeroA, (widthsR s x).2.2)
      else if (resolveR ⟨(s.margin 3).kind, (s.margin 3).n⟩ x).2.2 ≠ 0 then (zeroA, (resolveR ⟨(s.margin 3).kind, (s.margin 3).n⟩ x).2.2)
      else if (resolveR ⟨(s.margin 1).kind, (s.margin 1).n⟩ x).2.2 ≠ 0 then (zeroA, (resolveR ⟨(s.margin 1).kind, (s.margin 1).n⟩ x).2.2)
      else (⟨(widthR s x).2.1, (widthR s x).1, (widthsR s x).1, (widthsR s x).2.1, (resolveR ⟨(s.margin 3).kind, (s.margin 3).n⟩ x).1, (resolveR ⟨(s.margin 1).kind, (s.margin 1).n⟩ x).1, !(resolveR ⟨(s.margin 3).kind, (s.margin 3).n⟩ x).2.1, !(resolveR ⟨(s.margin 1).kind, (s.margin 1).n⟩ x).2.1, acrossV s⟩, 0)) = R) := Lib.hid (by rw [← hR]; unfold ofA; rw [if_pos hm])
    have x20 : Hid (s.cells.toArray[20]? = some (.int .u8 (s.margin 3).kind)) := Lib.hid rfl
    have x21 : Hid (s.cells.toArray[21]? = some (.int .i64 (s.margin 3).n)) := Lib.hid rfl
    have x16 : Hid (s.cells.toArray[16]? = some (.int .u8 (s.margin 1).kind)) := Lib.hid rfl
    have x17 : Hid (s.cells.toArray[17]? = some (.int .i64 (s.margin 1).n)) := Lib.hid rfl
    rw [hR]
    clear hR hm hs
    generalize widthR s x = p1 at *
    generalize widthsR s x = p2 at *
    generalize resolveR ⟨(s.margin 3).kind, (s.margin 3).n⟩ x = p3 at *
    generalize resolveR ⟨(s.margin 1).kind, (s.margin 1).n⟩ x = p4 at *
    generalize s.cells.toArray = X at *
    generalize acrossV s = ac at *
    generalize upV s = up at *
    generalize (s.margin 3).kind = k3 at *
    generalize (s.margin 3).n = n3 at *
    generalize (s.margin 1).kind = k1 at *
    generalize (s.margin 1).n = n1 at *
    obtain ⟨v1, i1, e1⟩ := p1
    obtain ⟨v2, m2, e2⟩ := p2
    obtain ⟨v3, i3, e3⟩ := p3
    obtain ⟨v4, i4, e4⟩ := p4
    dsimp only at C1 C2 C3 C4 OA
    obtain ⟨a, er⟩ := R
    dsimp only
    go_enter Try.func11, Try.ntmps11
    go_upto_region 1 with fail
    have A1 : Hid (AskAt ((w.alloc (.cells X 27)).alloc (.cells zeroA.cells.toArray 29)) (w.heap.size + 1) zeroA) := Lib.hid (by
      have h := AskAt.new (w.alloc (.cells X 27)) zeroA
      rwa [World.size_alloc] at h)
    have BX1 := Lib.hid (BX.out.alloc (.cells zeroA.cells.toArray 29))
    have B1 : Hid (Below w.heap.size w ((w.alloc (.cells X 27)).alloc (.cells zeroA.cells.toArray 29))) := Lib.hid (((Below.refl _ w).alloc (Nat.le_refl _) _).alloc (by rw [World.size_alloc]; omega) _)
    unfold RA.cells zeroA at A1 BX1 B1
    generalize (w.alloc (.cells X 27)).alloc (.cells #[.bool false, .int .i64 0, .int .i64 0, .int .i64 0, .int .i64 0, .int .i64 0, .bool false, .bool false, .int .i64 0] 29) = w1 at A1 BX1 B1 ⊢
    clear BX
    go_wp2_with (refine wpList_load_row (o := ⟨some 10, _, _, _, _, _⟩) rfl 27 _ rfl w.heap.size rfl _ X _ _ BX1.out.2 Try.underlying27 rfl SZ.out ?_)
    refine (E.out _).mono ?_
    rintro e w2 ⟨rfl, hb⟩
    have B2 : Hid (Below w.heap.size w w2) := Lib.hid (B1.out.trans (hb.mono B1.out.size))
    have BX2 := Lib.hid (BX1.out.below hb)
    have A2 := Lib.hid (AskAt.keep A1.out hb)
    clear hb BX1 B1 A1 E
    go_upto_region 4 with fail
    have O2 : Hid (OfAt w (w2.alloc (.cells #[.bool false, .int .i64 0, .int .i64 0, .int .i64 0, .int .i64 0, .int .i64 0, .bool false, .bool false, .int .i64 0] 29)) X w2.heap.size zeroA) := Lib.hid ⟨B2.out.alloc B2.out.size _, BX2.out.alloc _, A2.out.put _, AskAt.new w2 zeroA, by have := A2.out.lt; omega⟩
    generalize w2.alloc (.cells #[.bool false, .int .i64 0, .int .i64 0, .int .i64 0, .int .i64 0, .int .i64 0, .bool false, .bool false, .int .i64 0] 29) = w3 at O2 ⊢
    generalize w2.heap.size = g at O2 ⊢
    clear B2 BX2 A2
    go_wp2_with (refine wpList_load_row (o := ⟨some 15, _, _, _, _, _⟩) rfl 27 _ rfl w.heap.size rfl _ X _ _ O2.out.box.2 Try.underlying27 rfl SZ.out ?_)
    refine (D.out _).mono ?_
    rintro e w4 ⟨rfl, hb⟩
    have O4 := Lib.hid (O2.out.of hb)
    clear hb O2 D
    have y8 := O4.out.var.cells.2.2.2.2.2.2.2.2
    have z8 := O4.out.var.fro 8
    unfold zeroA at y8
    dsimp only at y8
    go_upto_region 5 with fail
    have O5 := Lib.hid (O4.out.set 8 (.int .i64 ac) ⟨false, 0, 0, 0, 0, 0, false, false, ac⟩ rfl)
    clear y8 z8 O4
    generalize w4.setCell ⟨g, 8, none⟩ (.int .i64 ac) = w5 at O5 ⊢
    go_wp2_with (refine wpList_load_row (o := ⟨some 21, _, _, _, _, _⟩) rfl 27 _ rfl w.heap.size rfl _ X _ _ O5.out.box.2 Try.underlying27 rfl SZ.out ?_)
    refine (C1.out _).mono ?_
    rintro e w6 ⟨rfl, hb⟩
    have O6 := Lib.hid (O5.out.of hb)
    clear hb O5 C1
    obtain ⟨y0, y1, -⟩ := O6.out.var.cells
    have z0 := O6.out.var.fro 0
    have z1 := O6.out.var.fro 1
    dsimp only at y0 y1
    go_upto_region 7 with fail
    have O7 := Lib.hid ((O6.out.set 1 (.int .i64 v1) ⟨false, v1, 0, 0, 0, 0, false, false, ac⟩ rfl).set 0 (.bool i1) ⟨i1, v1, 0, 0, 0, 0, false, false, ac⟩ rfl)
    clear y0 y1 z0 z1 O6
    generalize (w6.setCell ⟨g, 1, none⟩ (.int .i64 v1)).setCell ⟨g, 0, none⟩ (.bool i1) = w7 at O7 ⊢
    by_cases h1 : e1 ≠ 0
    · have _ := OA
      have EQ : Hid (zeroA = a ∧ e1 = er) := Lib.hid (by
        have h := OA.out
        rw [if_pos h1] at h
        exact Prod.mk.inj h)
      have n1 : (e1 == 0) = false := by simp [h1]
      have n2 : (e1 != 0) = true := by simp [h1]
      obtain ⟨r0, r1, r2, r3, r4, r5, r6, r7, r8⟩ := O7.out.res.cells
      unfold zeroA at r0 r1 r2 r3 r4 r5 r6 r7 r8
      dsimp only at r0 r1 r2 r3 r4 r5 r6 r7 r8
      have f0 := O7.out.res.fro 0
      have f1 := O7.out.res.fro 1
      have f2 := O7.out.res.fro 2
      have f3 := O7.out.res.fro 3
      have f4 := O7.out.res.fro 4
      have f5 := O7.out.res.fro 5
      have f6 := O7.out.res.fro 6
      have f7 := O7.out.res.fro 7
      have f8 := O7.out.res.fro 8
      have FE := Lib.hid (of_end O7.out false 0 0 0 0 0 false false 0)
      clear OA
      go_wp2_with fail
      refine bodyPost_ret (results_row_tmp12 rfl _ _ (w.heap.size + 1) _ _ _ _ rfl FE.out.1 Try.underlying29 rfl (by kernel_rfl)) rfl ?_
      obtain ⟨rfl, rfl⟩ := EQ.out
      exact ⟨rfl, FE.out.2⟩
    · have OA := Lib.hid (by have h := OA.out; rwa [if_neg h1] at h)
      obtain rfl : e1 = 0 := by omega
      go_upto_region 8 with fail
      go_wp2_with (refine wpList_load_row (o := ⟨some 34, _, _, _, _, _⟩) rfl 27 _ rfl w.heap.size rfl _ X _ _ O7.out.box.2 Try.underlying27 rfl SZ.out ?_)
      refine (C2.out _).mono ?_
      rintro e w8 ⟨rfl, hb⟩
      have O8 := Lib.hid (O7.out.of hb)
      clear hb O7 C2 h1
      obtain ⟨-, -, y2, y3, -⟩ := O8.out.var.cells
      have z2 := O8.out.var.fro 2
      have z3 := O8.out.var.fro 3
      dsimp only at y2 y3
      go_upto_region 9 with fail
      have O9 := Lib.hid ((O8.out.set 2 (.int .i64 v2) ⟨i1, v1, v2, 0, 0, 0, false, false, ac⟩ rfl).set 3 (.int .i64 m2) ⟨i1, v1, v2, m2, 0, 0, false, false, ac⟩ rfl)
      clear y2 y3 z2 z3 O8
      generalize (w8.setCell ⟨g, 2, none⟩ (.int .i64 v2)).setCell ⟨g, 3, none⟩ (.int .i64 m2) = w9 at O9 ⊢
      by_cases h2 : e2 ≠ 0
      · have _ := OA
        have EQ : Hid (zeroA = a ∧ e2 = er) := Lib.hid (by
          have h := OA.out
          rw [if_pos h2] at h
          exact Prod.mk.inj h)
        have n1 : (e2 == 0) = false := by simp [h2]
        have n2 : (e2 != 0) = true := by simp [h2]
        obtain ⟨r0, r1, r2, r3, r4, r5, r6, r7, r8⟩ := O9.out.res.cells
        unfold zeroA at r0 r1 r2 r3 r4 r5 r6 r7 r8
        dsimp only at r0 r1 r2 r3 r4 r5 r6 r7 r8
        have f0 := O9.out.res.fro 0
        have f1 := O9.out.res.fro 1
        have f2 := O9.out.res.fro 2
        have f3 := O9.out.res.fro 3
        have f4 := O9.out.res.fro 4
        have f5 := O9.out.res.fro 5
        have f6 := O9.out.res.fro 6
        have f7 := O9.out.res.fro 7
        have f8 := O9.out.res.fro 8
        have FE := Lib.hid (of_end O9.out false 0 0 0 0 0 false false 0)
        clear OA
        go_wp2_with fail
        refine bodyPost_ret (results_row_tmp12 rfl _ _ (w.heap.size + 1) _ _ _ _ rfl FE.out.1 Try.underlying29 rfl (by kernel_rfl)) rfl ?_
        obtain ⟨rfl, rfl⟩ := EQ.out
        exact ⟨rfl, FE.out.2⟩
      · have OA := Lib.hid (by have h := OA.out; rwa [if_neg h2] at h)
        obtain rfl : e2 = 0 := by omega
        have c20 := O9.out.box.cell x20.out
        have c21 := O9.out.box.cell x21.out
        go_upto_region 11 with (go_at_call 26; refine (C3.out _).mono ?_; rintro e w10 ⟨rfl, hb⟩; have O10 := Lib.hid (O9.out.of hb); clear hb)
        clear O9 C3 h2 c20 c21
        obtain ⟨-, -, -, -, y4, -, y6, -⟩ := O10.out.var.cells
        have z4 := O10.out.var.fro 4
        have z6 := O10.out.var.fro 6
        dsimp only at y4 y6
        go_upto_region 12 with fail
        have O11 := Lib.hid ((O10.out.set 4 (.int .i64 v3) ⟨i1, v1, v2, m2, v3, 0, false, false, ac⟩ rfl).set 6 (.bool (!i3)) ⟨i1, v1, v2, m2, v3, 0, !i3, false, ac⟩ rfl)
        clear y4 y6 z4 z6 O10
        generalize (w10.setCell ⟨g, 4, none⟩ (.int .i64 v3)).setCell ⟨g, 6, none⟩ (.bool (!i3)) = w11 at O11 ⊢
        by_cases h3 : e3 ≠ 0
        · have _ := OA
          have EQ : Hid (zeroA = a ∧ e3 = er) := Lib.hid (by
            have h := OA.out
            rw [if_pos h3] at h
            exact Prod.mk.inj h)
          have n1 : (e3 == 0) = false := by simp [h3]
          have n2 : (e3 != 0) = true := by simp [h3]
          obtain ⟨r0, r1, r2, r3, r4, r5, r6, r7, r8⟩ := O11.out.res.cells
          unfold zeroA at r0 r1 r2 r3 r4 r5 r6 r7 r8
          dsimp only at r0 r1 r2 r3 r4 r5 r6 r7 r8
          have f0 := O11.out.res.fro 0
          have f1 := O11.out.res.fro 1
          have f2 := O11.out.res.fro 2
          have f3 := O11.out.res.fro 3
          have f4 := O11.out.res.fro 4
          have f5 := O11.out.res.fro 5
          have f6 := O11.out.res.fro 6
          have f7 := O11.out.res.fro 7
          have f8 := O11.out.res.fro 8
          have FE := Lib.hid (of_end O11.out false 0 0 0 0 0 false false 0)
          clear OA
          go_wp2_with fail
          refine bodyPost_ret (results_row_tmp12 rfl _ _ (w.heap.size + 1) _ _ _ _ rfl FE.out.1 Try.underlying29 rfl (by kernel_rfl)) rfl ?_
          obtain ⟨rfl, rfl⟩ := EQ.out
          exact ⟨rfl, FE.out.2⟩
        · have OA := Lib.hid (by have h := OA.out; rwa [if_neg h3] at h)
          obtain rfl : e3 = 0 := by omega
          have c16 := O11.out.box.cell x16.out
          have c17 := O11.out.box.cell x17.out
          go_upto_region 14 with (go_at_call 26; refine (C4.out _).mono ?_; rintro e w12 ⟨rfl, hb⟩; have O12 := Lib.hid (O11.out.of hb); clear hb)
          clear O11 C4 h3 c16 c17
          obtain ⟨-, -, -, -, -, y5, -, y7, -⟩ := O12.out.var.cells
          have z5 := O12.out.var.fro 5
          have z7 := O12.out.var.fro 7
          dsimp only at y5 y7
          go_upto_region 15 with fail
          have O13 := Lib.hid ((O12.out.set 5 (.int .i64 v4) ⟨i1, v1, v2, m2, v3, v4, !i3, false, ac⟩ rfl).set 7 (.bool (!i4)) ⟨i1, v1, v2, m2, v3, v4, !i3, !i4, ac⟩ rfl)
          clear y5 y7 z5 z7 O12
          generalize (w12.setCell ⟨g, 5, none⟩ (.int .i64 v4)).setCell ⟨g, 7, none⟩ (.bool (!i4)) = w13 at O13 ⊢
          by_cases h4 : e4 ≠ 0
          · have _ := OA
            have EQ : Hid (zeroA = a ∧ e4 = er) := Lib.hid (by
              have h := OA.out
              rw [if_pos h4] at h
              exact Prod.mk.inj h)
            have n1 : (e4 == 0) = false := by simp [h4]
            have n2 : (e4 != 0) = true := by simp [h4]
            obtain ⟨r0, r1, r2, r3, r4, r5, r6, r7, r8⟩ := O13.out.res.cells
            unfold zeroA at r0 r1 r2 r3 r4 r5 r6 r7 r8
            dsimp only at r0 r1 r2 r3 r4 r5 r6 r7 r8
            have f0 := O13.out.res.fro 0
            have f1 := O13.out.res.fro 1
            have f2 := O13.out.res.fro 2
            have f3 := O13.out.res.fro 3
            have f4 := O13.out.res.fro 4
            have f5 := O13.out.res.fro 5
            have f6 := O13.out.res.fro 6
            have f7 := O13.out.res.fro 7
            have f8 := O13.out.res.fro 8
            have FE := Lib.hid (of_end O13.out false 0 0 0 0 0 false false 0)
            clear OA
            go_wp2_with fail
            refine bodyPost_ret (results_row_tmp12 rfl _ _ (w.heap.size + 1) _ _ _ _ rfl FE.out.1 Try.underlying29 rfl (by kernel_rfl)) rfl ?_
            obtain ⟨rfl, rfl⟩ := EQ.out
            exact ⟨rfl, FE.out.2⟩
          · have OA := Lib.hid (by have h := OA.out; rwa [if_neg h4] at h)
            obtain rfl : e4 = 0 := by omega
            obtain ⟨y0, y1, y2, y3, y4, y5, y6, y7, y8⟩ := O13.out.var.cells
            dsimp only at y0 y1 y2 y3 y4 y5 y6 y7 y8
            obtain ⟨r0, r1, r2, r3, r4, r5, r6, r7, r8⟩ := O13.out.res.cells
            unfold zeroA at r0 r1 r2 r3 r4 r5 r6 r7 r8
            dsimp only at r0 r1 r2 r3 r4 r5 r6 r7 r8
            have f0 := O13.out.res.fro 0
            have f1 := O13.out.res.fro 1
            have f2 := O13.out.res.fro 2
            have f3 := O13.out.res.fro 3
            have f4 := O13.out.res.fro 4
            have f5 := O13.out.res.fro 5
            have f6 := O13.out.res.fro 6
            have f7 := O13.out.res.fro 7
            have f8 := O13.out.res.fro 8
            have EQ := Lib.hid (Prod.mk.inj OA.out)
            generalize (!i3) = j3 at *
            generalize (!i4) = j4 at *
            have FE := Lib.hid (of_end O13.out i1 v1 v2 m2 v3 v4 j3 j4 ac)
            clear OA h4
            go_wp2_with fail
            refine bodyPost_ret (results_row_tmp12 rfl _ _ (w.heap.size + 1) _ _ _ _ rfl FE.out.1 Try.underlying29 rfl (by kernel_rfl)) rfl ?_
            obtain ⟨rfl, rfl⟩ := EQ.out
            exact ⟨rfl, FE.out.2⟩
  · have hm' : mayB s = false := by simpa using hm
    have E := Lib.hid (fun W => refMay_any s hs W false hm')
    have Q : Hid (ofA s x = (zeroA, 60)) := Lib.hid (by unfold ofA; rw [if_neg hm])
    rw [Q.out]
    clear hm hm' hs Q
    generalize s.cells.toArray = X at *
    go_enter Try.func11, Try.ntmps11
    go_upto_region 1 with fail
    have A1 : Hid (AskAt ((w.alloc (.cells X 27)).alloc (.cells zeroA.cells.toArray 29)) (w.heap.size + 1) zeroA) := Lib.hid (by
      have h := AskAt.new (w.alloc (.cells X 27)) zeroA
      rwa [World.size_alloc] at h)
    have BX1 := Lib.hid (BX.out.alloc (.cells zeroA.cells.toArray 29))
    have B1 : Hid (Below w.heap.size w ((w.alloc (.cells X 27)).alloc (.cells zeroA.cells.toArray 29))) := Lib.hid (((Below.refl _ w).alloc (Nat.le_refl _) _).alloc (by rw [World.size_alloc]; omega) _)
    unfold RA.cells zeroA at A1 BX1 B1
    generalize (w.alloc (.cells X 27)).alloc (.cells #[.bool false, .int .i64 0, .int .i64 0, .int .i64 0, .int .i64 0, .int .i64 0, .bool false, .bool false, .int .i64 0] 29) = w1 at A1 BX1 B1 ⊢
    clear BX
    go_wp2_with (refine wpList_load_row (o := ⟨some 10, _, _, _, _, _⟩) rfl 27 _ rfl w.heap.size rfl _ X _ _ BX1.out.2 Try.underlying27 rfl SZ.out ?_)
    refine (E.out _).mono ?_
    rintro e w2 ⟨rfl, hb⟩
    have B2 : Hid (Below w.heap.size w w2) := Lib.hid (B1.out.trans (hb.mono B1.out.size))
    have A2 : Hid (AskAt w2 (w.heap.size + 1) zeroA) := Lib.hid (AskAt.keep A1.out hb)
    clear hb BX1 B1 A1 E
    obtain ⟨r0, r1, r2, r3, r4, r5, r6, r7, r8⟩ := A2.out.cells
    unfold zeroA at r0 r1 r2 r3 r4 r5 r6 r7 r8
    dsimp only at r0 r1 r2 r3 r4 r5 r6 r7 r8
    have f0 := A2.out.fro 0
    have f1 := A2.out.fro 1
    have f2 := A2.out.fro 2
    have f3 := A2.out.fro 3
    have f4 := A2.out.fro 4
    have f5 := A2.out.fro 5
    have f6 := A2.out.fro 6
    have f7 := A2.out.fro 7
    have f8 := A2.out.fro 8
    have FE := Lib.hid (AskAt.whole A2.out false 0 0 0 0 0 false false 0)
    have FB : Hid (Below w.heap.size w (((((((((w2.setCell ⟨w.heap.size + 1, 0, none⟩ (.bool false)).setCell ⟨w.heap.size + 1, 1, none⟩ (.int .i64 0)).setCell ⟨w.heap.size + 1, 2, none⟩ (.int .i64 0)).setCell ⟨w.heap.size + 1, 3, none⟩ (.int .i64 0)).setCell ⟨w.heap.size + 1, 4, none⟩ (.int .i64 0)).setCell ⟨w.heap.size + 1, 5, none⟩ (.int .i64 0)).setCell ⟨w.heap.size + 1, 6, none⟩ (.bool false)).setCell ⟨w.heap.size + 1, 7, none⟩ (.bool false)).setCell ⟨w.heap.size + 1, 8, none⟩ (.int .i64 0))) := Lib.hid (((((((((B2.out.setCell (by show w.heap.size ≤ w.heap.size + 1; omega) _).setCell (by show w.heap.size ≤ w.heap.size + 1; omega) _).setCell (by show w.heap.size ≤ w.heap.size + 1; omega) _).setCell (by show w.heap.size ≤ w.heap.size + 1; omega) _).setCell (by show w.heap.size ≤ w.heap.size + 1; omega) _).setCell (by show w.heap.size ≤ w.heap.size + 1; omega) _).setCell (by show w.heap.size ≤ w.heap.size + 1; omega) _).setCell (by show w.heap.size ≤ w.heap.size + 1; omega) _).setCell (by show w.heap.size ≤ w.heap.size + 1; omega) _)
    go_wp2_with fail
    refine bodyPost_ret (results_row_tmp12 rfl _ _ (w.heap.size + 1) _ _ _ _ rfl FE.out Try.underlying29 rfl (by kernel_rfl)) rfl ?_
    exact ⟨rfl, FB.out⟩
end Go.Proofs.Ytdadlhkbngopaaa
