/-
  The function values of breaks.wordsAndBlanks and breaks.wordsAndEnds tell a text's pieces.
-/
import Derived.Test.YtgfiiohglgbdiaaRowsTell
namespace Go.Proofs.Ytgfiiohglgbdiaa
open Go.RowKit Go.Shelf
attribute [local go_sem] Oper.semAt_some
attribute [local go_sem] wide_fn

def encP (p : Pc) : Array Value := #[.agg #[.int .u8 (p.1 : Nat), .string ⟨p.2.toArray⟩]]
theorem own_mono {β : Type} {B B' : Nat} {J : β → World → Prop} (h : OwnFrom B J) (hB : B ≤ B') : OwnFrom B' J := fun s A C row hs hg hr => h s A C row hs hg (fun r e => ⟨Nat.le_trans hB (hr r e).1, (hr r e).2⟩)
theorem MineOK.mono {α : Type} {u8 : TypeId} {J : List α → World → Prop} {mine : World → Nat → Prop} {B B' : Nat} (h : MineOK u8 J mine B) (hB : B ≤ B') : MineOK u8 J mine B' :=
  ⟨fun hj hm => h.cells hj hm, fun hj hg hr _ hk he hm => h.stay hj hg (fun r e => ⟨Nat.le_trans hB (hr r e).1, (hr r e).2⟩) hk he hm, fun c T z hj hT => h.fresh c T z hj hT⟩
/-- where the pieces' walk stands: the caller's words; the box that holds its yield -/
structure PcTell (l yb : Nat) (mine : World → Nat → Prop) (J : List Pc → World → Prop) (d : List Pc) (W : World) : Prop where
  j : J d W
  box : Boxed W yb 40 (.func (.yield l) #[] #[])
  nm : ¬ mine W yb
theorem boxed_lt9 {W : World} {B : Nat} {t : TypeId} {v : Value} (h : Boxed W B t v) : B < W.heap.size := (Array.getElem?_eq_some_iff.1 (show W.heap[B]? = _ from h)).1
theorem PcTell.own {l yb B : Nat} {mine : World → Nat → Prop} {J : List Pc → World → Prop} (hJ : OwnFrom B J) {u8 : TypeId} (hM : MineOK u8 J mine B) : OwnFrom B (PcTell l yb mine J) := fun d A C row h hg hr =>
  ⟨hJ d A C row h.j hg hr, Own.from (boxed_own yb 40 (fun (_ : Unit) => .func (.yield l) #[] #[])) B () A C row h.box hg hr, fun hm => h.nm (hM.stay h.j hg hr (boxed_lt9 h.box) (hg.block yb (boxed_lt9 h.box) (fun e => by
    obtain ⟨o, h1, h2⟩ := (hr yb e.symm).2
    rw [show A.heap[yb]? = _ from h.box] at h1
    cases h1
    cases h2)) hm)⟩
theorem PcTell.mineOK {l yb B : Nat} {mine : World → Nat → Prop} {J : List Pc → World → Prop} {u8 : TypeId} (hM : MineOK u8 J mine B) : MineOK u8 (PcTell l yb mine J) mine B :=
  ⟨fun h hm => hM.cells h.j hm, fun h hg hr _ hk he hm => hM.stay h.j hg hr hk he hm, fun c T z h hT => hM.fresh c T z h.j hT⟩
/-- a step that only lays blocks keeps all -/
theorem keeps_new {α : Type} {mine : World → Nat → Prop} {J : List α → World → Prop} {u8 : TypeId} {B H : Nat} {sbs : List Nat} (hM : MineOK u8 J mine B) {d : List α} {W W' : World} (hj : J d W) (hg : W.grownBy W' none) : Keeps mine H sbs W W' :=
  ⟨hg.size, fun k _ hl hm => ⟨hg.block k hl (fun e => by cases e), fun hm' => hm (hM.stay hj hg (fun r e => by cases e) hl (hg.block k hl (fun e => by cases e)) hm')⟩⟩
theorem grown_alloc9 (W : World) (o : Obj) : W.grownBy (W.alloc o) none := ⟨rfl, rfl, rfl, by simp, fun k hk _ => Below.heap_alloc _ _ _ hk⟩
theorem PcTell.grown {l yb B : Nat} {mine : World → Nat → Prop} {J : List Pc → World → Prop} {u8 : TypeId} {d : List Pc} {W W' : World} (h : PcTell l yb mine J d W) (hJ : OwnFrom B J) (hM : MineOK u8 J mine B) (hg : W.grownBy W' none) : PcTell l yb mine J d W' :=
  PcTell.own hJ hM d W W' none h hg (fun r e => by cases e)
theorem PcTell.next {l yb H : Nat} {sbs : List Nat} {mine : World → Nat → Prop} {J : List Pc → World → Prop} {d d' : List Pc} {W W' : World} (h : PcTell l yb mine J d W) (hyb : H ≤ yb) (hj : J d' W') (hk : Keeps mine H sbs W W') : PcTell l yb mine J d' W' := by
  obtain ⟨e, m⟩ := hk.same yb (.inl hyb) (boxed_lt9 h.box) h.nm
  exact ⟨hj, e.trans h.box, m⟩
theorem Keeps.weaken {mine : World → Nat → Prop} {H H' : Nat} {sbs sbs' : List Nat} {W W' : World} (h : Keeps mine H sbs W W') (hH : H ≤ H') (hs : ∀ k ∈ sbs', H ≤ k) : Keeps mine H' sbs' W W' :=
  ⟨h.size, fun k hk => h.same k (hk.elim (fun x => .inl (Nat.le_trans hH x)) (fun x => .inl (hs k x)))⟩
theorem among_blanks' : among (⟨#[32, 10]⟩ : ByteArray).data.toList = isB := funext fun b => among_blanks b
theorem among_end' : among (⟨#[10]⟩ : ByteArray).data.toList = is10 := funext fun b => among_end b

/-- where such a function's loop begins -/
structure Start9 (l : Nat) (s m : ByteArray) (mine : World → Nat → Prop) (J : List Pc → World → Prop) (W W0 : World) : Prop where
  size : W0.heap.size = W.heap.size + 3
  grown : W.grownBy W0 none
  tell : PcTell l W.heap.size mine J [] W0
  c1 : W0.cell? ⟨W.heap.size + 1, 0, none⟩ = some (.string s)
  c2 : W0.cell? ⟨W.heap.size + 1 + 1, 0, none⟩ = some (.string m)
  n1 : ¬ mine W0 (W.heap.size + 1)
  n2 : ¬ mine W0 (W.heap.size + 1 + 1)
theorem start9 {l : Nat} {s m : ByteArray} {mine : World → Nat → Prop} {J : List Pc → World → Prop} {W : World} (hJ : OwnFrom W.heap.size J) (hM : MineOK 5 J mine W.heap.size) (h0 : J [] W) :
    Start9 l s m mine J W (((W.alloc (.cells #[.func (.yield l) #[] #[]] 40)).alloc (.cells #[.string s] 9)).alloc (.cells #[.string m] 9)) := by
  obtain ⟨A, hA⟩ : ∃ A, W.alloc (.cells #[.func (.yield l) #[] #[]] 40) = A := ⟨_, rfl⟩
  obtain ⟨B, hB⟩ : ∃ B, A.alloc (.cells #[.string s] 9) = B := ⟨_, rfl⟩
  have sA : A.heap.size = W.heap.size + 1 := by rw [← hA, World.size_alloc]
  have sB : B.heap.size = W.heap.size + 1 + 1 := by rw [← hB, World.size_alloc, sA]
  have jA : J [] A := by rw [← hA]; exact hJ.alloc _ h0
  have jB : J [] B := by rw [← hB]; exact hJ.alloc _ jA
  have mA : ¬ mine A W.heap.size := by rw [← hA]; exact hM.fresh _ _ _ h0 (by decide)
  have mB : ¬ mine B (W.heap.size + 1) := by rw [← hB, ← sA]; exact hM.fresh _ _ _ jA (by decide)
  have stay : ∀ (X : World) (o : Obj) (k : Nat), J [] X → k < X.heap.size → ¬ mine X k → ¬ mine (X.alloc o) k := fun X o k hX hk hm hm' => hm (hM.stay (row := none) hX (grown_alloc9 X o) (fun r e => by cases e) hk ((grown_alloc9 X o).block k hk (fun e => by cases e)) hm')
  have xA : Boxed A W.heap.size 40 (.func (.yield l) #[] #[]) := by rw [← hA]; exact Boxed.new W _ _
  have xB : Boxed B (W.heap.size + 1) 9 (.string s) := by rw [← hB, ← sA]; exact Boxed.new A _ _
  have gA : W.grownBy A none := by rw [← hA]; exact grown_alloc9 _ _
  have gB : A.grownBy B none := by rw [← hB]; exact grown_alloc9 _ _
  have hC : Boxed (B.alloc (.cells #[.string m] 9)) (W.heap.size + 1 + 1) 9 (.string m) := by rw [← sB]; exact Boxed.new B _ _
  rw [hA, hB]
  refine ⟨by rw [World.size_alloc, sB], ?_, ⟨hJ.alloc _ jB, ?_, ?_⟩, (xB.alloc _).cell, hC.cell, stay _ _ _ jB (by omega) mB, ?_⟩
  · have g := grown_alloc9 B (.cells #[.string m] 9)
    exact ⟨by rw [g.os, gB.os, gA.os], by rw [g.tape, gB.tape, gA.tape], by rw [g.output, gB.output, gA.output], by have := g.size; omega, fun k hk hr => (g.block k (by omega) hr).trans ((gB.block k (by omega) hr).trans (gA.block k hk hr))⟩
  · rw [← hB]; exact (xA.alloc _).alloc _
  · refine stay _ _ _ jB (by omega) ?_
    rw [← hB]; exact stay _ _ _ jA (by omega) mA
  · rw [← sB]; exact hM.fresh _ _ _ jB (by decide)

set_option maxRecDepth 100000 in
set_option maxHeartbeats 8000000 in
theorem wordsN_tell (s : ByteArray) (sb : Nat) (w : World) (h1 : w.cell? ⟨sb, 0, none⟩ = some (.string s)) (hs : s.size ≤ 8192) :
    Tells Try.prog 5 27 #[.pointer (some ⟨sb, 0, none⟩)] encP (cutN s.data.toList) [sb] w := by
  intro l J mine W hW hJ hM hsm hY h0
  have c1 : W.cell? ⟨sb, 0, none⟩ = some (.string s) := (hW.cell (p := ⟨sb, 0, none⟩) (lt_of_cell9 h1)).trans h1
  have HY := Lib.hid hY
  have HJ := Lib.hid hJ
  have HM := Lib.hid hM
  have H0 := Lib.hid h0
  have SB := Lib.hid (lt_of_cell9 c1)
  have c2 : ∀ o, (W.alloc o).cell? ⟨sb, 0, none⟩ = some (.string s) := fun o => (World.cell?_alloc_lt _ o _ (lt_of_cell9 c1)).trans c1
  clear hY hJ hM hsm h0 h1 hW c1
  refine (callsIn_wide (n := 6)).1 ?_
  refine callsIn_of_wp_marks Try.func27 rfl trivial ?_ rfl
  simp only [Try.ntmps27, List.size_toArray, List.length_cons, List.length_nil, Nat.reduceAdd, Nat.reduceSub, Array.replicate_succ, Array.replicate_zero, List.push_toArray, List.append_toArray, List.nil_append, List.cons_append]
  gi_wp2_with (gi_at_call 28; refine (callsIn_wide.2 (rows_any s _ _)).mono ?_; rintro e w' ⟨rfl, rfl⟩)
  have ST := Lib.hid (start9 (l := l) (s := s) (m := ⟨#[32, 10]⟩) HJ.out HM.out H0.out)
  generalize (((W.alloc (.cells #[.func (.yield l) #[] #[]] 40)).alloc (.cells #[.string s] 9)).alloc (.cells #[.string ⟨#[32, 10]⟩] 9)) = W0 at ST ⊢
  have hz := ST.out.size
  clear c2
  refine wpIn_tells (k := 3) (u8 := 5) (w := W0) (w0 := W0) (gf := 32) (lb := #[.pointer (some ⟨W.heap.size + 1, 0, none⟩), .pointer (some ⟨W.heap.size + 1 + 1, 0, none⟩)]) rfl (enters_of Try.func32 (by kernel_rfl) rfl)
    (rows_tell s ⟨#[32, 10]⟩ _ _ W0 ST.out.c1 ST.out.c2 hs) (Below.refl _ _) (fun k hk => ?lt) (fun _ => rfl)
    (fun pre X => PcTell l W.heap.size mine J (pre.map pcN) X) mine ?own ?mok (fun k hk => ?nm) ST.out.tell
    (fun pre x a' X => a' = { tmps := #[.func (.yield l) #[] #[], .pointer (some ⟨sb, 0, none⟩), .pointer (some ⟨W.heap.size, 0, none⟩), .string ⟨x.1.toArray⟩, .bool x.2, undef, .string s, .func (.func 32) #[] #[.pointer (some ⟨W.heap.size + 1, 0, none⟩), .pointer (some ⟨W.heap.size + 1 + 1, 0, none⟩)], .string ⟨x.1.toArray⟩, .bool x.2, undef, undef, undef, undef, undef, undef, undef, undef], defers := [] }) (fun pre x a' => ownFrom_pure _ (fun (_ : Unit) => _)) ?assign ?body ?done
  case lt =>
    have : k = W.heap.size + 1 ∨ k = W.heap.size + 1 + 1 := by simpa using hk
    omega
  case own => exact fun d A C row h hg hr => PcTell.own (own_mono HJ.out (show W.heap.size ≤ W0.heap.size by omega)) (HM.out.mono (by omega)) _ A C row h hg hr
  case mok => exact ⟨fun h hm => HM.out.cells h.j hm, fun h hg hr _ hk he hm => (HM.out.mono (show W.heap.size ≤ W0.heap.size by omega)).stay h.j hg hr hk he hm, fun c T z h hT => HM.out.fresh c T z h.j hT⟩
  case nm =>
    have : k = W.heap.size + 1 ∨ k = W.heap.size + 1 + 1 := by simpa using hk
    rcases this with rfl | rfl
    · exact ST.out.n1
    · exact ST.out.n2
  case assign =>
    intro l' pre x X K hi hpre hK
    dsimp only [encR]
    gi_wp2
    simpa using hK _ _ (Keeps.refl _ _ _ _) hi rfl
  case body =>
    rintro l' pre ⟨t, mb⟩ a' X hl hi rfl hpre
    rw [among_blanks'] at hpre
    have hXo : ∀ o, PcTell l W.heap.size mine J (pre.map pcN) (X.alloc o) := fun o => hi.grown HJ.out HM.out (grown_alloc9 X o)
    have cb : ∀ o, (X.alloc o).cell? ⟨W.heap.size, 0, none⟩ = some (.func (.yield l) #[] #[]) := fun o => (hXo o).box.cell
    have PRE := Lib.hid (show pre.map pcN ++ [pcN (t, mb)] <+: cutN s.data.toList by
      rw [cutN_rows]
      have := hpre.map pcN
      simpa using this)
    have END := Lib.hid (show ∀ o W', J (pre.map pcN ++ [pcN (t, mb)]) W' → Keeps mine W.heap.size [sb] (X.alloc o) W' → Keeps mine W0.heap.size [W.heap.size + 1, W.heap.size + 1 + 1] X W' ∧ PcTell l W.heap.size mine J ((pre ++ [(t, mb)]).map pcN) W' from fun o W' hj hk =>
      ⟨(keeps_new HM.out hi.j (grown_alloc9 X o)).trans (hk.weaken (by omega) (fun k hk => by
        have : k = W.heap.size + 1 ∨ k = W.heap.size + 1 + 1 := by simpa using hk
        omega)), by rw [List.map_append]; exact (hXo o).next (Nat.le_refl _) hj hk⟩)
    have HX := Lib.hid hXo
    clear hi hpre hXo
    cases mb with
    | true =>
      obtain ⟨fn, tmps, assign, body, hy, hRR⟩ := HY.out _ _ _ (3 - 1) (HX.out (.cells #[.int .u8 1, .string ⟨#[32]⟩] 26)).j PRE.out
      have E := Lib.hid (END.out (.cells #[.int .u8 1, .string ⟨#[32]⟩] 26))
      replace hy : ∀ V, V = X.alloc (.cells #[.int .u8 1, .string ⟨#[32]⟩] 26) → (Instr.yield l #[.agg #[.int .u8 1, .string ⟨#[32]⟩]]).run Try.prog V = .ok (.round l fn tmps assign body) V := fun V e => by rw [e]; exact hy
      have hy := hy _ rfl
      gi_wp2
      refine hRR.mono ?_
      rintro e W3 ⟨rfl, hj3, hk3⟩
      clear hy hRR
      gi_wp2
      exact E.out W3 hj3 hk3
    | false =>
      obtain ⟨fn, tmps, assign, body, hy, hRR⟩ := HY.out _ _ _ (3 - 1) (HX.out (.cells #[.int .u8 0, .string ⟨t.toArray⟩] 26)).j PRE.out
      have E := Lib.hid (END.out (.cells #[.int .u8 0, .string ⟨t.toArray⟩] 26))
      replace hy : ∀ V, V = X.alloc (.cells #[.int .u8 0, .string ⟨t.toArray⟩] 26) → (Instr.yield l #[.agg #[.int .u8 0, .string ⟨t.toArray⟩]]).run Try.prog V = .ok (.round l fn tmps assign body) V := fun V e => by rw [e]; exact hy
      have hy := hy _ rfl
      gi_wp2
      refine hRR.mono ?_
      rintro e W3 ⟨rfl, hj3, hk3⟩
      clear hy hRR
      gi_wp2
      exact E.out W3 hj3 hk3
  case done =>
    intro D X hD hi hK
    rw [among_blanks', ← cutN_rows] at hi
    gi_wp2
    refine ⟨by simp, .inl ⟨_, _, rfl, run_takeDeferred hK, ?_⟩⟩
    exact ⟨_, results_none rfl _ _ _, ⟨_, rfl⟩, (own_mono HJ.out (show W.heap.size ≤ W0.heap.size by omega)).putObj _ hi.j hD hK rfl⟩
end Go.Proofs.Ytgfiiohglgbdiaa
