/-
  A loop over a function value that keeps a variable of its own, of a type T, while it tells: what the function tells its loop, and the law of the loop, which may be left by a return.
-/
import Derived.Test.YtieaoebphlcmpaaTells
namespace Go.Proofs.Ytieaoebphlcmpaa
open Go.RowKit

/-- a loop's record, or a function's own variable of the type T -/
def Apart (T : TypeId) (o : Obj) : Prop := o.isCells = false ∨ ∃ cs z, o = .cells cs T z
/-- what holds on where such blocks turn, from B on -/
def CurFrom {β : Type} (T : TypeId) (B : Nat) (J : β → World → Prop) : Prop :=
  ∀ s W W' row, J s W → W.grownBy W' row → (∀ r, row = some r → B ≤ r ∧ ∃ o : Obj, W.heap[r]? = some o ∧ Apart T o) → J s W'
theorem CurFrom.own {β : Type} {T : TypeId} {B : Nat} {J : β → World → Prop} (h : CurFrom T B J) : OwnFrom B J := fun s W W' row hs hg hr =>
  h s W W' row hs hg (fun r e => ⟨(hr r e).1, by obtain ⟨o, h1, h2⟩ := (hr r e).2; exact ⟨o, h1, .inl h2⟩⟩)
theorem CurFrom.and {β : Type} {T : TypeId} {B : Nat} {I J : β → World → Prop} (h : CurFrom T B I) (k : CurFrom T B J) : CurFrom T B (fun s W => I s W ∧ J s W) := fun s W W' row hs hg hr =>
  ⟨h s W W' row hs.1 hg hr, k s W W' row hs.2 hg hr⟩
theorem CurFrom.mono {β : Type} {T : TypeId} {B B' : Nat} {J : β → World → Prop} (h : CurFrom T B J) (hB : B ≤ B') : CurFrom T B' J := fun s W W' row hs hg hr =>
  h s W W' row hs hg (fun r e => ⟨Nat.le_trans hB (hr r e).1, (hr r e).2⟩)
/-- what a round keeps: the blocks S, and of those from H on all that are such -/
structure KeepC (T : TypeId) (S : Nat → Prop) (H : Nat) (W W' : World) : Prop where
  size : W.heap.size ≤ W'.heap.size
  same : ∀ k, k < W.heap.size → (S k ∨ (H ≤ k ∧ ∃ o : Obj, W.heap[k]? = some o ∧ Apart T o)) → W'.heap[k]? = W.heap[k]?
theorem KeepC.refl (T : TypeId) (S : Nat → Prop) (H : Nat) (W : World) : KeepC T S H W W := ⟨Nat.le_refl _, fun _ _ _ => rfl⟩
theorem KeepC.trans {T : TypeId} {S : Nat → Prop} {H : Nat} {A B C : World} (h : KeepC T S H A B) (k : KeepC T S H B C) : KeepC T S H A C :=
  ⟨Nat.le_trans h.size k.size, fun i hl hi => by
    have e := h.same i hl hi
    rw [← e]
    refine k.same i (Nat.lt_of_lt_of_le hl h.size) (hi.imp id (fun ⟨h1, o, h2, h3⟩ => ⟨h1, o, e.trans h2, h3⟩))⟩
theorem KeepC.mono {T : TypeId} {S : Nat → Prop} {H H' : Nat} {W W' : World} (h : KeepC T S H W W') (hH : H ≤ H') : KeepC T S H' W W' :=
  ⟨h.size, fun k hk hi => h.same k hk (hi.imp id (fun ⟨h1, h2⟩ => ⟨Nat.le_trans hH h1, h2⟩))⟩

/-- the function value tells xs, one by one: to any loop; it ends where the loop is left -/
def TellsC {α : Type} (P : Program) (T : TypeId) (g : Nat) (lb : Array Value) (encs : α → Array Value) (xs : List α) (S : Nat → Prop) (w : World) : Prop :=
  ∀ (l : Nat) (J Jx : List α → World → Prop) (W : World), Below w.heap.size w W → CurFrom T W.heap.size J → CurFrom T W.heap.size Jx →
    (∀ pre x W1 m, J pre W1 → pre ++ [x] <+: xs → YieldAt Fence.wide m P l (encs x) W1 fun e W' => (e = .returned (.bool true) ∧ J (pre ++ [x]) W' ∧ KeepC T S W.heap.size W1 W') ∨ (e = .returned (.bool false) ∧ Jx (pre ++ [x]) W')) →
    J [] W → Calls P g (#[.func (.yield l) #[] #[]] ++ lb) W fun e W' => (∃ v, e = .returned v) ∧ (J xs W' ∨ ∃ pre, pre <+: xs ∧ Jx pre W')

/-- the end of a round -/
def tellPostC {α : Type} (T : TypeId) (H : Nat) (S : Nat → Prop) (I Ix : List α → World → Prop) (xs : List α) (W : World) : Exit → Act → World → Prop
  | .normal, _, W' => KeepC T S H W W' ∧ I xs W'
  | .ret, _, W' => KeepC T S H W W' ∧ Ix xs W'
  | _, _, _ => False

theorem wpIn_tellsC {α : Type} {P : Program} {T : TypeId} {n k : Nat} {g : Operand} {ps : Array Tmp} {assign body : Code} {Q : Exit → Act → World → Prop} {a : Act} {w : World}
    {gf : Nat} {lb : Array Value} (hg : a.eval g = .func (.func gf) #[] lb) (eg : ∀ args w, (callFunc gf args).run P w = .ok (.enter gf args) w)
    {encs : α → Array Value} {xs : List α} {S : Nat → Prop} {w0 : World} (hseq : TellsC P T gf lb encs xs S w0) (hb0 : Below w0.heap.size w0 w) (hsb : ∀ k, S k → k < w.heap.size) (hps : ∀ x, (encs x).size = ps.size)
    (I Ix : List α → World → Prop) (hI : CurFrom T w.heap.size I) (hIx : CurFrom T w.heap.size Ix) (h0 : I [] w)
    (Ax : List α → α → Act → World → Prop) (hAx : ∀ pre x a', CurFrom T w.heap.size (fun (_ : Unit) W => Ax pre x a' W))
    (hassign : ∀ (l : Nat) (pre : List α) (x : α) (W : World) (K : Act → World → Prop), I pre W → pre ++ [x] <+: xs → (∀ a' W', KeepC T S w.heap.size W W' → I pre W' → Ax pre x a' W' → K a' W') →
      assign.wpIn (Fence.wide.inRound l) k P (Exit.then K (fun _ _ _ => False)) { tmps := (ps.zip (encs x)).foldl (fun t (p, v) => t.setIfInBounds p v) a.tmps, defers := [] } W)
    (hbody : ∀ (l : Nat) (pre : List α) (x : α) (a' : Act) (W : World), w.heap.size ≤ l → I pre W → Ax pre x a' W → pre ++ [x] <+: xs → body.wpIn (Fence.wide.inRound l) k P (tellPostC T w.heap.size S I Ix (pre ++ [x]) W) a' W)
    (hdone : ∀ (D : Nat) (W : World), w.heap.size ≤ D → I xs W → W.heap[D]? = some (.deferred (some [])) → Q .normal { a with defers := { target := .collected D, args := #[] } :: a.defers } W)
    (hstop : ∀ (D : Nat) (pre : List α) (W : World), w.heap.size ≤ D → pre <+: xs → Ix pre W → W.heap[D]? = some (.deferred (some [])) → Code.ret.wpIn Fence.wide n P Q { a with defers := { target := .collected D, args := #[] } :: a.defers } W) :
    (Code.rangeFunc g ps assign body).wpIn Fence.wide n P Q a w := by
  refine wpIn_rangeFunc fun fn hfn => ?_
  obtain ⟨R, hR⟩ : ∃ R : LoopState → Option Code → Loop, R = fun st pe => { state := st, pending := pe, fn, tmps := a.tmps, params := ps, assign, body, defers := w.heap.size } := ⟨_, rfl⟩
  obtain ⟨V, hV⟩ : ∃ V, (w.alloc (.deferred (some []))).alloc (.loop (R .ready none)) = V := ⟨_, rfl⟩
  have hVs : V.heap.size = w.heap.size + 2 := by rw [← hV]; simp
  have hVl : V.heap[w.heap.size + 1]? = some (.loop (R .ready none)) := by
    rw [← hV]
    have := World.alloc_heap_new (w.alloc (.deferred (some []))) (.loop (R .ready none))
    rwa [World.size_alloc] at this
  have hVd : V.heap[w.heap.size]? = some (.deferred (some [])) := by
    rw [← hV]
    exact (Below.heap_alloc _ _ _ (by simp)).trans (World.alloc_heap_new w _)
  have hIV : I [] V := by rw [← hV]; exact hI.own.alloc _ (hI.own.alloc _ h0)
  have hbV : Below w0.heap.size w0 V := by
    rw [← hV]
    exact hb0.trans ((((Below.refl _ w).alloc (Nat.le_refl _) _).alloc (by simp) _).mono hb0.size)
  -- a turn of the record is none that a round's keeping minds
  have turn : ∀ {W : World} (o' : Obj), KeepC T S V.heap.size W (W.putObj (w.heap.size + 1) o') := fun {W} o' => by
    refine ⟨by simp, fun j hl hj => World.putObj_heap_other ?_⟩
    rcases hj with h | h
    · have := hsb j h; omega
    · omega
  refine ⟨w.heap.size + 1, [{ target := .collected w.heap.size, args := #[] }], V, { target := .fn (.func gf) lb, args := #[.func (.yield (w.heap.size + 1)) #[] #[]] }, V, gf,
    #[.func (.yield (w.heap.size + 1)) #[] #[]] ++ lb, V, ?_, ?_, ?_, ?_, (fun h => by cases h), ?_⟩
  · rw [← hV, hR]
    exact run_enterLoop_outer _ _ _ _ _
  · simp only [resolve, hg]
    simp [go_sem]
  · intro f' _
    exact trivial
  · simp [invoke, go_sem, eg]
  have apart : ∀ {J : List α → World → Prop} (_ : CurFrom T w.heap.size J) (st : LoopState) (pe : Option Code), CurFrom T V.heap.size (fun pre W => J pre W ∧ W.heap[w.heap.size + 1]? = some (.loop (R st pe)) ∧ W.heap[w.heap.size]? = some (.deferred (some []))) := by
    intro J hJ st pe s A B row hs hg' hr
    refine ⟨hJ s A B row hs.1 hg' (fun r e => ⟨by have := (hr r e).1; omega, (hr r e).2⟩), ?_, ?_⟩
    · refine (hg'.block _ (Array.getElem?_eq_some_iff.1 hs.2.1).1 (fun e => ?_)).trans hs.2.1
      have := (hr _ e.symm).1
      omega
    · refine (hg'.block _ (Array.getElem?_eq_some_iff.1 hs.2.2).1 (fun e => ?_)).trans hs.2.2
      have := (hr _ e.symm).1
      omega
  refine callsIn_wide.2 ((hseq (w.heap.size + 1) _ _ V hbV (apart hI .ready none) (apart hIx .done (some .ret)) ?_ ⟨hIV, hVl, hVd⟩).mono ?_)
  · -- a round
    rintro pre x W m ⟨hi, hl, hd⟩ hpre
    have keep : ∀ {A B : World} {j : Nat} {o : Obj}, KeepC T S w.heap.size A B → w.heap.size ≤ j → A.heap[j]? = some o → o.isCells = false → B.heap[j]? = some o := fun {A B j o} hk hj ho hc =>
      (hk.same j (Array.getElem?_eq_some_iff.1 ho).1 (.inr ⟨hj, o, ho, .inl hc⟩)).trans ho
    have hy := run_yield (P := P) (args := encs x) hl (by rw [hR]; exact hps x)
    rw [hR] at hy
    refine yield_deep m (m := k) ⟨fn, _, assign, body, hy, roundIn_of_wpIn hfn (hassign _ pre x W _ hi hpre ?_)⟩
    intro a' Wa hka hia hax
    have hla := keep hka (by omega) hl rfl
    have hda := keep hka (by omega) hd rfl
    have hlt : w.heap.size + 1 < Wa.heap.size := (Array.getElem?_eq_some_iff.1 hla).1
    refine ⟨_, run_beginRound hla (by rw [hR]), ?_⟩
    have hl2 : (Wa.putObj (w.heap.size + 1) (.loop { R .ready none with state := .busy })).heap[w.heap.size + 1]? = some (.loop { R .ready none with state := .busy }) := World.putObj_heap_same hlt
    have hd2 : (Wa.putObj (w.heap.size + 1) (.loop { R .ready none with state := .busy })).heap[w.heap.size]? = some (.deferred (some [])) := (World.putObj_heap_other (by omega)).trans hda
    have hi2 := hI.own.putObj (.loop { R .ready none with state := .busy }) hia (show w.heap.size ≤ w.heap.size + 1 by omega) hla rfl
    have hk2 := turn (W := Wa) (.loop { R .ready none with state := .busy })
    refine wpIn_mono (hbody _ pre x a' _ (by omega) hi2 ((hAx pre x a').own.putObj (s := ()) _ hax (show w.heap.size ≤ w.heap.size + 1 by omega) hla rfl) hpre) ?_
    rintro e a3 W3 hp
    cases e with
    | normal =>
      obtain ⟨hk3, hi3⟩ := hp
      have hl3 := keep hk3 (by omega) hl2 rfl
      have hd3 := keep hk3 (by omega) hd2 rfl
      have hr := run_endRound (P := P) none hl3
      refine ⟨_, _, hr, .inl ⟨rfl, ⟨hI.own.putObj _ hi3 (show w.heap.size ≤ w.heap.size + 1 by omega) hl3 rfl, ?_, ?_⟩, ?_⟩⟩
      · rw [World.putObj_heap_same (Array.getElem?_eq_some_iff.1 hl3).1, hR]
        rfl
      · exact (World.putObj_heap_other (by omega)).trans hd3
      · exact (hka.mono (by omega)).trans (hk2.trans ((hk3.mono (by omega)).trans (turn _)))
    | ret =>
      obtain ⟨hk3, hi3⟩ := hp
      have hl3 := keep hk3 (by omega) hl2 rfl
      have hd3 := keep hk3 (by omega) hd2 rfl
      have hr := run_endRound (P := P) (some .ret) hl3
      refine ⟨_, _, hr, .inr ⟨rfl, hIx.own.putObj _ hi3 (show w.heap.size ≤ w.heap.size + 1 by omega) hl3 rfl, ?_, ?_⟩⟩
      · rw [World.putObj_heap_same (Array.getElem?_eq_some_iff.1 hl3).1, hR]
        rfl
      · exact (World.putObj_heap_other (by omega)).trans hd3
    | exit id => exact hp.elim
    | goto t => exact hp.elim
    | panic ch => exact hp.elim
    | outgrown => exact hp.elim
  · -- behind the function
    rintro e W2 ⟨⟨v, rfl⟩, (⟨hi, hl, hd⟩ | ⟨pre, hpre, hi, hl, hd⟩)⟩
    · have he := run_endLoop (P := P) hl (by rw [hR]; simp)
      rw [hR] at he
      exact ⟨none, _, he, hdone _ _ (Nat.le_refl _) (hI.own.putObj _ hi (show w.heap.size ≤ w.heap.size + 1 by omega) hl rfl) ((World.putObj_heap_other (by omega)).trans hd)⟩
    · have he := run_endLoop (P := P) hl (by rw [hR]; simp)
      rw [hR] at he
      exact ⟨some .ret, _, he, hstop _ pre _ (Nat.le_refl _) hpre (hIx.own.putObj _ hi (show w.heap.size ≤ w.heap.size + 1 by omega) hl rfl) ((World.putObj_heap_other (by omega)).trans hd)⟩
end Go.Proofs.Ytieaoebphlcmpaa
