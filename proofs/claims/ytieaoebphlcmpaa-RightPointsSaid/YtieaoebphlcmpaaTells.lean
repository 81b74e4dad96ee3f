/-
  A loop over a function value whose own body is such a loop: what the function tells its loop, what a round keeps for it, and the law of the loop.
-/
import Derived.RangeFuncNested
import Derived.RangeFuncBound
import Derived.RangeFuncCalls
import Derived.RangeFuncLeaves
import Derived.CallsIn
namespace Go.Proofs.Ytieaoebphlcmpaa
open Go.RowKit

/-- which blocks belong to a loop's own variables: cells; what others lay is none of them (but rows of the type u8 may be) -/
structure MineOK {α : Type} (u8 : TypeId) (J : List α → World → Prop) (mine : World → Nat → Prop) (B : Nat) : Prop where
  cells : ∀ {pre W k}, J pre W → mine W k → ∃ o : Obj, W.heap[k]? = some o ∧ o.isCells = true
  stay : ∀ {pre W W' row}, J pre W → W.grownBy W' row → (∀ r, row = some r → B ≤ r ∧ ∃ o : Obj, W.heap[r]? = some o ∧ o.isCells = false) → ∀ {k}, k < W.heap.size → W'.heap[k]? = W.heap[k]? → mine W' k → mine W k
  fresh : ∀ {pre W} (c : Array Value) (T : TypeId) (z : Nat × Nat), J pre W → T ≠ u8 → ¬ mine (W.alloc (.cells c T z)) W.heap.size

/-- what a round keeps: all from H on, and the blocks sbs, but what is the loop's own -/
structure Keeps (mine : World → Nat → Prop) (H : Nat) (sbs : List Nat) (W W' : World) : Prop where
  size : W.heap.size ≤ W'.heap.size
  same : ∀ k, H ≤ k ∨ k ∈ sbs → k < W.heap.size → ¬ mine W k → W'.heap[k]? = W.heap[k]? ∧ ¬ mine W' k
theorem Keeps.refl (mine : World → Nat → Prop) (H : Nat) (sbs : List Nat) (W : World) : Keeps mine H sbs W W := ⟨Nat.le_refl _, fun _ _ _ h => ⟨rfl, h⟩⟩
theorem Keeps.trans {mine : World → Nat → Prop} {H : Nat} {sbs : List Nat} {A B C : World} (h : Keeps mine H sbs A B) (k : Keeps mine H sbs B C) : Keeps mine H sbs A C :=
  ⟨Nat.le_trans h.size k.size, fun i hi hl hm => by
    obtain ⟨h1, h2⟩ := h.same i hi hl hm
    obtain ⟨k1, k2⟩ := k.same i hi (Nat.lt_of_lt_of_le hl h.size) h2
    exact ⟨k1.trans h1, k2⟩⟩
theorem Keeps.mono {mine : World → Nat → Prop} {H H' : Nat} {sbs : List Nat} {W W' : World} (h : Keeps mine H sbs W W') (hH : H ≤ H') : Keeps mine H' sbs W W' :=
  ⟨h.size, fun k hk => h.same k (hk.imp (fun h => Nat.le_trans hH h) id)⟩

/-- the function value tells xs, one by one: to any loop -/
def Tells {α : Type} (P : Program) (u8 : TypeId) (g : Nat) (lb : Array Value) (encs : α → Array Value) (xs : List α) (sbs : List Nat) (w : World) : Prop :=
  ∀ (l : Nat) (J : List α → World → Prop) (mine : World → Nat → Prop) (W : World), Below w.heap.size w W → OwnFrom W.heap.size J → MineOK u8 J mine W.heap.size → (∀ k ∈ sbs, ¬ mine W k) →
    (∀ pre x W1 m, J pre W1 → pre ++ [x] <+: xs → YieldAt Fence.wide m P l (encs x) W1 fun e W' => e = .returned (.bool true) ∧ J (pre ++ [x]) W' ∧ Keeps mine W.heap.size sbs W1 W') →
    J [] W → Calls P g (#[.func (.yield l) #[] #[]] ++ lb) W fun e W' => (∃ v, e = .returned v) ∧ J xs W'

theorem wide_room (k : Nat) : Fence.wide.room k := fun d h => by cases h
theorem yield_deep {m : Nat} (m' : Nat) {P : Program} {l : Nat} {args : Array Value} {W : World} {R : Ending → World → Prop} (h : YieldAt Fence.wide m P l args W R) : YieldAt Fence.wide m' P l args W R := by
  obtain ⟨fn, tmps, assign, body, hy, hR⟩ := h
  exact ⟨fn, tmps, assign, body, hy, hR.1, fun c cs _ => hR.2 c cs (wide_room _)⟩

/-- the end of a round -/
def tellPost {α : Type} (H : Nat) (sbs : List Nat) (mine : World → Nat → Prop) (I : List α → World → Prop) (xs : List α) (W : World) : Exit → Act → World → Prop
  | .normal, _, W' => Keeps mine H sbs W W' ∧ I xs W'
  | _, _, _ => False

theorem wpIn_tells {α : Type} {P : Program} {u8 : TypeId} {n k : Nat} {g : Operand} {ps : Array Tmp} {assign body : Code} {Q : Exit → Act → World → Prop} {a : Act} {w : World}
    {gf : Nat} {lb : Array Value} (hg : a.eval g = .func (.func gf) #[] lb) (eg : ∀ args w, (callFunc gf args).run P w = .ok (.enter gf args) w)
    {encs : α → Array Value} {xs : List α} {sbs : List Nat} {w0 : World} (hseq : Tells P u8 gf lb encs xs sbs w0) (hb0 : Below w0.heap.size w0 w) (hsb : ∀ k ∈ sbs, k < w.heap.size) (hps : ∀ x, (encs x).size = ps.size)
    (I : List α → World → Prop) (mine : World → Nat → Prop) (hI : OwnFrom w.heap.size I) (hM : MineOK u8 I mine w.heap.size) (hsm : ∀ k ∈ sbs, ¬ mine w k) (h0 : I [] w)
    (Ax : List α → α → Act → World → Prop) (hAx : ∀ pre x a', OwnFrom w.heap.size (fun (_ : Unit) W => Ax pre x a' W))
    (hassign : ∀ (l : Nat) (pre : List α) (x : α) (W : World) (K : Act → World → Prop), I pre W → pre ++ [x] <+: xs → (∀ a' W', Keeps mine w.heap.size sbs W W' → I pre W' → Ax pre x a' W' → K a' W') →
      assign.wpIn (Fence.wide.inRound l) k P (Exit.then K (fun _ _ _ => False)) { tmps := (ps.zip (encs x)).foldl (fun t (p, v) => t.setIfInBounds p v) a.tmps, defers := [] } W)
    (hbody : ∀ (l : Nat) (pre : List α) (x : α) (a' : Act) (W : World), w.heap.size ≤ l → I pre W → Ax pre x a' W → pre ++ [x] <+: xs → body.wpIn (Fence.wide.inRound l) k P (tellPost w.heap.size sbs mine I (pre ++ [x]) W) a' W)
    (hdone : ∀ (D : Nat) (W : World), w.heap.size ≤ D → I xs W → W.heap[D]? = some (.deferred (some [])) → Q .normal { a with defers := { target := .collected D, args := #[] } :: a.defers } W) :
    (Code.rangeFunc g ps assign body).wpIn Fence.wide n P Q a w := by
  refine wpIn_rangeFunc fun fn hfn => ?_
  -- the loop's record; the world where the function value is called
  obtain ⟨R, hR⟩ : ∃ R : LoopState → Option Code → Loop, R = fun st pe => { state := st, pending := pe, fn, tmps := a.tmps, params := ps, assign, body, defers := w.heap.size } := ⟨_, rfl⟩
  obtain ⟨V, hV⟩ : ∃ V, (w.alloc (.deferred (some []))).alloc (.loop (R .ready none)) = V := ⟨_, rfl⟩
  have hVs : V.heap.size = w.heap.size + 2 := by rw [← hV]; simp
  have hVl : V.heap[w.heap.size + 1]? = some (.loop (R .ready none)) := by
    rw [← hV]
    have := World.alloc_heap_new (w.alloc (.deferred (some []))) (.loop (R .ready none))
    rwa [World.size_alloc] at this
  have hVd : V.heap[w.heap.size]? = some (.deferred (some [])) := by
    rw [← hV]
    exact (Below.heap_alloc _ _ _ (by simp)).trans (World.alloc_heap_new w _)
  have hIV : I [] V := by rw [← hV]; exact hI.alloc _ (hI.alloc _ h0)
  have hbV : Below w0.heap.size w0 V := by
    rw [← hV]
    exact hb0.trans ((((Below.refl _ w).alloc (Nat.le_refl _) _).alloc (by simp) _).mono hb0.size)
  have hmV : ∀ k ∈ sbs, ¬ mine V k := fun k hk hm => by
    have hg : w.grownBy V none := by
      rw [← hV]
      exact ⟨rfl, rfl, rfl, by simp only [World.size_alloc]; omega, fun j hj _ => (Below.heap_alloc _ _ _ (by simp only [World.size_alloc]; omega)).trans (Below.heap_alloc _ _ _ hj)⟩
    exact hsm k hk (hM.stay (row := none) h0 hg (fun r e => by cases e) (hsb k hk) (hg.block k (hsb k hk) (fun e => by cases e)) hm)
  -- a turn of the record is none that a round's keeping minds
  have turn : ∀ {pre : List α} {W : World} {o : Obj} (o' : Obj), I pre W → W.heap[w.heap.size + 1]? = some o → o.isCells = false → Keeps mine V.heap.size sbs W (W.putObj (w.heap.size + 1) o') := fun {pre W o} o' hi ho hc => by
    refine ⟨by simp, fun j hj hl hm => ?_⟩
    have hne : j ≠ w.heap.size + 1 := by
      rcases hj with h | h
      · omega
      · have := hsb j h; omega
    have he : (W.putObj (w.heap.size + 1) o').heap[j]? = W.heap[j]? := World.putObj_heap_other hne
    exact ⟨he, fun hm' => hm (hM.stay hi (grownBy_putObj' W (w.heap.size + 1) o') (fun r e => by cases e; exact ⟨by omega, o, ho, hc⟩) hl he hm')⟩
  refine ⟨w.heap.size + 1, [{ target := .collected w.heap.size, args := #[] }], V, { target := .fn (.func gf) lb, args := #[.func (.yield (w.heap.size + 1)) #[] #[]] }, V, gf,
    #[.func (.yield (w.heap.size + 1)) #[] #[]] ++ lb, V, ?_, ?_, ?_, ?_, (fun h => by cases h), ?_⟩
  · rw [← hV, hR]
    exact run_enterLoop_outer _ _ _ _ _
  · simp only [resolve, hg]
    simp [go_sem]
  · intro f' _
    exact trivial
  · simp [invoke, go_sem, eg]
  refine callsIn_wide.2 ((hseq (w.heap.size + 1) (fun pre W => I pre W ∧ W.heap[w.heap.size + 1]? = some (.loop (R .ready none)) ∧ W.heap[w.heap.size]? = some (.deferred (some []))) mine V hbV ?_ ?_ hmV ?_ ⟨hIV, hVl, hVd⟩).mono ?_)
  · -- the invariant abides
    intro s A B row hs hg' hr
    have hr' : ∀ r, row = some r → w.heap.size ≤ r ∧ ∃ o : Obj, A.heap[r]? = some o ∧ o.isCells = false := fun r e => ⟨by have := (hr r e).1; omega, (hr r e).2⟩
    refine ⟨hI s A B row hs.1 hg' hr', ?_, ?_⟩
    · refine (hg'.block _ (Array.getElem?_eq_some_iff.1 hs.2.1).1 (fun e => ?_)).trans hs.2.1
      have := (hr _ e.symm).1
      omega
    · refine (hg'.block _ (Array.getElem?_eq_some_iff.1 hs.2.2).1 (fun e => ?_)).trans hs.2.2
      have := (hr _ e.symm).1
      omega
  · exact ⟨fun h => hM.cells h.1, fun h hg' hr => hM.stay h.1 hg' (fun r e => ⟨by have := (hr r e).1; omega, (hr r e).2⟩), fun c T z h => hM.fresh c T z h.1⟩
  · -- a round
    rintro pre x W m ⟨hi, hl, hd⟩ hpre
    have keep : ∀ {pre : List α} {A B : World} {j : Nat} {o : Obj}, I pre A → Keeps mine w.heap.size sbs A B → w.heap.size ≤ j → A.heap[j]? = some o → o.isCells = false → B.heap[j]? = some o := fun {pre A B j o} hA hk hj ho hc => by
      refine (hk.same j (.inl hj) (Array.getElem?_eq_some_iff.1 ho).1 (fun hm => ?_)).1.trans ho
      obtain ⟨o', h1, h2⟩ := hM.cells hA hm
      rw [ho] at h1
      cases h1
      rw [hc] at h2
      cases h2
    have hy := run_yield (P := P) (args := encs x) hl (by rw [hR]; exact hps x)
    rw [hR] at hy
    refine yield_deep m (m := k) ⟨fn, _, assign, body, hy, roundIn_of_wpIn hfn (hassign _ pre x W _ hi hpre ?_)⟩
    intro a' Wa hka hia hax
    have hla := keep hi hka (by omega) hl rfl
    have hda := keep hi hka (by omega) hd rfl
    have hlt : w.heap.size + 1 < Wa.heap.size := (Array.getElem?_eq_some_iff.1 hla).1
    refine ⟨_, run_beginRound hla (by rw [hR]), ?_⟩
    have hl2 : (Wa.putObj (w.heap.size + 1) (.loop { R .ready none with state := .busy })).heap[w.heap.size + 1]? = some (.loop { R .ready none with state := .busy }) := World.putObj_heap_same hlt
    have hd2 : (Wa.putObj (w.heap.size + 1) (.loop { R .ready none with state := .busy })).heap[w.heap.size]? = some (.deferred (some [])) := (World.putObj_heap_other (by omega)).trans hda
    have hi2 := hI.putObj (.loop { R .ready none with state := .busy }) hia (show w.heap.size ≤ w.heap.size + 1 by omega) hla rfl
    have hk2 := turn (.loop { R .ready none with state := .busy }) hia hla rfl
    refine wpIn_mono (hbody _ pre x a' _ (by omega) hi2 ((hAx pre x a').putObj (s := ()) _ hax (show w.heap.size ≤ w.heap.size + 1 by omega) hla rfl) hpre) ?_
    rintro e a3 W3 hp
    cases e with
    | normal =>
      obtain ⟨hk3, hi3⟩ := hp
      have hl3 := keep hi2 hk3 (by omega) hl2 rfl
      have hd3 := keep hi2 hk3 (by omega) hd2 rfl
      have hr := run_endRound (P := P) none hl3
      refine ⟨_, _, hr, rfl, ⟨hI.putObj _ hi3 (show w.heap.size ≤ w.heap.size + 1 by omega) hl3 rfl, ?_, ?_⟩, ?_⟩
      · rw [World.putObj_heap_same (Array.getElem?_eq_some_iff.1 hl3).1, hR]
        rfl
      · exact (World.putObj_heap_other (by omega)).trans hd3
      · exact (hka.mono (by omega)).trans (hk2.trans ((hk3.mono (by omega)).trans (turn _ hi3 hl3 rfl)))
    | ret => exact hp.elim
    | exit id => exact hp.elim
    | goto t => exact hp.elim
    | panic ch => exact hp.elim
    | outgrown => exact hp.elim
  · -- behind the function
    rintro e W2 ⟨⟨v, rfl⟩, hi, hl, hd⟩
    have he := run_endLoop (P := P) hl (by rw [hR]; simp)
    rw [hR] at he
    exact ⟨none, _, he, hdone _ _ (Nat.le_refl _) (hI.putObj _ hi (show w.heap.size ≤ w.heap.size + 1 by omega) hl rfl) ((World.putObj_heap_other (by omega)).trans hd)⟩
end Go.Proofs.Ytieaoebphlcmpaa
