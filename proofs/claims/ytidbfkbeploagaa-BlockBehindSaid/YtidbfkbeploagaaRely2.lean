/-
  A region that draws its order and puts something onto two rows of the call's own.
-/
import Derived.Test.YtidbfkbeploagaaRely
import Derived.Maps.AppendAt
namespace Go.Proofs.Ytidbfkbeploagaa
open Go.RowKit

theorem grown_below {w w' : World} (h : w.grownBy w' none) : Below w.heap.size w w' := ⟨h.os, h.tape, h.output, h.size, fun k hk => h.block k hk (by simp)⟩
theorem below_grown {w w' : World} (h : Below w.heap.size w w') : w.grownBy w' none := ⟨h.os, h.tape, h.output, h.size, fun k hk _ => h.block k hk⟩
theorem own_blk {w : World} {B : Nat} {T : TypeId} {k : Nat} {v : Value} {n : Nat} {xs : List Value} (h : w.ownsRow B T k v n xs) {g : Nat} (e : v.ownBlock = some g) : B ≤ g ∧ g < w.heap.size := by
  rcases h.2 with ⟨rfl, -⟩ | ⟨g', cap, cur, rfl, hb, hw, -⟩
  · cases e
  · obtain rfl : g' = g := by simpa [Value.ownBlock] using e
    exact ⟨hb, (Array.getElem?_eq_some_iff.1 hw).1⟩
theorem own_grown {w w' : World} {B : Nat} {T : TypeId} {k : Nat} {v : Value} {n : Nat} {xs : List Value} {r : Option Nat} (h : w.ownsRow B T k v n xs) (hg : w.grownBy w' r) (hr : ∀ g, v.ownBlock = some g → r ≠ some g) : w'.ownsRow B T k v n xs := by
  have hl := @own_blk w B T k v n xs h
  obtain ⟨h1, h2⟩ := h
  rcases h2 with ⟨rfl, rfl⟩ | ⟨g, cap, cur, rfl, hb, hw, rest⟩
  · exact ⟨h1, .inl ⟨rfl, rfl⟩⟩
  · exact ⟨h1, .inr ⟨g, cap, cur, rfl, hb, (hg.block g (hl rfl).2 (fun e => hr g rfl e.symm)).trans hw, rest⟩⟩
/-- what is told of a value, and of the world behind it, though rows that were there are written onto -/
structure OpC (h0 : Nat) where
  R : Value → World → Prop
  st : ∀ v w w' r, (∀ g, r = some g → g < h0) → w.grownBy w' r → R v w → R v w'
def opcV (h0 : Nat) (v : Value) : OpC h0 := ⟨fun x _ => x = v, fun _ _ _ _ _ _ h => h⟩
def opcAny (h0 : Nat) : OpC h0 := ⟨fun _ _ => True, fun _ _ _ _ _ _ h => h⟩
/-- a row of the call's own: where it may lie, of what, and its cells -/
structure Row2 where
  T : TypeId
  k : Nat
  v : Value
  n : Nat
  xs : List Value
  n' : Nat
  xs' : List Value
def Row2.was (B : Nat) (r : Row2) (w : World) : Prop := w.ownsRow B r.T r.k r.v r.n r.xs
def Row2.is (B : Nat) (r : Row2) (v : Value) (w : World) : Prop := w.ownsRow B r.T r.k v r.n' r.xs'
def TwoT (h0 B : Nat) (L : List (OpC h0)) (ia ib : Nat) (ra rb : Row2) (j : Nat) : OpT :=
  if j = ia then ⟨ra.was B, fun v w => ra.is B v w ∧ ∀ g, v.ownBlock = some g → rb.v.ownBlock ≠ some g, fun w w' => w.grownBy w' ra.v.ownBlock⟩
  else if j = ib then ⟨rb.was B, fun v w => rb.is B v w ∧ ∀ g, v.ownBlock = some g → ra.v.ownBlock ≠ some g, fun w w' => w.grownBy w' rb.v.ownBlock⟩
  else ⟨fun _ => True, (L.getD j (opcAny h0)).R, fun w w' => w.grownBy w' none⟩
def TwoD (ia ib : Nat) (cp : List (Nat × Nat)) (j k : Nat) (u v : Value) : Prop :=
  ((j = ia ∧ k = ib ∨ j = ib ∧ k = ia) → ∀ g, u.ownBlock = some g → v.ownBlock ≠ some g) ∧ ((j, k) ∈ cp → v = u) ∧ ((k, j) ∈ cp → u = v)
theorem TwoD.sym {ia ib : Nat} {cp : List (Nat × Nat)} (j k : Nat) (u v : Value) (h : TwoD ia ib cp j k u v) : TwoD ia ib cp k j v u :=
  ⟨fun hjk g hg hu => h.1 (hjk.elim (fun x => .inr ⟨x.2, x.1⟩) (fun x => .inl ⟨x.2, x.1⟩)) g hu hg, h.2.2, h.2.1⟩
def PostC (vs : Nat → Value) (cs : List Nat) (R : Value → World → Prop) (D : List Deferred) (dst : Option Tmp) (w : World) (e : Exit) (a : Act) (w' : World) : Prop :=
  match e with
  | .normal => R (match dst with | some d => a.eval (.tmp d) | none => undef) w' ∧ Below w.heap.size w w' ∧ a.defers = D ∧ ∀ d, dst = some d → AllL (fun j => a.eval (.tmp d) = vs j) cs
  | _ => False
def PostRow (B : Nat) (r : Row2) (D : List Deferred) (dst : Option Tmp) (w : World) (e : Exit) (a : Act) (w' : World) : Prop :=
  match e with
  | .normal => r.is B (match dst with | some d => a.eval (.tmp d) | none => undef) w' ∧ w.grownBy w' r.v.ownBlock ∧ a.defers = D ∧ ((match dst with | some d => a.eval (.tmp d) | none => undef).ownBlock = r.v.ownBlock ∨ (match dst with | some d => a.eval (.tmp d) | none => undef).ownBlock = some w.heap.size)
  | _ => False
theorem postC_val {vs : Nat → Value} {h0 : Nat} {v : Value} {D : List Deferred} {d : Tmp} {w w' : World} {l : List Value} (he : l[d]? = some v) (hb : Below w.heap.size w w') : PostC vs [] (opcV h0 v).R D (some d) w .normal ⟨l.toArray, D⟩ w' :=
  ⟨by show Array.getD _ _ _ = v; simp [he], hb, rfl, fun _ _ => trivial⟩
theorem postC_R {vs : Nat → Value} {h0 : Nat} {T : OpC h0} {v : Value} {D : List Deferred} {d : Tmp} {w w' : World} {l : List Value} (he : l[d]? = some v) (hR : T.R v w') (hb : Below w.heap.size w w') : PostC vs [] T.R D (some d) w .normal ⟨l.toArray, D⟩ w' :=
  ⟨by have e : (Act.mk l.toArray D).eval (.tmp d) = v := by (show Array.getD _ _ _ = v; simp [he])
      show T.R (Act.eval _ _) w'
      rw [e]
      exact hR, hb, rfl, fun _ _ => trivial⟩
theorem postC_copy {vs : Nat → Value} {h0 : Nat} {j : Nat} {D : List Deferred} {d : Tmp} {w w' : World} {l : List Value} (he : l[d]? = some (vs j)) (hb : Below w.heap.size w w') : PostC vs [j] (opcAny h0).R D (some d) w .normal ⟨l.toArray, D⟩ w' :=
  ⟨trivial, hb, rfl, fun d' hd => by
    cases hd
    have e : (Act.mk l.toArray D).eval (.tmp d) = vs j := by (show Array.getD _ _ _ = _; simp [he])
    exact ⟨e, trivial⟩⟩
theorem postRow_of {B : Nat} {r : Row2} {v : Value} {D : List Deferred} {d : Tmp} {w w' : World} {l : List Value} (he : l[d]? = some v) (hR : w'.ownsRow B r.T r.k v r.n' r.xs') (hg : w.grownBy w' r.v.ownBlock) (hv : v.ownBlock = r.v.ownBlock ∨ v.ownBlock = some w.heap.size) : PostRow B r D (some d) w .normal ⟨l.toArray, D⟩ w' := by
  have e : (Act.mk l.toArray D).eval (.tmp d) = v := by (show Array.getD _ _ _ = v; simp [he])
  refine ⟨?_, hg, rfl, ?_⟩
  · show r.is B (Act.eval _ _) w'
    rw [e]
    exact hR
  · show (Act.eval _ _).ownBlock = _ ∨ (Act.eval _ _).ownBlock = _
    rw [e]
    exact hv
def cpOf (cp : List (Nat × Nat)) (i : Nat) : List Nat := (cp.filter (fun p => p.2 == i)).map (·.1)
def CStep (P : Program) (ops : Array Oper) (B : Nat) (w0 : World) (L : List (OpC w0.heap.size)) (ia ib : Nat) (ra rb : Row2) (cp : List (Nat × Nat)) (a0 : Act) (i : Nat) (o : Oper) : Prop :=
  ∀ (vs : Nat → Value) (w : World), Below B w0 w → AllL (fun j => (TwoT w0.heap.size B L ia ib ra rb j).R (vs j) w) (depsOf ops o) → wpList P ops (PostC vs (cpOf cp i) (L.getD i (opcAny w0.heap.size)).R a0.defers o.dst w) [o] ⟨fillF ops vs (depsOf ops o) a0.tmps, a0.defers⟩ w
def RStep (P : Program) (ops : Array Oper) (B : Nat) (w0 : World) (L : List (OpC w0.heap.size)) (ia ib : Nat) (ra rb : Row2) (r : Row2) (a0 : Act) (o : Oper) : Prop :=
  ∀ (vs : Nat → Value) (w : World), Below B w0 w → w.ownsRow B r.T r.k r.v r.n r.xs → AllL (fun j => (TwoT w0.heap.size B L ia ib ra rb j).R (vs j) w) (depsOf ops o) → wpList P ops (PostRow B r a0.defers o.dst w) [o] ⟨fillF ops vs (depsOf ops o) a0.tmps, a0.defers⟩ w
def TwoSteps (P : Program) (ops : Array Oper) (B : Nat) (w0 : World) (L : List (OpC w0.heap.size)) (ia ib : Nat) (ra rb : Row2) (cp : List (Nat × Nat)) (a0 : Act) : Nat → List Oper → Prop
  | _, [] => True
  | i, o :: os => (if i = ia then RStep P ops B w0 L ia ib ra rb ra a0 o else if i = ib then RStep P ops B w0 L ia ib ra rb rb a0 o else CStep P ops B w0 L ia ib ra rb cp a0 i o) ∧ TwoSteps P ops B w0 L ia ib ra rb cp a0 (i + 1) os
/-- copies: each waits for what it copies; rows are no copies -/
def cpChk (ops : Array Oper) (ia ib : Nat) (cp : List (Nat × Nat)) : Bool :=
  cp.all fun p => p.2 != ia && p.2 != ib && match ops[p.2]? with | some o => boundTo o p.1 && decide (p.1 < ops.size) | none => false
section
variable {P : Program} {ops : Array Oper} {Q : Exit → Act → World → Prop} {a0 : Act} {B : Nat} {w0 : World} {L : List (OpC w0.heap.size)} {ia ib : Nat} {ra rb : Row2} {cp : List (Nat × Nat)}

theorem cp_at (h : cpChk ops ia ib cp = true) {j k : Nat} (hp : (j, k) ∈ cp) : k ≠ ia ∧ k ≠ ib ∧ ∃ o, ops[k]? = some o ∧ j ∈ depsOf ops o := by
  unfold cpChk at h
  have := List.all_eq_true.1 h (j, k) hp
  simp only [Bool.and_eq_true, bne_iff_ne] at this
  refine ⟨this.1.1, this.1.2, ?_⟩
  cases ho : ops[k]? with
  | none => rw [ho] at this; exact absurd this.2 (by simp)
  | some o =>
    rw [ho] at this
    simp only [Bool.and_eq_true, decide_eq_true_eq] at this
    exact ⟨o, rfl, mem_deps.2 ⟨this.2.2, this.2.1⟩⟩
theorem AllL.at {p : Nat → Prop} : ∀ {l : List Nat}, AllL p l → ∀ j ∈ l, p j
  | _ :: _, h, j, hj => by
    rcases List.mem_cons.1 hj with rfl | hj
    · exact h.1
    · exact AllL.at h.2 j hj
theorem TwoSteps.rely (hab : ia ≠ ib) (chk : cpChk ops ia ib cp = true) (hB : B ≤ w0.heap.size) (had : ∀ g, ra.v.ownBlock = some g → rb.v.ownBlock ≠ some g) (hra : ra.was B w0) (hrb : rb.was B w0) :
    ∀ {l : List Oper} {i : Nat}, (∀ k o, l[k]? = some o → ops[i + k]? = some o) → TwoSteps P ops B w0 L ia ib ra rb cp a0 i l → RelySteps P ops (fun w => Below B w0 w) (TwoT w0.heap.size B L ia ib ra rb) (TwoD ia ib cp) a0 i l
  | [], _, _, _ => trivial
  | o :: l, i, hl, h => by
    have hoi : ops[i]? = some o := by have := hl 0 o rfl; simpa using this
    refine ⟨?_, TwoSteps.rely hab chk hB had hra hrb (fun k o' hk => by have := hl (k + 1) o' (by simpa using hk); rwa [show i + (k + 1) = i + 1 + k by omega] at this) h.2⟩
    have h1 := h.1
    intro vs w hS hN hA
    have hsize : B ≤ w.heap.size := Nat.le_trans hB hS.size
    by_cases e1 : i = ia
    · rw [if_pos e1] at h1
      have hN' : w.ownsRow B ra.T ra.k ra.v ra.n ra.xs := by unfold TwoT at hN; rw [if_pos e1] at hN; exact hN
      refine wpList_one_mono (fun e he a w' hq => by cases e <;> first | exact absurd rfl he | exact hq) (fun a' w' hq => ?_) (h1 vs w hS hN' hA)
      obtain ⟨q1, q2, q3, q4⟩ := hq
      have hfresh : ∀ g, (match o.dst with | some d => a'.eval (.tmp d) | none => undef).ownBlock = some g → rb.v.ownBlock ≠ some g := fun g hg hb => by
        rcases q4 with q4 | q4
        · rw [q4] at hg; exact had g hg hb
        · rw [q4] at hg
          have := (own_blk hrb hb).2
          have := hS.size
          simp at hg
          omega
      refine ⟨?_, ?_, hS.grown q2 hsize (fun g hg => (own_blk hN' hg).1), q3, fun d hd j u hji hbj _ hu => ?_⟩
      · unfold TwoT; rw [if_pos e1]; exact ⟨q1, hfresh⟩
      · unfold TwoT; rw [if_pos e1]; exact q2
      · refine ⟨fun hjk g hg hv => ?_, fun hc => ?_, fun hc => ?_⟩
        · have hj : j = ib := by rcases hjk with ⟨x, y⟩ | ⟨x, -⟩; exact absurd (e1.symm.trans y) hab; exact x
          unfold TwoT at hu
          rw [if_neg (fun c => hab (c.symm.trans hj)), if_pos hj] at hu
          have hv' : (match o.dst with | some d => a'.eval (.tmp d) | none => undef).ownBlock = some g := by rw [hd]; exact hv
          rcases q4 with q4 | q4
          · rw [q4] at hv'; exact hu.2 g hg hv'
          · rw [q4] at hv'
            have := (own_blk hu.1 hg).2
            simp at hv'
            omega
        · exact absurd e1 (cp_at chk hc).1
        · obtain ⟨-, -, oj, hoj, hm⟩ := cp_at chk hc
          exact absurd (mem_deps.1 hm).2 (by rw [hbj oj hoj]; simp)
    · rw [if_neg e1] at h1
      by_cases e2 : i = ib
      · rw [if_pos e2] at h1
        have hN' : w.ownsRow B rb.T rb.k rb.v rb.n rb.xs := by unfold TwoT at hN; rw [if_neg e1, if_pos e2] at hN; exact hN
        refine wpList_one_mono (fun e he a w' hq => by cases e <;> first | exact absurd rfl he | exact hq) (fun a' w' hq => ?_) (h1 vs w hS hN' hA)
        obtain ⟨q1, q2, q3, q4⟩ := hq
        have hfresh : ∀ g, (match o.dst with | some d => a'.eval (.tmp d) | none => undef).ownBlock = some g → ra.v.ownBlock ≠ some g := fun g hg hb => by
          rcases q4 with q4 | q4
          · rw [q4] at hg; exact had g hb hg
          · rw [q4] at hg
            have := (own_blk hra hb).2
            have := hS.size
            simp at hg
            omega
        refine ⟨?_, ?_, hS.grown q2 hsize (fun g hg => (own_blk hN' hg).1), q3, fun d hd j u hji hbj _ hu => ?_⟩
        · unfold TwoT; rw [if_neg e1, if_pos e2]; exact ⟨q1, hfresh⟩
        · unfold TwoT; rw [if_neg e1, if_pos e2]; exact q2
        · refine ⟨fun hjk g hg hv => ?_, fun hc => ?_, fun hc => ?_⟩
          · have hj : j = ia := by rcases hjk with ⟨x, -⟩ | ⟨-, y⟩; exact x; exact absurd (e2.symm.trans y).symm hab
            unfold TwoT at hu
            rw [if_pos hj] at hu
            have hv' : (match o.dst with | some d => a'.eval (.tmp d) | none => undef).ownBlock = some g := by rw [hd]; exact hv
            rcases q4 with q4 | q4
            · rw [q4] at hv'; exact hu.2 g hg hv'
            · rw [q4] at hv'
              have := (own_blk hu.1 hg).2
              simp at hv'
              omega
          · exact absurd e2 (cp_at chk hc).2.1
          · obtain ⟨-, -, oj, hoj, hm⟩ := cp_at chk hc
            exact absurd (mem_deps.1 hm).2 (by rw [hbj oj hoj]; simp)
      · rw [if_neg e2] at h1
        refine wpList_one_mono (fun e he a w' hq => by cases e <;> first | exact absurd rfl he | exact hq) (fun a' w' hq => ?_) (h1 vs w hS hA)
        obtain ⟨q1, q2, q3, q4⟩ := hq
        refine ⟨?_, ?_, hS.trans (q2.mono hsize), q3, fun d hd j u hji hbj hdj hu => ?_⟩
        · unfold TwoT; rw [if_neg e1, if_neg e2]; exact q1
        · unfold TwoT; rw [if_neg e1, if_neg e2]; exact below_grown q2
        · refine ⟨fun hjk => ?_, fun hc => ?_, fun hc => ?_⟩
          · rcases hjk with ⟨-, y⟩ | ⟨-, y⟩
            · exact absurd y e2
            · exact absurd y e1
          · obtain ⟨-, -, o', ho', hm⟩ := cp_at chk hc
            rw [hoi] at ho'
            cases ho'
            rw [hdj hm]
            exact AllL.at (q4 d hd) j (by unfold cpOf; exact List.mem_map.2 ⟨(j, i), List.mem_filter.2 ⟨hc, by simp⟩, rfl⟩)
          · obtain ⟨-, -, oj, hoj, hm⟩ := cp_at chk hc
            exact absurd (mem_deps.1 hm).2 (by rw [hbj oj hoj]; simp)
/-- **A region that draws its order, and puts onto two rows** -/
theorem wp_region_two {id : Nat} (B : Nat) (L : List (OpC w0.heap.size)) (ia ib : Nat) (ra rb : Row2) (cp : List (Nat × Nat)) (hm : P.follows .mixedOrders = true) (chk : relyChk ops a0.tmps.size = true) (chk2 : cpChk ops ia ib cp = true) (hab : ia ≠ ib)
    (hB : B ≤ w0.heap.size) (hra : w0.ownsRow B ra.T ra.k ra.v ra.n ra.xs) (hrb : w0.ownsRow B rb.T rb.k rb.v rb.n rb.xs) (had : ∀ g, ra.v.ownBlock = some g → rb.v.ownBlock ≠ some g)
    (steps : TwoSteps P ops B w0 L ia ib ra rb cp a0 0 ops.toList)
    (fin : ∀ (vs : Nat → Value) (w : World), Below B w0 w → AllL (fun j => (TwoT w0.heap.size B L ia ib ra rb j).R (vs j) w) (List.range ops.size) → (∀ j k dj dk, j ≠ k → dstAt ops j = some dj → dstAt ops k = some dk → TwoD ia ib cp j k (vs j) (vs k)) → Q .normal ⟨fillF ops vs (List.range ops.size) a0.tmps, a0.defers⟩ w) :
    (Code.region id ops true).wp P Q a0 w0 := by
  have hd : Below w0.heap.size w0 w0.drew := (Below.refl _ _).drew
  have hgd : w0.grownBy w0.drew none := below_grown hd
  refine wp_region_rely (fun w => Below B w0 w) (TwoT w0.heap.size B L ia ib ra rb) (TwoD ia ib cp) TwoD.sym hm chk (hd.mono hB) (fun j _ => ?_) (fun j k hjk _ _ w w' hG => ?_)
    (TwoSteps.rely hab chk2 hB had hra hrb (fun k o hk => by simpa using hk) steps) fin
  · unfold TwoT
    split
    · exact own_grown hra hgd (fun g _ => by simp)
    · split
      · exact own_grown hrb hgd (fun g _ => by simp)
      · trivial
  · have hlt : ∀ g, ra.v.ownBlock = some g → g < w0.heap.size := fun g hg => (own_blk hra hg).2
    have hlt2 : ∀ g, rb.v.ownBlock = some g → g < w0.heap.size := fun g hg => (own_blk hrb hg).2
    -- what number k may turn
    have hk : (k = ia ∧ w.grownBy w' ra.v.ownBlock) ∨ (k = ib ∧ w.grownBy w' rb.v.ownBlock) ∨ (k ≠ ia ∧ k ≠ ib ∧ w.grownBy w' none) := by
      unfold TwoT at hG
      split at hG
      · next h => exact .inl ⟨h, hG⟩
      · next h =>
        split at hG
        · next h2 => exact .inr (.inl ⟨h2, hG⟩)
        · next h2 => exact .inr (.inr ⟨h, h2, hG⟩)
    unfold TwoT
    by_cases e1 : j = ia
    · rw [if_pos e1]
      have hk' : (w.grownBy w' rb.v.ownBlock) ∨ w.grownBy w' none := by
        rcases hk with ⟨x, -⟩ | ⟨-, x⟩ | ⟨-, -, x⟩
        · exact absurd (e1.trans x.symm) hjk
        · exact .inl x
        · exact .inr x
      rcases hk' with x | x
      · exact ⟨fun h => own_grown h x (fun g hg => had g hg), fun v h => ⟨own_grown h.1 x h.2, h.2⟩⟩
      · exact ⟨fun h => own_grown h x (fun g _ => by simp), fun v h => ⟨own_grown h.1 x (fun g _ => by simp), h.2⟩⟩
    · rw [if_neg e1]
      by_cases e2 : j = ib
      · rw [if_pos e2]
        have hk' : (w.grownBy w' ra.v.ownBlock) ∨ w.grownBy w' none := by
          rcases hk with ⟨-, x⟩ | ⟨x, -⟩ | ⟨-, -, x⟩
          · exact .inl x
          · exact absurd (e2.trans x.symm) hjk
          · exact .inr x
        rcases hk' with x | x
        · exact ⟨fun h => own_grown h x (fun g hg hr => had g hr hg), fun v h => ⟨own_grown h.1 x h.2, h.2⟩⟩
        · exact ⟨fun h => own_grown h x (fun g _ => by simp), fun v h => ⟨own_grown h.1 x (fun g _ => by simp), h.2⟩⟩
      · rw [if_neg e2]
        refine ⟨fun _ => trivial, fun v h => ?_⟩
        rcases hk with ⟨-, x⟩ | ⟨-, x⟩ | ⟨-, -, x⟩
        · exact (L.getD j (opcAny w0.heap.size)).st v w w' _ hlt x h
        · exact (L.getD j (opcAny w0.heap.size)).st v w w' _ hlt2 x h
        · exact (L.getD j (opcAny w0.heap.size)).st v w w' _ (fun g hg => by cases hg) x h
/-- one operation, what it waits for told -/
theorem CStep.of {i : Nat} {o : Oper} (D : List Nat) (S : List (Tmp × Nat)) (cs : List Nat) (T : OpC w0.heap.size) (hD : depsOf ops o = D) (hS : ∀ (vs : Nat → Value) (t : Array Value), fillF ops vs D t = fillP vs S t) (hc : cpOf cp i = cs) (hT : L.getD i (opcAny w0.heap.size) = T)
    (h : ∀ (vs : Nat → Value) (w : World), Below B w0 w → AllL (fun j => (TwoT w0.heap.size B L ia ib ra rb j).R (vs j) w) D → wpList P ops (PostC vs cs T.R a0.defers o.dst w) [o] ⟨fillP vs S a0.tmps, a0.defers⟩ w) : CStep P ops B w0 L ia ib ra rb cp a0 i o := by
  intro vs w hB hA
  rw [hD] at hA ⊢
  rw [hS, hc, hT]
  exact h vs w hB hA
theorem RStep.of {r : Row2} {o : Oper} (D : List Nat) (S : List (Tmp × Nat)) (hD : depsOf ops o = D) (hS : ∀ (vs : Nat → Value) (t : Array Value), fillF ops vs D t = fillP vs S t)
    (h : ∀ (vs : Nat → Value) (w : World), Below B w0 w → w.ownsRow B r.T r.k r.v r.n r.xs → AllL (fun j => (TwoT w0.heap.size B L ia ib ra rb j).R (vs j) w) D → wpList P ops (PostRow B r a0.defers o.dst w) [o] ⟨fillP vs S a0.tmps, a0.defers⟩ w) : RStep P ops B w0 L ia ib ra rb r a0 o := by
  intro vs w hB hN hA
  rw [hD] at hA ⊢
  rw [hS]
  exact h vs w hB hN hA
theorem fin_two {Q : Exit → Act → World → Prop} {p : (Nat → Value) → World → Prop} (D : List Nat) (S : List (Tmp × Nat)) (hD : List.range ops.size = D) (hS : ∀ (vs : Nat → Value) (t : Array Value), fillF ops vs D t = fillP vs S t)
    (hp : ∀ vs w, (∀ j k dj dk, j ≠ k → dstAt ops j = some dj → dstAt ops k = some dk → TwoD ia ib cp j k (vs j) (vs k)) → p vs w)
    (h : ∀ (vs : Nat → Value) (w : World), Below B w0 w → AllL (fun j => (TwoT w0.heap.size B L ia ib ra rb j).R (vs j) w) D → p vs w → Q .normal ⟨fillP vs S a0.tmps, a0.defers⟩ w) :
    ∀ (vs : Nat → Value) (w : World), Below B w0 w → AllL (fun j => (TwoT w0.heap.size B L ia ib ra rb j).R (vs j) w) (List.range ops.size) → (∀ j k dj dk, j ≠ k → dstAt ops j = some dj → dstAt ops k = some dk → TwoD ia ib cp j k (vs j) (vs k)) → Q .normal ⟨fillF ops vs (List.range ops.size) a0.tmps, a0.defers⟩ w := by
  intro vs w hB hA hp'
  rw [hD] at hA ⊢
  rw [hS]
  exact h vs w hB hA (hp vs w hp')
end
end Go.Proofs.Ytidbfkbeploagaa
