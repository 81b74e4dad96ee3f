/-
  What a change comes to: its mathematics.
-/
import Derived.Test.YtmodegkpfdlccaaMutMath
namespace Go.Proofs.Ytmodegkpfdlccaa

section
open Go.RowKit

section
variable {Sty : List Lit → Prop} {N M : Nat → RN} {n m : Nat} {x y : Int} {c : RC}
theorem apply_doc (h : applyN Sty N n x c = .doc m y M) : MayD Sty n x N ∧ doneN Sty N n x c = .doc m y M ∧ MayD Sty m y M := by
  unfold applyN at h
  split at h
  · rename_i h1
    cases e : doneN Sty N n x c with
    | no f => rw [e] at h; cases h
    | doc m' y' M' =>
      rw [e] at h
      dsimp only at h
      split at h
      · rename_i h2
        cases h
        exact ⟨h1, rfl, h2⟩
      · cases h
  · cases h
theorem apply_of (h1 : MayD Sty n x N) (h2 : doneN Sty N n x c = .doc m y M) (h3 : MayD Sty m y M) : applyN Sty N n x c = .doc m y M := by
  unfold applyN
  rw [if_pos h1, h2]
  dsimp only
  rw [if_pos h3]
/-- an insertion -/
structure Ins (Sty : List Lit → Prop) (N : Nat → RN) (n : Nat) (x : Int) (c : RC) (u p : Nat) (v : RN) : Prop where
  gap : gapN N n c.parent c.at_ = some (u, p)
  key : v.key = x
  depth : v.depth = (N u).depth + 1
  kind : v.kind = c.node.kind
  box : v.kind = 0 → v = ⟨x, (N u).depth + 1, 0, c.node.style, []⟩ ∧ Sty c.node.style
  text : v.kind ≠ 0 → v = ⟨x, (N u).depth + 1, 1, noStyle, c.node.text⟩
theorem ins_of (h : insertedN Sty N n x c = .doc m y M) : ∃ u p v, Ins Sty N n x c u p v ∧ m = n + 1 ∧ y = x + 1 ∧ M = putN N p 1 fun _ => v := by
  unfold insertedN at h
  cases e : gapN N n c.parent c.at_ with
  | none => rw [e] at h; cases h
  | some up =>
    obtain ⟨u, p⟩ := up
    rw [e] at h
    dsimp only at h
    split at h
    · rename_i k0
      split at h
      · rename_i st
        cases h
        exact ⟨u, p, _, ⟨e, rfl, rfl, k0.symm, fun _ => ⟨rfl, st⟩, fun h => absurd rfl h⟩, rfl, rfl, rfl⟩
      · cases h
    · split at h
      · rename_i k1
        cases h
        exact ⟨u, p, _, ⟨e, rfl, rfl, k1.symm, fun h => (by cases h), fun _ => rfl⟩, rfl, rfl, rfl⟩
      · cases h
/-- a change of a node -/
structure Oth (Sty : List Lit → Prop) (N : Nat → RN) (c : RC) (a : Nat) (v : RN) : Prop where
  key : v.key = (N a).key
  depth : v.depth = (N a).depth
  kind : v.kind = (N a).kind
  style : c.kind = 4 → v = { N a with style := c.node.style } ∧ (N a).kind = 0 ∧ Sty c.node.style
  text : c.kind ≠ 4 → v = { N a with text := c.node.text } ∧ (N a).kind = 1
theorem oth_of {a : Nat} (h : otherN Sty N n x c a = .doc m y M) : ∃ v, Oth Sty N c a v ∧ m = n ∧ y = x ∧ M = setN N a v := by
  unfold otherN at h
  split at h
  · rename_i k4
    split at h
    · rename_i b
      split at h
      · rename_i st
        cases h
        exact ⟨{ N a with style := c.node.style }, ⟨rfl, rfl, rfl, fun _ => ⟨rfl, b, st⟩, fun h => absurd k4 h⟩, rfl, rfl, rfl⟩
      · cases h
    · cases h
  · rename_i k4
    split at h
    · rename_i b
      cases h
      exact ⟨{ N a with text := c.node.text }, ⟨rfl, rfl, rfl, fun h => absurd h k4, fun _ => ⟨rfl, b⟩⟩, rfl, rfl, rfl⟩
    · cases h
theorem moved_of {a : Nat} (h : movedN N n x c a = .doc m y M) : ∃ u p, gapN (gapped N a (sizeN N n a)) (n - sizeN N n a) c.parent c.at_ = some (u, p) ∧ m = n ∧ y = x ∧
    M = putN (gapped N a (sizeN N n a)) p (sizeN N n a) (levelN (fun i => N (a + i)) ((gapped N a (sizeN N n a) u).depth + 1)) := by
  unfold movedN at h
  cases e : gapN (gapped N a (sizeN N n a)) (n - sizeN N n a) c.parent c.at_ with
  | none => rw [e] at h; cases h
  | some up =>
    obtain ⟨u, p⟩ := up
    rw [e] at h
    cases h
    exact ⟨u, p, rfl, rfl, rfl, rfl⟩
/-- the kinds of a change that is done -/
theorem done_of (h : doneN Sty N n x c = .doc m y M) :
    (c.kind = 1 ∧ ∃ u p v, Ins Sty N n x c u p v ∧ m = n + 1 ∧ y = x + 1 ∧ M = putN N p 1 fun _ => v) ∨
    ∃ a, findN N n c.key = some a ∧ y = x ∧ ((c.kind = 2 ∧ 0 < a ∧ m = n - sizeN N n a ∧ M = gapped N a (sizeN N n a)) ∨
      (c.kind = 3 ∧ 0 < a ∧ m = n ∧ ∃ u p, gapN (gapped N a (sizeN N n a)) (n - sizeN N n a) c.parent c.at_ = some (u, p) ∧
        M = putN (gapped N a (sizeN N n a)) p (sizeN N n a) (levelN (fun i => N (a + i)) ((gapped N a (sizeN N n a) u).depth + 1))) ∨
      ((c.kind = 4 ∨ c.kind = 5) ∧ m = n ∧ ∃ v, Oth Sty N c a v ∧ M = setN N a v)) := by
  unfold doneN at h
  split at h
  · rename_i k
    exact .inl ⟨k, ins_of h⟩
  · right
    cases e : findN N n c.key with
    | none => rw [e] at h; cases h
    | some a =>
      rw [e] at h
      dsimp only at h
      split at h
      · rename_i k
        cases h
        exact ⟨a, rfl, rfl, .inl ⟨k.1, k.2, rfl, rfl⟩⟩
      · split at h
        · rename_i k
          obtain ⟨u, p, g, rfl, rfl, e⟩ := moved_of h
          exact ⟨a, rfl, rfl, .inr (.inl ⟨k.1, k.2, rfl, u, p, g, e⟩)⟩
        · split at h
          · rename_i k
            obtain ⟨v, o, rfl, rfl, e⟩ := oth_of h
            exact ⟨a, rfl, rfl, .inr (.inr ⟨k, rfl, v, o, e⟩)⟩
          · cases h
theorem Shape.find (h : Shape n x N) {i : Nat} (hi : i < n) : findN N n (N i).key = some i := find_only (h.only hi) hi
/-- a tree put where a kid of that number would stand -/
theorem put_at {u p t k : Nat} {q : Nat → Int} (hs : Steps (dps N) n) (hu : u < n) (hg : GapAt (dps N) n u t p) (k0 : 0 < k) (q0 : q 0 = dps N u + 1)
    (qd : ∀ i, 0 < i → i < k → q 0 < q i) (qs : ∀ i, 0 < i → i < k → q i ≤ q (i - 1) + 1) : PutAt (dps N) n u p k q := by
  obtain ⟨f1, f2, f3, f4⟩ := hg.facts hs hu
  exact ⟨hs, f1, f2, k0, f3, f4, q0, qd, qs⟩
theorem Ins.at_ {u p : Nat} {v : RN} (i : Ins Sty N n x c u p v) (hs : Steps (dps N) n) : PutAt (dps N) n u p 1 (dps fun _ => v) := by
  obtain ⟨-, hu, -, -, -, hg⟩ := gap_told i.gap
  exact put_at hs hu hg (by omega) i.depth (fun _ _ _ => by omega) fun _ _ _ => by omega
theorem MayD.next (h : MayD Sty n x N) (hx : x ≤ y) (hy : y ≤ 1073741825) : MayD Sty n y N := by
  refine ⟨?_, h.sty, h.under, h.flex⟩
  have s := h.shape
  exact ⟨s.some_, s.most, hy, s.steps, s.deep, s.kind, s.first, s.behind, fun i hi => ⟨(s.key i hi).1, by have := (s.key i hi).2; omega⟩, s.once, s.box, s.text, s.bytes⟩
/-- what was inserted, and is removed -/
theorem back_ins (hk : c.kind = 1) (h : applyN Sty N n x c = .doc m y M) {g : RC} (gk : g.kind = 2) (gx : g.key = x) : applyN Sty M m y g = .doc n y N := by
  obtain ⟨h1, h2, h3⟩ := apply_doc h
  rcases done_of h2 with ⟨-, u, p, v, i, rfl, rfl, rfl⟩ | ⟨a, -, -, ⟨k, -⟩ | ⟨k, -⟩ | ⟨k, -⟩⟩
  · have pa := i.at_ h1.shape.steps
    have hp := pa.up
    have hn := pa.pn
    have ep : putN N p 1 (fun _ => v) p = v := putN_in (i := 0) (by omega)
    have f : findN (putN N p 1 fun _ => v) (n + 1) x = some p := by
      have := h3.shape.find (i := p) (by omega)
      rwa [ep, i.key] at this
    have sz : sizeN (putN N p 1 fun _ => v) (n + 1) p = 1 := by
      unfold sizeN
      rw [dps_put, pa.ends]
      omega
    refine apply_of h3 ?_ (h1.next (by omega) h3.shape.next)
    unfold doneN
    rw [if_neg (by omega), gx, f]
    dsimp only
    rw [if_pos ⟨gk, by omega⟩, sz, gapped_put]
    rfl
  all_goals omega
/-- a node that was changed, and is set back -/
theorem back_oth (hk : c.kind = 4 ∨ c.kind = 5) (h : applyN Sty N n x c = .doc m y M) {g : RC} {a : Nat} (ha : findN N n c.key = some a) (gk : g.kind = c.kind) (gx : g.key = c.key) (gn : g.node = N a) :
    applyN Sty M m y g = .doc n x N ∧ y = x := by
  obtain ⟨h1, h2, h3⟩ := apply_doc h
  rcases done_of h2 with ⟨k, -⟩ | ⟨b, e, rfl, ⟨k, -⟩ | ⟨k, -⟩ | ⟨-, rfl, v, o, rfl⟩⟩
  · omega
  · omega
  · omega
  · rw [ha] at e
    cases e
    obtain ⟨an, ak⟩ := find_some ha
    have ev : setN N a v a = v := if_pos rfl
    have back : setN (setN N a v) a (N a) = N := by
      funext j
      unfold setN
      split
      · rename_i h; rw [h]
      · rfl
    have f : findN (setN N a v) m g.key = some a := by
      have := h3.shape.find an
      rwa [ev, o.key, ak, ← gx] at this
    refine ⟨apply_of h3 ?_ h1, rfl⟩
    unfold doneN
    rw [if_neg (by omega), f]
    dsimp only
    rw [if_neg (by omega), if_neg (by omega), if_pos (by omega)]
    unfold otherN
    rw [ev, gn]
    rcases hk with k | k
    · obtain ⟨rfl, kd, st⟩ := o.style k
      rw [if_pos (by omega), if_pos kd, if_pos (h1.sty a an kd)]
      exact congrArg (Out7.doc m y) back
    · obtain ⟨rfl, kd⟩ := o.text (by omega)
      rw [if_neg (by omega), if_pos kd]
      exact congrArg (Out7.doc m y) back
end
end

section
open Go.RowKit

section
variable {Sty : List Lit → Prop} {N M : Nat → RN} {n m : Nat} {x y : Int} {c : RC}
theorem putN_congr {N A B : Nat → RN} {p k : Nat} (h : ∀ i, i < k → A i = B i) : putN N p k A = putN N p k B := by
  funext j
  unfold putN
  split
  · rfl
  · split
    · exact h _ (by omega)
    · rfl
theorem levelN_congr {A B : Nat → RN} {d : Int} {i : Nat} (h : A i = B i) (h0 : A 0 = B 0) : levelN A d i = levelN B d i := by
  unfold levelN
  rw [h, h0]
theorem size_told {a : Nat} (ha : a < n) : 0 < sizeN N n a ∧ a + sizeN N n a = endOf (dps N) n a ∧ a + sizeN N n a ≤ n := by
  have g := endOf_gt (dps N) ha
  unfold sizeN
  omega
/-- a tree that is moved -/
structure Mov (N : Nat → RN) (n a k u p v : Nat) : Prop where
  a0 : 0 < a
  k0 : 0 < k
  an : a + k ≤ n
  size : k = sizeN N n a
  par : parOf (dps N) a = v
  was : PutAt (dps (gapped N a k)) (n - k) v a k (dps fun i => N (a + i))
  now : PutAt (dps (gapped N a k)) (n - k) u p k (dps (levelN (fun i => N (a + i)) ((gapped N a k u).depth + 1)))
theorem mov_of {a u p : Nat} {key t : Int} (hs : Steps (dps N) n) (a0 : 0 < a) (ha : a < n) (g : gapN (gapped N a (sizeN N n a)) (n - sizeN N n a) key t = some (u, p)) :
    ∃ v, Mov N n a (sizeN N n a) u p v := by
  obtain ⟨v, e, was⟩ := cut_at hs a0 ha
  obtain ⟨k0, -, an⟩ := size_told (N := N) ha
  rw [← dps_gapped] at was
  have was' : PutAt (dps (gapped N a (sizeN N n a))) (n - sizeN N n a) v a (sizeN N n a) (dps fun i => N (a + i)) := was
  refine ⟨v, a0, k0, an, rfl, e, was', ?_⟩
  obtain ⟨-, hu, -, -, -, hg⟩ := gap_told g
  refine put_at was'.steps hu hg k0 ?_ (fun i h1 h2 => ?_) fun i h1 h2 => ?_
  · simp only [dps, levelN]
    omega
  · have := was'.qd i h1 h2
    simp only [dps, levelN] at this ⊢
    omega
  · have := was'.qs i h1 h2
    simp only [dps, levelN] at this ⊢
    omega
/-- a node with a kid is a box -/
theorem Shape.box_of (h : Shape n x N) {a v : Nat} (hv : v < a) (ha : a < n) (hd : ∀ j, v < j → j ≤ a → dps N v < dps N j) : (N v).kind = 0 := by
  rcases h.kind v (by omega) with k | k
  · exact k
  · have := h.behind v (by omega) k
    have := hd (v + 1) (by omega) (by omega)
    unfold dps at this
    omega
theorem put_back_same (N : Nat → RN) (a k : Nat) : putD (dps (gapped N a k)) a k (dps fun i => N (a + i)) = dps N := by
  rw [← dps_put, put_gapped]
/-- the number that the tree had among its parent's kids -/
theorem Mov.gap {a k u p v t : Nat} (h : Mov N n a k u p v) (ht : (kidsOf (dps N) n v)[t]? = some a) : GapAt (dps (gapped N a k)) (n - k) v t a := by
  have k0 := h.k0
  have an := h.an
  have hv := h.was.up
  have g : GapAt (dps (gapped N a k)) (n - k) v (kidsAhead (dps (gapped N a k)) v a).length a := by
    refine h.was.gap fun c => ?_
    have e1 : dps (gapped N a k) a = dps N (a + k) := by unfold dps; rw [gapped_ge (Nat.le_refl _)]
    have e2 : dps (gapped N a k) v = dps N v := by unfold dps; rw [gapped_lt hv]
    have e3 : a + k = endOf (dps N) n a := by rw [h.size]; exact (size_told (by omega)).2.1
    have d1 := endOf_deep (dps (gapped N a k)) (n := n - k) (a := v) (by have := h.was.pn; omega) hv c
    have hn := (endOf_gt (dps (gapped N a k)) (n := n - k) (a := v) (by have := h.was.pn; omega)).2
    have q0 := h.was.q0
    rw [e2] at q0 d1
    rw [e1] at d1
    rw [e1, e2]
    have q1 : dps (fun i => N (a + i)) 0 = dps N a := rfl
    rw [q1] at q0
    rcases endOf_stop (dps N) (n := n) (a := a) (by omega) with s | s
    · omega
    · rw [← e3] at s
      omega
  have kn := h.was.kids_new
  rw [put_back_same, show n - k + k = n by omega] at kn
  rw [kn] at ht
  have e : t = (kidsAhead (dps (gapped N a k)) v a).length := by
    rcases Nat.lt_trichotomy t (kidsAhead (dps (gapped N a k)) v a).length with c | c | c
    · rw [List.getElem?_append_left c] at ht
      have := List.mem_of_getElem? ht
      unfold kidsAhead at this
      simp only [List.mem_filter, List.mem_range'_1] at this
      omega
    · exact c
    · rw [List.getElem?_append_right (by omega)] at ht
      obtain ⟨s, hs⟩ : ∃ s, t - (kidsAhead (dps (gapped N a k)) v a).length = s + 1 := ⟨t - (kidsAhead (dps (gapped N a k)) v a).length - 1, by omega⟩
      rw [hs, List.getElem?_cons_succ] at ht
      have := List.mem_of_getElem? ht
      rw [List.mem_map] at this
      obtain ⟨b, hb, e⟩ := this
      unfold kidsBehind at hb
      simp only [List.mem_filter, List.mem_range'_1] at hb
      omega
  rw [e]
  exact g
/-- what was moved, and is moved back -/
theorem back_mov (hk : c.kind = 3) (h : applyN Sty N n x c = .doc m y M) {g : RC} {a v t : Nat} (ha : findN N n c.key = some a) (hv : parOf (dps N) a = v) (ht : (kidsOf (dps N) n v)[t]? = some a)
    (gk : g.kind = 3) (gx : g.key = c.key) (gp : g.parent = (N v).key) (ga : g.at_ = t) : applyN Sty M m y g = .doc n x N ∧ y = x := by
  obtain ⟨h1, h2, h3⟩ := apply_doc h
  rcases done_of h2 with ⟨k, -⟩ | ⟨b, e, rfl, ⟨k, -⟩ | ⟨-, a0, rfl, u, p, gp', rfl⟩ | ⟨k, -⟩⟩
  · omega
  · omega
  · rw [ha] at e
    cases e
    obtain ⟨an, ak⟩ := find_some ha
    obtain ⟨v', mv⟩ := mov_of h1.shape.steps a0 an gp'
    have : v' = v := by
      have := mv.par
      rw [hv] at this
      omega
    subst this
    generalize sizeN N m a = k at *
    have k0 := mv.k0
    have ak' := mv.an
    have hva := mv.was.up
    have hup := mv.now.up
    have hpn := mv.now.pn
    have mk : m - k + k = m := by omega
    have lv : gapped N a k v' = N v' := gapped_lt hva
    have inn : ∀ i, i < k → putN (gapped N a k) p k (levelN (fun i => N (a + i)) ((gapped N a k u).depth + 1)) (p + i) = levelN (fun i => N (a + i)) ((gapped N a k u).depth + 1) i := fun i hi => putN_in hi
    have f : findN (putN (gapped N a k) p k (levelN (fun i => N (a + i)) ((gapped N a k u).depth + 1))) m g.key = some p := by
      have := h3.shape.find (i := p) (by omega)
      have e0 := inn 0 k0
      rw [Nat.add_zero] at e0
      rw [e0] at this
      have e1 : (levelN (fun i => N (a + i)) ((gapped N a k u).depth + 1) 0).key = c.key := ak
      rwa [e1, ← gx] at this
    have sz : sizeN (putN (gapped N a k) p k (levelN (fun i => N (a + i)) ((gapped N a k u).depth + 1))) m p = k := by
      have := mv.now.ends
      rw [mk] at this
      unfold sizeN
      rw [dps_put, this]
      omega
    have fl : findN (gapped N a k) (m - k) (N v').key = some v' := by
      have : findN (gapped N a k) (m - k) (gapped N a k v').key = some v' := by
        refine find_only (fun j hj hne => ?_) (by omega)
        rw [lv]
        rcases Nat.lt_or_ge j a with cc | cc
        · rw [gapped_lt cc]
          exact h1.shape.only (by omega) j (by omega) hne
        · rw [gapped_ge cc]
          exact h1.shape.only (by omega) (j + k) (by omega) (by omega)
      rwa [lv] at this
    have dpv : dps N a = dps N v' + 1 := by
      have := mv.was.q0
      unfold dps at this ⊢
      rw [lv] at this
      exact this
    have bx : (gapped N a k v').kind = 0 := by
      rw [lv]
      refine h1.shape.box_of hva an fun j hj1 hj2 => ?_
      rcases Nat.lt_or_ge j a with cc | cc
      · have := mv.was.deep j hj1 cc
        unfold dps at this ⊢
        rw [lv, gapped_lt cc] at this
        exact this
      · obtain rfl : j = a := by omega
        omega
    have gg := gap_of fl bx (mv.gap ht)
    refine ⟨apply_of h3 ?_ h1, rfl⟩
    unfold doneN
    rw [if_neg (by omega), f]
    dsimp only
    rw [if_neg (by omega), if_pos ⟨gk, by omega⟩]
    unfold movedN
    rw [sz, gapped_put, gp, ga, gg]
    dsimp only
    congr 1
    refine Eq.trans (putN_congr (B := fun i => N (a + i)) fun i hi => ?_) (put_gapped N a k)
    have e0 := inn 0 k0
    have e1 := inn i hi
    rw [levelN_congr (A := fun i => putN (gapped N a k) p k (levelN (fun i => N (a + i)) ((gapped N a k u).depth + 1)) (p + i)) e1 e0, deep_deep, deep_same]
    rw [lv]
    exact dpv
  · omega
end
end

section
open Go.RowKit

/-- the key of a node's parent; 0: it has none -/
def keyUp (N : Nat → RN) (j : Nat) : Int := if parOf (dps N) j < 0 then 0 else (N (parOf (dps N) j).toNat).key
theorem keyUp_none {N : Nat → RN} {j : Nat} (h : parOf (dps N) j < 0) : keyUp N j = 0 := if_pos h
theorem keyUp_some {N : Nat → RN} {j u : Nat} (h : parOf (dps N) j = u) : keyUp N j = (N u).key := by
  unfold keyUp
  rw [h, if_neg (by omega), Int.toNat_natCast]
section
variable {Sty : List Lit → Prop} {L N M T : Nat → RN} {n m p k u : Nat} {x y : Int} {c : RC}
theorem put_shift (L T : Nat → RN) (p k j : Nat) : putN L p k T (shiftP p k j) = L j := by
  unfold shiftP
  split
  · rename_i h; exact putN_lt h
  · exact putN_ge (by omega)
theorem shift_bd {j : Nat} (h : j < n) : shiftP p k j < n + k := by
  unfold shiftP; split <;> omega
theorem shift_rise {i j : Nat} (h : i < j) : shiftP p k i < shiftP p k j := by
  unfold shiftP; split <;> split <;> omega
theorem shift_out {j : Nat} : shiftP p k j < p ∨ p + k ≤ shiftP p k j := by
  unfold shiftP; split <;> omega
/-- what stands outside of what is put stood somewhere -/
theorem shift_of {i : Nat} (hi : i < n + k) (h : i < p ∨ p + k ≤ i) (hp : p ≤ n) : ∃ j, j < n ∧ i = shiftP p k j := by
  rcases h with h | h
  · exact ⟨i, by omega, by unfold shiftP; rw [if_pos h]⟩
  · exact ⟨i - k, by omega, by unfold shiftP; rw [if_neg (by omega)]; omega⟩
/-- its parents stay -/
theorem put_up (h : PutAt (dps L) n u p k (dps T)) {j : Nat} (hj : j < n) : keyUp (putN L p k T) (shiftP p k j) = keyUp L j := by
  have hu := h.up
  rcases Nat.lt_or_ge j p with c | c
  · have es : shiftP p k j = j := by unfold shiftP; rw [if_pos c]
    rw [es]
    rcases Nat.eq_zero_or_pos j with rfl | j0
    · rw [keyUp_none (N := L) (by have := par_lt (dps L) 0; omega), keyUp_none (N := putN L p k T) (by have := par_lt (dps (putN L p k T)) 0; omega)]
    · have e := h.ahead j0 c
      obtain ⟨a, e1, e2, -⟩ := parent_told h.steps j0 hj
      rw [keyUp_some e1, keyUp_some (u := a) (by rw [dps_put, e, e1]), putN_lt (by omega)]
  · have es : shiftP p k j = j + k := by unfold shiftP; rw [if_neg (by omega)]
    obtain ⟨a, e1, e2⟩ := h.behind c hj
    rw [es, keyUp_some e1, keyUp_some (u := shiftP p k a) (by rw [dps_put, e2]), put_shift]
/-- below whom the root of what is put stands -/
theorem put_root (h : PutAt (dps L) n u p k (dps T)) : keyUp (putN L p k T) p = (L u).key := by
  rw [keyUp_some (u := u) (by rw [dps_put, h.root]), putN_lt h.up]
/-- after an insertion -/
theorem others_ins (hk : c.kind = 1) (h : applyN Sty N n x c = .doc m y M) : ∃ p, 0 < p ∧ p ≤ n ∧ m = n + 1 ∧ y = x + 1 ∧ (∀ j, j < n → M (shiftP p 1 j) = N j ∧ keyUp M (shiftP p 1 j) = keyUp N j) ∧
    (M p).key = x ∧ (M p).kind = c.node.kind ∧ keyUp M p = c.parent := by
  obtain ⟨h1, h2, h3⟩ := apply_doc h
  rcases done_of h2 with ⟨-, u, p, v, i, rfl, rfl, rfl⟩ | ⟨a, -, -, ⟨k, -⟩ | ⟨k, -⟩ | ⟨k, -⟩⟩
  · have pa := i.at_ h1.shape.steps
    have hp := pa.up
    have ep : putN N p 1 (fun _ => v) p = v := putN_in (i := 0) (by omega)
    refine ⟨p, by omega, pa.pn, rfl, rfl, fun j hj => ⟨put_shift N _ p 1 j, put_up pa hj⟩, by rw [ep, i.key], by rw [ep, i.kind], ?_⟩
    rw [put_root pa]
    exact (gap_told i.gap).2.2.1
  all_goals omega
/-- after a removal -/
theorem others_cut (hk : c.kind = 2) (h : applyN Sty N n x c = .doc m y M) : ∃ a k, findN N n c.key = some a ∧ 0 < a ∧ 0 < k ∧ a + k = endOf (dps N) n a ∧ a + k ≤ n ∧ m = n - k ∧ y = x ∧
    (∀ j, j < m → M j = N (shiftP a k j) ∧ keyUp M j = keyUp N (shiftP a k j)) ∧ ∀ i, a ≤ i → i < a + k → findN M m (N i).key = none := by
  obtain ⟨h1, h2, h3⟩ := apply_doc h
  rcases done_of h2 with ⟨k, -⟩ | ⟨a, e, rfl, ⟨-, a0, rfl, rfl⟩ | ⟨k, -⟩ | ⟨k, -⟩⟩
  · omega
  · obtain ⟨an, ak⟩ := find_some e
    obtain ⟨k0, k1, k2⟩ := size_told (N := N) an
    obtain ⟨v, -, was⟩ := cut_at h1.shape.steps a0 an
    rw [← dps_gapped] at was
    have was' : PutAt (dps (gapped N a (sizeN N n a))) (n - sizeN N n a) v a (sizeN N n a) (dps fun i => N (a + i)) := was
    have sh : ∀ j, gapped N a (sizeN N n a) j = N (shiftP a (sizeN N n a) j) := fun j => by
      have := put_shift (gapped N a (sizeN N n a)) (fun i => N (a + i)) a (sizeN N n a) j
      rw [put_gapped] at this
      exact this.symm
    refine ⟨a, _, e, a0, k0, k1, k2, rfl, rfl, fun j hj => ⟨sh j, ?_⟩, fun i hi1 hi2 => find_none.2 fun j hj he => ?_⟩
    · have := put_up was' hj
      rw [put_gapped] at this
      exact this.symm
    · rw [sh j] at he
      have b := shift_bd (p := a) (k := sizeN N n a) hj
      have o := shift_out (p := a) (k := sizeN N n a) (j := j)
      exact h1.shape.only (i := i) (by omega) (shiftP a (sizeN N n a) j) (by omega) (by omega) he
  all_goals omega
/-- after a move -/
theorem others_mov (hk : c.kind = 3) (h : applyN Sty N n x c = .doc m y M) : ∃ a k u p, findN N n c.key = some a ∧ 0 < a ∧ 0 < k ∧ a + k = endOf (dps N) n a ∧ a + k ≤ n ∧ m = n ∧ y = x ∧
    0 < p ∧ p + k ≤ n ∧ endOf (dps M) n p = p + k ∧ parOf (dps M) p = (u : Nat) ∧ keyUp M p = c.parent ∧ 0 ≤ c.at_ ∧ (kidsOf (dps M) n u)[c.at_.toNat]? = some p ∧
    (∀ j, j < n - k → M (shiftP p k j) = N (shiftP a k j) ∧ keyUp M (shiftP p k j) = keyUp N (shiftP a k j)) ∧
    ∀ i, i < k → M (p + i) = { N (a + i) with depth := (N (a + i)).depth + ((M p).depth - (N a).depth) } := by
  obtain ⟨h1, h2, h3⟩ := apply_doc h
  rcases done_of h2 with ⟨k, -⟩ | ⟨a, e, rfl, ⟨k, -⟩ | ⟨-, a0, rfl, u, p, g, rfl⟩ | ⟨k, -⟩⟩
  · omega
  · omega
  · obtain ⟨an, ak⟩ := find_some e
    obtain ⟨k0, k1, k2⟩ := size_told (N := N) an
    obtain ⟨v, mv⟩ := mov_of h1.shape.steps a0 an g
    obtain ⟨-, hu, gk, -, t0, gg⟩ := gap_told g
    generalize sizeN N m a = k at *
    have hp := mv.now.up
    have hpn := mv.now.pn
    have mk : m - k + k = m := by omega
    have en := mv.now.ends
    have num := mv.now.numbered gg
    rw [mk] at en num
    have was := fun {j} (hj : j < m - k) => put_up mv.was hj
    rw [put_gapped] at was
    have sh : ∀ j, gapped N a k j = N (shiftP a k j) := fun j => by
      have := put_shift (gapped N a k) (fun i => N (a + i)) a k j
      rw [put_gapped] at this
      exact this.symm
    refine ⟨a, k, u, p, e, a0, k0, k1, k2, rfl, rfl, by omega, by omega, by rw [dps_put]; exact en, by rw [dps_put, mv.now.root], ?_, t0, by rw [dps_put]; exact num, fun j hj => ⟨(put_shift _ _ p k j).trans (sh j), ?_⟩, fun i hi => ?_⟩
    · rw [put_root mv.now]; exact gk
    · rw [put_up mv.now hj, was hj]
    · have e0 : putN (gapped N a k) p k (levelN (fun i => N (a + i)) ((gapped N a k u).depth + 1)) p = levelN (fun i => N (a + i)) ((gapped N a k u).depth + 1) 0 := putN_in (i := 0) k0
      rw [putN_in hi, e0]
      simp only [levelN, RN.mk.injEq, true_and, and_true, Nat.add_zero]
      omega
  · omega
/-- after a change of a node -/
theorem others_set (hk : c.kind = 4 ∨ c.kind = 5) (h : applyN Sty N n x c = .doc m y M) : ∃ a v, findN N n c.key = some a ∧ m = n ∧ y = x ∧ M = setN N a v ∧ v = { N a with style := v.style, text := v.text } ∧ dps M = dps N ∧ ∀ j, keyUp M j = keyUp N j := by
  obtain ⟨h1, h2, h3⟩ := apply_doc h
  rcases done_of h2 with ⟨k, -⟩ | ⟨a, e, rfl, ⟨k, -⟩ | ⟨k, -⟩ | ⟨-, rfl, v, o, rfl⟩⟩
  · omega
  · omega
  · omega
  · have ev : v = { N a with style := v.style, text := v.text } := by
      obtain ⟨k, d, kd, s, t⟩ := v
      have := o.key
      have := o.depth
      have := o.kind
      simp_all
    have ek : ∀ j, (setN N a v j).key = (N j).key := fun j => by
      unfold setN
      split
      · rename_i h; rw [h]; exact o.key
      · rfl
    have ed : dps (setN N a v) = dps N := by
      funext j
      unfold dps setN
      split
      · rename_i h; rw [h]; exact o.depth
      · rfl
    refine ⟨a, v, e, rfl, rfl, rfl, ev, ed, fun j => ?_⟩
    unfold keyUp
    rw [ed, ek]
end
end

section
open Go.RowKit

section
variable {Sty : List Lit → Prop} {L N M T : Nat → RN} {n m p k u : Nat} {x y : Int} {c : RC}
theorem put_par (h : PutAt (dps L) n u p k (dps T)) {j : Nat} (j0 : 0 < j) (hj : j < n) : ∃ a : Nat, a < j ∧ parOf (dps L) j = a ∧ parOf (dps (putN L p k T)) (shiftP p k j) = shiftP p k a := by
  have hu := h.up
  obtain ⟨a, e1, e2, -⟩ := parent_told h.steps j0 hj
  refine ⟨a, e2, e1, ?_⟩
  rw [dps_put]
  rcases Nat.lt_or_ge j p with c | c
  · rw [show shiftP p k j = j by unfold shiftP; rw [if_pos c], h.ahead j0 c, e1, show shiftP p k a = a by unfold shiftP; rw [if_pos (by omega)]]
  · obtain ⟨b, e3, e4⟩ := h.behind c hj
    have : a = b := by omega
    rw [show shiftP p k j = j + k by unfold shiftP; rw [if_neg (by omega)], e4, this]
theorem shift_zero (hp : 0 < p) : shiftP p k 0 = 0 := by unfold shiftP; rw [if_pos hp]
/-- the boxes of DFlex above it stay -/
theorem put_chain (h : PutAt (dps L) n u p k (dps T)) : ∀ j, j < n → chain (putN L p k T) (shiftP p k j) = chain L j := by
  intro j
  induction j using Nat.strongRecOn with
  | _ j ih =>
    intro hj
    have hu := h.up
    rcases Nat.eq_zero_or_pos j with rfl | j0
    · rw [shift_zero (by omega), chain_root (N := L) (by have := par_lt (dps L) 0; omega), chain_root (N := putN L p k T) (by have := par_lt (dps (putN L p k T)) 0; omega), putN_lt (by omega)]
    · obtain ⟨a, h1, h2, h3⟩ := put_par h j0 hj
      rw [chain_up h3, chain_up h2, put_shift, ih a h1 (by omega)]
theorem put_chain_root (h : PutAt (dps L) n u p k (dps T)) : chain (putN L p k T) p = flexOf (T 0) + chain L u := by
  have hu := h.up
  have e : parOf (dps (putN L p k T)) p = u := by rw [dps_put, h.root]
  have e0 : putN L p k T p = T 0 := putN_in (i := 0) h.k0
  have es : shiftP p k u = u := by unfold shiftP; rw [if_pos hu]
  have := put_chain h u (by have := h.pn; omega)
  rw [es] at this
  rw [chain_up e, e0, this]
theorem bytesTo_same {N M : Nat → RN} : ∀ {n : Nat}, (∀ j, j < n → N j = M j) → bytesTo N n = bytesTo M n
  | 0, _ => rfl
  | n + 1, h => by rw [bytesTo, bytesTo, bytesTo_same fun j hj => h j (by omega), h n (by omega)]
theorem bytes_put (N T : Nat → RN) (p : Nat) : ∀ s, bytesTo (putN N p 1 T) (p + s + 1) = bytesTo N (p + s) + (T 0).text.length
  | 0 => by
    have e0 : putN N p 1 T p = T 0 := putN_in (i := 0) (by omega)
    rw [bytesTo, e0, Nat.add_zero, bytesTo_same (N := putN N p 1 T) (M := N) fun j hj => putN_lt hj]
  | s + 1 => by
    have ih := bytes_put N T p s
    have e0 : putN N p 1 T (p + s + 1) = N (p + s) := putN_ge (by omega)
    rw [show p + (s + 1) + 1 = (p + s + 1) + 1 by omega, bytesTo, ih, e0, show p + (s + 1) = p + s + 1 by omega, bytesTo]
    omega
/-- the first place below a node -/
theorem gap_first {dp : Nat → Int} (hs : Steps dp n) (hu : u < n) : GapAt dp n u 0 (u + 1) := by
  obtain ⟨g1, g2⟩ := endOf_gt dp hu
  unfold GapAt kidsOf
  rcases Nat.lt_or_ge (u + 1) (endOf dp n u) with c | c
  · left
    have d := endOf_deep dp hu (j := u + 1) (by omega) c
    have s := (hs.2 (u + 1) (by omega) (by omega)).2
    rw [show u + 1 - 1 = u by omega] at s
    obtain ⟨t, ht⟩ : ∃ t, endOf dp n u - (u + 1) = t + 1 := ⟨endOf dp n u - (u + 1) - 1, by omega⟩
    rw [ht, List.range'_succ, List.filter_cons_of_pos (by simp; omega)]
    rfl
  · right
    have e : endOf dp n u = u + 1 := by omega
    rw [e, Nat.sub_self]
    exact ⟨rfl, rfl⟩
/-- a text put first below a box -/
def textN (x d : Int) (t : List UInt8) : RN := ⟨x, d, 1, noStyle, t⟩
def Fine (N : Nat → RN) (n : Nat) (x : Int) (u : Nat) (t : List UInt8) : Prop :=
  dispOf (N u) ≠ 2 ∧ t.length ≤ 200 ∧ t.length + bytesTo N n ≤ 1500 ∧ (N u).depth < 15 ∧ n < 300 ∧ x ≤ 1073741824
theorem text_at (hs : Steps (dps N) n) (hu : u < n) (x : Int) (t : List UInt8) : PutAt (dps N) n u (u + 1) 1 (dps fun _ => textN x ((N u).depth + 1) t) :=
  put_at hs hu (gap_first hs hu) (by omega) rfl (fun _ _ _ => by omega) fun _ _ _ => by omega
theorem may_text (h : MayD Sty n x N) (hu : u < n) (hb : (N u).kind = 0) (t : List UInt8) : MayD Sty (n + 1) (x + 1) (putN N (u + 1) 1 fun _ => textN x ((N u).depth + 1) t) ↔ Fine N n x u t := by
  have pa := text_at h.shape.steps hu x t
  have ep : putN N (u + 1) 1 (fun _ => textN x ((N u).depth + 1) t) (u + 1) = textN x ((N u).depth + 1) t := putN_in (i := 0) (by omega)
  have eb := bytes_put N (fun _ => textN x ((N u).depth + 1) t) (u + 1) (n - (u + 1))
  rw [show u + 1 + (n - (u + 1)) = n by omega] at eb
  have eb : bytesTo (putN N (u + 1) 1 fun _ => textN x ((N u).depth + 1) t) (n + 1) = bytesTo N n + t.length := eb
  have pr : parOf (dps (putN N (u + 1) 1 fun _ => textN x ((N u).depth + 1) t)) (u + 1) = u := by rw [dps_put, pa.root]
  have eu : putN N (u + 1) 1 (fun _ => textN x ((N u).depth + 1) t) u = N u := putN_lt (by omega)
  have ec := put_chain_root pa
  have hch := put_chain pa
  have hpar := fun {j} (j0 : 0 < j) (hj : j < n) => put_par pa j0 hj
  have hsh := fun j => put_shift N (fun _ => textN x ((N u).depth + 1) t) (u + 1) 1 j
  have hst := pa.steps'
  rw [← dps_put] at hst
  have off : ∀ i, i < n + 1 → i = u + 1 ∨ ∃ j, j < n ∧ i = shiftP (u + 1) 1 j := fun i hi => by
    rcases Nat.lt_trichotomy i (u + 1) with c | c | c
    · exact .inr (shift_of hi (.inl c) (by omega))
    · exact .inl c
    · exact .inr (shift_of hi (.inr (by omega)) (by omega))
  generalize putN N (u + 1) 1 (fun _ => textN x ((N u).depth + 1) t) = M at *
  constructor
  · intro g
    have hk : (M (u + 1)).kind = 1 := by rw [ep]; rfl
    have g1 := g.under (u + 1) (by omega) hk u pr
    have g2 := (g.shape.text (u + 1) (by omega) hk).2
    have g3 := g.shape.bytes
    have g4 := g.shape.deep (u + 1) (by omega)
    have g5 := g.shape.most
    have g6 := g.shape.next
    rw [eu] at g1
    rw [ep] at g2 g4
    exact ⟨g1, g2, by omega, by have : (N u).depth + 1 ≤ 15 := g4; omega, by omega, by omega⟩
  · rintro ⟨f1, f2, f3, f4, f5, f6⟩
    have x0 := h.shape.key 0 h.shape.some_
    have olds : ∀ {P : RN → Prop}, P (textN x ((N u).depth + 1) t) → (∀ j, j < n → P (N j)) → ∀ i, i < n + 1 → P (M i) := fun {P} p0 pj i hi => by
      rcases off i hi with rfl | ⟨j, hj, rfl⟩
      · rw [ep]; exact p0
      · rw [hsh]; exact pj j hj
    refine ⟨⟨by omega, by omega, by omega, hst, ?_, ?_, ?_, ?_, ?_, ?_, ?_, ?_, by omega⟩, ?_, ?_, ?_⟩
    · exact olds (P := fun v => v.depth ≤ 15) (by show (N u).depth + 1 ≤ 15; omega) h.shape.deep
    · exact olds (P := fun v => v.kind = 0 ∨ v.kind = 1) (.inr rfl) h.shape.kind
    · have := hsh 0
      rw [shift_zero (by omega)] at this
      rw [this]; exact h.shape.first
    · intro i hi hk
      rcases off i (by omega) with rfl | ⟨j, hj, e⟩
      · rw [ep]
        show _ ≤ (N u).depth + 1
        rcases off (u + 1 + 1) hi with e | ⟨j, hj, e⟩
        · omega
        · have : j = u + 1 := by unfold shiftP at e; split at e <;> omega
          subst this
          rw [e, hsh]
          have := (h.shape.steps.2 (u + 1) (by omega) hj).2
          unfold dps at this
          rw [show u + 1 - 1 = u by omega] at this
          exact this
      · rw [e, hsh] at hk ⊢
        rw [← e]
        rcases off (i + 1) hi with e2 | ⟨l, hl, e2⟩
        · have : j = u := by unfold shiftP at e; split at e <;> omega
          rw [this] at hk
          omega
        · have : l = j + 1 ∨ (j = u ∧ l = u + 1) := by
            unfold shiftP at e e2
            split at e <;> split at e2 <;> omega
          rcases this with e3 | ⟨e3, e4⟩
          · rw [e2, hsh, e3]
            exact h.shape.behind j (by omega) hk
          · rw [e3] at hk
            omega
    · exact olds (P := fun v => 1 ≤ v.key ∧ v.key < x + 1) (by show 1 ≤ x ∧ x < x + 1; omega) fun j hj => by have := h.shape.key j hj; omega
    · intro i j hij hj
      have lt : ∀ {l}, l < n → (N l).key < x := fun hl => (h.shape.key _ hl).2
      rcases off i (by omega) with e | ⟨a, ha, e⟩ <;> rcases off j hj with e2 | ⟨b, hb2, e2⟩
      · omega
      · rw [e, e2, ep, hsh]
        have := lt hb2
        show x ≠ _
        omega
      · rw [e, e2, ep, hsh]
        have := lt ha
        show _ ≠ x
        omega
      · rw [e, e2, hsh, hsh]
        refine h.shape.once a b ?_ hb2
        unfold shiftP at e e2
        split at e <;> split at e2 <;> omega
    · exact olds (P := fun v => v.kind = 0 → v.text = []) (fun h => by cases h) h.shape.box
    · exact olds (P := fun v => v.kind = 1 → v.style = noStyle ∧ v.text.length ≤ 200) (fun _ => ⟨rfl, f2⟩) h.shape.text
    · exact olds (P := fun v => v.kind = 0 → Sty v.style) (fun h => by cases h) h.sty
    · intro i hi hk w hw
      rcases off i hi with rfl | ⟨j, hj, rfl⟩
      · rw [pr] at hw
        obtain rfl : u = w := by omega
        rw [eu]; exact f1
      · rcases Nat.eq_zero_or_pos j with rfl | j0
        · rw [shift_zero (by omega)] at hw
          have := par_lt (dps M) 0
          omega
        · obtain ⟨a, h1, h2, h3⟩ := hpar j0 hj
          rw [h3] at hw
          obtain rfl : shiftP (u + 1) 1 a = w := by omega
          rw [hsh] at hk ⊢
          exact h.under j hj hk a h2
    · intro i hi
      rcases off i hi with rfl | ⟨j, hj, rfl⟩
      · rw [ec]
        have : flexOf (textN x ((N u).depth + 1) t) = 0 := rfl
        rw [this, Nat.zero_add]
        exact h.flex u hu
      · rw [hch j hj]
        exact h.flex j hj
/-- a text put first below a node of that key -/
theorem apply_text (h : MayD Sty n x N) (hk : c.kind = 1) (hn : c.node.kind = 1) (ht : c.at_ = 0) :
    (∀ u, findN N n c.parent = some u → (N u).kind = 0 → Fine N n x u c.node.text → applyN Sty N n x c = .doc (n + 1) (x + 1) (putN N (u + 1) 1 fun _ => textN x ((N u).depth + 1) c.node.text)) ∧
    (∀ u, findN N n c.parent = some u → (N u).kind = 0 → ¬ Fine N n x u c.node.text → applyN Sty N n x c = .no 4) ∧
    ((∀ u, findN N n c.parent = some u → (N u).kind ≠ 0) → applyN Sty N n x c = .no 70) := by
  have main : ∀ u, findN N n c.parent = some u → (N u).kind = 0 → doneN Sty N n x c = .doc (n + 1) (x + 1) (putN N (u + 1) 1 fun _ => textN x ((N u).depth + 1) c.node.text) := fun u hf hb => by
    have g := gap_of hf hb (gap_first h.shape.steps (find_some hf).1)
    unfold doneN insertedN
    rw [if_pos hk, ht, show (0 : Int) = ((0 : Nat) : Int) from rfl, g]
    dsimp only
    rw [if_neg (by omega), if_pos hn]
    rfl
  refine ⟨fun u hf hb f => apply_of h (main u hf hb) ((may_text h (find_some hf).1 hb _).2 f), fun u hf hb f => ?_, fun hno => ?_⟩
  · unfold applyN
    rw [if_pos h, main u hf hb]
    dsimp only
    rw [if_neg fun g => f ((may_text h (find_some hf).1 hb _).1 g)]
  · unfold applyN doneN insertedN
    rw [if_pos h, if_pos hk]
    have : gapN N n c.parent c.at_ = none := by
      unfold gapN
      cases e : findN N n c.parent with
      | none => rfl
      | some u =>
        dsimp only
        rw [if_neg fun g => hno u e g.1]
    rw [this]
end
end
end Go.Proofs.Ytmodegkpfdlccaa
