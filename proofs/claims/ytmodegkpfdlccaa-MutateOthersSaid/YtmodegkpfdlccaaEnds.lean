/-
  tree.End, tree.Kids, tree.Parent of the landed code: ranges over a function.
-/
import Derived.RangeFuncBox
import Derived.Maps.AppendAt
import Derived.Test.YtmodegkpfdlccaaWithin
namespace Go.Proofs.Ytmodegkpfdlccaa
open Go.RowKit Go.Shelf
attribute [local go_sem] Oper.semAt_some

/-- the value that End's variable holds behind these places -/
def lastEnd (pre : List Nat) : Int := match pre.getLast? with | some x => (x : Int) + 1 | none => -1
theorem lastEnd_snoc (pre : List Nat) (x : Nat) : lastEnd (pre ++ [x]) = (x : Int) + 1 := by simp [lastEnd]
theorem lastEnd_within {N : Nat → RN} {n : Nat} {a : Int} : lastEnd (withinL N n a) = endAns N n a := by
  unfold endAns
  by_cases h : 0 ≤ a ∧ a < n
  · rw [if_pos h]
    obtain ⟨i, rfl⟩ := Int.eq_ofNat_of_zero_le h.1
    have hi : i < n := by omega
    have hg := endOf_gt (dps N) hi
    rw [withinL_yes hi]
    obtain ⟨m, hm⟩ : ∃ m, endOf (dps N) n i - i = m + 1 := ⟨endOf (dps N) n i - i - 1, by omega⟩
    rw [hm, ← upto_snoc, lastEnd_snoc, show ((i : Nat) : Int).toNat = i by omega]
    omega
  · rw [if_neg h, withinL_no h]; rfl

set_option maxRecDepth 100000 in
set_option maxHeartbeats 4000000 in
theorem end_any : EndOK := by
  intro A len c x N a w hD ha1 ha2
  have hlen : len ≤ 140737488351232 := by have := hD.1.2.2.2; omega
  refine (callsIn_wide (n := 4)).1 ?_
  unfold docV
  have DD := Lib.hid hD
  clear hD
  refine callsIn_of_wp_marks Try.func48 rfl trivial ?_ rfl
  simp only [Try.ntmps48, List.size_toArray, List.length_cons, List.length_nil, Nat.reduceAdd, Nat.reduceSub, Array.replicate_succ, Array.replicate_zero, List.push_toArray, List.append_toArray, List.nil_append, List.cons_append]
  gi_wp2_with (refine ⟨trivial, ?_⟩; gi_at_call 77; refine (callsIn_wide.2 (within_any A len c a _)).mono ?_; rintro e w' ⟨rfl, rfl⟩)
  have hB : Below w.heap.size w ((((w.alloc (.cells #[.slice A len c, .int .i64 x] 24)).alloc (.cells #[.int .i64 (-1)] 3)).alloc (.cells #[.slice A len c] 22)).alloc (.cells #[.int .i64 a] 3)) :=
    ((((Below.refl _ w).alloc (Nat.le_refl _) _).alloc (by simp only [World.size_alloc]; omega) _).alloc (by simp only [World.size_alloc]; omega) _).alloc (by simp only [World.size_alloc]; omega) _
  have hS : Seen A len c a N (w.heap.size + 1 + 1) (w.heap.size + 1 + 1 + 1) ((((w.alloc (.cells #[.slice A len c, .int .i64 x] 24)).alloc (.cells #[.int .i64 (-1)] 3)).alloc (.cells #[.slice A len c] 22)).alloc (.cells #[.int .i64 a] 3)) :=
    ⟨DD.out.1.1.below hB, by
      have := (Boxed.new ((w.alloc (.cells #[.slice A len c, .int .i64 x] 24)).alloc (.cells #[.int .i64 (-1)] 3)) 22 (.slice A len c)).alloc (.cells #[.int .i64 a] 3)
      simp only [World.size_alloc] at this
      exact this.cell, by
      have := Boxed.new (((w.alloc (.cells #[.slice A len c, .int .i64 x] 24)).alloc (.cells #[.int .i64 (-1)] 3)).alloc (.cells #[.slice A len c] 22)) 3 (.int .i64 a)
      simp only [World.size_alloc] at this
      exact this.cell⟩
  have hX : Boxed ((((w.alloc (.cells #[.slice A len c, .int .i64 x] 24)).alloc (.cells #[.int .i64 (-1)] 3)).alloc (.cells #[.slice A len c] 22)).alloc (.cells #[.int .i64 a] 3)) (w.heap.size + 1) 3 (.int .i64 (-1)) := by
    have := ((Boxed.new (w.alloc (.cells #[.slice A len c, .int .i64 x] 24)) 3 (.int .i64 (-1))).alloc (.cells #[.slice A len c] 22)).alloc (.cells #[.int .i64 a] 3)
    rwa [World.size_alloc] at this
  have hz : ((((w.alloc (.cells #[.slice A len c, .int .i64 x] 24)).alloc (.cells #[.int .i64 (-1)] 3)).alloc (.cells #[.slice A len c] 22)).alloc (.cells #[.int .i64 a] 3)).heap.size = w.heap.size + 4 := by simp
  generalize ((((w.alloc (.cells #[.slice A len c, .int .i64 x] 24)).alloc (.cells #[.int .i64 (-1)] 3)).alloc (.cells #[.slice A len c] 22)).alloc (.cells #[.int .i64 a] 3)) = W0 at hB hS hX hz ⊢
  have HZ := Lib.hid hz
  have BL := Lib.hid DD.out.1.1.block_lt
  clear hz
  refine wpIn_rangeFunc_ownG (w0 := W0) rfl (by omega) (gf := 86) (lb := #[.pointer (some ⟨w.heap.size + 1 + 1, 0, none⟩), .pointer (some ⟨w.heap.size + 1 + 1 + 1, 0, none⟩)]) rfl trivial (enters_of Try.func86 (by kernel_rfl) rfl)
    (within_stops 3 (by omega) A len c a N _ _ (KeepBut W0.heap.size (w.heap.size + 1)) (fun hs hk => hs.keepBut BL.out (by have := HZ.out; omega) (by omega) (by have := HZ.out; omega) (by have := HZ.out; omega) hk) hlen ha1 ha2 W0 (fun W hW => ?seen))
    KeepBut.trans (KeepBut.book (Nat.le_refl _)) (Below.refl _ _) (fun _ => rfl)
    (fun pre W => Boxed W (w.heap.size + 1) 3 (.int .i64 (lastEnd (pre.map (·.val)))) ∧ Below w.heap.size w W)
    (fun _ _ _ => False)
    (OwnFrom.and (Own.from (boxed_own (w.heap.size + 1) 3 (fun (pre : List (Fin len)) => .int .i64 (lastEnd (pre.map (·.val))))) _) (ownFrom_below (Nat.le_refl _) (by have := HZ.out; omega)))
    (fun _ _ _ _ _ hs _ _ => hs)
    ⟨hX, hB⟩
    (fun p => { tmps := #[.agg #[.slice A len c, .int .i64 x], .int .i64 a, .pointer (some ⟨w.heap.size, 0, none⟩), undef, .int .i64 0, .pointer (some ⟨w.heap.size + 1, 0, none⟩), .int .i64 ((p.val : Nat) : Int), .pointer (some ⟨w.heap.size, 0, none⟩), .slice A len c, .int .i64 a, .func (.func 86) #[] #[.pointer (some ⟨w.heap.size + 1 + 1, 0, none⟩), .pointer (some ⟨w.heap.size + 1 + 1 + 1, 0, none⟩)], .int .i64 ((p.val : Nat) : Int), undef, undef, undef], defers := [] }) ?assign ?body ?done ?stop
  case seen => exact ⟨hS.nodes.below hW, (hW.cell (p := ⟨w.heap.size + 1 + 1, 0, none⟩) (by have := HZ.out; show w.heap.size + 1 + 1 < _; omega)).trans hS.cn, (hW.cell (p := ⟨w.heap.size + 1 + 1 + 1, 0, none⟩) (by have := HZ.out; show w.heap.size + 1 + 1 + 1 < _; omega)).trans hS.ca⟩
  case assign =>
    intro l x W K hK
    dsimp only
    gi_wp2
    simpa using hK
  case body =>
    rintro l pre x W ⟨hv, hB⟩ hlt
    have hc := hv.cell
    have hf := hv.frozen
    have hx := x.isLt
    gi_wp2
    exact ⟨(KeepsOthers.setCell W _ _).from _, (KeepBut.refl _ _ _).setCell 0 _, by rw [List.map_append, List.map_singleton, lastEnd_snoc]; exact hv.set _, hB.setCell (p := ⟨w.heap.size + 1, 0, none⟩) (Nat.le_succ _) _⟩
  case done =>
    rintro D ys W hD hy ⟨hv, hB⟩ hK
    have hc := hv.cell
    have EE := Lib.hid (lastEnd_within (N := N) (n := len) (a := a))
    rw [hy] at hc
    have HZ2 := HZ.out
    gi_wp2
    refine ⟨by simp, .inl ⟨_, _, rfl, run_takeDeferred hK, ?_⟩⟩
    exact ⟨_, results_tmp rfl _ _ _, by rw [← EE.out]; rfl, hB.trans (belowK_b (w := w) (Nat.le_refl _) W D _ _ (by omega) hK rfl rfl)⟩
  case stop =>
    rintro D c pre W _ _ h _
    exact h.elim

theorem ownFrom_keepBut {β : Type} {B O : Nat} {W0 : World} (hB : B ≤ W0.heap.size) : OwnFrom B (fun (_ : β) W => KeepBut B O W0 W) := fun _ W W' row hs hg hr =>
  ⟨Nat.le_trans hs.size hg.size, fun k h1 h2 => (hg.block k (by have := hs.size; omega) (fun e => by have := (hr k e.symm).1; omega)).trans (hs.block k h1 h2)⟩

/-- the first place ahead that is one less deep is the parent -/
theorem par_stop {N : Nat → RN} {n i : Nat} (hi : i < n) {qs : List (Fin n)} {p : Fin n} (hp : ((qs ++ [p]).map (·.val)) <+: aheadL n i) (hd : (N p.val).depth + 1 = (N i).depth) (hq : ∀ q ∈ qs, (N q.val).depth + 1 ≠ (N i).depth) : parOf (dps N) i = p.val := by
  rw [aheadL_yes hi] at hp
  obtain ⟨t, ht⟩ := hp
  have get : ∀ m, m < qs.length + 1 → ((qs ++ [p]).map (·.val))[m]? = some (i - 1 - m) ∧ m < i := fun m hm => by
    have hl : m < ((qs ++ [p]).map (·.val)).length := by simp; omega
    have h1 : ((List.range i).reverse)[m]? = ((qs ++ [p]).map (·.val))[m]? := by rw [← ht, List.getElem?_append_left hl]
    have hmi : m < i := by
      rcases Nat.lt_or_ge m i with h | h
      · exact h
      · rw [List.getElem?_eq_none (by simp; omega), List.getElem?_eq_getElem hl] at h1
        cases h1
    rw [← h1, List.getElem?_reverse (by simp; omega), List.length_range, List.getElem?_range (by omega)]
    exact ⟨rfl, hmi⟩
  have h0 := get qs.length (by omega)
  have hpv : p.val = i - 1 - qs.length := by simpa using h0.1
  refine parOf_eq (dps N) (by omega) hd fun j hj1 hj2 => ?_
  have h2 := get (i - 1 - j) (by omega)
  rw [List.map_append, List.getElem?_append_left (by simp; omega), List.getElem?_map] at h2
  obtain ⟨q, hq1, hq2⟩ := Option.map_eq_some_iff.1 h2.1
  have := hq q (List.mem_of_getElem? hq1)
  have e : q.val = j := by omega
  rw [e] at this
  exact this
theorem par_none {N : Nat → RN} {n i : Nat} (hi : i < n) {ys : List (Fin n)} (hy : ys.map (·.val) = aheadL n i) (hq : ∀ q ∈ ys, (N q.val).depth + 1 ≠ (N i).depth) : parOf (dps N) i = -1 := by
  rcases parFrom_cases (dps N) (dps N i) i with ⟨h1, -⟩ | ⟨p, -, h2, h3, -⟩
  · exact h1
  · exfalso
    have hm : p ∈ ys.map (·.val) := by rw [hy, aheadL_yes hi]; simpa using h2
    obtain ⟨q, hq1, rfl⟩ := List.mem_map.1 hm
    exact hq q hq1 h3

/-- where Parent's and Kids' loops begin -/
structure Start (A : Option Addr) (n c : Nat) (a : Int) (N : Nat → RN) (t : TypeId) (v : Value) (w W : World) : Prop where
  below : Below w.heap.size w W
  nodes : Nodes W A n N
  c0 : W.cell? ⟨w.heap.size, 0, none⟩ = some (.slice A n c)
  c1 : W.cell? ⟨w.heap.size + 1, 0, none⟩ = some (.int .i64 a)
  box : Boxed W (w.heap.size + 2) t v
  seen : Seen A n c a N (w.heap.size + 3) (w.heap.size + 4) W
  size : W.heap.size = w.heap.size + 5
  lt : ∀ b off, A = some ⟨b, off, none⟩ → 0 < n → b < w.heap.size
theorem start_of {A : Option Addr} {n c : Nat} {x : Int} {N : Nat → RN} {w : World} (h : DocIn w A n c x N) (a : Int) (t : TypeId) (v : Value) :
    Start A n c a N t v w (((((w.alloc (.cells #[.slice A n c, .int .i64 x] 24)).alloc (.cells #[.int .i64 a] 3)).alloc (.cells #[v] t)).alloc (.cells #[.slice A n c] 22)).alloc (.cells #[.int .i64 a] 3)) := by
  have hB : Below w.heap.size w (((((w.alloc (.cells #[.slice A n c, .int .i64 x] 24)).alloc (.cells #[.int .i64 a] 3)).alloc (.cells #[v] t)).alloc (.cells #[.slice A n c] 22)).alloc (.cells #[.int .i64 a] 3)) :=
    (((((Below.refl _ w).alloc (Nat.le_refl _) _).alloc (by simp only [World.size_alloc]; omega) _).alloc (by simp only [World.size_alloc]; omega) _).alloc (by simp only [World.size_alloc]; omega) _).alloc (by simp only [World.size_alloc]; omega) _
  have old : ∀ {W : World} {p : Addr} {v : Value} (o : Obj), W.cell? p = some v → (W.alloc o).cell? p = some v := fun o h => (World.cell?_alloc_lt _ o _ (lt_of_cell h)).trans h
  have k0 : (w.alloc (.cells #[.slice A n c, .int .i64 x] 24)).cell? ⟨w.heap.size, 0, none⟩ = some (.slice A n c) := by simp
  have k1 := (Boxed.new (w.alloc (.cells #[.slice A n c, .int .i64 x] 24)) 3 (.int .i64 a)).cell
  have k2 := Boxed.new ((w.alloc (.cells #[.slice A n c, .int .i64 x] 24)).alloc (.cells #[.int .i64 a] 3)) t v
  have k3 := (Boxed.new (((w.alloc (.cells #[.slice A n c, .int .i64 x] 24)).alloc (.cells #[.int .i64 a] 3)).alloc (.cells #[v] t)) 22 (.slice A n c)).cell
  have k4 := (Boxed.new ((((w.alloc (.cells #[.slice A n c, .int .i64 x] 24)).alloc (.cells #[.int .i64 a] 3)).alloc (.cells #[v] t)).alloc (.cells #[.slice A n c] 22)) 3 (.int .i64 a)).cell
  simp only [World.size_alloc] at k1 k2 k3 k4
  exact ⟨hB, h.1.1.below hB, old _ (old _ (old _ (old _ k0))), old _ (old _ (old _ k1)), (k2.alloc _).alloc _, ⟨h.1.1.below hB, old _ k3, k4⟩, by simp only [World.size_alloc], h.1.1.block_lt⟩

/-- what a round of theirs reads -/
theorem Start.reads {A : Option Addr} {n c : Nat} {a : Int} {N : Nat → RN} {t : TypeId} {v : Value} {w W0 W : World} (h : Start A n c a N t v w W0) (hk : KeepBut W0.heap.size (w.heap.size + 2) W0 W) :
    Nodes W A n N ∧ W.cell? ⟨w.heap.size, 0, none⟩ = some (.slice A n c) ∧ W.cell? ⟨w.heap.size + 1, 0, none⟩ = some (.int .i64 a) := by
  have hz := h.size
  exact ⟨h.nodes.keepBut h.lt (by omega) (by omega) hk, (hk.cell (by omega) (by omega)).trans h.c0, (hk.cell (by omega) (by omega)).trans h.c1⟩
theorem Start.seen_keep {A : Option Addr} {n c : Nat} {a : Int} {N : Nat → RN} {t : TypeId} {v : Value} {w W0 : World} (h : Start A n c a N t v w W0) {W W' : World} (hs : Seen A n c a N (w.heap.size + 3) (w.heap.size + 4) W) (hk : KeepBut W0.heap.size (w.heap.size + 2) W W') :
    Seen A n c a N (w.heap.size + 3) (w.heap.size + 4) W' := by
  have hz := h.size
  exact hs.keepBut h.lt (by omega) (by omega) (by omega) (by omega) hk
theorem Start.seen_later {A : Option Addr} {n c : Nat} {a : Int} {N : Nat → RN} {t : TypeId} {v : Value} {w W0 : World} (h : Start A n c a N t v w W0) (W : World) (hW : Below W0.heap.size W0 W) : Seen A n c a N (w.heap.size + 3) (w.heap.size + 4) W := by
  have hz := h.size
  exact ⟨h.seen.nodes.below hW, (hW.cell (p := ⟨w.heap.size + 3, 0, none⟩) (by show w.heap.size + 3 < _; omega)).trans h.seen.cn, (hW.cell (p := ⟨w.heap.size + 4, 0, none⟩) (by show w.heap.size + 4 < _; omega)).trans h.seen.ca⟩

theorem results_box {fn : Func} {p : Tmp} (h : fn.results = #[.cell p 3]) (tmps : Array Value) (w : World) (g : Nat) (v : Int) (hp : tmps.getD p undef = .pointer (some ⟨g, 0, none⟩)) (hb : Boxed w g 3 (.int .i64 v)) :
    (results fn tmps).run Try.prog w = .ok (.int .i64 v) w := by
  have hc := hb.cell
  have hp' : tmps[p]?.getD undef = .pointer (some ⟨g, 0, none⟩) := by simpa using hp
  simp [results, h, hp', go_sem, hc]
theorem boxed_put {W : World} {B : Nat} {t : TypeId} {v : Value} (h : Boxed W B t v) {D : Nat} {o o' : Obj} (hk : W.heap[D]? = some o) (ho : o.isCells = false) : Boxed (W.putObj D o') B t v :=
  h.kept (grownBy_putObj' W D o') (fun e => by
    cases e
    rw [show W.heap[B]? = _ from h] at hk
    cases hk
    cases ho)

def ParIx (N : Nat → RN) {len : Nat} (a : Int) (B : Nat) (w : World) (c : Code) (pre : List (Fin len)) (W : World) : Prop :=
  c = .ret ∧ (∃ qs p, pre = qs ++ [p] ∧ (N p.val).depth + 1 = (N a.toNat).depth ∧ (∀ q ∈ qs, (N q.val).depth + 1 ≠ (N a.toNat).depth) ∧ Boxed W B 3 (.int .i64 ((p.val : Nat) : Int))) ∧ Below w.heap.size w W

end Go.Proofs.Ytmodegkpfdlccaa
