/-
  The law MutateOthers: where each node is found behind a change.
-/
import Derived.Test.YtmodegkpfdlccaaMutMovedW
namespace Go.Proofs.Ytmodegkpfdlccaa
open Go.RowKit

/-- where a node of a document is found behind a change, and how many have been found -/
structure Kept (N : Nat → RN) (n : Nat) (x : Int) (c : RC) (root : Int) (m : Nat) (M : Nat → RN) (F : Nat → Int) (C : Nat → Nat) : Prop where
  found : ∀ i, i < n → FindIs M m (N i).key (F i)
  c0 : C 0 = 0
  away : ∀ i, i < n → goneB N n c.kind root i = true → (c.kind = 2 ∧ F i = -1 ∧ C (i + 1) = C i) ∨ (c.kind ≠ 2 ∧ 0 ≤ F i ∧ C (i + 1) = C i + 1)
  stay : ∀ i, i < n → goneB N n c.kind root i = false → C (i + 1) = C i + 1 ∧ ∃ f : Nat, F i = f ∧ f < m ∧ keyUp M f = keyUp N i ∧
    (((c.kind = 4 ∨ c.kind = 5) ∧ (N i).key = c.key ∧ M f = { N i with style := (M f).style, text := (M f).text }) ∨ (¬ ((c.kind = 4 ∨ c.kind = 5) ∧ (N i).key = c.key) ∧ M f = N i))
  rise : ∀ i j, i < j → j < n → goneB N n c.kind root i = false → goneB N n c.kind root j = false → F i < F j
  all : C n + (if c.kind = 1 then 1 else 0) = m
  made : c.kind = 1 → ∃ p : Nat, FindIs M m x p ∧ p < m ∧ keyUp M p = c.parent ∧ (M p).kind = c.node.kind

theorem gone_no {N : Nat → RN} {n : Nat} {k root a : Int} (h2 : k ≠ 2) (h3 : k ≠ 3) : goneB N n k root a = false := decide_eq_false fun h => by have := h.1; omega
theorem kept_ins {Sty : List Lit → Prop} {N M : Nat → RN} {n m : Nat} {x y : Int} {c : RC} {root : Int} (hk : c.kind = 1) (h : applyN Sty N n x c = .doc m y M) : ∃ F C, Kept N n x c root m M F C := by
  obtain ⟨-, -, hM⟩ := apply_doc h
  obtain ⟨p, p0, pn, rfl, rfl, hs, e1, e2, e3⟩ := others_ins hk h
  have hf : ∀ i, i < n → findN M (n + 1) (N i).key = some (shiftP p 1 i) := fun i hi => by
    have := hM.shape.find (shift_bd (p := p) (k := 1) hi)
    rwa [(hs i hi).1] at this
  refine ⟨fun i => (shiftP p 1 i : Nat), fun i => i, fun i hi => find_at (hf i hi), rfl, fun i hi hg => ?_, fun i hi _ => ⟨rfl, _, rfl, shift_bd hi, (hs i hi).2, .inr ⟨by omega, (hs i hi).1⟩⟩, fun i j hij hj _ _ => by have := shift_rise (p := p) (k := 1) hij; omega, by rw [if_pos hk], fun _ => ⟨p, ?_, by omega, e3, e2⟩⟩
  · rw [gone_no (by omega) (by omega)] at hg
    cases hg
  · have := hM.shape.find (i := p) (by omega)
    rw [e1] at this
    exact find_at this
theorem kept_set {Sty : List Lit → Prop} {N M : Nat → RN} {n m : Nat} {x y : Int} {c : RC} {root : Int} (hk : c.kind = 4 ∨ c.kind = 5) (h : applyN Sty N n x c = .doc m y M) : ∃ F C, Kept N n x c root m M F C := by
  obtain ⟨hN, -, hM⟩ := apply_doc h
  obtain ⟨a, v, fa, rfl, rfl, rfl, ev, -, hu⟩ := others_set hk h
  obtain ⟨am, ak⟩ := find_some fa
  have kv : v.key = (N a).key := by rw [ev]
  have ek : ∀ j, (setN N a v j).key = (N j).key := fun j => by
    unfold setN
    split
    · rename_i h; rw [h]; exact kv
    · rfl
  refine ⟨fun i => (i : Nat), fun i => i, fun i hi => ?_, rfl, fun i hi hg => ?_, fun i hi _ => ⟨rfl, i, rfl, hi, hu i, ?_⟩, fun i j hij hj _ _ => by omega, by rw [if_neg (by omega)]; rfl, fun h1 => by omega⟩
  · have := hM.shape.find hi
    rw [ek i] at this
    exact find_at this
  · rw [gone_no (by omega) (by omega)] at hg
    cases hg
  · by_cases hia : i = a
    · subst hia
      refine .inl ⟨hk, ak, ?_⟩
      have e : setN N i v i = v := if_pos rfl
      rw [e]
      exact ev
    · refine .inr ⟨fun h => ?_, by unfold setN; rw [if_neg hia]⟩
      exact hN.shape.only am i hi hia (h.2.trans ak.symm)
theorem gone_at {N : Nat → RN} {n a k i : Nat} {c : RC} {root : Int} (hk : c.kind = 2 ∨ c.kind = 3) (hr : FindIs N n c.key root) (fa : findN N n c.key = some a) (ea : a + k = endOf (dps N) n a) : goneB N n c.kind root i = true ↔ a ≤ i ∧ i < a + k := by
  have e := FindIs.uniq hr (find_at fa)
  subst e
  unfold goneB
  rw [decide_eq_true_iff, end_of N (find_some fa).1, ← ea]
  constructor
  · rintro ⟨-, h1, h2⟩; omega
  · rintro ⟨h1, h2⟩; exact ⟨hk, by omega, by omega⟩
theorem gone_at_no {N : Nat → RN} {n a k i : Nat} {c : RC} {root : Int} (hk : c.kind = 2 ∨ c.kind = 3) (hr : FindIs N n c.key root) (fa : findN N n c.key = some a) (ea : a + k = endOf (dps N) n a) (hg : goneB N n c.kind root i = false) : i < a ∨ a + k ≤ i := by
  have := gone_at (i := i) hk hr fa ea
  rw [hg] at this
  have : ¬ (a ≤ i ∧ i < a + k) := fun h => by have := this.2 h; cases this
  omega
theorem find_no {N : Nat → RN} {n : Nat} {key : Int} (h : findN N n key = none) : FindIs N n key (-1) := by
  have := find_is N n key
  rwa [h] at this
theorem kept_cut {Sty : List Lit → Prop} {N M : Nat → RN} {n m : Nat} {x y : Int} {c : RC} {root : Int} (hk : c.kind = 2) (h : applyN Sty N n x c = .doc m y M) (hr : FindIs N n c.key root) : ∃ F C, Kept N n x c root m M F C := by
  obtain ⟨-, -, hM⟩ := apply_doc h
  obtain ⟨a, k, fa, a0, k0, ea, ak, rfl, rfl, hs, hz⟩ := others_cut hk h
  have lo : ∀ i, i < a → shiftP a k i = i := fun i hi => by unfold shiftP; rw [if_pos hi]
  have hi' : ∀ i, a + k ≤ i → shiftP a k (i - k) = i := fun i hi => by unfold shiftP; rw [if_neg (by omega)]; omega
  refine ⟨fun i => if i < a then (i : Int) else if i < a + k then -1 else ((i - k : Nat) : Int), fun i => if i ≤ a then i else if i ≤ a + k then a else i - k, fun i hi => ?_, by rw [if_pos (by omega)], fun i hi hg => ?_, fun i hi hg => ?_, fun i j hij hj hgi hgj => ?_, ?_, fun h1 => by omega⟩
  · skip
    by_cases h1 : i < a
    · rw [if_pos h1]
      have := hM.shape.find (i := i) (by omega)
      rw [(hs i (by omega)).1, lo i h1] at this
      exact find_at this
    · rw [if_neg h1]
      by_cases h2 : i < a + k
      · rw [if_pos h2]
        exact find_no (hz i (by omega) h2)
      · rw [if_neg h2]
        have := hM.shape.find (i := i - k) (by omega)
        rw [(hs (i - k) (by omega)).1, hi' i (by omega)] at this
        exact find_at this
  · obtain ⟨g1, g2⟩ := (gone_at (.inl hk) hr fa ea).1 hg
    refine .inl ⟨hk, ?_, ?_⟩
    · rw [if_neg (by omega), if_pos g2]
    · skip
      rw [if_neg (show ¬ i + 1 ≤ a by omega), if_pos (show i + 1 ≤ a + k by omega)]
      by_cases h1 : i ≤ a
      · rw [if_pos h1]; omega
      · rw [if_neg h1, if_pos (by omega)]
  · rcases gone_at_no (.inl hk) hr fa ea hg with g | g
    · refine ⟨by rw [if_pos (by omega), if_pos (by omega)], i, by rw [if_pos g], by omega, ?_, .inr ⟨by omega, ?_⟩⟩
      · rw [(hs i (by omega)).2, lo i g]
      · rw [(hs i (by omega)).1, lo i g]
    · refine ⟨?_, i - k, by rw [if_neg (by omega), if_neg (by omega)], by omega, ?_, .inr ⟨by omega, ?_⟩⟩
      · skip
        rw [if_neg (show ¬ i + 1 ≤ a by omega), if_neg (show ¬ i + 1 ≤ a + k by omega), if_neg (show ¬ i ≤ a by omega)]
        by_cases h1 : i ≤ a + k
        · rw [if_pos h1]; omega
        · rw [if_neg h1]; omega
      · rw [(hs (i - k) (by omega)).2, hi' i g]
      · rw [(hs (i - k) (by omega)).1, hi' i g]
  · skip
    rcases gone_at_no (.inl hk) hr fa ea hgi with g | g <;> rcases gone_at_no (.inl hk) hr fa ea hgj with g' | g'
    · rw [if_pos g, if_pos g']; omega
    · rw [if_pos g, if_neg (show ¬ j < a by omega), if_neg (show ¬ j < a + k by omega)]; omega
    · omega
    · rw [if_neg (show ¬ i < a by omega), if_neg (show ¬ i < a + k by omega), if_neg (show ¬ j < a by omega), if_neg (show ¬ j < a + k by omega)]; omega
  · skip
    rw [if_neg (show ¬ c.kind = 1 by omega), if_neg (show ¬ n ≤ a by omega)]
    by_cases h1 : n ≤ a + k
    · rw [if_pos h1]; omega
    · rw [if_neg h1]; omega
theorem kept_mov {Sty : List Lit → Prop} {N M : Nat → RN} {n m : Nat} {x y : Int} {c : RC} {root : Int} (hk : c.kind = 3) (h : applyN Sty N n x c = .doc m y M) (hr : FindIs N n c.key root) : ∃ F C, Kept N n x c root m M F C := by
  obtain ⟨-, -, hM⟩ := apply_doc h
  obtain ⟨a, k, u, p, fa, a0, k0, ea, ak, rfl, rfl, p0, pk, -, -, -, -, -, hs, hz⟩ := others_mov hk h
  have lo : ∀ i, i < a → shiftP a k i = i := fun i hi => by unfold shiftP; rw [if_pos hi]
  have hi' : ∀ i, a + k ≤ i → shiftP a k (i - k) = i := fun i hi => by unfold shiftP; rw [if_neg (by omega)]; omega
  have bd : ∀ j, j < m - k → shiftP p k j < m := fun j hj => by have := shift_bd (p := p) (k := k) hj; omega
  refine ⟨fun i => if i < a then (shiftP p k i : Nat) else if i < a + k then ((p + (i - a) : Nat) : Int) else (shiftP p k (i - k) : Nat), fun i => i, fun i hi => ?_, rfl, fun i hi hg => ?_, fun i hi hg => ?_, fun i j hij hj hgi hgj => ?_, by rw [if_neg (by omega)]; rfl, fun h1 => by omega⟩
  · skip
    by_cases h1 : i < a
    · rw [if_pos h1]
      have := hM.shape.find (bd i (by omega))
      rw [(hs i (by omega)).1, lo i h1] at this
      exact find_at this
    · rw [if_neg h1]
      by_cases h2 : i < a + k
      · rw [if_pos h2]
        have := hM.shape.find (i := p + (i - a)) (by omega)
        rw [hz (i - a) (by omega), show a + (i - a) = i by omega] at this
        exact find_at this
      · rw [if_neg h2]
        have := hM.shape.find (bd (i - k) (by omega))
        rw [(hs (i - k) (by omega)).1, hi' i (by omega)] at this
        exact find_at this
  · obtain ⟨g1, g2⟩ := (gone_at (.inr hk) hr fa ea).1 hg
    exact .inr ⟨by omega, by rw [if_neg (by omega), if_pos g2]; omega, rfl⟩
  · rcases gone_at_no (.inr hk) hr fa ea hg with g | g
    · refine ⟨rfl, shiftP p k i, by rw [if_pos g], bd i (by omega), ?_, .inr ⟨by omega, ?_⟩⟩
      · rw [(hs i (by omega)).2, lo i g]
      · rw [(hs i (by omega)).1, lo i g]
    · refine ⟨rfl, shiftP p k (i - k), by rw [if_neg (by omega), if_neg (by omega)], bd _ (by omega), ?_, .inr ⟨by omega, ?_⟩⟩
      · rw [(hs (i - k) (by omega)).2, hi' i g]
      · rw [(hs (i - k) (by omega)).1, hi' i g]
  · skip
    rcases gone_at_no (.inr hk) hr fa ea hgi with g | g <;> rcases gone_at_no (.inr hk) hr fa ea hgj with g' | g'
    · rw [if_pos g, if_pos g']; have := shift_rise (p := p) (k := k) hij; omega
    · rw [if_pos g, if_neg (show ¬ j < a by omega), if_neg (show ¬ j < a + k by omega)]; have := shift_rise (p := p) (k := k) (show i < j - k by omega); omega
    · omega
    · rw [if_neg (show ¬ i < a by omega), if_neg (show ¬ i < a + k by omega), if_neg (show ¬ j < a by omega), if_neg (show ¬ j < a + k by omega)]; have := shift_rise (p := p) (k := k) (show i - k < j - k by omega); omega
/-- of any change -/
theorem kept_any {Sty : List Lit → Prop} {N M : Nat → RN} {n m : Nat} {x y : Int} {c : RC} {root : Int} (h : applyN Sty N n x c = .doc m y M) (hr : FindIs N n c.key root) : ∃ F C, Kept N n x c root m M F C := by
  obtain ⟨-, d, -⟩ := apply_doc h
  rcases done_of d with ⟨k, -⟩ | ⟨a, -, -, ⟨k, -⟩ | ⟨k, -⟩ | ⟨k, -⟩⟩
  · exact kept_ins k h
  · exact kept_cut k h hr
  · exact kept_mov k h hr
  · exact kept_set k h
theorem yieldsIf_neq_struct {ops : Array Oper} {S : World → Prop} {op : Oper} {a : Act} (hw : Region.wanted op (yielded ops a.tmps) = true) (t rt : TypeId) (x y : Operand) (ho : op.op = .binOp .neq t x y rt)
    (xs ys : Array Value) (hx : a.eval x = .agg xs) (hy : a.eval y = .agg ys) (hm : Try.prog.eqGuardType Try.prog.depth t = false) (r : Bool) (hr : ∀ w : World, (Op.equalIn 10000 t (.agg xs) (.agg ys)).run Try.prog w = .ok r w) : YieldsIf Try.prog ops S op (.bool (!r)) a :=
  .inl ⟨hw, fun w _ => by
    unfold execOp
    simp only [ho, hx, hy, Sem.run_bind, Sem.run_pure, run_eqGuard_agg _ _ _ _ _ _ _ hm, run_neq_struct, hr, Result.andThen_ok]⟩
theorem below_rowSet (w : World) (b : Nat) (Z : Array Value) : Below b w (w.setRow b Z) := by
  refine ⟨rfl, rfl, rfl, by simp [World.setRow], fun k hk => ?_⟩
  unfold World.setRow
  simp [Array.getElem?_modify]
  omega
theorem step_store_part {w : World} {ops : Array Oper} {o : Oper} {a : Act} {K : Act → World → Prop} {Q : Exit → Act → World → Prop} {E : Prop} (hgd : o.guard = none) (t : TypeId) (x y : Operand) (ho : o.op = .store t x y)
    (b off : Nat) (hx : a.eval x = .pointer (some ⟨b, off, none⟩)) (v : Value) (Y : List Value) (hy : a.eval y = v) (hc : v.cells = Y.toArray) (hi : (Try.prog.info? t).map (·.size) = some Y.length) (h1 : ∀ v ∈ Y, v.oneCell' = true) (cs : Array Value) (T : TypeId)
    (hB : w.heap[b]? = some (.cells cs T (0, 0))) (hl : off + Y.length ≤ cs.size)
    (h : ∀ W', W'.heap[b]? = some (.cells (cs.toList.take off ++ Y ++ cs.toList.drop (off + Y.length)).toArray T (0, 0)) → Below b w W' → (∀ k, k ≠ b → W'.heap[k]? = w.heap[k]?) → K (a.put o.dst undef) W') :
    if Region.wanted o (yielded ops a.tmps) = true then Oper.wp Try.prog o a w K Q else E := by
  have hw : Region.wanted o (yielded ops a.tmps) = true := by simp [Region.wanted, hgd]
  rw [if_pos hw]
  have hst := run_storeCells_at Try.prog b off T Y 0 cs w hB (by omega) h1
  simp only [Nat.add_zero] at hst
  cases hq : Try.prog.info? t with
  | none => simp [hq] at hi
  | some i =>
    have hs : Y.length = i.size := by simp [hq] at hi; omega
    have hr : (Instr.storeAt t (.pointer (some ⟨b, off, none⟩)) v).run Try.prog w = .ok () (w.setRow b (cs.toList.take off ++ Y ++ cs.toList.drop (off + Y.length)).toArray) := by
      simp only [Instr.storeAt, Instr.sureAddr, Sem.run_bind, Sem.run_pure, Result.andThen_ok]
      simp [storeVar, sizeOf, typeInfo, hq, hc, hs, hst]
    unfold Oper.wp execOp
    simp only [ho, hx, hy, Sem.run_bind, hr, Result.andThen_ok, Sem.run_pure]
    refine h _ ?_ (below_rowSet w b _) (fun k hk => ?_)
    · simp [World.setRow, Array.getElem?_modify, hB]
    · unfold World.setRow
      simp [Array.getElem?_modify]
      omega
theorem node_mid {L3 SN SM : List Value} {TN : Value} (l3 : L3.length = 3) (lN : SN.length = 47) (lM : SM.length = 47) : (L3 ++ SN ++ [TN]).toArray.toList.take 3 ++ SM ++ (L3 ++ SN ++ [TN]).toArray.toList.drop (3 + SM.length) = L3 ++ SM ++ [TN] := by
  rw [List.toList_toArray, List.append_assoc L3 SN, List.take_left' l3, lM, ← List.append_assoc L3 SN, List.drop_left' (by simp [l3, lN])]
theorem node_end {L3 SM : List Value} {TN TM : Value} (l3 : L3.length = 3) (lM : SM.length = 47) : (L3 ++ SM ++ [TN]).toArray.toList.take 50 ++ [TM] ++ (L3 ++ SM ++ [TN]).toArray.toList.drop (50 + [TM].length) = L3 ++ SM ++ [TM] := by
  rw [List.toList_toArray, List.take_left' (by simp [l3, lM]), List.drop_of_length_le (by simp [l3, lM]), List.append_nil]
theorem range_other {w w' : World} {b o : Nat} {cs : List Value} (h : w.rangeAt b o cs) (hb : w'.heap[b]? = w.heap[b]?) : w'.rangeAt b o cs := fun j v hv => by
  have := h j v hv
  simp only [World.cell?, hb] at this ⊢
  exact this
theorem cells_one_of {v : Value} (h : v.oneCell' = true) : v.cells = [v].toArray := by
  cases v <;> simp_all [Value.cells, Value.oneCell']
theorem node_parts {u v : RN} (hu : u.ok) (hv : v.ok) (h : v = { u with style := v.style, text := v.text }) : ∃ (L3 SN : List Value) (TN : Value) (SM : List Value) (TM : Value),
    u.cells = L3 ++ SN ++ [TN] ∧ v.cells = L3 ++ SM ++ [TM] ∧ L3.length = 3 ∧ SN.length = 47 ∧ SM.length = 47 ∧ ∀ x ∈ SM ++ [TM], x.oneCell' = true := by
  have e : ∀ z : RN, z.cells = [Lit.toCell (.int .i64 z.key), Lit.toCell (.int .i64 z.depth), Lit.toCell (.int .u8 z.kind)] ++ z.style.map Lit.toCell ++ [Lit.toCell (.string z.text)] := fun z => by simp [RN.cells, RN.lits]
  have ek : v.key = u.key := (by rw [h])
  have ed : v.depth = u.depth := (by rw [h])
  have ekd : v.kind = u.kind := (by rw [h])
  refine ⟨_, u.style.map Lit.toCell, Lit.toCell (.string u.text), v.style.map Lit.toCell, Lit.toCell (.string v.text), e u, ?_, rfl, by rw [List.length_map]; exact hu.style_len, by rw [List.length_map]; exact hv.style_len, fun x hx => ?_⟩
  · rw [e v, ek, ed, ekd]
  · have := v.cells_one
    have hm : x ∈ v.cells := by rw [e v]; simp only [List.append_assoc]; exact List.mem_append.2 (.inr hx)
    exact this x hm
set_option maxRecDepth 100000 in
set_option maxHeartbeats 4000000 in
theorem others7 {Sty : List Lit → Prop} (st : Sty noStyle) (nq : ¬ Sty oddStyle) (hA : ApplyOK7 Sty 10) (hM : MayOK7 Sty 11) (A : Option Addr) (n c : Nat) (x : Int) (N : Nat → RN) (g : RC) (w : World) (hD : DocIn w A n c x N) (hg : g.ok) :
    Calls Try.prog 4 #[docV A n c x, changeV g] w fun e w' => e = .returned (.bool true) ∧ Below w.heap.size w w' := by
  have KA := Lib.hid hA
  have KW := Lib.hid (fun W => awake7_any st nq hA hM W)
  have KG := Lib.hid (fun W (h : DocIn W A n c x N) => great7_any A n c x N g W h hg)
  have V := Lib.hid (newDoc_var hD)
  have HG := Lib.hid hg
  have hx := hD.2
  have hl : g.cells.toArray.size = 55 := by simp [hg.len]
  have k0 : g.cells.toArray[0]? = some (.int .u8 g.kind) := by simp [RC.cells]
  have k1 : g.cells.toArray[1]? = some (.int .i64 g.key) := by simp [RC.cells]
  have k2 : g.cells.toArray[2]? = some (.int .i64 g.parent) := by simp [RC.cells]
  have k6 : g.cells.toArray[6]? = some (.int .u8 g.node.kind) := by rw [List.getElem?_toArray]; rfl
  obtain ⟨R, hR⟩ : ∃ R, R = applyN Sty N n x g := ⟨_, rfl⟩
  have HR := Lib.hid hR
  obtain ⟨root, hroot⟩ : ∃ r, FindIs N n g.key r := ⟨_, find_is N n g.key⟩
  have KO := Lib.hid (fun W (h : DocIn W A n c x N) a b hb => gone_any A n c x N g a root W h hroot b hb)
  obtain ⟨kd, hkd⟩ : ∃ kd, kd = g.kind := ⟨_, rfl⟩
  have HK := Lib.hid hkd
  obtain ⟨key, hkey⟩ : ∃ key, key = g.key := ⟨_, rfl⟩
  have HKey := Lib.hid hkey
  have gk := hg.kind
  have gy := hg.key
  rw [← hkd] at k0 gk
  rw [← hkey] at k1 gy
  have KA1 := Lib.hid (fun W (h : DocIn W A n c x N) => hA A n c x N g W h hg)
  rw [← hR] at KA1
  have HRt := Lib.hid hroot
  clear hD hg hA hM hkd hkey hR hroot
  unfold docV changeV at *
  obtain ⟨X, hX⟩ : ∃ X, X = g.cells.toArray := ⟨_, rfl⟩
  rw [← hX] at k0 k1 k2 k6 hl KG KA1 KO ⊢
  clear hX
  have hW : Below (newDoc w A n c x).heap.size (newDoc w A n c x) ((newDoc w A n c x).alloc (.cells X 34)) := (Below.refl _ _).alloc (Nat.le_refl _) _
  have B := Lib.hid (Box55.new (newDoc w A n c x) X)
  have V := Lib.hid (V.out.next hW)
  have BW := Lib.hid ((newDoc_below w A n c x).trans (hW.mono (newDoc_below w A n c x).size))
  have hq : (newDoc w A n c x).heap.size = w.heap.size + 1 := by simp [newDoc]
  rw [hq] at B
  clear hW hq
  unfold newDoc at V B BW
  go_enter Try.func4, Try.ntmps4
  go_wp2_with fail
  refine (KW.out _).mono ?_
  rintro e w1 ⟨rfl, hb⟩
  replace V := Lib.hid (V.out.next hb)
  replace B := Lib.hid (B.out.below hb)
  replace BW := Lib.hid (BW.out.trans (hb.mono BW.out.size))
  clear hb
  obtain ⟨-, c0, c1, -⟩ := V.out
  go_wp2_with (refine wpList_load_change (o := ⟨some 17, _, _, _, _, _⟩) rfl _ rfl _ rfl _ B.out hl ?_)
  clear c0 c1
  refine (KG.out _ V.out.doc).mono ?_
  rintro e w2 ⟨q, rfl, hq, hb⟩
  replace V := Lib.hid (V.out.next hb)
  replace B := Lib.hid (B.out.below hb)
  replace BW := Lib.hid (BW.out.trans (hb.mono BW.out.size))
  clear hb
  cases q with
  | true =>
    go_wp2_with fail
    go_ret
    exact ⟨rfl, BW.out⟩
  | false =>
    obtain ⟨hn, -, -⟩ := hq rfl
    clear hq
    obtain ⟨-, c0, c1, -⟩ := V.out
    go_wp2_with (refine wpList_load_change (o := ⟨some 21, _, _, _, _, _⟩) rfl _ rfl _ rfl _ B.out hl ?_)
    clear c0 c1
    refine (KA1.out _ V.out.doc).mono ?_
    rintro e w3 ⟨ha, hb⟩
    cases R with
    | no f =>
      obtain rfl := ha
      have hf := apply_no0 HR.out.symm
      have hn' := hb.trans ((newDoc_below w3 none 0 0 0).mono hb.size)
      replace BW := Lib.hid (BW.out.trans (hn'.mono BW.out.size))
      clear hb hn'
      have hf' : (f != 0) = true := by simp at hf; simp [hf]
      unfold docV
      unfold newDoc at BW
      go_wp2_with fail
      go_ret
      exact ⟨rfl, BW.out⟩
    | doc m y M =>
      obtain ⟨BB, d, rfl, dM, -⟩ := ha
      have hn' := hb.trans ((newDoc_below w3 BB m d y).mono hb.size)
      have D : Hid (Duo w.heap.size A n c x N w3.heap.size BB m d y M w (newDoc w3 BB m d y)) := Lib.hid ⟨BW.out.trans (hn'.mono BW.out.size), V.out.next hn', newDoc_var dM⟩
      replace B := Lib.hid (B.out.below hn')
      clear hb hn' dM V BW KG KW KA1
      have b0 := B.out.cell k0
      have b1 := B.out.cell k1
      obtain ⟨F, C, KP⟩ := kept_any HR.out.symm HRt.out
      have KT := Lib.hid KP
      unfold docV
      unfold newDoc at D b0 b1 B
      obtain ⟨-, c0, c1, a0, a1⟩ := duo_S D.out
      have cz := KP.c0
      have KF := Lib.hid (fun i (hi : i < n) W (h : DocIn W BB m d y M) => refFind_any BB m d y M (N i).key W h _ (KP.found i hi))
      unfold docV at KF
      go_upto_region 10 with fail
      clear c0 c1 a0 a1 b0 b1 KP
      generalize w3.alloc (.cells #[.slice BB m d, .int .i64 y] 24) = wd at *
      have c0' : C 0 = 0 := cz
      clear cz
      have CB : Hid (∀ i, i ≤ n → C i ≤ i) := Lib.hid (fun i hi => by
        induction i with
        | zero => omega
        | succ i ih =>
          have := ih (by omega)
          cases hgg : goneB N n g.kind root i with
          | true => rcases KT.out.away i (by omega) hgg with ⟨-, -, e⟩ | ⟨-, -, e⟩ <;> omega
          | false => have := (KT.out.stay i (by omega) hgg).1; omega)
      go_loopg [7, 8, 9] n (fun g1 v7 v8 v9 wr => ∃ (i : Nat) (last : Int), v9 = .int .i64 i ∧ v8 = .int .i64 (C i : Nat) ∧ v7 = .int .i64 last ∧ i ≤ n ∧ n - i ≤ g1 ∧ Hid (∀ j, i ≤ j → j < n → goneB N n g.kind root j = false → last < F j) ∧ Hid (Duo w.heap.size A n c x N w3.heap.size BB m d y M w wr) ∧ Hid (Box55 wr (w.heap.size + 1) X))
      case atStart => exact ⟨0, -1, rfl, by rw [c0']; rfl, rfl, by omega, by omega, Lib.hid (fun j _ hj hgj => by obtain ⟨-, f, e, -⟩ := KT.out.stay j hj hgj; omega), D, B⟩
      case round =>
        obtain ⟨i, last, rfl, rfl, rfl, hi, hg1, LA, D', B'⟩ := hrel
        replace D := Lib.hid D'.out
        replace B := Lib.hid B'.out
        clear D' B'
        obtain ⟨-, c0, c1, a0, a1⟩ := duo_S D.out
        have b0 := B.out.cell k0
        have b1 := B.out.cell k1
        by_cases hlt : i < n
        · have hltz : (i : Int) < n := by omega
          have hi0 : (0 : Int) ≤ i := by omega
          obtain ⟨bA, oA, rfl, hbA, atA⟩ := D.out.v1.doc.1.1.2 (by omega)
          have okA := D.out.v1.doc.1.1.1 i hlt
          have rA : Hid (wr.rangeAt bA (oA + i * 51) (N i).cells) := Lib.hid (node_range okA (atA i hlt))
          have XL : Hid ((N i).cells.length = 51) := Lib.hid okA.len
          have LX : Hid ((Try.prog.info? 32).map (·.size) = some (N i).cells.length) := Lib.hid (by rw [okA.len]; exact node_isize)
          have ones := Lib.hid (N i).cells_one
          have X0 : Hid ((N i).cells[0]? = some (.int .i64 (N i).key)) := Lib.hid rfl
          have KFi := Lib.hid (KF.out i hlt)
          have OKN := Lib.hid okA
          obtain ⟨nc, hnc⟩ : ∃ l, l = (N i).cells := ⟨_, rfl⟩
          obtain ⟨nk, hnk⟩ : ∃ z, z = (N i).key := ⟨_, rfl⟩
          have HNC := Lib.hid hnc
          have HNK := Lib.hid hnk
          rw [← hnc] at rA XL LX ones X0
          rw [← hnk] at X0 KFi
          obtain ⟨fi, hfi⟩ : ∃ z, z = F i := ⟨_, rfl⟩
          have HFI := Lib.hid hfi
          rw [← hfi] at KFi
          clear hfi
          clear okA atA hnc hnk
          have hW : Below wr.heap.size wr (wr.alloc (.cells nc.toArray 32)) := below_alloc (Below.refl _ _) _
          have D2 := Lib.hid (D.out.next hW)
          have B2 := Lib.hid (B.out.below hW)
          have n0 : (wr.alloc (.cells nc.toArray 32)).cell? ⟨wr.heap.size, 0, none⟩ = some (.int .i64 nk) := by rw [World.cell?_alloc_new]; simpa using X0.out
          obtain ⟨-, c0', c1', a0', a1'⟩ := duo_S D2.out
          clear hW
          go_wp2_with (first
            | ((with_reducible change wpList _ _ _ (Oper.mk (some 38) _ _ _ _ _ :: _) _ _); refine wpList_load_mid rfl 32 _ rfl bA (oA + i * 51) rfl nc _ rA.out Try.underlying32 rfl LX.out ?_)
            | ((with_reducible change wpList _ _ _ (Oper.mk (some 10) _ _ _ _ _ :: _) _ _); refine wpList_alloc_node rfl rfl ?_)
            | ((with_reducible change wpList _ _ _ (Oper.mk none (.store 32 _ _) _ _ _ _ :: _) _ _); refine wpList_store_new rfl 32 _ _ rfl nodeZero nc.toArray rfl rfl (by rw [nodeZero_size, List.size_toArray, XL.out]) (by rw [List.size_toArray]; exact LX.out) (by simpa using ones.out) ?_)
            | fail)
          clear c0 c1 a0 a1 b0 b1 c0' c1' a0' a1' n0
          have RN : Hid ((wr.alloc (.cells nc.toArray 32)).rangeAt wr.heap.size 0 nc) := Lib.hid node_alloc_range
          refine (KFi.out _ D2.out.v2.doc).mono ?_
          rintro e w4 ⟨rfl, hb⟩
          have D3 := Lib.hid (D2.out.next hb)
          have B3 := Lib.hid (B2.out.below hb)
          have HB4 := Lib.hid hb
          clear hb
          obtain ⟨-, c0, c1, a0, a1⟩ := duo_S D3.out
          obtain ⟨gb, hgb⟩ : ∃ b, goneB N n g.kind root i = b := ⟨_, rfl⟩
          go_wp2_with (refine wpList_load_change (o := ⟨some 44, _, _, _, _, _⟩) rfl _ rfl _ rfl _ B3.out hl ?_)
          clear c0 c1 a0 a1
          refine (KO.out _ D3.out.v1.doc (i : Int) gb hgb).mono ?_
          rintro e w5 ⟨rfl, hb⟩
          have D4 := Lib.hid (D3.out.next hb)
          have B4 := Lib.hid (B3.out.below hb)
          have HB5 := Lib.hid hb
          clear hb D2 D3 B2 B3
          obtain ⟨-, c0, c1, a0, a1⟩ := duo_S D4.out
          have b0 := B4.out.cell k0
          have b1 := B4.out.cell k1
          cases gb with
          | true =>
            have cb := CB.out i hi
            rcases KT.out.away i hlt hgb with ⟨k2, e, ce⟩ | ⟨k2, e, ce⟩
            · obtain rfl : fi = -1 := HFI.out.trans e
              obtain rfl : kd = 2 := HK.out.trans k2
              have CE := Lib.hid ce
              clear ce e k2 hgb
              go_wp2_with fail
              go_roundg (n - (i + 1))
              case measure => omega
              case rel => exact ⟨i + 1, last, by go_num, by rw [CE.out], rfl, by omega, Nat.le_refl _, Lib.hid (fun j h1 h2 h3 => LA.out j (by omega) h2 h3), D4, B4⟩
            · have f0 : 0 ≤ fi := by rw [HFI.out]; exact e
              have f1 : ¬ fi < 0 := by omega
              have k2' : (kd == 2) = false := by have := HK.out; simp; omega
              have CE := Lib.hid ce
              have wc : IntKind.i64.wrap ((C i : Int) + 1) = (C i : Int) + 1 := IntWalk.i64_in _ (by omega)
              clear ce e k2 hgb
              go_wp2_with fail
              go_roundg (n - (i + 1))
              case measure => omega
              case rel => exact ⟨i + 1, last, by go_num, by rw [CE.out]; simp, rfl, by omega, Nat.le_refl _, Lib.hid (fun j h1 h2 h3 => LA.out j (by omega) h2 h3), D4, B4⟩
          | false =>
            have cb := CB.out i hi
            obtain ⟨ce, f, e, fm, ku, ns⟩ := KT.out.stay i hlt hgb
            obtain rfl : fi = (f : Int) := HFI.out.trans e
            have lf := LA.out i (Nat.le_refl _) hlt hgb
            rw [e] at lf
            have nle : ¬ ((f : Int) ≤ last) := by omega
            have RI : Hid (∀ j, i + 1 ≤ j → j < n → goneB N n g.kind root j = false → (f : Int) < F j) := Lib.hid (fun j h1 h2 h3 => by
              have := KT.out.rise i j (by omega) h2 hgb h3
              rwa [e] at this)
            have CE := Lib.hid ce
            have wc : IntKind.i64.wrap ((C i : Int) + 1) = (C i : Int) + 1 := IntWalk.i64_in _ (by omega)
            have fmz : (f : Int) < m := by omega
            have mb : m ≤ 300 := (apply_doc HR.out.symm).2.2.shape.most
            have f0 : (0 : Int) ≤ f := by omega
            obtain ⟨bB, oB, rfl, hbB, atB⟩ := D4.out.v2.doc.1.1.2 (by omega)
            have okM := D4.out.v2.doc.1.1.1 f fm
            have rM : Hid (w5.rangeAt bB (oB + f * 51) (M f).cells) := Lib.hid (node_range okM (atB f fm))
            have ML : Hid ((M f).cells.length = 51) := Lib.hid okM.len
            have LM : Hid ((Try.prog.info? 32).map (·.size) = some (M f).cells.length) := Lib.hid (by rw [okM.len]; exact node_isize)
            have onesM := Lib.hid (M f).cells_one
            have KU1 := Lib.hid (fun W (h : Duo w.heap.size (some ⟨bA, oA, none⟩) n c x N w3.heap.size (some ⟨bB, oB, none⟩) m d y M w W) => up_any (some ⟨bB, oB, none⟩) m d y M f W h.v2.doc (by omega) (by omega) (keyUp M f) (up_of M fm))
            have KU2 := Lib.hid (fun W (h : Duo w.heap.size (some ⟨bA, oA, none⟩) n c x N w3.heap.size (some ⟨bB, oB, none⟩) m d y M w W) => up_any (some ⟨bA, oA, none⟩) n c x N i W h.v1.doc (by omega) (by omega) (keyUp M f) ((up_of N hlt).trans ku.symm))
            unfold docV at KU1 KU2
            generalize keyUp M f = kup at KU1 KU2
            obtain ⟨mc, hmc⟩ : ∃ l, l = (M f).cells := ⟨_, rfl⟩
            have HMC := Lib.hid hmc
            rw [← hmc] at rM ML LM onesM
            have NS := Lib.hid ns
            have lr : wr.heap.size < w5.heap.size := by
              have h1 := HB4.out.size
              have h2 := HB5.out.size
              simp at h1
              omega
            clear ce e ku ns hmc okM atB hgb
            have hW : Below w5.heap.size w5 (w5.alloc (.cells mc.toArray 32)) := below_alloc (Below.refl _ _) _
            have D5 := Lib.hid (D4.out.next hW)
            have B5 := Lib.hid (B4.out.below hW)
            have kr : ∀ j v, nc[j]? = some v → w5.cell? ⟨wr.heap.size, j, none⟩ = some v := fun j v hv => by
              have h0 := RN.out j v hv
              rw [Nat.zero_add] at h0
              exact (HB5.out.cell (p := ⟨wr.heap.size, j, none⟩) (by have := HB4.out.size; simp at this; show wr.heap.size < _; omega)).trans ((HB4.out.cell (p := ⟨wr.heap.size, j, none⟩) (by simp)).trans h0)
            have RA : Hid ((w5.alloc (.cells mc.toArray 32)).rangeAt wr.heap.size 0 nc) := Lib.hid (fun j v hv => by rw [Nat.zero_add]; exact (hW.cell (p := ⟨wr.heap.size, j, none⟩) lr).trans (kr j v hv))
            have RB : Hid ((w5.alloc (.cells mc.toArray 32)).rangeAt w5.heap.size 0 mc) := Lib.hid node_alloc_range
            have n0 := (hW.cell (p := ⟨wr.heap.size, 0, none⟩) lr).trans (kr 0 _ X0.out)
            obtain ⟨-, c0', c1', a0', a1'⟩ := duo_S D5.out
            have b0' := B5.out.cell k0
            have b1' := B5.out.cell k1
            clear hW kr
            go_upto_region 24 with (first
              | ((with_reducible change wpList _ _ _ (Oper.mk (some 67) _ _ _ _ _ :: _) _ _); refine wpList_load_mid rfl 32 _ rfl bB (oB + f * 51) rfl mc _ rM.out Try.underlying32 rfl LM.out ?_)
              | ((with_reducible change wpList _ _ _ (Oper.mk (some 12) _ _ _ _ _ :: _) _ _); refine wpList_alloc_node rfl rfl ?_)
              | ((with_reducible change wpList _ _ _ (Oper.mk none (.store 32 _ _) _ _ _ _ :: _) _ _); refine wpList_store_new rfl 32 _ _ rfl nodeZero mc.toArray rfl rfl (by rw [nodeZero_size, List.size_toArray, ML.out]) (by rw [List.size_toArray]; exact LM.out) (by simpa using onesM.out) ?_)
              | fail)
            clear c0 c1 a0 a1 b0 b1
            by_cases k45 : kd = 4 ∨ kd = 5
            · by_cases kk : nk = key
              · have kw : (nk == key) = true := by simp [kk]
                obtain ⟨em, -⟩ | ⟨no, -⟩ : (M f = { N i with style := (M f).style, text := (M f).text } ∧ True) ∨ (¬ ((g.kind = 4 ∨ g.kind = 5) ∧ (N i).key = g.key) ∧ True) := by
                  rcases NS.out with ⟨-, -, h⟩ | ⟨h, -⟩
                  · exact .inl ⟨h, trivial⟩
                  · exact .inr ⟨h, trivial⟩
                rotate_left
                · exact absurd ⟨by rw [← HK.out]; exact k45, by rw [← HNK.out, ← HKey.out]; exact kk⟩ no
                obtain ⟨L3, SN, TN, SM, TM, e1, e2, l3, lN, lM, oM⟩ := node_parts OKN.out (D5.out.v2.doc.1.1.1 f fm) em
                rw [← HNC.out] at e1
                rw [← HMC.out] at e2
                have E1 := Lib.hid e1
                have E2 := Lib.hid e2
                have L3L := Lib.hid l3
                have LNL := Lib.hid lN
                have LML := Lib.hid lM
                have OM := Lib.hid oM
                have ST : Hid ((Try.prog.info? 30).map (·.size) = some SM.length) := Lib.hid (by rw [lM]; kernel_rfl)
                obtain ⟨r, hr, hiff⟩ := run_node_eq_all (D5.out.v2.doc.1.1.1 f fm) (D5.out.v2.doc.1.1.1 f fm)
                obtain rfl : r = true := hiff.2 rfl
                rw [← HMC.out] at hr
                have RR := Lib.hid hr
                have F5 : Hid (Below wr.heap.size wr (w5.alloc (.cells mc.toArray 32))) := Lib.hid (((below_alloc (Below.refl _ _) _).trans ((HB4.out.mono (by simp)).trans (HB5.out.mono (by have := HB4.out.size; simp at this; omega)))).alloc (by omega) _)
                have BN : Hid ((w5.alloc (.cells mc.toArray 32)).heap[wr.heap.size]? = some (.cells nc.toArray 32 (0, 0))) := Lib.hid (by
                  have q1 : (wr.alloc (.cells nc.toArray 32)).heap[wr.heap.size]? = some (.cells nc.toArray 32 (0, 0)) := by show (wr.heap.push _)[wr.heap.size]? = _; simp
                  have q2 := (HB4.out.block wr.heap.size (by simp)).trans q1
                  have q3 := (HB5.out.block wr.heap.size (by have := HB4.out.size; simp at this; omega)).trans q2
                  exact ((below_alloc (Below.refl w5.heap.size w5) (.cells mc.toArray 32)).block wr.heap.size lr).trans q3)
                have RS : Hid (∀ W : World, W.rangeAt w5.heap.size 0 mc → W.rangeAt w5.heap.size 3 SM) := Lib.hid (fun W h j v hv => by
                  have := h (3 + j) v (by rw [E2.out, List.append_assoc, List.getElem?_append_right (by omega), List.getElem?_append_left (by have := (List.getElem?_eq_some_iff.1 hv).1; omega), l3, Nat.add_sub_cancel_left]; exact hv)
                  rwa [Nat.zero_add] at this)
                have RT : Hid (∀ W : World, W.rangeAt w5.heap.size 0 mc → W.cell? ⟨w5.heap.size, 50, none⟩ = some TM) := Lib.hid (fun W h => by
                  have := h 50 TM (by rw [E2.out, List.getElem?_append_right (by simp; omega)]; simp [l3, lM])
                  rwa [Nat.zero_add] at this)
                have RBo := RB
                clear hr hiff em e1 e2 l3 lN lM oM kk
                rcases k45 with rfl | rfl
                all_goals
                  go_upto_region 25 with fail
                  clear c0' c1' a0' a1' b0' b1' n0
                  have bw := Lib.hid lr
                  refine wp_region_held_drew (S := (fun W' => Below wr.heap.size wr W' ∧ W'.rangeAt w5.heap.size 0 mc)) (by kernel_rfl) ⟨F5.out.drew, RB.out⟩ (fun hHeld => ?_)
                  refine wpAnyH_take (i := 0) (oi := Oper.mk (some 83) _ _ _ _ _) (v := .pointer (some ⟨w5.heap.size, 3, none⟩)) rfl (by kernel_rfl) (by kernel_rfl) (by kernel_rfl) (fun _ _ _ h => h) (Or.inl ⟨by rfl, ?_⟩) (by assumption) ?_
                  · intro w hSw
                    clear hSw
                    go_simp
                  try simp only [Act.put, List.setIfInBounds_toArray, List.set_cons_zero, List.set_cons_succ]
                  refine wpAnyH_take (i := 1) (oi := Oper.mk (some 84) _ _ _ _ _) (v := .agg SM.toArray) rfl (by kernel_rfl) (by kernel_rfl) (by kernel_rfl) (fun _ _ _ h => h) (yieldsIf_load_mid (by rfl) 30 _ rfl w5.heap.size 3 rfl SM _ (fun W hS => RS.out W hS.2) Try.underlying30 rfl ST.out) (by assumption) ?_
                  try simp only [Act.put, List.setIfInBounds_toArray, List.set_cons_zero, List.set_cons_succ]
                  refine wpAnyH_take (i := 2) (oi := Oper.mk (some 85) _ _ _ _ _) (v := .pointer (some ⟨w5.heap.size, 50, none⟩)) rfl (by kernel_rfl) (by kernel_rfl) (by kernel_rfl) (fun _ _ _ h => h) (Or.inl ⟨by rfl, ?_⟩) (by assumption) ?_
                  · intro w hSw
                    clear hSw
                    go_simp
                  try simp only [Act.put, List.setIfInBounds_toArray, List.set_cons_zero, List.set_cons_succ]
                  refine wpAnyH_take (i := 3) (oi := Oper.mk (some 86) _ _ _ _ _) (v := TM) rfl (by kernel_rfl) (by kernel_rfl) (by kernel_rfl) (fun _ _ _ h => h) (Or.inl ⟨by rfl, ?_⟩) (by assumption) ?_
                  · intro w hSw
                    have ct := RT.out w hSw.2
                    clear hSw
                    go_simp
                  try simp only [Act.put, List.setIfInBounds_toArray, List.set_cons_zero, List.set_cons_succ]
                  refine wpAnyH_take (i := 4) (oi := Oper.mk (some 87) _ _ _ _ _) (v := .pointer (some ⟨wr.heap.size, 3, none⟩)) rfl (by kernel_rfl) (by kernel_rfl) (by kernel_rfl) (fun _ _ _ h => h) (Or.inl ⟨by rfl, ?_⟩) (by assumption) ?_
                  · intro w hSw
                    clear hSw
                    go_simp
                  try simp only [Act.put, List.setIfInBounds_toArray, List.set_cons_zero, List.set_cons_succ]
                  refine wpAnyH_ready (rs := [5]) (by kernel_rfl) (by simp) ?_
                  refine AllReadyH.cons (o := Oper.mk none _ _ _ _ _) rfl (fun K hK => ?_) ?_
                  · refine step_store_part (by rfl) 30 _ _ (by rfl) wr.heap.size 3 (by rfl) (.agg SM.toArray) SM (by rfl) (by simp [Value.cells]) ST.out (fun v hv => OM.out v (List.mem_append.2 (.inl hv))) nc.toArray 32 BN.out (by rw [E1.out]; simp [L3L.out, LNL.out, LML.out]) ?_
                    intro w6 hb6 hl6 hx6
                    have BN6 : Hid (w6.heap[wr.heap.size]? = some (.cells (L3 ++ SM ++ [TN]).toArray 32 (0, 0))) := Lib.hid (by
                      rw [hb6, E1.out]
                      congr 2
                      rw [node_mid L3L.out LNL.out LML.out])
                    have F6 : Hid (Below wr.heap.size wr w6) := Lib.hid (F5.out.drew.trans hl6)
                    have R6 : Hid (w6.rangeAt w5.heap.size 0 mc) := Lib.hid (range_other RB.out (hx6 _ (by have := bw.out; omega)))
                    clear hb6 hl6 hx6
                    refine hK.out _ _ ⟨F6.out, R6.out⟩ (fun hHeld => ?_)
                    clear hK K
                    try simp only [Act.put]
                    refine wpAnyH_take (i := 6) (oi := Oper.mk (some 88) _ _ _ _ _) (v := .pointer (some ⟨wr.heap.size, 50, none⟩)) rfl (by kernel_rfl) (by kernel_rfl) (by kernel_rfl) (fun _ _ _ h => h) (Or.inl ⟨by rfl, ?_⟩) (by assumption) ?_
                    · intro w hSw
                      clear hSw
                      go_simp
                    try simp only [Act.put, List.setIfInBounds_toArray, List.set_cons_zero, List.set_cons_succ]
                    refine wpAnyH_ready (rs := [7]) (by kernel_rfl) (by simp) ?_
                    refine AllReadyH.cons (o := Oper.mk none _ _ _ _ _) rfl (fun K hK => ?_) ?_
                    · refine step_store_part (by rfl) 9 _ _ (by rfl) wr.heap.size 50 (by rfl) TM [TM] (by rfl) (cells_one_of (OM.out TM (by simp))) (by kernel_rfl) (fun v hv => OM.out v (List.mem_append.2 (.inr hv))) _ 32 BN6.out (by simp [L3L.out, LML.out]) ?_
                      intro w7 hb7 hl7 hx7
                      have BN7 : Hid (w7.heap[wr.heap.size]? = some (.cells mc.toArray 32 (0, 0))) := Lib.hid (by
                        rw [hb7, E2.out]
                        congr 2
                        rw [node_end L3L.out LML.out])
                      have F7 : Hid (Below wr.heap.size wr w7) := Lib.hid (F6.out.trans hl7)
                      have R7 : Hid (w7.rangeAt w5.heap.size 0 mc) := Lib.hid (range_other R6.out (hx7 _ (by have := bw.out; omega)))
                      clear hb7 hl7 hx7 BN6 F6 R6 F5 BN RB
                      refine hK.out _ _ ⟨F7.out, R7.out⟩ (fun hHeld => ?_)
                      clear hK K
                      try simp only [Act.put]
                      refine wpAnyH_done (by kernel_rfl) ?_ _
                      have D5' := Lib.hid (D.out.next F7.out)
                      have B5' := Lib.hid (B.out.below F7.out)
                      have RA' : Hid (w7.rangeAt wr.heap.size 0 mc) := Lib.hid (fun j v hv => by rw [Nat.zero_add]; simpa [World.cell?, BN7.out] using hv)
                      clear D5 B5 RA D4 B4
                      obtain ⟨-, c0', c1', a0', a1'⟩ := duo_S D5'.out
                      have b0' := B5'.out.cell k0
                      have b1' := B5'.out.cell k1
                      go_upto_region 26 with fail
                      clear c0' c1' a0' a1' b0' b1'
                      have D6 := Lib.hid D5'.out.drew
                      have B6 := Lib.hid (B5'.out.below (Below.refl _ _).drew)
                      refine wp_region_held_drew (S := (fun W' => ((Duo w.heap.size (some ⟨bA, oA, none⟩) n c x N w3.heap.size (some ⟨bB, oB, none⟩) m d y M w W' ∧ Box55 W' (w.heap.size + 1) X) ∧ (W'.rangeAt wr.heap.size 0 mc ∧ W'.rangeAt w5.heap.size 0 mc)) ∧ W'.cell? ⟨w.heap.size, 0, none⟩ = some (.slice (some ⟨bA, oA, none⟩) n c) ∧ W'.cell? ⟨w.heap.size, 1, none⟩ = some (.int .i64 x) ∧ W'.cell? ⟨w3.heap.size, 0, none⟩ = some (.slice (some ⟨bB, oB, none⟩) m d) ∧ W'.cell? ⟨w3.heap.size, 1, none⟩ = some (.int .i64 y))) (by kernel_rfl) ⟨⟨⟨D6.out, B6.out⟩, RA'.out, R7.out⟩, D6.out.v1.c0, D6.out.v1.c1, D6.out.v2.c0, D6.out.v2.c1⟩ (fun hHeld => ?_)
                      refine wpAnyH_take (i := 0) (oi := Oper.mk (some 89) _ _ _ _ _) (v := .agg mc.toArray) rfl (by kernel_rfl) (by kernel_rfl) (by kernel_rfl) (fun _ _ _ h => h) (yieldsIf_load_mid (by rfl) 32 _ rfl w5.heap.size 0 rfl mc _ (fun W hS => hS.1.2.2) Try.underlying32 rfl LM.out) (by assumption) ?_
                      try simp only [Act.put, List.setIfInBounds_toArray, List.set_cons_zero, List.set_cons_succ]
                      refine wpAnyH_take (i := 1) (oi := Oper.mk (some 90) _ _ _ _ _) (v := .agg mc.toArray) rfl (by kernel_rfl) (by kernel_rfl) (by kernel_rfl) (fun _ _ _ h => h) (yieldsIf_load_mid (by rfl) 32 _ rfl wr.heap.size 0 rfl mc _ (fun W hS => hS.1.2.1) Try.underlying32 rfl LM.out) (by assumption) ?_
                      try simp only [Act.put, List.setIfInBounds_toArray, List.set_cons_zero, List.set_cons_succ]
                      refine wpAnyH_take (i := 2) (oi := Oper.mk (some 91) _ _ _ _ _) (v := .bool false) rfl (by kernel_rfl) (by kernel_rfl) (by kernel_rfl) (fun _ _ _ h => h) (yieldsIf_neq_struct (by rfl) 32 _ _ _ rfl mc.toArray mc.toArray rfl rfl node_guard true RR.out) (by assumption) ?_
                      try simp only [Act.put, List.setIfInBounds_toArray, List.set_cons_zero, List.set_cons_succ]
                      refine wpAnyH_take (i := 3) (oi := Oper.mk (some 92) _ _ _ _ _) (v := .bool false) rfl (by kernel_rfl) (by kernel_rfl) (by kernel_rfl) (fun _ _ _ h => h) (Or.inl ⟨by rfl, ?_⟩) (by assumption) ?_
                      · intro w hSw
                        obtain ⟨⟨⟨hs0, hs1⟩, hs2, hs3⟩, s0, s1, s2, s3⟩ := hSw
                        clear hs0 hs1 hs2 hs3
                        go_simp
                      try simp only [Act.put, List.setIfInBounds_toArray, List.set_cons_zero, List.set_cons_succ]
                      refine wpAnyH_take (i := 4) (oi := Oper.mk (some 93) _ _ _ _ _) (v := .agg #[.slice (some ⟨bB, oB, none⟩) m d, .int .i64 y]) rfl (by kernel_rfl) (by kernel_rfl) (by kernel_rfl) (fun _ _ _ h => h) (Or.inl ⟨by rfl, ?_⟩) (by assumption) ?_
                      · intro w hSw
                        obtain ⟨⟨⟨hs0, hs1⟩, hs2, hs3⟩, s0, s1, s2, s3⟩ := hSw
                        clear hs0 hs1 hs2 hs3
                        go_simp
                      try simp only [Act.put, List.setIfInBounds_toArray, List.set_cons_zero, List.set_cons_succ]
                      refine wpAnyH_take (i := 5) (oi := Oper.mk (some 94) _ _ _ _ _) (v := .int .i64 (f : Nat)) rfl (by kernel_rfl) (by kernel_rfl) (by kernel_rfl) (fun _ _ _ h => h) (Or.inl ⟨by rfl, ?_⟩) (by assumption) ?_
                      · intro w hSw
                        obtain ⟨⟨⟨hs0, hs1⟩, hs2, hs3⟩, s0, s1, s2, s3⟩ := hSw
                        clear hs0 hs1 hs2 hs3
                        go_simp
                      try simp only [Act.put, List.setIfInBounds_toArray, List.set_cons_zero, List.set_cons_succ]
                      refine wpAnyH_take (i := 7) (oi := Oper.mk (some 96) _ _ _ _ _) (v := .agg #[.slice (some ⟨bA, oA, none⟩) n c, .int .i64 x]) rfl (by kernel_rfl) (by kernel_rfl) (by kernel_rfl) (fun _ _ _ h => h) (Or.inl ⟨by rfl, ?_⟩) (by assumption) ?_
                      · intro w hSw
                        obtain ⟨⟨⟨hs0, hs1⟩, hs2, hs3⟩, s0, s1, s2, s3⟩ := hSw
                        clear hs0 hs1 hs2 hs3
                        go_simp
                      try simp only [Act.put, List.setIfInBounds_toArray, List.set_cons_zero, List.set_cons_succ]
                      refine wpAnyH_take (i := 8) (oi := Oper.mk (some 97) _ _ _ _ _) (v := .int .i64 (i : Nat)) rfl (by kernel_rfl) (by kernel_rfl) (by kernel_rfl) (fun _ _ _ h => h) (Or.inl ⟨by rfl, ?_⟩) (by assumption) ?_
                      · intro w hSw
                        obtain ⟨⟨⟨hs0, hs1⟩, hs2, hs3⟩, s0, s1, s2, s3⟩ := hSw
                        clear hs0 hs1 hs2 hs3
                        go_simp
                      try simp only [Act.put, List.setIfInBounds_toArray, List.set_cons_zero, List.set_cons_succ]
                      refine wpAnyH_ready (rs := [6]) (by kernel_rfl) (by simp) ?_
                      refine AllReadyH.cons (o := Oper.mk (some 95) _ _ _ _ _) rfl (fun K hK => ?_) ?_
                      · go_simp
                        (with_reducible refine (KU1.out _ D6.out).mono ?_)
                        rintro e w9 ⟨rfl, hb⟩
                        have D7 := Lib.hid (D6.out.next hb)
                        have B7 := Lib.hid (B6.out.below hb)
                        have RA7 : Hid (w9.rangeAt wr.heap.size 0 mc) := Lib.hid (fun j v hv => (hb.cell (p := ⟨wr.heap.size, 0 + j, none⟩) (lt_of_cell (RA'.out j v hv))).trans (RA'.out j v hv))
                        have RB7 : Hid (w9.rangeAt w5.heap.size 0 mc) := Lib.hid (fun j v hv => (hb.cell (p := ⟨w5.heap.size, 0 + j, none⟩) (lt_of_cell (R7.out j v hv))).trans (R7.out j v hv))
                        clear hb
                        refine hK.out _ _ ⟨⟨⟨D7.out, B7.out⟩, RA7.out, RB7.out⟩, D7.out.v1.c0, D7.out.v1.c1, D7.out.v2.c0, D7.out.v2.c1⟩ (fun hHeld => ?_)
                        clear hK K
                        try simp only [Act.put, List.setIfInBounds_toArray, List.set_cons_zero, List.set_cons_succ]
                        refine wpAnyH_ready (rs := [9]) (by kernel_rfl) (by simp) ?_
                        refine AllReadyH.cons (o := Oper.mk (some 98) _ _ _ _ _) rfl (fun K hK => ?_) ?_
                        · go_simp
                          (with_reducible refine (KU2.out _ D7.out).mono ?_)
                          rintro e w10 ⟨rfl, hb⟩
                          have D8 := Lib.hid (D7.out.next hb)
                          have B8 := Lib.hid (B7.out.below hb)
                          have lt7 := Lib.hid (lt_of_cell (D7.out.v1.c0))
                          have RA8 : Hid (w10.rangeAt wr.heap.size 0 mc) := Lib.hid (fun j v hv => (hb.cell (p := ⟨wr.heap.size, 0 + j, none⟩) (lt_of_cell (RA7.out j v hv))).trans (RA7.out j v hv))
                          have RB8 : Hid (w10.rangeAt w5.heap.size 0 mc) := Lib.hid (fun j v hv => (hb.cell (p := ⟨w5.heap.size, 0 + j, none⟩) (lt_of_cell (RB7.out j v hv))).trans (RB7.out j v hv))
                          clear hb lt7
                          refine hK.out _ _ ⟨⟨⟨D8.out, B8.out⟩, RA8.out, RB8.out⟩, D8.out.v1.c0, D8.out.v1.c1, D8.out.v2.c0, D8.out.v2.c1⟩ (fun hHeld => ?_)
                          clear hK K
                          try simp only [Act.put, List.setIfInBounds_toArray, List.set_cons_zero, List.set_cons_succ]
                          refine wpAnyH_take (i := 10) (oi := Oper.mk (some 99) _ _ _ _ _) (v := .bool false) rfl (by kernel_rfl) (by kernel_rfl) (by kernel_rfl) (fun _ _ _ h => h) (Or.inl ⟨by rfl, ?_⟩) (by assumption) ?_
                          · intro w hSw
                            obtain ⟨⟨⟨hs0, hs1⟩, hs2, hs3⟩, s0, s1, s2, s3⟩ := hSw
                            clear hs0 hs1 hs2 hs3
                            go_simp
                          try simp only [Act.put, List.setIfInBounds_toArray, List.set_cons_zero, List.set_cons_succ]
                          refine wpAnyH_take (i := 11) (oi := Oper.mk (some 100) _ _ _ _ _) (v := .bool false) rfl (by kernel_rfl) (by kernel_rfl) (by kernel_rfl) (fun _ _ _ h => h) (Or.inl ⟨by rfl, ?_⟩) (by assumption) ?_
                          · intro w hSw
                            obtain ⟨⟨⟨hs0, hs1⟩, hs2, hs3⟩, s0, s1, s2, s3⟩ := hSw
                            clear hs0 hs1 hs2 hs3
                            go_simp
                          try simp only [Act.put, List.setIfInBounds_toArray, List.set_cons_zero, List.set_cons_succ]
                          refine wpAnyH_done (by kernel_rfl) ?_ _
                          go_wp2_with fail
                          go_roundg (n - (i + 1))
                          case measure => omega
                          case rel => exact ⟨i + 1, f, by go_num, by rw [CE.out]; simp, rfl, by omega, Nat.le_refl _, RI, D8, B8⟩
                        exact AllReadyH.nil
                      exact AllReadyH.nil
                    · exact AllReadyH.nil
                  · exact AllReadyH.nil
              · have em : Hid (mc = nc) := Lib.hid (by
                  rcases NS.out with ⟨-, h, -⟩ | ⟨-, h⟩
                  · exact absurd (by rw [HNK.out, HKey.out]; exact h) kk
                  · rw [HMC.out, HNC.out, h])
                have ek : (nk == key) = false := by simp [kk]
                clear kk
                rcases k45 with rfl | rfl
                all_goals
                  obtain ⟨r, hr, hiff⟩ := run_node_eq_all OKN.out OKN.out
                  obtain rfl : r = true := hiff.2 rfl
                  rw [← HNC.out] at hr
                  have RR := Lib.hid hr
                  clear hr hiff
                  obtain rfl : mc = nc := em.out
                  go_upto_region 26 with fail
                  clear c0' c1' a0' a1' b0' b1' n0
                  have D6 := Lib.hid D5.out.drew
                  have B6 := Lib.hid (B5.out.below (Below.refl _ _).drew)
                  have bw := Lib.hid lr
                  refine wp_region_held_drew (S := (fun W' => ((Duo w.heap.size (some ⟨bA, oA, none⟩) n c x N w3.heap.size (some ⟨bB, oB, none⟩) m d y M w W' ∧ Box55 W' (w.heap.size + 1) X) ∧ (W'.rangeAt wr.heap.size 0 mc ∧ W'.rangeAt w5.heap.size 0 mc)) ∧ W'.cell? ⟨w.heap.size, 0, none⟩ = some (.slice (some ⟨bA, oA, none⟩) n c) ∧ W'.cell? ⟨w.heap.size, 1, none⟩ = some (.int .i64 x) ∧ W'.cell? ⟨w3.heap.size, 0, none⟩ = some (.slice (some ⟨bB, oB, none⟩) m d) ∧ W'.cell? ⟨w3.heap.size, 1, none⟩ = some (.int .i64 y))) (by kernel_rfl) ⟨⟨⟨D6.out, B6.out⟩, RA.out, RB.out⟩, D6.out.v1.c0, D6.out.v1.c1, D6.out.v2.c0, D6.out.v2.c1⟩ (fun hHeld => ?_)
                  refine wpAnyH_take (i := 0) (oi := Oper.mk (some 89) _ _ _ _ _) (v := .agg mc.toArray) rfl (by kernel_rfl) (by kernel_rfl) (by kernel_rfl) (fun _ _ _ h => h) (yieldsIf_load_mid (by rfl) 32 _ rfl w5.heap.size 0 rfl mc _ (fun W hS => hS.1.2.2) Try.underlying32 rfl LM.out) (by assumption) ?_
                  try simp only [Act.put, List.setIfInBounds_toArray, List.set_cons_zero, List.set_cons_succ]
                  refine wpAnyH_take (i := 1) (oi := Oper.mk (some 90) _ _ _ _ _) (v := .agg mc.toArray) rfl (by kernel_rfl) (by kernel_rfl) (by kernel_rfl) (fun _ _ _ h => h) (yieldsIf_load_mid (by rfl) 32 _ rfl wr.heap.size 0 rfl mc _ (fun W hS => hS.1.2.1) Try.underlying32 rfl LM.out) (by assumption) ?_
                  try simp only [Act.put, List.setIfInBounds_toArray, List.set_cons_zero, List.set_cons_succ]
                  refine wpAnyH_take (i := 2) (oi := Oper.mk (some 91) _ _ _ _ _) (v := .bool false) rfl (by kernel_rfl) (by kernel_rfl) (by kernel_rfl) (fun _ _ _ h => h) (yieldsIf_neq_struct (by rfl) 32 _ _ _ rfl mc.toArray mc.toArray rfl rfl node_guard true RR.out) (by assumption) ?_
                  try simp only [Act.put, List.setIfInBounds_toArray, List.set_cons_zero, List.set_cons_succ]
                  refine wpAnyH_take (i := 3) (oi := Oper.mk (some 92) _ _ _ _ _) (v := .bool false) rfl (by kernel_rfl) (by kernel_rfl) (by kernel_rfl) (fun _ _ _ h => h) (Or.inl ⟨by rfl, ?_⟩) (by assumption) ?_
                  · intro w hSw
                    obtain ⟨⟨⟨hs0, hs1⟩, hs2, hs3⟩, s0, s1, s2, s3⟩ := hSw
                    clear hs0 hs1 hs2 hs3
                    go_simp
                  try simp only [Act.put, List.setIfInBounds_toArray, List.set_cons_zero, List.set_cons_succ]
                  refine wpAnyH_take (i := 4) (oi := Oper.mk (some 93) _ _ _ _ _) (v := .agg #[.slice (some ⟨bB, oB, none⟩) m d, .int .i64 y]) rfl (by kernel_rfl) (by kernel_rfl) (by kernel_rfl) (fun _ _ _ h => h) (Or.inl ⟨by rfl, ?_⟩) (by assumption) ?_
                  · intro w hSw
                    obtain ⟨⟨⟨hs0, hs1⟩, hs2, hs3⟩, s0, s1, s2, s3⟩ := hSw
                    clear hs0 hs1 hs2 hs3
                    go_simp
                  try simp only [Act.put, List.setIfInBounds_toArray, List.set_cons_zero, List.set_cons_succ]
                  refine wpAnyH_take (i := 5) (oi := Oper.mk (some 94) _ _ _ _ _) (v := .int .i64 (f : Nat)) rfl (by kernel_rfl) (by kernel_rfl) (by kernel_rfl) (fun _ _ _ h => h) (Or.inl ⟨by rfl, ?_⟩) (by assumption) ?_
                  · intro w hSw
                    obtain ⟨⟨⟨hs0, hs1⟩, hs2, hs3⟩, s0, s1, s2, s3⟩ := hSw
                    clear hs0 hs1 hs2 hs3
                    go_simp
                  try simp only [Act.put, List.setIfInBounds_toArray, List.set_cons_zero, List.set_cons_succ]
                  refine wpAnyH_take (i := 7) (oi := Oper.mk (some 96) _ _ _ _ _) (v := .agg #[.slice (some ⟨bA, oA, none⟩) n c, .int .i64 x]) rfl (by kernel_rfl) (by kernel_rfl) (by kernel_rfl) (fun _ _ _ h => h) (Or.inl ⟨by rfl, ?_⟩) (by assumption) ?_
                  · intro w hSw
                    obtain ⟨⟨⟨hs0, hs1⟩, hs2, hs3⟩, s0, s1, s2, s3⟩ := hSw
                    clear hs0 hs1 hs2 hs3
                    go_simp
                  try simp only [Act.put, List.setIfInBounds_toArray, List.set_cons_zero, List.set_cons_succ]
                  refine wpAnyH_take (i := 8) (oi := Oper.mk (some 97) _ _ _ _ _) (v := .int .i64 (i : Nat)) rfl (by kernel_rfl) (by kernel_rfl) (by kernel_rfl) (fun _ _ _ h => h) (Or.inl ⟨by rfl, ?_⟩) (by assumption) ?_
                  · intro w hSw
                    obtain ⟨⟨⟨hs0, hs1⟩, hs2, hs3⟩, s0, s1, s2, s3⟩ := hSw
                    clear hs0 hs1 hs2 hs3
                    go_simp
                  try simp only [Act.put, List.setIfInBounds_toArray, List.set_cons_zero, List.set_cons_succ]
                  refine wpAnyH_ready (rs := [6]) (by kernel_rfl) (by simp) ?_
                  refine AllReadyH.cons (o := Oper.mk (some 95) _ _ _ _ _) rfl (fun K hK => ?_) ?_
                  · go_simp
                    (with_reducible refine (KU1.out _ D6.out).mono ?_)
                    rintro e w7 ⟨rfl, hb⟩
                    have D7 := Lib.hid (D6.out.next hb)
                    have B7 := Lib.hid (B6.out.below hb)
                    have RA7 : Hid (w7.rangeAt wr.heap.size 0 mc) := Lib.hid (fun j v hv => (hb.cell (p := ⟨wr.heap.size, 0 + j, none⟩) (by have := bw.out; show wr.heap.size < _; simp; omega)).trans (RA.out j v hv))
                    have RB7 : Hid (w7.rangeAt w5.heap.size 0 mc) := Lib.hid (fun j v hv => (hb.cell (p := ⟨w5.heap.size, 0 + j, none⟩) (by show w5.heap.size < _; simp)).trans (RB.out j v hv))
                    clear hb
                    refine hK.out _ _ ⟨⟨⟨D7.out, B7.out⟩, RA7.out, RB7.out⟩, D7.out.v1.c0, D7.out.v1.c1, D7.out.v2.c0, D7.out.v2.c1⟩ (fun hHeld => ?_)
                    clear hK K
                    try simp only [Act.put, List.setIfInBounds_toArray, List.set_cons_zero, List.set_cons_succ]
                    refine wpAnyH_ready (rs := [9]) (by kernel_rfl) (by simp) ?_
                    refine AllReadyH.cons (o := Oper.mk (some 98) _ _ _ _ _) rfl (fun K hK => ?_) ?_
                    · go_simp
                      (with_reducible refine (KU2.out _ D7.out).mono ?_)
                      rintro e w8 ⟨rfl, hb⟩
                      have D8 := Lib.hid (D7.out.next hb)
                      have B8 := Lib.hid (B7.out.below hb)
                      have lt7 := Lib.hid (lt_of_cell (D7.out.v1.c0))
                      have RA8 : Hid (w8.rangeAt wr.heap.size 0 mc) := Lib.hid (fun j v hv => (hb.cell (p := ⟨wr.heap.size, 0 + j, none⟩) (lt_of_cell (RA7.out j v hv))).trans (RA7.out j v hv))
                      have RB8 : Hid (w8.rangeAt w5.heap.size 0 mc) := Lib.hid (fun j v hv => (hb.cell (p := ⟨w5.heap.size, 0 + j, none⟩) (lt_of_cell (RB7.out j v hv))).trans (RB7.out j v hv))
                      clear hb lt7
                      refine hK.out _ _ ⟨⟨⟨D8.out, B8.out⟩, RA8.out, RB8.out⟩, D8.out.v1.c0, D8.out.v1.c1, D8.out.v2.c0, D8.out.v2.c1⟩ (fun hHeld => ?_)
                      clear hK K
                      try simp only [Act.put, List.setIfInBounds_toArray, List.set_cons_zero, List.set_cons_succ]
                      refine wpAnyH_take (i := 10) (oi := Oper.mk (some 99) _ _ _ _ _) (v := .bool false) rfl (by kernel_rfl) (by kernel_rfl) (by kernel_rfl) (fun _ _ _ h => h) (Or.inl ⟨by rfl, ?_⟩) (by assumption) ?_
                      · intro w hSw
                        obtain ⟨⟨⟨hs0, hs1⟩, hs2, hs3⟩, s0, s1, s2, s3⟩ := hSw
                        clear hs0 hs1 hs2 hs3
                        go_simp
                      try simp only [Act.put, List.setIfInBounds_toArray, List.set_cons_zero, List.set_cons_succ]
                      refine wpAnyH_take (i := 11) (oi := Oper.mk (some 100) _ _ _ _ _) (v := .bool false) rfl (by kernel_rfl) (by kernel_rfl) (by kernel_rfl) (fun _ _ _ h => h) (Or.inl ⟨by rfl, ?_⟩) (by assumption) ?_
                      · intro w hSw
                        obtain ⟨⟨⟨hs0, hs1⟩, hs2, hs3⟩, s0, s1, s2, s3⟩ := hSw
                        clear hs0 hs1 hs2 hs3
                        go_simp
                      try simp only [Act.put, List.setIfInBounds_toArray, List.set_cons_zero, List.set_cons_succ]
                      refine wpAnyH_done (by kernel_rfl) ?_ _
                      go_wp2_with fail
                      go_roundg (n - (i + 1))
                      case measure => omega
                      case rel => exact ⟨i + 1, f, by go_num, by rw [CE.out]; simp, rfl, by omega, Nat.le_refl _, RI, D8, B8⟩
                    exact AllReadyH.nil
                  exact AllReadyH.nil
            · have em : Hid (mc = nc) := Lib.hid (by
                rcases NS.out with ⟨h, -⟩ | ⟨-, h⟩
                · exact absurd (by rw [HK.out]; exact h) k45
                · rw [HMC.out, HNC.out, h])
              have e4 : (kd == 4) = false := by simp; omega
              have e5 : (kd == 5) = false := by simp; omega
              clear k45
              obtain ⟨r, hr, hiff⟩ := run_node_eq_all OKN.out OKN.out
              obtain rfl : r = true := hiff.2 rfl
              rw [← HNC.out] at hr
              have RR := Lib.hid hr
              clear hr hiff
              obtain rfl : mc = nc := em.out
              go_upto_region 26 with fail
              clear c0' c1' a0' a1' b0' b1' n0
              have D6 := Lib.hid D5.out.drew
              have B6 := Lib.hid (B5.out.below (Below.refl _ _).drew)
              have bw := Lib.hid lr
              refine wp_region_held_drew (S := (fun W' => ((Duo w.heap.size (some ⟨bA, oA, none⟩) n c x N w3.heap.size (some ⟨bB, oB, none⟩) m d y M w W' ∧ Box55 W' (w.heap.size + 1) X) ∧ (W'.rangeAt wr.heap.size 0 mc ∧ W'.rangeAt w5.heap.size 0 mc)) ∧ W'.cell? ⟨w.heap.size, 0, none⟩ = some (.slice (some ⟨bA, oA, none⟩) n c) ∧ W'.cell? ⟨w.heap.size, 1, none⟩ = some (.int .i64 x) ∧ W'.cell? ⟨w3.heap.size, 0, none⟩ = some (.slice (some ⟨bB, oB, none⟩) m d) ∧ W'.cell? ⟨w3.heap.size, 1, none⟩ = some (.int .i64 y))) (by kernel_rfl) ⟨⟨⟨D6.out, B6.out⟩, RA.out, RB.out⟩, D6.out.v1.c0, D6.out.v1.c1, D6.out.v2.c0, D6.out.v2.c1⟩ (fun hHeld => ?_)
              refine wpAnyH_take (i := 0) (oi := Oper.mk (some 89) _ _ _ _ _) (v := .agg mc.toArray) rfl (by kernel_rfl) (by kernel_rfl) (by kernel_rfl) (fun _ _ _ h => h) (yieldsIf_load_mid (by rfl) 32 _ rfl w5.heap.size 0 rfl mc _ (fun W hS => hS.1.2.2) Try.underlying32 rfl LM.out) (by assumption) ?_
              try simp only [Act.put, List.setIfInBounds_toArray, List.set_cons_zero, List.set_cons_succ]
              refine wpAnyH_take (i := 1) (oi := Oper.mk (some 90) _ _ _ _ _) (v := .agg mc.toArray) rfl (by kernel_rfl) (by kernel_rfl) (by kernel_rfl) (fun _ _ _ h => h) (yieldsIf_load_mid (by rfl) 32 _ rfl wr.heap.size 0 rfl mc _ (fun W hS => hS.1.2.1) Try.underlying32 rfl LM.out) (by assumption) ?_
              try simp only [Act.put, List.setIfInBounds_toArray, List.set_cons_zero, List.set_cons_succ]
              refine wpAnyH_take (i := 2) (oi := Oper.mk (some 91) _ _ _ _ _) (v := .bool false) rfl (by kernel_rfl) (by kernel_rfl) (by kernel_rfl) (fun _ _ _ h => h) (yieldsIf_neq_struct (by rfl) 32 _ _ _ rfl mc.toArray mc.toArray rfl rfl node_guard true RR.out) (by assumption) ?_
              try simp only [Act.put, List.setIfInBounds_toArray, List.set_cons_zero, List.set_cons_succ]
              refine wpAnyH_take (i := 3) (oi := Oper.mk (some 92) _ _ _ _ _) (v := .bool false) rfl (by kernel_rfl) (by kernel_rfl) (by kernel_rfl) (fun _ _ _ h => h) (Or.inl ⟨by rfl, ?_⟩) (by assumption) ?_
              · intro w hSw
                obtain ⟨⟨⟨hs0, hs1⟩, hs2, hs3⟩, s0, s1, s2, s3⟩ := hSw
                clear hs0 hs1 hs2 hs3
                go_simp
              try simp only [Act.put, List.setIfInBounds_toArray, List.set_cons_zero, List.set_cons_succ]
              refine wpAnyH_take (i := 4) (oi := Oper.mk (some 93) _ _ _ _ _) (v := .agg #[.slice (some ⟨bB, oB, none⟩) m d, .int .i64 y]) rfl (by kernel_rfl) (by kernel_rfl) (by kernel_rfl) (fun _ _ _ h => h) (Or.inl ⟨by rfl, ?_⟩) (by assumption) ?_
              · intro w hSw
                obtain ⟨⟨⟨hs0, hs1⟩, hs2, hs3⟩, s0, s1, s2, s3⟩ := hSw
                clear hs0 hs1 hs2 hs3
                go_simp
              try simp only [Act.put, List.setIfInBounds_toArray, List.set_cons_zero, List.set_cons_succ]
              refine wpAnyH_take (i := 5) (oi := Oper.mk (some 94) _ _ _ _ _) (v := .int .i64 (f : Nat)) rfl (by kernel_rfl) (by kernel_rfl) (by kernel_rfl) (fun _ _ _ h => h) (Or.inl ⟨by rfl, ?_⟩) (by assumption) ?_
              · intro w hSw
                obtain ⟨⟨⟨hs0, hs1⟩, hs2, hs3⟩, s0, s1, s2, s3⟩ := hSw
                clear hs0 hs1 hs2 hs3
                go_simp
              try simp only [Act.put, List.setIfInBounds_toArray, List.set_cons_zero, List.set_cons_succ]
              refine wpAnyH_take (i := 7) (oi := Oper.mk (some 96) _ _ _ _ _) (v := .agg #[.slice (some ⟨bA, oA, none⟩) n c, .int .i64 x]) rfl (by kernel_rfl) (by kernel_rfl) (by kernel_rfl) (fun _ _ _ h => h) (Or.inl ⟨by rfl, ?_⟩) (by assumption) ?_
              · intro w hSw
                obtain ⟨⟨⟨hs0, hs1⟩, hs2, hs3⟩, s0, s1, s2, s3⟩ := hSw
                clear hs0 hs1 hs2 hs3
                go_simp
              try simp only [Act.put, List.setIfInBounds_toArray, List.set_cons_zero, List.set_cons_succ]
              refine wpAnyH_take (i := 8) (oi := Oper.mk (some 97) _ _ _ _ _) (v := .int .i64 (i : Nat)) rfl (by kernel_rfl) (by kernel_rfl) (by kernel_rfl) (fun _ _ _ h => h) (Or.inl ⟨by rfl, ?_⟩) (by assumption) ?_
              · intro w hSw
                obtain ⟨⟨⟨hs0, hs1⟩, hs2, hs3⟩, s0, s1, s2, s3⟩ := hSw
                clear hs0 hs1 hs2 hs3
                go_simp
              try simp only [Act.put, List.setIfInBounds_toArray, List.set_cons_zero, List.set_cons_succ]
              refine wpAnyH_ready (rs := [6]) (by kernel_rfl) (by simp) ?_
              refine AllReadyH.cons (o := Oper.mk (some 95) _ _ _ _ _) rfl (fun K hK => ?_) ?_
              · go_simp
                (with_reducible refine (KU1.out _ D6.out).mono ?_)
                rintro e w7 ⟨rfl, hb⟩
                have D7 := Lib.hid (D6.out.next hb)
                have B7 := Lib.hid (B6.out.below hb)
                have RA7 : Hid (w7.rangeAt wr.heap.size 0 mc) := Lib.hid (fun j v hv => (hb.cell (p := ⟨wr.heap.size, 0 + j, none⟩) (by have := bw.out; show wr.heap.size < _; simp; omega)).trans (RA.out j v hv))
                have RB7 : Hid (w7.rangeAt w5.heap.size 0 mc) := Lib.hid (fun j v hv => (hb.cell (p := ⟨w5.heap.size, 0 + j, none⟩) (by show w5.heap.size < _; simp)).trans (RB.out j v hv))
                clear hb
                refine hK.out _ _ ⟨⟨⟨D7.out, B7.out⟩, RA7.out, RB7.out⟩, D7.out.v1.c0, D7.out.v1.c1, D7.out.v2.c0, D7.out.v2.c1⟩ (fun hHeld => ?_)
                clear hK K
                try simp only [Act.put, List.setIfInBounds_toArray, List.set_cons_zero, List.set_cons_succ]
                refine wpAnyH_ready (rs := [9]) (by kernel_rfl) (by simp) ?_
                refine AllReadyH.cons (o := Oper.mk (some 98) _ _ _ _ _) rfl (fun K hK => ?_) ?_
                · go_simp
                  (with_reducible refine (KU2.out _ D7.out).mono ?_)
                  rintro e w8 ⟨rfl, hb⟩
                  have D8 := Lib.hid (D7.out.next hb)
                  have B8 := Lib.hid (B7.out.below hb)
                  have lt7 := Lib.hid (lt_of_cell (D7.out.v1.c0))
                  have RA8 : Hid (w8.rangeAt wr.heap.size 0 mc) := Lib.hid (fun j v hv => (hb.cell (p := ⟨wr.heap.size, 0 + j, none⟩) (lt_of_cell (RA7.out j v hv))).trans (RA7.out j v hv))
                  have RB8 : Hid (w8.rangeAt w5.heap.size 0 mc) := Lib.hid (fun j v hv => (hb.cell (p := ⟨w5.heap.size, 0 + j, none⟩) (lt_of_cell (RB7.out j v hv))).trans (RB7.out j v hv))
                  clear hb lt7
                  refine hK.out _ _ ⟨⟨⟨D8.out, B8.out⟩, RA8.out, RB8.out⟩, D8.out.v1.c0, D8.out.v1.c1, D8.out.v2.c0, D8.out.v2.c1⟩ (fun hHeld => ?_)
                  clear hK K
                  try simp only [Act.put, List.setIfInBounds_toArray, List.set_cons_zero, List.set_cons_succ]
                  refine wpAnyH_take (i := 10) (oi := Oper.mk (some 99) _ _ _ _ _) (v := .bool false) rfl (by kernel_rfl) (by kernel_rfl) (by kernel_rfl) (fun _ _ _ h => h) (Or.inl ⟨by rfl, ?_⟩) (by assumption) ?_
                  · intro w hSw
                    obtain ⟨⟨⟨hs0, hs1⟩, hs2, hs3⟩, s0, s1, s2, s3⟩ := hSw
                    clear hs0 hs1 hs2 hs3
                    go_simp
                  try simp only [Act.put, List.setIfInBounds_toArray, List.set_cons_zero, List.set_cons_succ]
                  refine wpAnyH_take (i := 11) (oi := Oper.mk (some 100) _ _ _ _ _) (v := .bool false) rfl (by kernel_rfl) (by kernel_rfl) (by kernel_rfl) (fun _ _ _ h => h) (Or.inl ⟨by rfl, ?_⟩) (by assumption) ?_
                  · intro w hSw
                    obtain ⟨⟨⟨hs0, hs1⟩, hs2, hs3⟩, s0, s1, s2, s3⟩ := hSw
                    clear hs0 hs1 hs2 hs3
                    go_simp
                  try simp only [Act.put, List.setIfInBounds_toArray, List.set_cons_zero, List.set_cons_succ]
                  refine wpAnyH_done (by kernel_rfl) ?_ _
                  go_wp2_with fail
                  go_roundg (n - (i + 1))
                  case measure => omega
                  case rel => exact ⟨i + 1, f, by go_num, by rw [CE.out]; simp, rfl, by omega, Nat.le_refl _, RI, D8, B8⟩
                exact AllReadyH.nil
              exact AllReadyH.nil
        · obtain rfl : i = n := by omega
          have cb := CB.out i (Nat.le_refl _)
          have al := KT.out.all
          by_cases h1 : kd = 1
          · rw [if_pos (by rw [← HK.out]; exact h1)] at al
            subst h1
            obtain ⟨p, fx, pm, kup, kk⟩ := KT.out.made HK.out.symm
            obtain ⟨bB, oB, rfl, -, -⟩ := D.out.v2.doc.1.1.2 (by omega)
            have KX := Lib.hid (fun W (h : Duo w.heap.size A i c x N w3.heap.size (some ⟨bB, oB, none⟩) m d y M w W) => refFind_any (some ⟨bB, oB, none⟩) m d y M x W h.v2.doc _ fx)
            have KU := Lib.hid (fun W (h : Duo w.heap.size A i c x N w3.heap.size (some ⟨bB, oB, none⟩) m d y M w W) => up_any (some ⟨bB, oB, none⟩) m d y M p W h.v2.doc (by omega) (by omega) g.parent (by rw [up_of M pm, kup]))
            have NK := Lib.hid (fun W (h : Duo w.heap.size A i c x N w3.heap.size (some ⟨bB, oB, none⟩) m d y M w W) => (show W.cell? ⟨bB, oB + p * 51 + 2, none⟩ = some (.int .u8 g.node.kind) from by
              obtain ⟨b', o', e', -, -, -, t2, -⟩ := node_told h.v2.doc.1.1 pm
              simp only [Option.some.injEq, Addr.mk.injEq, and_true] at e'
              obtain ⟨rfl, rfl⟩ := e'
              rw [kk] at t2
              exact t2))
            unfold docV at KX KU
            generalize g.parent = gp at *
            generalize g.node.kind = gn at *
            have hm : (C i : Int) + 1 = m := by omega
            have wc : IntKind.i64.wrap ((C i : Int) + 1) = m := (IntWalk.i64_in _ (by omega)).trans hm
            have pmz : (p : Int) < m := by omega
            have p0z : ¬ (p : Int) < 0 := by omega
            have p0y : (0 : Int) ≤ p := by omega
            clear al fx kup kk
            go_wp2_with fail
            clear c0 c1 a0 a1 b0 b1
            refine (KX.out _ D.out).mono ?_
            rintro e w4 ⟨rfl, hb⟩
            have D2 := Lib.hid (D.out.next hb)
            have B2 := Lib.hid (B.out.below hb)
            clear hb D B
            obtain ⟨-, c0, c1, a0, a1⟩ := duo_S D2.out
            go_wp2_with fail
            clear c0 c1 a0 a1
            go_region_held3 (fun W' => (Duo w.heap.size A i c x N w3.heap.size (some ⟨bB, oB, none⟩) m d y M w W' ∧ Box55 W' (w.heap.size + 1) X) ∧ W'.cell? ⟨w3.heap.size, 0, none⟩ = some (.slice (some ⟨bB, oB, none⟩) m d) ∧ W'.cell? ⟨w3.heap.size, 1, none⟩ = some (.int .i64 y) ∧ W'.cell? ⟨w.heap.size + 1, 2, none⟩ = some (.int .i64 gp) ∧ W'.cell? ⟨w.heap.size + 1, 6, none⟩ = some (.int .u8 gn) ∧ W'.cell? ⟨bB, oB + p * 51 + 2, none⟩ = some (.int .u8 gn))
              (first | (with_reducible exact ⟨⟨KB.out, K5.out⟩, KB.out.v2.c0, KB.out.v2.c1, K5.out.cell k2, K5.out.cell k6, NK.out _ KB.out⟩) | (with_reducible exact ⟨⟨D2.out.drew, B2.out.below (Below.refl _ _).drew⟩, D2.out.drew.v2.c0, D2.out.drew.v2.c1, (B2.out.below (Below.refl _ _).drew).cell k2, (B2.out.below (Below.refl _ _).drew).cell k6, NK.out _ D2.out.drew⟩))
              (first | (go_at_call 14; (with_reducible refine (KU.out _ (And.left (And.left (by assumption)))).mono ?_); rintro e w5 ⟨rfl, hb⟩; have KB : Hid (Duo w.heap.size A i c x N w3.heap.size (some ⟨bB, oB, none⟩) m d y M w w5) := Lib.hid (Duo.next (And.left (And.left (by assumption))) hb); have K5 : Hid (Box55 w5 (w.heap.size + 1) X) := Lib.hid (Box55.below (And.right (And.left (by assumption))) hb); clear hb))
            obtain ⟨-, -, -, a0, a1⟩ := duo_S KB.out
            go_wp2_with fail
            go_ret
            exact ⟨by simp, KB.out.below⟩
          · rw [if_neg (by rw [← HK.out]; exact h1)] at al
            have k1' : (kd == 1) = false := by simp [h1]
            have hm : (C i : Int) = m := by omega
            clear al h1
            go_wp2_with fail
            go_ret
            exact ⟨by simp, D.out.below⟩
theorem walkMutateOthers (a0 : Option Addr) (len0 cap0 : Nat) (x0 : Int) (z0 : Nat → RN) (z1 : RC) (w : World) (w0 : DocIn w a0 len0 cap0 x0 z0) (w1 : z1.ok) :
    Calls Try.prog 4 #[docV a0 len0 cap0 x0, changeV z1] w fun e w' => e = .returned (.bool true) ∧ Below w.heap.size w w' :=
  others7 sty_none not_odd7 apply_any mutMay_any a0 len0 cap0 x0 z0 z1 w w0 w1
end Go.Proofs.Ytmodegkpfdlccaa
