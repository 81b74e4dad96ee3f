/-
  tree.Copy of the landed code: a row of nodes made, and copied into.
-/
import Derived.Test.YtmodegkpfdlccaaWithin
import Derived.Laws.CopyOwn
import Derived.Laws.MakeOwn
import Derived.Laws.OwnMore
namespace Go.Proofs.Ytmodegkpfdlccaa
open Go.RowKit Go.ChangeShapes Go.WideShapes

theorem toCell_one (l : Lit) : l.toCell.oneCell' = true := by cases l <;> rfl
theorem RN.cells_one (v : RN) : ∀ u ∈ v.cells, u.oneCell' = true := by
  intro u hu
  obtain ⟨l, -, rfl⟩ := List.mem_map.1 hu
  exact toCell_one l
/-- the cells of a row of nodes -/
def rowCells (N : Nat → RN) : Nat → List Value
  | 0 => []
  | n + 1 => rowCells N n ++ (N n).cells
theorem rowCells_len {N : Nat → RN} {n : Nat} (h : ∀ j, j < n → (N j).ok) : (rowCells N n).length = n * 51 := by
  induction n with
  | zero => rfl
  | succ n ih =>
    rw [rowCells, List.length_append, ih fun j hj => h j (by omega), (h n (by omega)).len]
    omega
theorem rowCells_get {N : Nat → RN} {n j k : Nat} (h : ∀ j, j < n → (N j).ok) (hj : j < n) (hk : k < 51) : (rowCells N n)[j * 51 + k]? = (N j).cells[k]? := by
  induction n with
  | zero => omega
  | succ n ih =>
    have hl := rowCells_len (N := N) (n := n) fun j hj => h j (by omega)
    rw [rowCells]
    rcases Nat.lt_or_ge j n with h1 | h1
    · rw [List.getElem?_append_left (by omega)]
      exact ih (fun j hj => h j (by omega)) h1
    · obtain rfl : j = n := by omega
      rw [List.getElem?_append_right (by omega), hl]
      congr 1
      omega
theorem rowCells_one (N : Nat → RN) (n : Nat) : ∀ u ∈ rowCells N n, u.oneCell' = true := by
  induction n with
  | zero => intro u hu; cases hu
  | succ n ih =>
    intro u hu
    rcases List.mem_append.1 hu with h | h
    · exact ih u h
    · exact (N n).cells_one u h
theorem rowCells_src {W : World} {A : Option Addr} {n : Nat} {N : Nat → RN} (h : Nodes W A n N) (hn : 0 < n) : ∃ a, A = some a ∧ ∀ j v, (rowCells N n)[j]? = some v → W.cell? (a.add j) = some v := by
  obtain ⟨b, off, rfl, hb, hc⟩ := h.2 hn
  refine ⟨_, rfl, fun j v hv => ?_⟩
  have hl : j < n * 51 := by
    have := (List.getElem?_eq_some_iff.1 hv).1
    rwa [rowCells_len h.1] at this
  have hq : j / 51 < n := by omega
  have hr : j % 51 < 51 := by omega
  have he : j = j / 51 * 51 + j % 51 := by omega
  have h1 := rowCells_get (N := N) h.1 hq hr
  have h2 := hc (j / 51) hq (j % 51) hr
  rw [← he] at h1
  have e : (⟨b, off, none⟩ : Addr).add j = ⟨b, off + j / 51 * 51 + j % 51, none⟩ := by rw [add_plain, Nat.add_assoc, ← he]
  rw [e, h2, ← h1]
  exact hv

theorem run_copy_rows {P : Program} (w : World) (dT sT ty elem : TypeId) (g dLen dCap : Nat) (sp : Option Addr) (sLen sCap : Nat) (cur : Array Value) (t : TypeId) (cs : List Value) (k : Nat)
    (hu : P.underlying dT = some (.slice elem)) (hs : (P.info? elem).map (·.size) = some k)
    (hg : w.heap[g]? = some (.cells cur t (0, 0))) (hn : cs.length = Nat.min sLen dLen * k)
    (hsrc : 0 < Nat.min sLen dLen → ∃ a, sp = some a ∧ ∀ j v, cs[j]? = some v → w.cell? (a.add j) = some v) (hfit : cs.length ≤ cur.size) (h1 : ∀ v ∈ cs, v.oneCell' = true) :
    (Builtin.copy_ #[dT, sT] ty #[.slice (some ⟨g, 0, none⟩) dLen dCap, .slice sp sLen sCap]).run P w =
      .ok (goInt (Nat.min sLen dLen)) (w.setRow g (cs ++ cur.toList.drop cs.length).toArray) := by
  have hst := run_storeCells_at P g 0 t cs 0 cur w hg (by simpa using hfit) h1
  simp only [Nat.zero_add, Nat.add_zero, List.take_zero, List.nil_append] at hst
  cases hq : P.info? elem with
  | none => simp [hq] at hs
  | some i =>
    have hi : i.size = k := by simpa [hq] using hs
    by_cases h0 : Nat.min sLen dLen = 0
    · obtain rfl : cs = [] := List.eq_nil_of_length_eq_zero (by rw [hn, h0, Nat.zero_mul])
      have hl : ∀ (x : Addr), (loadCells x 0).run P w = .ok #[] w := fun x => by simpa using run_loadCells_list (P := P) w x [] (by simp)
      simp only [List.nil_append, List.length_nil, List.drop_zero, Array.toArray_toList]
      rw [setRow_self w g cur t (0, 0) hg]
      cases sp <;> simp [Builtin.copy_, run_underlying hu, Builtin.lenOf, Builtin.firstCells, sizeOf, typeInfo, hq, h0, storeCells, hl]
    · obtain ⟨a, rfl, hc⟩ := hsrc (by omega)
      have hl := run_loadCells_list (P := P) w a cs hc
      rw [hn] at hl
      simp [Builtin.copy_, run_underlying hu, Builtin.lenOf, Builtin.firstCells, sizeOf, typeInfo, hq, hi, hl, hst]

theorem wpList_copy_rows {P : Program} {w : World} {ops : Array Oper} {rest : List Oper} {o : Oper} {a : Act} {Q : Exit → Act → World → Prop} (hgd : o.guard = none) (d s : Operand) (dT sT : TypeId)
    (ho : o.op = .call { callee := .builtin .copy, args := #[d, s], argTypes := #[dT, sT] }) (elem : TypeId) (k : Nat) (hu : P.underlying dT = some (.slice elem)) (hsz : (P.info? elem).map (·.size) = some k)
    (g dLen dCap : Nat) (sp : Option Addr) (sLen sCap : Nat) (hd : a.eval d = .slice (some ⟨g, 0, none⟩) dLen dCap) (hs : a.eval s = .slice sp sLen sCap)
    (cur : Array Value) (t : TypeId) (hg : w.heap[g]? = some (.cells cur t (0, 0))) (cs : List Value) (hn : cs.length = Nat.min sLen dLen * k)
    (hsrc : 0 < Nat.min sLen dLen → ∃ a, sp = some a ∧ ∀ j v, cs[j]? = some v → w.cell? (a.add j) = some v) (hfit : cs.length ≤ cur.size) (h1 : ∀ v ∈ cs, v.oneCell' = true)
    (h : wpList P ops Q rest (a.put o.dst (goInt (Nat.min sLen dLen))) (w.setRow g (cs ++ cur.toList.drop cs.length).toArray)) : wpList P ops Q (o :: rest) a w := by
  refine wpList_plain hgd fun K hK => ?_
  have hrun := run_copy_rows (P := P) w dT sT o.type elem g dLen dCap sp sLen sCap cur t cs k hu hsz hg hn hsrc hfit h1
  unfold Oper.wp
  simp [execOp, ho, resolve, invoke, builtin, hd, hs, hrun, Result.andThen]
  exact hK _ _ h

/-- the program's own facts of nodes -/
theorem node_info : ∃ ie, Try.prog.info? 32 = some ie ∧ ie.size = 51 ∧ ie.zero = some (box 0 0).val ∧ ie.bytes = 360 := by
  have h1 : (Try.prog.info? 32).isSome = true := by kernel_rfl
  obtain ⟨ie, hie⟩ := Option.isSome_iff_exists.1 h1
  have hsz : (Try.prog.info? 32).map (·.size) = some 51 := by kernel_rfl
  have hz : (Try.prog.info? 32).bind (·.zero) = some (box 0 0).val := by kernel_rfl
  have hb : (Try.prog.info? 32).map (·.bytes) = some 360 := by kernel_rfl
  rw [hie] at hsz hz hb
  exact ⟨ie, hie, by simpa using hsz, by simpa using hz, by simpa using hb⟩

/-- a row of a call's own that holds these nodes -/
theorem nodes_of_row {W : World} {g : Nat} {cs : Array Value} {t : TypeId} {fr : Nat × Nat} {n : Nat} {N : Nat → RN} (hg : W.heap[g]? = some (.cells cs t fr)) (hok : ∀ j, j < n → (N j).ok) (hc : ∀ i, i < n * 51 → cs[i]? = (rowCells N n)[i]?) : Nodes W (some ⟨g, 0, none⟩) n N :=
  ⟨hok, fun _ => ⟨g, 0, rfl, (Array.getElem?_eq_some_iff.1 hg).1, fun j hj k hk => by
    have e : W.cell? ⟨g, 0 + j * 51 + k, none⟩ = cs[0 + j * 51 + k]? := by simp [World.cell?, hg]
    rw [e, Nat.zero_add, hc _ (by omega), rowCells_get hok hj hk]⟩⟩

theorem own_cells {w : World} {base e size g n c : Nat} {xs : List Value} (h : w.ownsRow base e size (.slice (some ⟨g, 0, none⟩) n c) n xs) : ∃ cur, w.heap[g]? = some (.cells cur e (0, 0)) ∧ cur.size = c * size := by
  rcases h.2 with ⟨h1, _⟩ | ⟨g', cap, cur, h1, _, h2, _, _, h3, _⟩
  · cases h1
  · injection h1 with h4 h5 h6
    simp only [Option.some.injEq, Addr.mk.injEq, and_true] at h4
    subst h4 h6
    exact ⟨cur, h2, h3⟩

/-- a variable of a document, in its block -/
def DocBox (W : World) (g : Nat) (a b : Value) : Prop := W.heap[g]? = some (.cells #[a, b] 24 (0, 0))
theorem DocBox.c0 {W : World} {g : Nat} {a b : Value} (h : DocBox W g a b) : W.cell? ⟨g, 0, none⟩ = some a := by simp [World.cell?, show W.heap[g]? = _ from h]
theorem DocBox.c1 {W : World} {g : Nat} {a b : Value} (h : DocBox W g a b) : W.cell? ⟨g, 1, none⟩ = some b := by simp [World.cell?, show W.heap[g]? = _ from h]
theorem DocBox.f0 {W : World} {g : Nat} {a b : Value} (h : DocBox W g a b) : W.frozen? ⟨g, 0, none⟩ = false := by simp [World.frozen?, show W.heap[g]? = _ from h]
theorem DocBox.f1 {W : World} {g : Nat} {a b : Value} (h : DocBox W g a b) : W.frozen? ⟨g, 1, none⟩ = false := by simp [World.frozen?, show W.heap[g]? = _ from h]
theorem DocBox.lt {W : World} {g : Nat} {a b : Value} (h : DocBox W g a b) : g < W.heap.size := (Array.getElem?_eq_some_iff.1 h).1
theorem DocBox.put {W : World} {g : Nat} {a b : Value} (h : DocBox W g a b) (x y : Value) : DocBox ((W.setCell ⟨g, 0, none⟩ x).setCell ⟨g, 1, none⟩ y) g x y := by
  unfold DocBox at *
  simp [World.setCell, Array.getElem?_modify, h]
theorem DocBox.keep {W W' : World} {g : Nat} {a b : Value} (h : DocBox W g a b) (hb : W'.heap[g]? = W.heap[g]?) : DocBox W' g a b := hb.trans h

set_option maxRecDepth 100000 in
set_option maxHeartbeats 4000000 in
theorem copy_any5 : CopyOK5 := by
  intro A len c x N w hD
  have hlen : len ≤ 140737488351232 := by have := hD.1.2.2.2; omega
  have h360 : len * 360 ≤ 140737488351232 := hD.1.2.2.2
  obtain ⟨ie, hie, hsz, hz, hby⟩ := node_info
  have hsz1 : (Try.prog.info? 32).map (·.size) = some 51 := by rw [hie]; simp [hsz]
  unfold docV
  have DD := Lib.hid hD
  have RL := Lib.hid (rowCells_len (N := N) (n := len) hD.1.1.1)
  clear hD
  go_enter Try.func40, Try.ntmps40
  have hb0 : Below w.heap.size w ((w.alloc (.cells #[.slice A len c, .int .i64 x] 24)).alloc (.cells #[.slice none 0 0, .int .i64 0] 24)) := ((Below.refl _ w).alloc (Nat.le_refl _) _).alloc (by simp) _
  have B0 := Lib.hid hb0
  have hd0 : DocBox ((w.alloc (.cells #[.slice A len c, .int .i64 x] 24)).alloc (.cells #[.slice none 0 0, .int .i64 0] 24)) w.heap.size (.slice A len c) (.int .i64 x) := heap_alloc2_old w _ _
  have hr0 : DocBox ((w.alloc (.cells #[.slice A len c, .int .i64 x] 24)).alloc (.cells #[.slice none 0 0, .int .i64 0] 24)) (w.heap.size + 1) (.slice none 0 0) (.int .i64 0) := heap_alloc2_new w _ _
  have hz0 : ((w.alloc (.cells #[.slice A len c, .int .i64 x] 24)).alloc (.cells #[.slice none 0 0, .int .i64 0] 24)).heap.size = w.heap.size + 2 := by simp
  have D0 := Lib.hid hd0
  have R0 := Lib.hid hr0
  have Z0 := Lib.hid hz0
  clear hb0 hd0 hr0 hz0
  go_wp2_with (first
    | (refine wpList_make_full (o := ⟨some 7, _, _, _, _, _⟩) _ rfl _ _ 22 rfl (w.heap.size + 2) 32 ie _ 51 Try.underlying22 hie hz hsz .i64 .i64 len len len rfl rfl rfl rfl (by rw [hby]; omega) (by unfold maxLen; omega) (by simp) ?_; intro w1 hown hgrow; have D1 := Lib.hid (D0.out.keep (hgrow.block _ (by rw [Z0.out]; omega) (by simp))); have R1 := Lib.hid (R0.out.keep (hgrow.block _ (by rw [Z0.out]; omega) (by simp))); have B1 := Lib.hid (B0.out.grown hgrow (by rw [Z0.out]; omega) (fun k e => by cases e)); have d0 := D1.out.c0; have d1 := D1.out.c1; have ho1 := hown; rw [Z0.out] at ho1; have O1 := Lib.hid ho1; clear hown hgrow ho1)
    | (obtain ⟨cur, hcur, hcs⟩ := own_cells O1.out; refine wpList_copy_rows (o := ⟨some 11, _, _, _, _, _⟩) rfl _ _ 22 22 rfl 32 51 Try.underlying22 hsz1 (w.heap.size + 2) len len A len c rfl rfl cur _ hcur (rowCells N len) (by rw [RL.out]; simp) (fun h0 => rowCells_src (DD.out.1.1.below B1.out) (by simpa using h0)) (by rw [RL.out, hcs]; omega) (rowCells_one N len) ?_; obtain ⟨w2, hw2⟩ : ∃ w2, w1.setRow (w.heap.size + 2) (rowCells N len ++ cur.toList.drop (rowCells N len).length).toArray = w2 := ⟨_, rfl⟩; have G2 : Hid (w2.heap[w.heap.size + 2]? = some (.cells (rowCells N len ++ cur.toList.drop (rowCells N len).length).toArray 32 (0, 0))) := Lib.hid (by rw [← hw2]; exact setRow_heap w1 _ cur _ _ _ hcur); have D2 := Lib.hid (D1.out.keep (W' := w2) (by rw [← hw2]; exact setRow_other w1 _ _ _ (by omega))); have R2 := Lib.hid (R1.out.keep (W' := w2) (by rw [← hw2]; exact setRow_other w1 _ _ _ (by omega))); have B2 : Hid (Below w.heap.size w w2) := Lib.hid (by rw [← hw2]; exact below_setRow B1.out (by omega) _); have e2 := D2.out.c1; have r0 := R2.out.c0; have r1 := R2.out.c1; have r2 := R2.out.f0; have r3 := R2.out.f1; clear d0 d1 hcur hcs; rw [hw2]; clear hw2))
  have P := R2.out.put (.slice (some ⟨w.heap.size + 1 + 1, 0, none⟩) len len) (.int .i64 x)
  have G3 : ((w2.setCell ⟨w.heap.size + 1, 0, none⟩ (.slice (some ⟨w.heap.size + 1 + 1, 0, none⟩) len len)).setCell ⟨w.heap.size + 1, 1, none⟩ (.int .i64 x)).heap[w.heap.size + 2]? = some (.cells (rowCells N len ++ cur.toList.drop (rowCells N len).length).toArray 32 (0, 0)) := by
    rw [Below.heap_setCell _ _ _ _ (by show w.heap.size + 2 ≠ w.heap.size + 1; omega), Below.heap_setCell _ _ _ _ (by show w.heap.size + 2 ≠ w.heap.size + 1; omega)]
    exact G2.out
  refine bodyPost_ret (results_row5 rfl _ _ (w.heap.size + 1) _ _ _ _ rfl P Try.underlying24 rfl (by kernel_rfl)) rfl ?_
  refine ⟨some ⟨w.heap.size + 2, 0, none⟩, len, rfl, ⟨⟨nodes_of_row G3 DD.out.1.1.1 fun i hi => ?_, (fun e => by cases e), ⟨Nat.le_refl _, by omega⟩, h360⟩, DD.out.2⟩, fun _ => ⟨w.heap.size + 2, 0, _, rfl, by omega, G3⟩,
    (B2.out.setCell (p := ⟨w.heap.size + 1, 0, none⟩) (by show w.heap.size ≤ w.heap.size + 1; omega) _).setCell (p := ⟨w.heap.size + 1, 1, none⟩) (by show w.heap.size ≤ w.heap.size + 1; omega) _⟩
  rw [List.getElem?_toArray, List.getElem?_append_left (by rw [RL.out]; exact hi)]
end Go.Proofs.Ytmodegkpfdlccaa
