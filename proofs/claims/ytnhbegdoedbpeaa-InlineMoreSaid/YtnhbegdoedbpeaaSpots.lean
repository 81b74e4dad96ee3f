/-
  Rows of spots and of places in memory: as they lie somewhere; of the call's own: read, put onto.
-/
import Derived.Test.YtnhbegdoedbpeaaInlineMath
import Derived.Test.YtnhbegdoedbpeaaRowsG
namespace Go.Proofs.Ytnhbegdoedbpeaa
open Go.RowKit

theorem Try.infoSp : (Try.prog.info? 33).map (fun i => (i.zero, i.size, i.bytes)) = some (some (.agg #[.int .i64 0, .int .i64 0, .int .i64 0, .int .u8 0]), 4, 32) := by kernel_rfl
theorem Try.infoPs : (Try.prog.info? 35).map (fun i => (i.zero, i.size, i.bytes)) = some (some (.agg #[.int .i64 0, .int .i64 0]), 2, 16) := by kernel_rfl
def spCells (x : Sp) : List Value := [.int .i64 x.1, .int .i64 x.2.1, .int .i64 x.2.2.1, .int .u8 (x.2.2.2 : Nat)]
def psCells (x : Ps) : List Value := [.int .i64 x.1, .int .i64 x.2]
theorem spCells_len (x : Sp) : (spCells x).length = 4 := rfl
theorem psCells_len (x : Ps) : (psCells x).length = 2 := rfl
def cellsS (l : List Sp) : List Value := l.flatMap spCells
def cellsP (l : List Ps) : List Value := l.flatMap psCells
theorem cellsS_len (l : List Sp) : (cellsS l).length = l.length * 4 := flat_len _ 4 spCells_len l
theorem cellsP_len (l : List Ps) : (cellsP l).length = l.length * 2 := flat_len _ 2 psCells_len l
theorem cellsS_append (a b : List Sp) : cellsS (a ++ b) = cellsS a ++ cellsS b := by simp [cellsS]
theorem cellsP_append (a b : List Ps) : cellsP (a ++ b) = cellsP a ++ cellsP b := by simp [cellsP]
theorem cellsS_one (l : List Sp) : ∀ u ∈ cellsS l, u.oneCell' = true := by
  intro u hu
  obtain ⟨x, -, hx⟩ := List.mem_flatMap.1 hu
  simp [spCells] at hx
  rcases hx with rfl | rfl | rfl | rfl <;> rfl
theorem cellsP_one (l : List Ps) : ∀ u ∈ cellsP l, u.oneCell' = true := by
  intro u hu
  obtain ⟨x, -, hx⟩ := List.mem_flatMap.1 hu
  simp [psCells] at hx
  rcases hx with rfl | rfl <;> rfl

/-- spots as they lie somewhere -/
def SpIn (w : World) (v : Value) (l : List Sp) : Prop := ∃ A c, v = .slice A l.length c ∧ (l.length ≤ c ∧ c ≤ 9223372036854775807) ∧ (l ≠ [] → ∃ b off, A = some ⟨b, off, none⟩ ∧ b < w.heap.size ∧
  ∀ j, j < l.length → w.cell? ⟨b, off + j * 4, none⟩ = some (.int .i64 (sw l j)) ∧ w.cell? ⟨b, off + j * 4 + 1, none⟩ = some (.int .i64 (su l j)) ∧ w.cell? ⟨b, off + j * 4 + 2, none⟩ = some (.int .i64 (sd l j)) ∧ w.cell? ⟨b, off + j * 4 + 3, none⟩ = some (.int .u8 (sa l j : Nat)))
/-- places as they lie somewhere -/
def PsIn (w : World) (v : Value) (l : List Ps) : Prop := ∃ A c, v = .slice A l.length c ∧ (l.length ≤ c ∧ c ≤ 9223372036854775807) ∧ (l ≠ [] → ∃ b, A = some ⟨b, 0, none⟩ ∧ b < w.heap.size ∧
  ∀ j x, l[j]? = some x → w.cell? ⟨b, j * 2, none⟩ = some (.int .i64 x.1) ∧ w.cell? ⟨b, j * 2 + 1, none⟩ = some (.int .i64 x.2))
theorem SpIn.keep {w w' : World} {v : Value} {l : List Sp} (h : SpIn w v l) (hb : Below w.heap.size w w') : SpIn w' v l := by
  obtain ⟨A, c, rfl, hc, hq⟩ := h
  refine ⟨A, c, rfl, hc, fun e => ?_⟩
  obtain ⟨b, off, h1, h2, h3⟩ := hq e
  exact ⟨b, off, h1, Nat.lt_of_lt_of_le h2 hb.size, fun j hj => ⟨(hb.cell (p := ⟨b, off + j * 4, none⟩) h2).trans (h3 j hj).1, (hb.cell (p := ⟨b, off + j * 4 + 1, none⟩) h2).trans (h3 j hj).2.1, (hb.cell (p := ⟨b, off + j * 4 + 2, none⟩) h2).trans (h3 j hj).2.2.1, (hb.cell (p := ⟨b, off + j * 4 + 3, none⟩) h2).trans (h3 j hj).2.2.2⟩⟩
theorem PsIn.keep {w w' : World} {v : Value} {l : List Ps} (h : PsIn w v l) (hb : Below w.heap.size w w') : PsIn w' v l := by
  obtain ⟨A, c, rfl, hc, hq⟩ := h
  refine ⟨A, c, rfl, hc, fun e => ?_⟩
  obtain ⟨b, h1, h2, h3⟩ := hq e
  exact ⟨b, h1, Nat.lt_of_lt_of_le h2 hb.size, fun j x hx => ⟨(hb.cell (p := ⟨b, j * 2, none⟩) h2).trans (h3 j x hx).1, (hb.cell (p := ⟨b, j * 2 + 1, none⟩) h2).trans (h3 j x hx).2⟩⟩
theorem SpIn.nil (w : World) : SpIn w (.slice none 0 0) [] := ⟨none, 0, rfl, ⟨by simp, by omega⟩, fun h => absurd rfl h⟩
/-- a spot at its place -/
theorem SpIn.get {w : World} {v : Value} {l : List Sp} (h : SpIn w v l) {i : Nat} (hi : i < l.length) : ∃ b off c, v = .slice (some ⟨b, off, none⟩) l.length c ∧ w.cell? ⟨b, off + i * 4, none⟩ = some (.int .i64 (sw l i)) ∧ w.cell? ⟨b, off + i * 4 + 1, none⟩ = some (.int .i64 (su l i)) ∧ w.cell? ⟨b, off + i * 4 + 2, none⟩ = some (.int .i64 (sd l i)) ∧ w.cell? ⟨b, off + i * 4 + 3, none⟩ = some (.int .u8 (sa l i : Nat)) := by
  obtain ⟨A, c, rfl, hc, hq⟩ := h
  obtain ⟨b, off, rfl, h2, h3⟩ := hq (by intro e; rw [e] at hi; simp at hi)
  exact ⟨b, off, c, rfl, h3 i hi⟩

/-- rows of spots, of places, of the call's own -/
def ownsS (w : World) (base : Nat) (v : Value) (l : List Sp) : Prop := w.ownsRow base 33 4 v l.length (cellsS l)
def ownsP (w : World) (base : Nat) (v : Value) (l : List Ps) : Prop := w.ownsRow base 35 2 v l.length (cellsP l)
theorem ownsS.nil (w : World) (base : Nat) : ownsS w base (.slice none 0 0) [] := ⟨rfl, .inl ⟨rfl, rfl⟩⟩
theorem ownsP.nil (w : World) (base : Nat) : ownsP w base (.slice none 0 0) [] := ⟨rfl, .inl ⟨rfl, rfl⟩⟩
theorem ownsS.keep {w w' : World} {base : Nat} {v : Value} {l : List Sp} (h : ownsS w base v l) (hb : Below w.heap.size w w') : ownsS w' base v l := own_keep h hb
theorem ownsP.keep {w w' : World} {base : Nat} {v : Value} {l : List Ps} (h : ownsP w base v l) (hb : Below w.heap.size w w') : ownsP w' base v l := own_keep h hb
theorem ownsS.at_ {w : World} {base : Nat} {v : Value} {l : List Sp} (h : ownsS w base v l) (hn : l ≠ []) : ∃ g c, v = .slice (some ⟨g, 0, none⟩) l.length c ∧ l.length ≤ c ∧ c ≤ 9223372036854775807 ∧ base ≤ g ∧ g < w.heap.size ∧
    (∀ j, j < l.length → w.cell? ⟨g, j * 4, none⟩ = some (.int .i64 (sw l j)) ∧ w.cell? ⟨g, j * 4 + 1, none⟩ = some (.int .i64 (su l j)) ∧ w.cell? ⟨g, j * 4 + 2, none⟩ = some (.int .i64 (sd l j)) ∧ w.cell? ⟨g, j * 4 + 3, none⟩ = some (.int .u8 (sa l j : Nat))) ∧ (∀ j, w.frozen? ⟨g, j, none⟩ = false) := by
  obtain ⟨g, c, h1, h2, h3, h4, h5, h6, h7⟩ := own_at h (by intro e; exact hn (List.length_eq_zero_iff.1 e))
  refine ⟨g, c, h1, h2, h3, h4, h5, fun j hj => ?_, h7⟩
  have g0 := flat_get spCells 4 spCells_len hj (i := 0) (by omega)
  have g1 := flat_get spCells 4 spCells_len hj (i := 1) (by omega)
  have g2 := flat_get spCells 4 spCells_len hj (i := 2) (by omega)
  have g3 := flat_get spCells 4 spCells_len hj (i := 3) (by omega)
  unfold sw su sd sa
  rw [sp_get hj]
  exact ⟨h6 _ _ g0, h6 _ _ g1, h6 _ _ g2, h6 _ _ g3⟩
theorem ownsP.at_ {w : World} {base : Nat} {v : Value} {l : List Ps} (h : ownsP w base v l) (hn : l ≠ []) : ∃ g c, v = .slice (some ⟨g, 0, none⟩) l.length c ∧ l.length ≤ c ∧ c ≤ 9223372036854775807 ∧ base ≤ g ∧ g < w.heap.size ∧
    (∀ j x, l[j]? = some x → w.cell? ⟨g, j * 2, none⟩ = some (.int .i64 x.1) ∧ w.cell? ⟨g, j * 2 + 1, none⟩ = some (.int .i64 x.2)) ∧ (∀ j, w.frozen? ⟨g, j, none⟩ = false) := by
  obtain ⟨g, c, h1, h2, h3, h4, h5, h6, h7⟩ := own_at h (by intro e; exact hn (List.length_eq_zero_iff.1 e))
  refine ⟨g, c, h1, h2, h3, h4, h5, fun j x hx => ?_, h7⟩
  obtain ⟨hj, rfl⟩ := List.getElem?_eq_some_iff.1 hx
  have g0 := flat_get psCells 2 psCells_len hj (i := 0) (by omega)
  have g1 := flat_get psCells 2 psCells_len hj (i := 1) (by omega)
  exact ⟨h6 _ _ g0, h6 _ _ g1⟩
theorem ownsS.sps {w : World} {base : Nat} {v : Value} {l : List Sp} (h : ownsS w base v l) : SpIn w v l := by
  by_cases e : l = []
  · obtain ⟨A, c, rfl, h1, h2, -⟩ := own_form h
    exact ⟨A, c, rfl, ⟨h1, h2⟩, fun h => absurd e h⟩
  · obtain ⟨g, c, rfl, h2, h3, h4, h5, h6, h7⟩ := h.at_ e
    exact ⟨_, c, rfl, ⟨h2, h3⟩, fun _ => ⟨g, 0, rfl, h5, fun j hj => by rw [Nat.zero_add]; exact h6 j hj⟩⟩
theorem ownsP.pss {w : World} {base : Nat} {v : Value} {l : List Ps} (h : ownsP w base v l) : PsIn w v l := by
  by_cases e : l = []
  · obtain ⟨A, c, rfl, h1, h2, -⟩ := own_form h
    exact ⟨A, c, rfl, ⟨h1, h2⟩, fun h => absurd e h⟩
  · obtain ⟨g, c, rfl, h2, h3, h4, h5, h6, h7⟩ := h.at_ e
    exact ⟨_, c, rfl, ⟨h2, h3⟩, fun _ => ⟨g, rfl, h5, h6⟩⟩
/-- the cells of a row of spots, wherever it lies -/
theorem SpIn.cells {w : World} {v : Value} {l : List Sp} (h : SpIn w v l) {A : Option Addr} {n c : Nat} (e : v = .slice A n c) : ∀ p, A = some p → ∀ j u, (cellsS l)[j]? = some u → w.cell? (p.add j) = some u := by
  rintro p rfl j u hu
  have hj := (List.getElem?_eq_some_iff.1 hu).1
  rw [cellsS_len] at hj
  have hi : j / 4 < l.length := by omega
  obtain ⟨b, off, c', e', c0, c1, c2, c3⟩ := h.get hi
  rw [e] at e'
  injection e' with e1 e2 e3
  injection e1 with e1
  subst e1
  unfold sw at c0
  unfold su at c1
  unfold sd at c2
  unfold sa at c3
  rw [sp_get hi] at c0 c1 c2 c3
  rw [Go.WideShapes.add_plain]
  unfold cellsS at hu
  have hc : j % 4 = 0 ∨ j % 4 = 1 ∨ j % 4 = 2 ∨ j % 4 = 3 := by omega
  rcases hc with hp | hp | hp | hp
  · have g0 := flat_get spCells 4 spCells_len (l := l) hi (i := 0) (by omega)
    rw [show j / 4 * 4 + 0 = j by omega, hu] at g0
    rw [show off + j = off + j / 4 * 4 by omega, c0]
    exact g0.symm
  · have g0 := flat_get spCells 4 spCells_len (l := l) hi (i := 1) (by omega)
    rw [show j / 4 * 4 + 1 = j by omega, hu] at g0
    rw [show off + j = off + j / 4 * 4 + 1 by omega, c1]
    exact g0.symm
  · have g0 := flat_get spCells 4 spCells_len (l := l) hi (i := 2) (by omega)
    rw [show j / 4 * 4 + 2 = j by omega, hu] at g0
    rw [show off + j = off + j / 4 * 4 + 2 by omega, c2]
    exact g0.symm
  · have g0 := flat_get spCells 4 spCells_len (l := l) hi (i := 3) (by omega)
    rw [show j / 4 * 4 + 3 = j by omega, hu] at g0
    rw [show off + j = off + j / 4 * 4 + 3 by omega, c3]
    exact g0.symm
theorem sp_cells {w : World} {T : TypeId} (x : Sp) : ∀ j u, (cellsS [x])[j]? = some u → (w.alloc (.cells (spCells x).toArray T)).cell? ((⟨w.heap.size, 0, none⟩ : Addr).add j) = some u := by
  intro j u hu
  rw [Go.WideShapes.add_plain, Nat.zero_add, World.cell?_alloc_new]
  simpa [cellsS] using hu
theorem ps_cells {w : World} {T : TypeId} (x : Ps) : ∀ j u, (cellsP [x])[j]? = some u → (w.alloc (.cells (psCells x).toArray T)).cell? ((⟨w.heap.size, 0, none⟩ : Addr).add j) = some u := by
  intro j u hu
  rw [Go.WideShapes.add_plain, Nat.zero_add, World.cell?_alloc_new]
  simpa [cellsP] using hu
/-- spots put onto spots of the call's own -/
theorem wpList_append_sps {w : World} {ops : Array Oper} {rest : List Oper} {o : Oper} {a : Act} {Q : Exit → Act → World → Prop} (hgd : o.guard = none) (s x : Operand)
    (ho : o.op = .call { callee := .builtin .append, args := #[s, x], argTypes := #[22, 22] })
    (base : Nat) (v : Value) (l : List Sp) (hs : a.eval s = v) (hown : ownsS w base v l) (m : List Sp) (A : Option Addr) (c : Nat) (hx : a.eval x = .slice A m.length c)
    (hm : ∀ p, A = some p → ∀ j u, (cellsS m)[j]? = some u → w.cell? (p.add j) = some u) (hA : A = none → m = [] ∧ c = 0)
    (hb : l.length + m.length ≤ 100000) (hbase : base ≤ w.heap.size)
    (h : ∀ v' w', ownsS w' base v' (l ++ m) → Below base w w' → (∀ k, k < w.heap.size → some k ≠ v.ownBlock → w'.heap[k]? = w.heap[k]?) → wpList Try.prog ops Q rest (a.put o.dst v') w') :
    wpList Try.prog ops Q (o :: rest) a w := by
  obtain ⟨i0, hi, hz0, hz1, hz2⟩ := info_parts10 Try.infoSp
  cases A with
  | none =>
    obtain ⟨rfl, rfl⟩ := hA rfl
    refine wpList_append_own_none hgd s x 22 ho base 33 i0 4 Try.underlying22 hi v l.length _ hs hown hx ?_
    exact h v w (by rw [List.append_nil]; exact hown) (Below.refl _ _) (fun _ _ _ => rfl)
  | some ad =>
    refine wpList_append_own _ hgd s x 22 ho base 33 i0 _ 4 32 Try.underlying22 hi hz0 hz1 hz2 rfl (by decide) v l.length _ hs hown ad m.length c (cellsS m) hx (cellsS_len m) (hm ad rfl) (cellsS_one m) (by unfold maxLen; omega) (by omega) hbase ?_
    intro v' w' hown' hgrow _
    refine h v' w' ?_ ((Below.refl base _).grown hgrow hbase (fun k e => ?_)) (fun k hk e => hgrow.block k hk e)
    · unfold ownsS
      rw [cellsS_append, List.length_append]
      exact hown'
    · rcases hown.2 with ⟨rfl, _⟩ | ⟨g, cap, cur, rfl, hbg, _⟩
      · cases e
      · cases e; exact hbg
/-- one put onto them -/
theorem wpList_append_sp {w : World} {ops : Array Oper} {rest : List Oper} {o : Oper} {a : Act} {Q : Exit → Act → World → Prop} (hgd : o.guard = none) (s x : Operand)
    (ho : o.op = .call { callee := .builtin .append, args := #[s, x], argTypes := #[22, 22] })
    (base : Nat) (v : Value) (l : List Sp) (hs : a.eval s = v) (hown : ownsS w base v l) (y : Sp) (T : TypeId) (hx : a.eval x = .slice (some ⟨w.heap.size, 0, none⟩) 1 1)
    (hb : l.length ≤ 90000) (hbase : base ≤ w.heap.size)
    (h : ∀ v' w', ownsS w' base v' (l ++ [y]) → Below base w w' → (∀ k, k < w.heap.size → some k ≠ v.ownBlock → w'.heap[k]? = w.heap[k]?) → wpList Try.prog ops Q rest (a.put o.dst v') w') :
    wpList Try.prog ops Q (o :: rest) a (w.alloc (.cells (spCells y).toArray T)) := by
  have ha : Below base w (w.alloc (.cells (spCells y).toArray T)) := (Below.refl _ _).alloc hbase _
  have hown2 : ownsS (w.alloc (.cells (spCells y).toArray T)) base v l := hown.keep ((Below.refl _ _).alloc (Nat.le_refl _) _)
  refine wpList_append_sps hgd s x ho base v l hs hown2 [y] _ 1 hx (fun p e => ?_) (fun e => by cases e) (by show _ + 1 ≤ _; omega) (by have := ha.size; omega) (fun v' w' h1 h2 h3 => h v' w' h1 (ha.trans h2) (fun k hk e => (h3 k (Nat.lt_of_lt_of_le hk ((Below.refl _ w).alloc (Nat.le_refl _) _).size) e).trans (((Below.refl _ w).alloc (Nat.le_refl _) _).block k hk)))
  cases e
  exact sp_cells y
/-- a place put onto places of the call's own -/
theorem wpList_append_ps {w : World} {ops : Array Oper} {rest : List Oper} {o : Oper} {a : Act} {Q : Exit → Act → World → Prop} (hgd : o.guard = none) (s x : Operand)
    (ho : o.op = .call { callee := .builtin .append, args := #[s, x], argTypes := #[25, 25] })
    (base : Nat) (v : Value) (l : List Ps) (hs : a.eval s = v) (hown : ownsP w base v l) (y : Ps) (T : TypeId) (hx : a.eval x = .slice (some ⟨w.heap.size, 0, none⟩) 1 1)
    (hb : l.length ≤ 90000) (hbase : base ≤ w.heap.size)
    (h : ∀ v' w', ownsP w' base v' (l ++ [y]) → Below base w w' → (∀ k, k < w.heap.size → some k ≠ v.ownBlock → w'.heap[k]? = w.heap[k]?) → wpList Try.prog ops Q rest (a.put o.dst v') w') :
    wpList Try.prog ops Q (o :: rest) a (w.alloc (.cells (psCells y).toArray T)) := by
  have ha : Below base w (w.alloc (.cells (psCells y).toArray T)) := (Below.refl _ _).alloc hbase _
  have hown2 : ownsP (w.alloc (.cells (psCells y).toArray T)) base v l := hown.keep ((Below.refl _ _).alloc (Nat.le_refl _) _)
  obtain ⟨i0, hi, hz0, hz1, hz2⟩ := info_parts10 Try.infoPs
  refine wpList_append_own _ hgd s x 25 ho base 35 i0 _ 2 16 Try.underlying25 hi hz0 hz1 hz2 rfl (by decide) v l.length _ hs hown2 ⟨w.heap.size, 0, none⟩ 1 1 (cellsP [y]) hx (cellsP_len [y]) (ps_cells y) (cellsP_one [y]) (by unfold maxLen; omega) (by omega) (by have := ha.size; omega) ?_
  intro v' w' hown' hgrow _
  have ho2 : Below base (w.alloc (.cells (psCells y).toArray T)) w' := (Below.refl base _).grown hgrow (by have := ha.size; omega) (fun k e => by
    rcases hown2.2 with ⟨rfl, _⟩ | ⟨g, cap, cur, rfl, hbg, _⟩
    · cases e
    · cases e; exact hbg)
  refine h v' w' ?_ (ha.trans ho2) (fun k hk e => (hgrow.block k (Nat.lt_of_lt_of_le hk ((Below.refl _ w).alloc (Nat.le_refl _) _).size) e).trans (((Below.refl _ w).alloc (Nat.le_refl _) _).block k hk))
  unfold ownsP
  rw [cellsP_append, List.length_append]
  exact hown'
end Go.Proofs.Ytnhbegdoedbpeaa
