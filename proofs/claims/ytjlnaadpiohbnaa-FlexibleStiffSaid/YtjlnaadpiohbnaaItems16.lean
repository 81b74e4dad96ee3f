/-
  Rows of boxes (flexible) in memory: as they lie somewhere; of the call's own.
-/
import Derived.Test.YtjlnaadpiohbnaaRunM16
import Derived.Test.YtjlnaadpiohbnaaRowsG
namespace Go.Proofs.Ytjlnaadpiohbnaa
open Go.RowKit

theorem itA_get {l : List It16} {i : Nat} (h : i < l.length) : itA l i = l[i] := by
  unfold itA
  rw [List.getElem?_eq_getElem h]
  rfl
theorem Try.infoTm : (Try.prog.info? 32).map (fun i => (i.zero, i.size, i.bytes)) = some (some (.agg #[.int .i64 0, .int .i64 0, .int .i64 0, .int .i64 0, .int .i64 0, .int .i64 0]), 6, 48) := by kernel_rfl
def tmCells (k : It16) : List Value := [.int .i64 k.base, .int .i64 k.least, .int .i64 k.most, .int .i64 k.grow, .int .i64 k.shrink, .int .i64 k.outer]
def tmV (k : It16) : Value := .agg #[.int .i64 k.base, .int .i64 k.least, .int .i64 k.most, .int .i64 k.grow, .int .i64 k.shrink, .int .i64 k.outer]
theorem tmCells_len (x : It16) : (tmCells x).length = 6 := rfl
def cellsT (l : List It16) : List Value := l.flatMap tmCells
theorem cellsT_len (l : List It16) : (cellsT l).length = l.length * 6 := rowg_len _ 6 tmCells_len l
theorem cellsT_append (a b : List It16) : cellsT (a ++ b) = cellsT a ++ cellsT b := by simp [cellsT]
theorem cellsT_one (l : List It16) : ∀ u ∈ cellsT l, u.oneCell' = true := by
  intro u hu
  obtain ⟨x, -, hx⟩ := List.mem_flatMap.1 hu
  simp [tmCells] at hx
  rcases hx with rfl | rfl | rfl | rfl | rfl | rfl <;> rfl
/-- a box's six cells -/
def TmAt (w : World) (b off : Nat) (k : It16) : Prop := w.cell? ⟨b, off, none⟩ = some (.int .i64 k.base) ∧ w.cell? ⟨b, off + 1, none⟩ = some (.int .i64 k.least) ∧ w.cell? ⟨b, off + 2, none⟩ = some (.int .i64 k.most) ∧ w.cell? ⟨b, off + 3, none⟩ = some (.int .i64 k.grow) ∧ w.cell? ⟨b, off + 4, none⟩ = some (.int .i64 k.shrink) ∧ w.cell? ⟨b, off + 5, none⟩ = some (.int .i64 k.outer)
theorem TmAt.keep {w w' : World} {b off : Nat} {k : It16} (h : TmAt w b off k) (hl : b < w.heap.size) (hb : Below w.heap.size w w') : TmAt w' b off k :=
  ⟨(hb.cell (p := ⟨b, off, none⟩) hl).trans h.1, (hb.cell (p := ⟨b, off + 1, none⟩) hl).trans h.2.1, (hb.cell (p := ⟨b, off + 2, none⟩) hl).trans h.2.2.1, (hb.cell (p := ⟨b, off + 3, none⟩) hl).trans h.2.2.2.1, (hb.cell (p := ⟨b, off + 4, none⟩) hl).trans h.2.2.2.2.1, (hb.cell (p := ⟨b, off + 5, none⟩) hl).trans h.2.2.2.2.2⟩
theorem TmAt.of {w : World} {b off : Nat} {k : It16} (h : ∀ i u, i < 6 → (tmCells k)[i]? = some u → w.cell? ⟨b, off + i, none⟩ = some u) : TmAt w b off k :=
  ⟨h 0 _ (by omega) rfl, h 1 _ (by omega) rfl, h 2 _ (by omega) rfl, h 3 _ (by omega) rfl, h 4 _ (by omega) rfl, h 5 _ (by omega) rfl⟩
theorem TmAt.to {w : World} {b off : Nat} {k : It16} (h : TmAt w b off k) {i : Nat} (hi : i < 6) : w.cell? ⟨b, off + i, none⟩ = (tmCells k)[i]? := by
  obtain ⟨h0, h1, h2, h3, h4, h5⟩ := h
  match i, hi with
  | 0, _ => exact h0
  | 1, _ => exact h1
  | 2, _ => exact h2
  | 3, _ => exact h3
  | 4, _ => exact h4
  | 5, _ => exact h5
/-- boxes as they lie somewhere -/
def TmIn (w : World) (v : Value) (l : List It16) : Prop := ∃ A c, v = .slice A l.length c ∧ (l.length ≤ c ∧ c ≤ 9223372036854775807) ∧ (A = none → l = [] ∧ c = 0) ∧ (l ≠ [] → ∃ b off, A = some ⟨b, off, none⟩ ∧ b < w.heap.size ∧ ∀ j, j < l.length → TmAt w b (off + j * 6) (itA l j))
theorem TmIn.keep {w w' : World} {v : Value} {l : List It16} (h : TmIn w v l) (hb : Below w.heap.size w w') : TmIn w' v l := by
  obtain ⟨A, c, rfl, hc, hn, hq⟩ := h
  refine ⟨A, c, rfl, hc, hn, fun e => ?_⟩
  obtain ⟨b, off, h1, h2, h3⟩ := hq e
  exact ⟨b, off, h1, Nat.lt_of_lt_of_le h2 hb.size, fun j hj => (h3 j hj).keep h2 hb⟩
theorem TmIn.nil (w : World) : TmIn w (.slice none 0 0) [] := ⟨none, 0, rfl, ⟨by simp, by omega⟩, fun _ => ⟨rfl, rfl⟩, fun h => absurd rfl h⟩
theorem TmIn.get {w : World} {v : Value} {l : List It16} (h : TmIn w v l) {i : Nat} (hi : i < l.length) : ∃ b off c, v = .slice (some ⟨b, off, none⟩) l.length c ∧ b < w.heap.size ∧ l.length ≤ c ∧ ∀ j, j < l.length → TmAt w b (off + j * 6) (itA l j) := by
  obtain ⟨A, c, rfl, hc, -, hq⟩ := h
  obtain ⟨b, off, rfl, h2, h3⟩ := hq (by intro e; rw [e] at hi; simp at hi)
  exact ⟨b, off, c, rfl, h2, hc.1, h3⟩
/-- the cells of a row of boxes, wherever it lies -/
theorem TmIn.cells {w : World} {v : Value} {l : List It16} (h : TmIn w v l) {A : Option Addr} {n c : Nat} (e : v = .slice A n c) : ∀ p, A = some p → ∀ j u, (cellsT l)[j]? = some u → w.cell? (p.add j) = some u := by
  rintro p rfl j u hu
  have hj := (List.getElem?_eq_some_iff.1 hu).1
  rw [cellsT_len] at hj
  have hi : j / 6 < l.length := by omega
  obtain ⟨b, off, c', e', -, -, hk⟩ := h.get hi
  rw [e] at e'
  injection e' with e1 e2 e3
  injection e1 with e1
  subst e1
  rw [Go.WideShapes.add_plain]
  have g0 := flat_get tmCells 6 tmCells_len (l := l) hi (i := j % 6) (by omega)
  rw [show j / 6 * 6 + j % 6 = j by omega] at g0
  have h1 := (hk _ hi).to (i := j % 6) (by omega)
  rw [itA_get hi] at h1
  rw [show off + j = off + j / 6 * 6 + j % 6 by omega, h1, ← g0]
  exact hu
/-- a row of boxes of the call's own -/
def ownsT (w : World) (base : Nat) (v : Value) (l : List It16) : Prop := w.ownsRow base 32 6 v l.length (cellsT l)
theorem ownsT.nil (w : World) (base : Nat) : ownsT w base (.slice none 0 0) [] := ⟨rfl, .inl ⟨rfl, rfl⟩⟩
theorem ownsT.keep {w w' : World} {base : Nat} {v : Value} {l : List It16} (h : ownsT w base v l) (hb : Below w.heap.size w w') : ownsT w' base v l := own_keep h hb
theorem ownsT.tms {w : World} {base : Nat} {v : Value} {l : List It16} (h : ownsT w base v l) : TmIn w v l := by
  by_cases e : l = []
  · rcases h.2 with ⟨rfl, -⟩ | ⟨g, cap, cur, rfl, -, -, h1, h2, -⟩
    · subst e; exact TmIn.nil w
    · exact ⟨_, cap, rfl, ⟨h1, by unfold maxLen at h2; omega⟩, fun h => by (cases h), fun h => absurd e h⟩
  · obtain ⟨g, c, rfl, h2, h3, h4, h5, h6, h7⟩ := own_at h (by intro e'; exact e (List.length_eq_zero_iff.1 e'))
    refine ⟨_, c, rfl, ⟨h2, h3⟩, (fun h => by cases h), fun _ => ⟨g, 0, rfl, h5, fun j hj => TmAt.of fun i u hi hu => ?_⟩⟩
    rw [itA_get hj] at hu
    have g0 := flat_get tmCells 6 tmCells_len hj (i := i) hi
    rw [Nat.zero_add]
    exact h6 _ _ (g0.trans hu)
/-- boxes in a new row -/
theorem tms_new {w : World} (l : List It16) (hn : l.length ≤ 1000) (T : TypeId) : TmIn (w.alloc (.cells (cellsT l).toArray T)) (.slice (some ⟨w.heap.size, 0, none⟩) l.length l.length) l := by
  refine ⟨_, _, rfl, ⟨Nat.le_refl _, by omega⟩, (fun h => by cases h), fun _ => ⟨w.heap.size, 0, rfl, by rw [World.size_alloc]; omega, fun j hj => TmAt.of fun i u hi hu => ?_⟩⟩
  rw [itA_get hj] at hu
  have g0 := flat_get tmCells 6 tmCells_len hj (i := i) hi
  rw [Nat.zero_add, World.cell?_alloc_new, List.getElem?_toArray]
  exact g0.trans hu
/-- boxes put onto boxes of the call's own -/
theorem wpList_append_tms {w : World} {ops : Array Oper} {rest : List Oper} {o : Oper} {a : Act} {Q : Exit → Act → World → Prop} (hgd : o.guard = none) (s x : Operand)
    (ho : o.op = .call { callee := .builtin .append, args := #[s, x], argTypes := #[22, 22] })
    (base : Nat) (v : Value) (l : List It16) (hs : a.eval s = v) (hown : ownsT w base v l) (m : List It16) (u : Value) (hx : a.eval x = u) (hm : TmIn w u m)
    (hb : l.length + m.length ≤ 100000) (hbase : base ≤ w.heap.size)
    (h : ∀ v' w', ownsT w' base v' (l ++ m) → Below base w w' → (∀ k, k < w.heap.size → some k ≠ v.ownBlock → w'.heap[k]? = w.heap[k]?) → wpList Try.prog ops Q rest (a.put o.dst v') w') :
    wpList Try.prog ops Q (o :: rest) a w := by
  obtain ⟨i0, hi, hz0, hz1, hz2⟩ := info_parts10 Try.infoTm
  have hm' := hm
  obtain ⟨A, c, rfl, -, hA, -⟩ := hm
  cases A with
  | none =>
    obtain ⟨rfl, rfl⟩ := hA rfl
    refine wpList_append_own_none hgd s x 22 ho base 32 i0 6 Try.underlying22 hi v l.length _ hs hown hx ?_
    exact h v w (by rw [List.append_nil]; exact hown) (Below.refl _ _) (fun _ _ _ => rfl)
  | some ad =>
    refine wpList_append_own _ hgd s x 22 ho base 32 i0 _ 6 48 Try.underlying22 hi hz0 hz1 hz2 rfl (by decide) v l.length _ hs hown ad m.length c (cellsT m) hx (cellsT_len m) (hm'.cells rfl ad rfl) (cellsT_one m) (by unfold maxLen; omega) (by omega) hbase ?_
    intro v' w' hown' hgrow _
    refine h v' w' ?_ ((Below.refl base _).grown hgrow hbase (fun k e => ?_)) (fun k hk e => hgrow.block k hk e)
    · unfold ownsT
      rw [cellsT_append, List.length_append]
      exact hown'
    · rcases hown.2 with ⟨rfl, _⟩ | ⟨g, cap, cur, rfl, hbg, _⟩
      · cases e
      · cases e; exact hbg
end Go.Proofs.Ytjlnaadpiohbnaa
