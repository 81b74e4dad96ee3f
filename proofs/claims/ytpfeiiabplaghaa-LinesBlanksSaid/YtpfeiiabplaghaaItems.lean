/-
  Rows of items and of lines in memory: as they lie somewhere; of the call's own: read, put onto, written into.
-/
import Derived.Test.YtpfeiiabplaghaaLinesMath
import Derived.Test.YtpfeiiabplaghaaRowsG
import Derived.WalkKit
import Derived.ProofKit
import Derived.Lib.Hide
import Derived.Below
import Derived.Laws.MakeOwn
import Derived.Laws.AppendOwn
import Derived.Laws.AppendOwnNone
import Derived.Laws.OwnMore
import Derived.Deep.LoopGhost
namespace Go.Proofs.Ytpfeiiabplaghaa
open Go.RowKit

theorem Try.infoIt : (Try.prog.info? 32).map (fun i => (i.zero, i.size, i.bytes)) = some (some (.agg #[.int .u8 0, .int .i64 0]), 2, 16) := by kernel_rfl
theorem Try.infoLn : (Try.prog.info? 34).map (fun i => (i.zero, i.size, i.bytes)) = some (some (.agg #[.int .i64 0, .int .i64 0, .int .i64 0]), 3, 24) := by kernel_rfl

def itCells (x : It) : List Value := [.int .u8 (x.1 : Nat), .int .i64 x.2]
def lnCells (x : Ln) : List Value := [.int .i64 (x.1 : Nat), .int .i64 (x.2.1 : Nat), .int .i64 x.2.2]
theorem itCells_len (x : It) : (itCells x).length = 2 := rfl
theorem lnCells_len (x : Ln) : (lnCells x).length = 3 := rfl
def cellsI (l : List It) : List Value := l.flatMap itCells
def cellsL (l : List Ln) : List Value := l.flatMap lnCells
theorem cellsI_len (l : List It) : (cellsI l).length = l.length * 2 := flat_len _ 2 itCells_len l
theorem cellsL_len (l : List Ln) : (cellsL l).length = l.length * 3 := flat_len _ 3 lnCells_len l
theorem cellsI_append (a b : List It) : cellsI (a ++ b) = cellsI a ++ cellsI b := by simp [cellsI]
theorem cellsL_append (a b : List Ln) : cellsL (a ++ b) = cellsL a ++ cellsL b := by simp [cellsL]
theorem cellsI_one (l : List It) : ∀ u ∈ cellsI l, u.oneCell' = true := by
  intro u hu
  obtain ⟨x, -, hx⟩ := List.mem_flatMap.1 hu
  simp [itCells] at hx
  rcases hx with rfl | rfl <;> rfl
theorem cellsL_one (l : List Ln) : ∀ u ∈ cellsL l, u.oneCell' = true := by
  intro u hu
  obtain ⟨x, -, hx⟩ := List.mem_flatMap.1 hu
  simp [lnCells] at hx
  rcases hx with rfl | rfl | rfl <;> rfl

/-- items as they lie somewhere -/
def ItIn (w : World) (v : Value) (l : List It) : Prop := ∃ A c, v = .slice A l.length c ∧ (l.length ≤ c ∧ c ≤ 9223372036854775807) ∧ (l ≠ [] → ∃ b off, A = some ⟨b, off, none⟩ ∧ b < w.heap.size ∧
  ∀ j, j < l.length → w.cell? ⟨b, off + j * 2, none⟩ = some (.int .u8 (kd l j : Nat)) ∧ w.cell? ⟨b, off + j * 2 + 1, none⟩ = some (.int .i64 (wd l j)))
/-- lines as they lie somewhere -/
def LnIn (w : World) (v : Value) (l : List Ln) : Prop := ∃ A c, v = .slice A l.length c ∧ (l.length ≤ c ∧ c ≤ 9223372036854775807) ∧ (l ≠ [] → ∃ b, A = some ⟨b, 0, none⟩ ∧ b < w.heap.size ∧
  ∀ j x, l[j]? = some x → w.cell? ⟨b, j * 3, none⟩ = some (.int .i64 (x.1 : Nat)) ∧ w.cell? ⟨b, j * 3 + 1, none⟩ = some (.int .i64 (x.2.1 : Nat)) ∧ w.cell? ⟨b, j * 3 + 2, none⟩ = some (.int .i64 x.2.2))
theorem ItIn.keep {w w' : World} {v : Value} {l : List It} (h : ItIn w v l) (hb : Below w.heap.size w w') : ItIn w' v l := by
  obtain ⟨A, c, rfl, hc, hq⟩ := h
  refine ⟨A, c, rfl, hc, fun e => ?_⟩
  obtain ⟨b, off, h1, h2, h3⟩ := hq e
  exact ⟨b, off, h1, Nat.lt_of_lt_of_le h2 hb.size, fun j hj => ⟨(hb.cell (p := ⟨b, off + j * 2, none⟩) h2).trans (h3 j hj).1, (hb.cell (p := ⟨b, off + j * 2 + 1, none⟩) h2).trans (h3 j hj).2⟩⟩
theorem LnIn.keep {w w' : World} {v : Value} {l : List Ln} (h : LnIn w v l) (hb : Below w.heap.size w w') : LnIn w' v l := by
  obtain ⟨A, c, rfl, hc, hq⟩ := h
  refine ⟨A, c, rfl, hc, fun e => ?_⟩
  obtain ⟨b, h1, h2, h3⟩ := hq e
  exact ⟨b, h1, Nat.lt_of_lt_of_le h2 hb.size, fun j x hx => ⟨(hb.cell (p := ⟨b, j * 3, none⟩) h2).trans (h3 j x hx).1, (hb.cell (p := ⟨b, j * 3 + 1, none⟩) h2).trans (h3 j x hx).2.1, (hb.cell (p := ⟨b, j * 3 + 2, none⟩) h2).trans (h3 j x hx).2.2⟩⟩

/-- rows of items, of lines, of the call's own -/
def ownsI (w : World) (base : Nat) (v : Value) (l : List It) : Prop := w.ownsRow base 32 2 v l.length (cellsI l)
def ownsL (w : World) (base : Nat) (v : Value) (l : List Ln) : Prop := w.ownsRow base 34 3 v l.length (cellsL l)
theorem ownsI.nil (w : World) (base : Nat) : ownsI w base (.slice none 0 0) [] := ⟨rfl, .inl ⟨rfl, rfl⟩⟩
theorem ownsL.nil (w : World) (base : Nat) : ownsL w base (.slice none 0 0) [] := ⟨rfl, .inl ⟨rfl, rfl⟩⟩
theorem ownsI.keep {w w' : World} {base : Nat} {v : Value} {l : List It} (h : ownsI w base v l) (hb : Below w.heap.size w w') : ownsI w' base v l := own_keep h hb
theorem ownsL.keep {w w' : World} {base : Nat} {v : Value} {l : List Ln} (h : ownsL w base v l) (hb : Below w.heap.size w w') : ownsL w' base v l := own_keep h hb
theorem ownsI.at_ {w : World} {base : Nat} {v : Value} {l : List It} (h : ownsI w base v l) (hn : l ≠ []) : ∃ g c, v = .slice (some ⟨g, 0, none⟩) l.length c ∧ l.length ≤ c ∧ c ≤ 9223372036854775807 ∧ base ≤ g ∧ g < w.heap.size ∧
    (∀ j, j < l.length → w.cell? ⟨g, j * 2, none⟩ = some (.int .u8 (kd l j : Nat)) ∧ w.cell? ⟨g, j * 2 + 1, none⟩ = some (.int .i64 (wd l j))) ∧ (∀ j, w.frozen? ⟨g, j, none⟩ = false) := by
  obtain ⟨g, c, h1, h2, h3, h4, h5, h6, h7⟩ := own_at h (by intro e; exact hn (List.length_eq_zero_iff.1 e))
  refine ⟨g, c, h1, h2, h3, h4, h5, fun j hj => ?_, h7⟩
  have g0 := flat_get itCells 2 itCells_len hj (i := 0) (by omega)
  have g1 := flat_get itCells 2 itCells_len hj (i := 1) (by omega)
  rw [kd_get hj, wd_get hj]
  exact ⟨h6 _ _ g0, h6 _ _ g1⟩
theorem ownsL.at_ {w : World} {base : Nat} {v : Value} {l : List Ln} (h : ownsL w base v l) (hn : l ≠ []) : ∃ g c, v = .slice (some ⟨g, 0, none⟩) l.length c ∧ l.length ≤ c ∧ c ≤ 9223372036854775807 ∧ base ≤ g ∧ g < w.heap.size ∧
    (∀ j x, l[j]? = some x → w.cell? ⟨g, j * 3, none⟩ = some (.int .i64 (x.1 : Nat)) ∧ w.cell? ⟨g, j * 3 + 1, none⟩ = some (.int .i64 (x.2.1 : Nat)) ∧ w.cell? ⟨g, j * 3 + 2, none⟩ = some (.int .i64 x.2.2)) ∧ (∀ j, w.frozen? ⟨g, j, none⟩ = false) := by
  obtain ⟨g, c, h1, h2, h3, h4, h5, h6, h7⟩ := own_at h (by intro e; exact hn (List.length_eq_zero_iff.1 e))
  refine ⟨g, c, h1, h2, h3, h4, h5, fun j x hx => ?_, h7⟩
  obtain ⟨hj, rfl⟩ := List.getElem?_eq_some_iff.1 hx
  have g0 := flat_get lnCells 3 lnCells_len hj (i := 0) (by omega)
  have g1 := flat_get lnCells 3 lnCells_len hj (i := 1) (by omega)
  have g2 := flat_get lnCells 3 lnCells_len hj (i := 2) (by omega)
  exact ⟨h6 _ _ g0, h6 _ _ g1, h6 _ _ g2⟩
theorem ownsI.its {w : World} {base : Nat} {v : Value} {l : List It} (h : ownsI w base v l) : ItIn w v l := by
  by_cases e : l = []
  · obtain ⟨A, c, rfl, h1, h2, -⟩ := own_form h
    exact ⟨A, c, rfl, ⟨h1, h2⟩, fun h => absurd e h⟩
  · obtain ⟨g, c, rfl, h2, h3, h4, h5, h6, h7⟩ := h.at_ e
    exact ⟨_, c, rfl, ⟨h2, h3⟩, fun _ => ⟨g, 0, rfl, h5, fun j hj => by rw [Nat.zero_add]; exact h6 j hj⟩⟩
theorem ownsL.lns {w : World} {base : Nat} {v : Value} {l : List Ln} (h : ownsL w base v l) : LnIn w v l := by
  by_cases e : l = []
  · obtain ⟨A, c, rfl, h1, h2, -⟩ := own_form h
    exact ⟨A, c, rfl, ⟨h1, h2⟩, fun h => absurd e h⟩
  · obtain ⟨g, c, rfl, h2, h3, h4, h5, h6, h7⟩ := h.at_ e
    exact ⟨_, c, rfl, ⟨h2, h3⟩, fun _ => ⟨g, rfl, h5, h6⟩⟩
/-- an item, a line, in a cell of its own -/
theorem it_cells {w : World} {T : TypeId} (x : It) : ∀ j u, (cellsI [x])[j]? = some u → (w.alloc (.cells (itCells x).toArray T)).cell? ((⟨w.heap.size, 0, none⟩ : Addr).add j) = some u := by
  intro j u hu
  rw [Go.WideShapes.add_plain, Nat.zero_add, World.cell?_alloc_new]
  simpa [cellsI] using hu
theorem ln_cells {w : World} {T : TypeId} (x : Ln) : ∀ j u, (cellsL [x])[j]? = some u → (w.alloc (.cells (lnCells x).toArray T)).cell? ((⟨w.heap.size, 0, none⟩ : Addr).add j) = some u := by
  intro j u hu
  rw [Go.WideShapes.add_plain, Nat.zero_add, World.cell?_alloc_new]
  simpa [cellsL] using hu
/-- items put onto items of the call's own -/
theorem wpList_append_its {w : World} {ops : Array Oper} {rest : List Oper} {o : Oper} {a : Act} {Q : Exit → Act → World → Prop} (hgd : o.guard = none) (s x : Operand)
    (ho : o.op = .call { callee := .builtin .append, args := #[s, x], argTypes := #[22, 22] })
    (base : Nat) (v : Value) (l : List It) (hs : a.eval s = v) (hown : ownsI w base v l) (m : List It) (A : Option Addr) (c : Nat) (hx : a.eval x = .slice A m.length c)
    (hm : ∀ p, A = some p → ∀ j u, (cellsI m)[j]? = some u → w.cell? (p.add j) = some u) (hA : A = none → m = [] ∧ c = 0)
    (hb : l.length + m.length ≤ 100000) (hbase : base ≤ w.heap.size)
    (h : ∀ v' w', ownsI w' base v' (l ++ m) → Below base w w' → (∀ k, k < w.heap.size → some k ≠ v.ownBlock → w'.heap[k]? = w.heap[k]?) → wpList Try.prog ops Q rest (a.put o.dst v') w') :
    wpList Try.prog ops Q (o :: rest) a w := by
  obtain ⟨i0, hi, hz0, hz1, hz2⟩ := info_parts10 Try.infoIt
  cases A with
  | none =>
    obtain ⟨rfl, rfl⟩ := hA rfl
    refine wpList_append_own_none hgd s x 22 ho base 32 i0 2 Try.underlying22 hi v l.length _ hs hown hx ?_
    exact h v w (by rw [List.append_nil]; exact hown) (Below.refl _ _) (fun _ _ _ => rfl)
  | some ad =>
    refine wpList_append_own _ hgd s x 22 ho base 32 i0 _ 2 16 Try.underlying22 hi hz0 hz1 hz2 rfl (by decide) v l.length _ hs hown ad m.length c (cellsI m) hx (cellsI_len m) (hm ad rfl) (cellsI_one m) (by unfold maxLen; omega) (by omega) hbase ?_
    intro v' w' hown' hgrow _
    refine h v' w' ?_ ((Below.refl base _).grown hgrow hbase (fun k e => ?_)) (fun k hk e => hgrow.block k hk e)
    · unfold ownsI
      rw [cellsI_append, List.length_append]
      exact hown'
    · rcases hown.2 with ⟨rfl, _⟩ | ⟨g, cap, cur, rfl, hbg, _⟩
      · cases e
      · cases e; exact hbg
/-- one put onto them -/
theorem wpList_append_it {w : World} {ops : Array Oper} {rest : List Oper} {o : Oper} {a : Act} {Q : Exit → Act → World → Prop} (hgd : o.guard = none) (s x : Operand)
    (ho : o.op = .call { callee := .builtin .append, args := #[s, x], argTypes := #[22, 22] })
    (base : Nat) (v : Value) (l : List It) (hs : a.eval s = v) (hown : ownsI w base v l) (y : It) (T : TypeId) (hx : a.eval x = .slice (some ⟨w.heap.size, 0, none⟩) 1 1)
    (hb : l.length ≤ 90000) (hbase : base ≤ w.heap.size)
    (h : ∀ v' w', ownsI w' base v' (l ++ [y]) → Below base w w' → (∀ k, k < w.heap.size → some k ≠ v.ownBlock → w'.heap[k]? = w.heap[k]?) → wpList Try.prog ops Q rest (a.put o.dst v') w') :
    wpList Try.prog ops Q (o :: rest) a (w.alloc (.cells (itCells y).toArray T)) := by
  have ha : Below base w (w.alloc (.cells (itCells y).toArray T)) := (Below.refl _ _).alloc hbase _
  have hown2 : ownsI (w.alloc (.cells (itCells y).toArray T)) base v l := hown.keep ((Below.refl _ _).alloc (Nat.le_refl _) _)
  refine wpList_append_its hgd s x ho base v l hs hown2 [y] _ 1 hx (fun p e => ?_) (fun e => by cases e) (by show _ + 1 ≤ _; omega) (by have := ha.size; omega) (fun v' w' h1 h2 h3 => h v' w' h1 (ha.trans h2) (fun k hk e => (h3 k (Nat.lt_of_lt_of_le hk ((Below.refl _ w).alloc (Nat.le_refl _) _).size) e).trans (((Below.refl _ w).alloc (Nat.le_refl _) _).block k hk)))
  cases e
  exact it_cells y
/-- lines put onto lines of the call's own -/
theorem wpList_append_lns {w : World} {ops : Array Oper} {rest : List Oper} {o : Oper} {a : Act} {Q : Exit → Act → World → Prop} (hgd : o.guard = none) (s x : Operand)
    (ho : o.op = .call { callee := .builtin .append, args := #[s, x], argTypes := #[24, 24] })
    (base : Nat) (v : Value) (l : List Ln) (hs : a.eval s = v) (hown : ownsL w base v l) (m : List Ln) (A : Option Addr) (c : Nat) (hx : a.eval x = .slice A m.length c)
    (hm : ∀ p, A = some p → ∀ j u, (cellsL m)[j]? = some u → w.cell? (p.add j) = some u) (hA : A = none → m = [] ∧ c = 0)
    (hb : l.length + m.length ≤ 100000) (hbase : base ≤ w.heap.size)
    (h : ∀ v' w', ownsL w' base v' (l ++ m) → Below base w w' → (∀ k, k < w.heap.size → some k ≠ v.ownBlock → w'.heap[k]? = w.heap[k]?) → wpList Try.prog ops Q rest (a.put o.dst v') w') :
    wpList Try.prog ops Q (o :: rest) a w := by
  obtain ⟨i0, hi, hz0, hz1, hz2⟩ := info_parts10 Try.infoLn
  cases A with
  | none =>
    obtain ⟨rfl, rfl⟩ := hA rfl
    refine wpList_append_own_none hgd s x 24 ho base 34 i0 3 Try.underlying24 hi v l.length _ hs hown hx ?_
    exact h v w (by rw [List.append_nil]; exact hown) (Below.refl _ _) (fun _ _ _ => rfl)
  | some ad =>
    refine wpList_append_own _ hgd s x 24 ho base 34 i0 _ 3 24 Try.underlying24 hi hz0 hz1 hz2 rfl (by decide) v l.length _ hs hown ad m.length c (cellsL m) hx (cellsL_len m) (hm ad rfl) (cellsL_one m) (by unfold maxLen; omega) (by omega) hbase ?_
    intro v' w' hown' hgrow _
    refine h v' w' ?_ ((Below.refl base _).grown hgrow hbase (fun k e => ?_)) (fun k hk e => hgrow.block k hk e)
    · unfold ownsL
      rw [cellsL_append, List.length_append]
      exact hown'
    · rcases hown.2 with ⟨rfl, _⟩ | ⟨g, cap, cur, rfl, hbg, _⟩
      · cases e
      · cases e; exact hbg
/-- one put onto them -/
theorem wpList_append_ln {w : World} {ops : Array Oper} {rest : List Oper} {o : Oper} {a : Act} {Q : Exit → Act → World → Prop} (hgd : o.guard = none) (s x : Operand)
    (ho : o.op = .call { callee := .builtin .append, args := #[s, x], argTypes := #[24, 24] })
    (base : Nat) (v : Value) (l : List Ln) (hs : a.eval s = v) (hown : ownsL w base v l) (y : Ln) (T : TypeId) (hx : a.eval x = .slice (some ⟨w.heap.size, 0, none⟩) 1 1)
    (hb : l.length ≤ 90000) (hbase : base ≤ w.heap.size)
    (h : ∀ v' w', ownsL w' base v' (l ++ [y]) → Below base w w' → (∀ k, k < w.heap.size → some k ≠ v.ownBlock → w'.heap[k]? = w.heap[k]?) → wpList Try.prog ops Q rest (a.put o.dst v') w') :
    wpList Try.prog ops Q (o :: rest) a (w.alloc (.cells (lnCells y).toArray T)) := by
  have ha : Below base w (w.alloc (.cells (lnCells y).toArray T)) := (Below.refl _ _).alloc hbase _
  have hown2 : ownsL (w.alloc (.cells (lnCells y).toArray T)) base v l := hown.keep ((Below.refl _ _).alloc (Nat.le_refl _) _)
  refine wpList_append_lns hgd s x ho base v l hs hown2 [y] _ 1 hx (fun p e => ?_) (fun e => by cases e) (by show _ + 1 ≤ _; omega) (by have := ha.size; omega) (fun v' w' h1 h2 h3 => h v' w' h1 (ha.trans h2) (fun k hk e => (h3 k (Nat.lt_of_lt_of_le hk ((Below.refl _ w).alloc (Nat.le_refl _) _).size) e).trans (((Below.refl _ w).alloc (Nat.le_refl _) _).block k hk)))
  cases e
  exact ln_cells y
end Go.Proofs.Ytpfeiiabplaghaa
