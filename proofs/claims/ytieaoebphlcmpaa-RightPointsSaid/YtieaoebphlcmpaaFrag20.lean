/-
  Fragments: rows of them in memory, opened; the mathematics; what is asked of the landed calls.
-/
import Derived.Test.YtieaoebphlcmpaaRowsG
import Derived.SizedLaws
import Derived.Deep.Slices
import Derived.Deep.WholeRow
namespace Go.Proofs.Ytieaoebphlcmpaa

section
open Go.RowKit

structure Fr where
  node : Int
  part : Int
  depth : Int
  x : Int
  y : Int
  w : Int
  h : Int
  text : ByteArray
  deriving DecidableEq
def frZ : Fr := ⟨0, 0, 0, 0, 0, 0, 0, ⟨#[]⟩⟩
def frA (l : List Fr) (i : Nat) : Fr := l[i]?.getD frZ
theorem frA_get {l : List Fr} {i : Nat} (h : i < l.length) : frA l i = l[i] := by
  unfold frA
  rw [List.getElem?_eq_getElem h]
  rfl
theorem Try.infoF : (Try.prog.info? 29).map (fun i => (i.zero, i.size, i.bytes)) = some (some (.agg #[.int .i64 0, .int .i64 0, .int .i64 0, .int .i64 0, .int .i64 0, .int .i64 0, .int .i64 0, .string ⟨#[]⟩]), 8, 72) := by kernel_rfl
def frCells (k : Fr) : List Value := [.int .i64 k.node, .int .i64 k.part, .int .i64 k.depth, .int .i64 k.x, .int .i64 k.y, .int .i64 k.w, .int .i64 k.h, .string k.text]
def frV (k : Fr) : Value := .agg #[.int .i64 k.node, .int .i64 k.part, .int .i64 k.depth, .int .i64 k.x, .int .i64 k.y, .int .i64 k.w, .int .i64 k.h, .string k.text]
theorem frCells_len (x : Fr) : (frCells x).length = 8 := rfl
def cellsF (l : List Fr) : List Value := l.flatMap frCells
theorem cellsF_len (l : List Fr) : (cellsF l).length = l.length * 8 := rowg_len _ 8 frCells_len l
theorem cellsF_append (a b : List Fr) : cellsF (a ++ b) = cellsF a ++ cellsF b := by simp [cellsF]
theorem cellsF_one (l : List Fr) : ∀ u ∈ cellsF l, u.oneCell' = true := by
  intro u hu
  obtain ⟨x, -, hx⟩ := List.mem_flatMap.1 hu
  simp [frCells] at hx
  rcases hx with rfl | rfl | rfl | rfl | rfl | rfl | rfl | rfl <;> rfl
/-- its cells -/
def FrAt (w : World) (b off : Nat) (k : Fr) : Prop := w.cell? ⟨b, off, none⟩ = some (.int .i64 k.node) ∧ w.cell? ⟨b, off + 1, none⟩ = some (.int .i64 k.part) ∧ w.cell? ⟨b, off + 2, none⟩ = some (.int .i64 k.depth) ∧ w.cell? ⟨b, off + 3, none⟩ = some (.int .i64 k.x) ∧ w.cell? ⟨b, off + 4, none⟩ = some (.int .i64 k.y) ∧ w.cell? ⟨b, off + 5, none⟩ = some (.int .i64 k.w) ∧ w.cell? ⟨b, off + 6, none⟩ = some (.int .i64 k.h) ∧ w.cell? ⟨b, off + 7, none⟩ = some (.string k.text)
theorem FrAt.keep {w w' : World} {b off : Nat} {k : Fr} (h : FrAt w b off k) (hl : b < w.heap.size) (hb : Below w.heap.size w w') : FrAt w' b off k :=
  ⟨(hb.cell (p := ⟨b, off, none⟩) hl).trans h.1, (hb.cell (p := ⟨b, off + 1, none⟩) hl).trans h.2.1, (hb.cell (p := ⟨b, off + 2, none⟩) hl).trans h.2.2.1, (hb.cell (p := ⟨b, off + 3, none⟩) hl).trans h.2.2.2.1, (hb.cell (p := ⟨b, off + 4, none⟩) hl).trans h.2.2.2.2.1, (hb.cell (p := ⟨b, off + 5, none⟩) hl).trans h.2.2.2.2.2.1, (hb.cell (p := ⟨b, off + 6, none⟩) hl).trans h.2.2.2.2.2.2.1, (hb.cell (p := ⟨b, off + 7, none⟩) hl).trans h.2.2.2.2.2.2.2⟩
theorem FrAt.of {w : World} {b off : Nat} {k : Fr} (h : ∀ i u, i < 8 → (frCells k)[i]? = some u → w.cell? ⟨b, off + i, none⟩ = some u) : FrAt w b off k :=
  ⟨h 0 _ (by omega) rfl, h 1 _ (by omega) rfl, h 2 _ (by omega) rfl, h 3 _ (by omega) rfl, h 4 _ (by omega) rfl, h 5 _ (by omega) rfl, h 6 _ (by omega) rfl, h 7 _ (by omega) rfl⟩
theorem FrAt.to {w : World} {b off : Nat} {k : Fr} (h : FrAt w b off k) {i : Nat} (hi : i < 8) : w.cell? ⟨b, off + i, none⟩ = (frCells k)[i]? := by
  obtain ⟨h0, h1, h2, h3, h4, h5, h6, h7⟩ := h
  match i, hi with
  | 0, _ => exact h0
  | 1, _ => exact h1
  | 2, _ => exact h2
  | 3, _ => exact h3
  | 4, _ => exact h4
  | 5, _ => exact h5
  | 6, _ => exact h6
  | 7, _ => exact h7
/-- as they lie somewhere -/
def FrIn (w : World) (v : Value) (l : List Fr) : Prop := ∃ A c, v = .slice A l.length c ∧ (l.length ≤ c ∧ c ≤ 9223372036854775807) ∧ (A = none → l = [] ∧ c = 0) ∧ (l ≠ [] → ∃ b off, A = some ⟨b, off, none⟩ ∧ b < w.heap.size ∧ ∀ j, j < l.length → FrAt w b (off + j * 8) (frA l j))
theorem FrIn.keep {w w' : World} {v : Value} {l : List Fr} (h : FrIn w v l) (hb : Below w.heap.size w w') : FrIn w' v l := by
  obtain ⟨A, c, rfl, hc, hn, hq⟩ := h
  refine ⟨A, c, rfl, hc, hn, fun e => ?_⟩
  obtain ⟨b, off, h1, h2, h3⟩ := hq e
  exact ⟨b, off, h1, Nat.lt_of_lt_of_le h2 hb.size, fun j hj => (h3 j hj).keep h2 hb⟩
theorem FrIn.nil (w : World) : FrIn w (.slice none 0 0) [] := ⟨none, 0, rfl, ⟨by simp, by omega⟩, fun _ => ⟨rfl, rfl⟩, fun h => absurd rfl h⟩
theorem FrIn.get {w : World} {v : Value} {l : List Fr} (h : FrIn w v l) {i : Nat} (hi : i < l.length) : ∃ b off c, v = .slice (some ⟨b, off, none⟩) l.length c ∧ b < w.heap.size ∧ l.length ≤ c ∧ ∀ j, j < l.length → FrAt w b (off + j * 8) (frA l j) := by
  obtain ⟨A, c, rfl, hc, -, hq⟩ := h
  obtain ⟨b, off, rfl, h2, h3⟩ := hq (by intro e; rw [e] at hi; simp at hi)
  exact ⟨b, off, c, rfl, h2, hc.1, h3⟩
theorem FrIn.form {w : World} {v : Value} {l : List Fr} (h : FrIn w v l) : ∃ A c, v = .slice A l.length c ∧ l.length ≤ c ∧ c ≤ 9223372036854775807 ∧ (A = none → l = [] ∧ c = 0) := by
  obtain ⟨A, c, e, h1, h2, -⟩ := h
  exact ⟨A, c, e, h1.1, h1.2, h2⟩
/-- one of them, the slice's form being known -/
theorem FrIn.at_ {w : World} {A : Option Addr} {m c : Nat} {l : List Fr} (h : FrIn w (.slice A m c) l) {i : Nat} (hi : i < l.length) : ∃ b off, A = some ⟨b, off, none⟩ ∧ b < w.heap.size ∧ FrAt w b (off + i * 8) (frA l i) := by
  obtain ⟨A', c', e, -, -, hq⟩ := h
  injection e with e1 e2 e3
  subst e1
  obtain ⟨b, off, h1, h2, h3⟩ := hq (by intro e; rw [e] at hi; simp at hi)
  exact ⟨b, off, h1, h2, h3 i hi⟩
/-- the first so many; the others -/
theorem FrIn.take {w : World} {A : Option Addr} {m c : Nat} {l : List Fr} (h : FrIn w (.slice A m c) l) {k : Nat} (hk : k ≤ l.length) : FrIn w (.slice A k c) (l.take k) := by
  obtain ⟨A', c', e, hc, hn, hq⟩ := h
  injection e with e1 e2 e3
  subst e1 e3
  have hl : (l.take k).length = k := by rw [List.length_take]; omega
  refine ⟨A, c, by rw [hl], ⟨by omega, hc.2⟩, fun e => by obtain ⟨e1, e2⟩ := hn e; exact ⟨by rw [e1]; simp, e2⟩, fun hne => ?_⟩
  obtain ⟨b, off, h1, h2, h3⟩ := hq (by intro e; rw [e] at hne; exact hne (by simp))
  refine ⟨b, off, h1, h2, fun j hj => ?_⟩
  rw [hl] at hj
  have := h3 j (by omega)
  unfold frA at this ⊢
  rw [List.getElem?_take_of_lt hj]
  exact this
theorem FrIn.drop {w : World} {b off : Nat} {m c : Nat} {l : List Fr} (h : FrIn w (.slice (some ⟨b, off, none⟩) m c) l) {k : Nat} (hk : k ≤ l.length) : FrIn w (.slice (some ⟨b, off + k * 8, none⟩) (m - k) (c - k)) (l.drop k) := by
  obtain ⟨A', c', e, hc, hn, hq⟩ := h
  injection e with e1 e2 e3
  subst e1 e2 e3
  refine ⟨_, _, by rw [List.length_drop], ⟨by rw [List.length_drop]; omega, by omega⟩, fun e => (by cases e), fun hne => ?_⟩
  obtain ⟨b', off', h1, h2, h3⟩ := hq (by intro e; rw [e] at hne; exact hne (by simp))
  injection h1 with h1
  injection h1 with h1 h4
  subst h1 h4
  refine ⟨b, off + k * 8, rfl, h2, fun j hj => ?_⟩
  rw [List.length_drop] at hj
  have := h3 (k + j) (by omega)
  unfold frA at this ⊢
  rw [List.getElem?_drop]
  rwa [show off + (k + j) * 8 = off + k * 8 + j * 8 by omega] at this
/-- the cells of a row, wherever it lies -/
theorem FrIn.cells {w : World} {v : Value} {l : List Fr} (h : FrIn w v l) {A : Option Addr} {m c : Nat} (e : v = .slice A m c) : ∀ p, A = some p → ∀ j u, (cellsF l)[j]? = some u → w.cell? (p.add j) = some u := by
  rintro p rfl j u hu
  have hj := (List.getElem?_eq_some_iff.1 hu).1
  rw [cellsF_len] at hj
  have hi : j / 8 < l.length := by omega
  obtain ⟨b, off, c', e', -, -, hk⟩ := h.get hi
  rw [e] at e'
  injection e' with e1 e2 e3
  injection e1 with e1
  subst e1
  rw [Go.WideShapes.add_plain]
  have g0 := flat_get frCells 8 frCells_len (l := l) hi (i := j % 8) (by omega)
  rw [show j / 8 * 8 + j % 8 = j by omega] at g0
  have h1 := (hk _ hi).to (i := j % 8) (by omega)
  rw [frA_get hi] at h1
  rw [show off + j = off + j / 8 * 8 + j % 8 by omega, h1, ← g0]
  exact hu
/-- a row of the call's own -/
def ownsF (w : World) (base : Nat) (v : Value) (l : List Fr) : Prop := w.ownsRow base 29 8 v l.length (cellsF l)
theorem ownsF.nil (w : World) (base : Nat) : ownsF w base (.slice none 0 0) [] := ⟨rfl, .inl ⟨rfl, rfl⟩⟩
theorem ownsF.keep {w w' : World} {base : Nat} {v : Value} {l : List Fr} (h : ownsF w base v l) (hb : Below w.heap.size w w') : ownsF w' base v l := own_keep h hb
theorem ownsF.row {w : World} {base : Nat} {v : Value} {l : List Fr} (h : ownsF w base v l) : FrIn w v l := by
  by_cases e : l = []
  · rcases h.2 with ⟨rfl, -⟩ | ⟨g, cap, cur, rfl, -, -, h1, h2, -⟩
    · subst e; exact FrIn.nil w
    · exact ⟨_, cap, rfl, ⟨h1, by unfold maxLen at h2; omega⟩, fun h => by (cases h), fun h => absurd e h⟩
  · obtain ⟨g, c, rfl, h2, h3, h4, h5, h6, h7⟩ := own_at h (by intro e'; exact e (List.length_eq_zero_iff.1 e'))
    refine ⟨_, c, rfl, ⟨h2, h3⟩, (fun h => by cases h), fun _ => ⟨g, 0, rfl, h5, fun j hj => FrAt.of fun i u hi hu => ?_⟩⟩
    rw [frA_get hj] at hu
    have g0 := flat_get frCells 8 frCells_len hj (i := i) hi
    rw [Nat.zero_add]
    exact h6 _ _ (g0.trans hu)
/-- a new row -/
theorem frs_new {w : World} (l : List Fr) (hn : l.length ≤ 100000) (T : TypeId) : FrIn (w.alloc (.cells (cellsF l).toArray T)) (.slice (some ⟨w.heap.size, 0, none⟩) l.length l.length) l := by
  refine ⟨_, _, rfl, ⟨Nat.le_refl _, by omega⟩, (fun h => by cases h), fun _ => ⟨w.heap.size, 0, rfl, by rw [World.size_alloc]; omega, fun j hj => FrAt.of fun i u hi hu => ?_⟩⟩
  rw [frA_get hj] at hu
  have g0 := flat_get frCells 8 frCells_len hj (i := i) hi
  rw [Nat.zero_add, World.cell?_alloc_new, List.getElem?_toArray]
  exact g0.trans hu
/-- rows put onto rows of the call's own -/
theorem wpList_append_frs {w : World} {ops : Array Oper} {rest : List Oper} {o : Oper} {a : Act} {Q : Exit → Act → World → Prop} (hgd : o.guard = none) (s x : Operand)
    (ho : o.op = .call { callee := .builtin .append, args := #[s, x], argTypes := #[22, 22] })
    (base : Nat) (v : Value) (l : List Fr) (hs : a.eval s = v) (hown : ownsF w base v l) (m : List Fr) (u : Value) (hx : a.eval x = u) (hm : FrIn w u m)
    (hb : l.length + m.length ≤ 100000) (hbase : base ≤ w.heap.size)
    (h : ∀ v' w', ownsF w' base v' (l ++ m) → Below base w w' → (∀ k, k < w.heap.size → some k ≠ v.ownBlock → w'.heap[k]? = w.heap[k]?) → wpList Try.prog ops Q rest (a.put o.dst v') w') :
    wpList Try.prog ops Q (o :: rest) a w := by
  obtain ⟨i0, hi, hz0, hz1, hz2⟩ := info_parts10 Try.infoF
  have hm' := hm
  obtain ⟨A, c, rfl, -, hA, -⟩ := hm
  cases A with
  | none =>
    obtain ⟨rfl, rfl⟩ := hA rfl
    refine wpList_append_own_none hgd s x 22 ho base 29 i0 8 Try.underlying22 hi v l.length _ hs hown hx ?_
    exact h v w (by rw [List.append_nil]; exact hown) (Below.refl _ _) (fun _ _ _ => rfl)
  | some ad =>
    refine wpList_append_own _ hgd s x 22 ho base 29 i0 _ 8 72 Try.underlying22 hi hz0 hz1 hz2 rfl (by decide) v l.length _ hs hown ad m.length c (cellsF m) hx (cellsF_len m) (hm'.cells rfl ad rfl) (cellsF_one m) (by unfold maxLen; omega) (by omega) hbase ?_
    intro v' w' hown' hgrow _
    refine h v' w' ?_ ((Below.refl base _).grown hgrow hbase (fun k e => ?_)) (fun k hk e => hgrow.block k hk e)
    · unfold ownsF
      rw [cellsF_append, List.length_append]
      exact hown'
    · rcases hown.2 with ⟨rfl, _⟩ | ⟨g, cap, cur, rfl, hbg, _⟩
      · cases e
      · cases e; exact hbg
/-- one put onto them: in the world in which its own row was made -/
theorem wpList_append_fr {w : World} {ops : Array Oper} {rest : List Oper} {o : Oper} {a : Act} {Q : Exit → Act → World → Prop} (hgd : o.guard = none) (s x : Operand)
    (ho : o.op = .call { callee := .builtin .append, args := #[s, x], argTypes := #[22, 22] })
    (base : Nat) (v : Value) (l : List Fr) (hs : a.eval s = v) (hown : ownsF w base v l) (y : Fr) (T : TypeId) (hx : a.eval x = .slice (some ⟨w.heap.size, 0, none⟩) 1 1)
    (hb : l.length ≤ 90000) (hbase : base ≤ w.heap.size)
    (h : ∀ v' w', ownsF w' base v' (l ++ [y]) → Below base w w' → (∀ k, k < w.heap.size → some k ≠ v.ownBlock → w'.heap[k]? = w.heap[k]?) → wpList Try.prog ops Q rest (a.put o.dst v') w') :
    wpList Try.prog ops Q (o :: rest) a (w.alloc (.cells #[.int .i64 y.node, .int .i64 y.part, .int .i64 y.depth, .int .i64 y.x, .int .i64 y.y, .int .i64 y.w, .int .i64 y.h, .string y.text] T)) := by
  have ha : Below base w (w.alloc (.cells #[.int .i64 y.node, .int .i64 y.part, .int .i64 y.depth, .int .i64 y.x, .int .i64 y.y, .int .i64 y.w, .int .i64 y.h, .string y.text] T)) := (Below.refl _ _).alloc hbase _
  have hn := frs_new (w := w) [y] (by simp) T
  refine wpList_append_frs hgd s x ho base v l hs (hown.keep ((Below.refl _ _).alloc (Nat.le_refl _) _)) [y] _ hx hn (by simp; omega) (by have := ha.size; omega) (fun v' w' h1 h2 h3 => h v' w' h1 (ha.trans h2) (fun k hk e => (h3 k (Nat.lt_of_lt_of_le hk ((Below.refl _ w).alloc (Nat.le_refl _) _).size) e).trans (((Below.refl _ w).alloc (Nat.le_refl _) _).block k hk)))
end

section
open Go.RowKit Go.ChangeShapes Go.WideShapes

instance : Inhabited Fr := ⟨frZ⟩
def frNone : Value := frV frZ
def BigF (k : Fr) : Prop := (-9223372036854775808 ≤ k.node ∧ k.node ≤ 9223372036854775807) ∧ (-9223372036854775808 ≤ k.part ∧ k.part ≤ 9223372036854775807) ∧ (-9223372036854775808 ≤ k.depth ∧ k.depth ≤ 9223372036854775807) ∧ (-9223372036854775808 ≤ k.x ∧ k.x ≤ 9223372036854775807) ∧ (-9223372036854775808 ≤ k.y ∧ k.y ≤ 9223372036854775807) ∧ (-9223372036854775808 ≤ k.w ∧ k.w ≤ 9223372036854775807) ∧ (-9223372036854775808 ≤ k.h ∧ k.h ≤ 9223372036854775807) ∧ k.text.size ≤ 140737488351232
def BigsF (l : List Fr) : Prop := ∀ i, i < l.length → BigF (frA l i)
theorem i64_inF {a : Int} (h : (Lit.int .i64 a).wf = true) : -9223372036854775808 ≤ a ∧ a ≤ 9223372036854775807 := by
  have h1 : IntKind.i64.min = -9223372036854775808 := by decide
  have h2 : IntKind.i64.max = 9223372036854775807 := by decide
  simpa only [Lit.wf, h1, h2, Bool.and_eq_true, decide_eq_true_eq] using h
theorem weights_all_memF {H : Type} {P : Program} {e : TypeId} : ∀ {l : List (DataW H)} {d : DataW H}, d ∈ l → ∀ n ∈ d.weights P e, n ∈ DataW.weightsAll P e l
  | d' :: r, d, hd, n, hn => by
    simp only [DataW.weightsAll, List.mem_append]
    rcases List.mem_cons.1 hd with rfl | h
    · exact Or.inl hn
    · exact Or.inr (weights_all_memF h n hn)
/-- what is known of a row that came in -/
def FragsIn (w : World) (A : Option Addr) (n c : Nat) (l : List Fr) : Prop := FrIn w (.slice A n c) l ∧ l.length = n ∧ (A = none → n = 0 ∧ c = 0) ∧ n ≤ 140737488351232 ∧ BigsF l
section
variable {H : Type} {enc : TypeId × Value → H} {w : World} {held : Bool}

theorem open_fr {fuel : Nat} {cs : List Value} {y : DataW H × List MemPlace} (h : DataW.trod enc Try.prog w 0 (fun _ => true) held fuel 29 cs = some y) (hs : ∀ x ∈ y.1.weights Try.prog 29, x ≤ reachBytes) :
    ∃ x : Fr, cs = frCells x ∧ BigF x := by
  obtain ⟨xs, m, rfl, rfl, hlen, hxl, hf⟩ := DataW.trod_struct Try.underlying29 h
  have hl2 : cs.length = 8 := hlen.trans (by kernel_rfl)
  have c_int : Try.prog.cellsOf 3 = 1 := by kernel_rfl
  have c_string : Try.prog.cellsOf 9 = 1 := by kernel_rfl
  match xs, hxl, cs, hl2 with
  | [y0, y1, y2, y3, y4, y5, y6, y7], _, [v0, v1, v2, v3, v4, v5, v6, v7], _ =>
    have g0 := hf 0 _ rfl
    have g1 := hf 1 _ rfl
    have g2 := hf 2 _ rfl
    have g3 := hf 3 _ rfl
    have g4 := hf 4 _ rfl
    have g5 := hf 5 _ rfl
    have g6 := hf 6 _ rfl
    have g7 := hf 7 _ rfl
    simp [c_int, c_string] at g0 g1 g2 g3 g4 g5 g6 g7
    obtain ⟨n0, e0, -, w0⟩ := DataW.trod_int Try.underlying3 g0
    obtain ⟨n1, e1, -, w1⟩ := DataW.trod_int Try.underlying3 g1
    obtain ⟨n2, e2, -, w2⟩ := DataW.trod_int Try.underlying3 g2
    obtain ⟨n3, e3, -, w3⟩ := DataW.trod_int Try.underlying3 g3
    obtain ⟨n4, e4, -, w4⟩ := DataW.trod_int Try.underlying3 g4
    obtain ⟨n5, e5, -, w5⟩ := DataW.trod_int Try.underlying3 g5
    obtain ⟨n6, e6, -, w6⟩ := DataW.trod_int Try.underlying3 g6
    obtain ⟨n7, e7, q7, -⟩ := DataW.trod_string Try.underlying9 g7
    have w7 : n7.size ≤ 140737488351232 := by
      have := hs n7.data.toList.length (by
        simp only [DataW.weights, Try.underlying29, List.map_cons, List.map_nil, DataW.weightsEach, List.mem_append, List.not_mem_nil, or_false]
        rw [q7]
        simp [DataW.weights])
      simpa [reachBytes] using this
    obtain rfl : v0 = .int .i64 n0 := by simpa using e0
    obtain rfl : v1 = .int .i64 n1 := by simpa using e1
    obtain rfl : v2 = .int .i64 n2 := by simpa using e2
    obtain rfl : v3 = .int .i64 n3 := by simpa using e3
    obtain rfl : v4 = .int .i64 n4 := by simpa using e4
    obtain rfl : v5 = .int .i64 n5 := by simpa using e5
    obtain rfl : v6 = .int .i64 n6 := by simpa using e6
    obtain rfl : v7 = .string n7 := by simpa using e7
    refine ⟨⟨n0, n1, n2, n3, n4, n5, n6, n7⟩, rfl, ?_⟩
    refine ⟨i64_inF w0, i64_inF w1, i64_inF w2, i64_inF w3, i64_inF w4, i64_inF w5, i64_inF w6, w7⟩
theorem frs_at {V : Nat → Fr} {n i : Nat} (h : i < n) : frA ((List.range n).map V) i = V i := by
  have hl : i < ((List.range n).map V).length := by simpa using h
  rw [frA_get hl]
  simp
/-- a row that came in -/
theorem open_frs {fuel : Nat} {A : Option Addr} {n c : Nat} {y : DataW H × List MemPlace} (h : DataW.trod enc Try.prog w 0 (fun _ => true) held fuel 22 [.slice A n c] = some y) (hs : ∀ x ∈ y.1.weights Try.prog 22, x ≤ reachBytes) :
    ∃ l : List Fr, FragsIn w A n c l := by
  have ce : Try.prog.cellsOf 29 = 8 := by kernel_rfl
  rcases Go.Deep.open_slice Try.underlying22 h with ⟨hcs, _⟩ | ⟨a, len, cap, m, q, D, Pl, hcs, _, hl, hm, hmm, rfl, hx⟩
  · have e : Value.slice A n c = .slice none 0 0 := by simpa using hcs
    cases e
    exact ⟨[], FrIn.nil w, rfl, fun _ => ⟨rfl, rfl⟩, by omega, fun i hi => absurd hi (by simp)⟩
  · have e : Value.slice A n c = .slice (some a) len cap := by simpa using hcs
    cases e
    obtain rfl : m = c := by simpa using hmm
    have hsz : m * Try.prog.bytesOf 29 ≤ reachBytes := by
      have := hs ((n + (m - n)) * Try.prog.bytesOf 29) (by
        simp only [DataW.weights, Try.underlying22, List.length_map, List.length_range]
        exact List.mem_cons_self)
      rwa [show n + (m - n) = m by omega] at this
    have hby : Try.prog.bytesOf 29 = 72 := by kernel_rfl
    rw [hby] at hsz
    have hw : ∀ i, i < n → ∀ x ∈ (D i).weights Try.prog 29, x ≤ reachBytes := fun i hi x hx => hs x (by
      simp only [DataW.weights, Try.underlying22, List.mem_cons, List.mem_append]
      exact .inr (.inl (weights_all_memF (List.mem_map.2 ⟨i, List.mem_range.2 hi, rfl⟩) x hx)))
    have each : ∀ i, i < n → ∃ x : Fr, BigF x ∧ ∀ k, k < 8 → w.cell? (a.add (i * 8 + k)) = (frCells x)[k]? := fun i hi => by
      obtain ⟨cs', h1, h2⟩ := hx i (by omega)
      obtain ⟨x, rfl, hv⟩ := open_fr h2 (hw i hi)
      rw [ce] at h1
      obtain ⟨_, _, hcell⟩ := World.cells?_some h1
      exact ⟨x, hv, fun k hk => by have := hcell k hk; rwa [Go.Deep.add_add] at this⟩
    obtain ⟨V, hV⟩ := Go.Deep.choose_lt each
    have hlen : ((List.range n).map V).length = n := by simp
    refine ⟨(List.range n).map V, ⟨some a, m, by rw [hlen], ⟨by omega, by simp only [maxLen] at hm; omega⟩, (fun h => by cases h), fun hne => ?_⟩, hlen, (fun e => by cases e), by simp only [reachBytes] at hsz; omega, fun i hi => ?_⟩
    · have hn : 0 < n := by
        refine Nat.pos_of_ne_zero (fun e => hne ?_)
        rw [e]
        rfl
      have h0 := (hV 0 hn).2 0 (by omega)
      have hb : a.block < w.heap.size := by
        have := World.block_lt_of_cell? w _ (h0.trans (show (frCells (V 0))[0]? = some _ from rfl))
        simpa [Addr.add] using this
      obtain ⟨b, off, spot⟩ := a
      have hspot : spot = none := by
        have := World.cell?_spot (h0.trans (show (frCells (V 0))[0]? = some _ from rfl))
        simpa [Addr.add] using this
      subst hspot
      refine ⟨b, off, rfl, hb, fun j hj => ?_⟩
      rw [hlen] at hj
      have hc := (hV j hj).2
      simp only [add_plain] at hc
      rw [frs_at (V := V) hj]
      exact FrAt.of fun k u hk hu => by
        have := hc k hk
        rw [← Nat.add_assoc] at this
        exact this.trans hu
    · rw [hlen] at hi
      rw [frs_at (V := V) hi]
      exact (hV i hi).1
theorem open_fr_arg {r : Reach} {b : Nat} {v : Value} {d : DataW H} {p : List MemPlace} (hv : Value.okWide Try.prog w r b 29 v) (h : DataW.Trod enc Try.prog w 0 (fun _ => true) held 29 v d p) (hs : ∀ x ∈ d.weights Try.prog 29, x ≤ reachBytes) :
    ∃ s : Fr, v = frV s ∧ BigF s := by
  obtain ⟨fuel, hf⟩ := h
  obtain ⟨cs, rfl, _⟩ := okWide_struct Try.underlying29 hv
  obtain ⟨s, e, ok⟩ := open_fr hf hs
  refine ⟨s, ?_, ok⟩
  obtain ⟨l⟩ := cs
  simp only [Value.cells] at e
  rw [frV, e]
  rfl
end
end

section
def inZ (n least most : Int) : Prop := least ≤ n ∧ n ≤ most
instance (n least most : Int) : Decidable (inZ n least most) := by unfold inZ; infer_instance
def MayF (f : Fr) : Prop := inZ f.node 0 1099511627776 ∧ inZ f.part 0 1099511627776 ∧ inZ f.depth 0 2048 ∧ inZ f.x (-1099511627776) 1099511627776 ∧ inZ f.y (-1099511627776) 1099511627776 ∧ inZ f.w (-1099511627776) 1099511627776 ∧ inZ f.h (-1099511627776) 1099511627776 ∧ f.text.size ≤ 256
instance (f : Fr) : Decidable (MayF f) := by unfold MayF; infer_instance
/-- from k on, the place of a key; the row's length: there is none -/
def findN (l : List Fr) (n p : Int) (k : Nat) : Nat :=
  if h : k < l.length then if (frA l k).node = n ∧ (frA l k).part = p then k else findN l n p (k + 1) else l.length
termination_by l.length - k
def findZ (l : List Fr) (n p : Int) : Int := if findN l n p 0 < l.length then findN l n p 0 else -1
section
variable {l : List Fr} {n p : Int}
theorem findN_hit {k : Nat} (h : k < l.length) (hk : (frA l k).node = n ∧ (frA l k).part = p) : findN l n p k = k := by
  unfold findN
  rw [dif_pos h, if_pos hk]
theorem findN_go {k : Nat} (h : k < l.length) (hk : ¬ ((frA l k).node = n ∧ (frA l k).part = p)) : findN l n p k = findN l n p (k + 1) := by
  conv => lhs; unfold findN
  rw [dif_pos h, if_neg hk]
theorem findN_end {k : Nat} (h : l.length ≤ k) : findN l n p k = l.length := by
  unfold findN
  rw [dif_neg (by omega)]
theorem findN_le (k : Nat) : findN l n p k ≤ l.length := by
  by_cases h : k < l.length
  · by_cases hk : (frA l k).node = n ∧ (frA l k).part = p
    · rw [findN_hit h hk]; omega
    · rw [findN_go h hk]; exact findN_le (k + 1)
  · rw [findN_end (by omega)]; exact Nat.le_refl _
termination_by l.length - k
theorem findN_ge {k : Nat} (hk : k ≤ l.length) : k ≤ findN l n p k := by
  by_cases h : k < l.length
  · by_cases h' : (frA l k).node = n ∧ (frA l k).part = p
    · rw [findN_hit h h']; exact Nat.le_refl _
    · rw [findN_go h h']; have := findN_ge (k := k + 1) (by omega); omega
  · rw [findN_end (by omega)]; omega
termination_by l.length - k
/-- none ahead of it has the key -/
theorem findN_first {k : Nat} : ∀ i, k ≤ i → i < findN l n p k → ¬ ((frA l i).node = n ∧ (frA l i).part = p) := by
  intro i hi hlt
  by_cases h : k < l.length
  · by_cases h' : (frA l k).node = n ∧ (frA l k).part = p
    · rw [findN_hit h h'] at hlt; omega
    · rw [findN_go h h'] at hlt
      by_cases e : i = k
      · rw [e]; exact h'
      · exact findN_first i (by omega) hlt
  · have := findN_le (l := l) (n := n) (p := p) k
    omega
termination_by l.length - k
theorem findN_is {k : Nat} (h : findN l n p k < l.length) : (frA l (findN l n p k)).node = n ∧ (frA l (findN l n p k)).part = p := by
  by_cases hk : k < l.length
  · by_cases h' : (frA l k).node = n ∧ (frA l k).part = p
    · rw [findN_hit hk h']; exact h'
    · rw [findN_go hk h'] at h ⊢
      exact findN_is h
  · rw [findN_end (by omega)] at h; omega
termination_by l.length - k
theorem findN_eq {i : Nat} (hi : i < l.length) (h : (frA l i).node = n ∧ (frA l i).part = p) (hf : ∀ k, k < i → ¬ ((frA l k).node = n ∧ (frA l k).part = p)) : findN l n p 0 = i := by
  have h1 := findN_first (l := l) (n := n) (p := p) (k := 0)
  have h2 := findN_le (l := l) (n := n) (p := p) 0
  rcases Nat.lt_trichotomy (findN l n p 0) i with c | c | c
  · exact absurd (findN_is (by omega)) (hf _ c)
  · exact c
  · exact absurd h (h1 i (Nat.zero_le _) c)
end
/-- may a fragment stand there? -/
def StandF (l : List Fr) (i : Nat) : Prop := if i = 0 then (frA l i).depth = 0 else inZ (frA l i).depth 1 ((frA l (i - 1)).depth + 1)
instance (l : List Fr) (i : Nat) : Decidable (StandF l i) := by unfold StandF; infer_instance
def OkAt (l : List Fr) (i : Nat) : Prop := MayF (frA l i) ∧ findN l (frA l i).node (frA l i).part 0 = i ∧ StandF l i
instance (l : List Fr) (i : Nat) : Decidable (OkAt l i) := by unfold OkAt; infer_instance
structure TreeF (l : List Fr) : Prop where
  most : l.length ≤ 2048
  some : 0 < l.length
  ok : ∀ i, i < l.length → OkAt l i
instance (l : List Fr) : Decidable (TreeF l) := decidable_of_iff (l.length ≤ 2048 ∧ 0 < l.length ∧ ∀ i, i < l.length → OkAt l i) ⟨fun h => ⟨h.1, h.2.1, h.2.2⟩, fun h => ⟨h.most, h.some, h.ok⟩⟩
def checkZ (l : List Fr) : Int := if 2048 < l.length then 4 else if TreeF l then 0 else 200
theorem checkZ_ok {l : List Fr} : checkZ l = 0 ↔ TreeF l := by
  unfold checkZ
  constructor
  · intro h
    split at h
    · cases h
    · split at h
      · assumption
      · cases h
  · intro h
    rw [if_neg (by have := h.most; omega), if_pos h]
/-- the last one ahead that is so deep -/
def upZ (l : List Fr) (d : Int) : Nat → Int
  | 0 => -1
  | k + 1 => if (frA l k).depth = d then (k : Int) else upZ l d k
def parentZ (l : List Fr) (i : Int) : Int := if i < 0 ∨ (l.length : Int) ≤ i ∨ ¬ TreeF l then -1 else upZ l ((frA l i.toNat).depth - 1) i.toNat
/-- from k on, the first one that is no deeper -/
def endN (l : List Fr) (d : Int) (k : Nat) : Nat :=
  if h : k < l.length then if (frA l k).depth ≤ d then k else endN l d (k + 1) else l.length
termination_by l.length - k
def endZ (l : List Fr) (i : Int) : Int := if i < 0 ∨ (l.length : Int) ≤ i ∨ ¬ TreeF l then 0 else endN l (frA l i.toNat).depth (i.toNat + 1)
section
variable {l : List Fr} {d : Int}
theorem endN_hit {k : Nat} (h : k < l.length) (hk : (frA l k).depth ≤ d) : endN l d k = k := by
  unfold endN
  rw [dif_pos h, if_pos hk]
theorem endN_go {k : Nat} (h : k < l.length) (hk : ¬ (frA l k).depth ≤ d) : endN l d k = endN l d (k + 1) := by
  conv => lhs; unfold endN
  rw [dif_pos h, if_neg hk]
theorem endN_end {k : Nat} (h : l.length ≤ k) : endN l d k = l.length := by
  unfold endN
  rw [dif_neg (by omega)]
theorem endN_le (k : Nat) : endN l d k ≤ l.length := by
  by_cases h : k < l.length
  · by_cases hk : (frA l k).depth ≤ d
    · rw [endN_hit h hk]; omega
    · rw [endN_go h hk]; exact endN_le (k + 1)
  · rw [endN_end (by omega)]; exact Nat.le_refl _
termination_by l.length - k
theorem endN_ge {k : Nat} (hk : k ≤ l.length) : k ≤ endN l d k := by
  by_cases h : k < l.length
  · by_cases h' : (frA l k).depth ≤ d
    · rw [endN_hit h h']; exact Nat.le_refl _
    · rw [endN_go h h']; have := endN_ge (k := k + 1) (by omega); omega
  · rw [endN_end (by omega)]; omega
termination_by l.length - k
theorem endN_deep {k : Nat} : ∀ i, k ≤ i → i < endN l d k → d < (frA l i).depth := by
  intro i hi hlt
  by_cases h : k < l.length
  · by_cases h' : (frA l k).depth ≤ d
    · rw [endN_hit h h'] at hlt; omega
    · rw [endN_go h h'] at hlt
      by_cases e : i = k
      · rw [e]; omega
      · exact endN_deep i (by omega) hlt
  · rw [endN_end (by omega)] at hlt; omega
termination_by l.length - k
theorem endN_stop {k : Nat} (h : endN l d k < l.length) : (frA l (endN l d k)).depth ≤ d := by
  by_cases hk : k < l.length
  · by_cases h' : (frA l k).depth ≤ d
    · rw [endN_hit hk h']; exact h'
    · rw [endN_go hk h'] at h ⊢
      exact endN_stop h
  · rw [endN_end (by omega)] at h; omega
termination_by l.length - k
/-- whoever is deeper all along is within it -/
theorem endN_gt {k m : Nat} (hm : m ≤ l.length) (hk : k ≤ m) (h : ∀ i, k ≤ i → i < m → d < (frA l i).depth) : m ≤ endN l d k := by
  by_cases c : m ≤ endN l d k
  · exact c
  · have h2 := endN_ge (l := l) (d := d) (k := k) (by omega)
    have h3 := endN_stop (l := l) (d := d) (k := k) (by omega)
    have := h _ h2 (by omega)
    omega
theorem upZ_is : ∀ (k : Nat), (upZ l d k = -1 ∧ ∀ i, i < k → (frA l i).depth ≠ d) ∨ ∃ p : Nat, upZ l d k = p ∧ p < k ∧ (frA l p).depth = d ∧ ∀ i, p < i → i < k → (frA l i).depth ≠ d
  | 0 => .inl ⟨rfl, fun i hi => absurd hi (by omega)⟩
  | k + 1 => by
    unfold upZ
    by_cases h : (frA l k).depth = d
    · rw [if_pos h]
      exact .inr ⟨k, rfl, by omega, h, fun i h1 h2 => by omega⟩
    · rw [if_neg h]
      rcases upZ_is k with ⟨h1, h2⟩ | ⟨p, h1, h2, h3, h4⟩
      · exact .inl ⟨h1, fun i hi => by
          by_cases e : i = k
          · rw [e]; exact h
          · exact h2 i (by omega)⟩
      · exact .inr ⟨p, h1, by omega, h3, fun i h5 h6 => by
          by_cases e : i = k
          · rw [e]; exact h
          · exact h4 i h5 (by omega)⟩
end
section
variable {l : List Fr} (h : TreeF l)
include h
theorem TreeF.zero : (frA l 0).depth = 0 := by
  have := (h.ok 0 h.some).2.2
  unfold StandF at this
  rwa [if_pos rfl] at this
theorem TreeF.step {i : Nat} (h0 : 0 < i) (hi : i < l.length) : 1 ≤ (frA l i).depth ∧ (frA l i).depth ≤ (frA l (i - 1)).depth + 1 := by
  have := (h.ok i hi).2.2
  unfold StandF at this
  rwa [if_neg (by omega)] at this
theorem TreeF.key {i k : Nat} (hi : i < l.length) (hk : k < i) : ¬ ((frA l k).node = (frA l i).node ∧ (frA l k).part = (frA l i).part) := by
  have := (h.ok i hi).2.1
  exact findN_first k (Nat.zero_le _) (by rw [this]; exact hk)
/-- ahead of one so deep there is one of each lesser depth, behind which all are deeper -/
theorem TreeF.above {d : Int} (hd : 0 ≤ d) : ∀ (i : Nat), i < l.length → d < (frA l i).depth → ∃ p, p < i ∧ (frA l p).depth = d ∧ ∀ k, p < k → k ≤ i → d < (frA l k).depth
  | 0, hi, hlt => by rw [h.zero] at hlt; omega
  | i + 1, hi, hlt => by
    have hs := h.step (i := i + 1) (by omega) hi
    rw [Nat.add_sub_cancel] at hs
    by_cases e : (frA l i).depth = d
    · exact ⟨i, by omega, e, fun k h1 h2 => by rw [show k = i + 1 by omega]; exact hlt⟩
    · obtain ⟨p, h1, h2, h3⟩ := TreeF.above hd i (by omega) (by omega)
      exact ⟨p, by omega, h2, fun k h4 h5 => by
        by_cases e' : k = i + 1
        · rw [e']; exact hlt
        · exact h3 k h4 (by omega)⟩
/-- the parent -/
theorem TreeF.parent {i : Nat} (h0 : 0 < i) (hi : i < l.length) : ∃ p : Nat, parentZ l i = p ∧ p < i ∧ (frA l p).depth = (frA l i).depth - 1 ∧ ∀ k, p < k → k ≤ i → (frA l p).depth < (frA l k).depth := by
  have hs := h.step h0 hi
  obtain ⟨q, q1, q2, q3⟩ := h.above (d := (frA l i).depth - 1) (by omega) i hi (by omega)
  unfold parentZ
  rw [if_neg (by rintro (c | c | c); omega; omega; exact c h), Int.toNat_natCast]
  rcases upZ_is (l := l) (d := (frA l i).depth - 1) i with ⟨-, h2⟩ | ⟨p, h1, h2, h3, h4⟩
  · exact absurd q2 (h2 q q1)
  · have : p = q := by
      rcases Nat.lt_trichotomy p q with c | c | c
      · exact absurd q2 (h4 q c q1)
      · exact c
      · have := q3 p c (by omega); omega
    subst this
    exact ⟨p, h1, h2, h3, fun k a b => by rw [h3]; exact q3 k a b⟩
theorem TreeF.endZ {i : Nat} (hi : i < l.length) : endZ l i = (endN l (frA l i).depth (i + 1) : Nat) := by
  unfold Go.Proofs.Ytieaoebphlcmpaa.endZ
  rw [if_neg (by rintro (c | c | c); omega; omega; exact c h), Int.toNat_natCast]
theorem TreeF.all : endN l (frA l 0).depth 1 = l.length := by
  rw [h.zero]
  have h1 := endN_le (l := l) (d := 0) 1
  have h2 := endN_gt (l := l) (d := 0) (k := 1) (m := l.length) (Nat.le_refl _) h.some (fun i a b => by have := h.step (i := i) (by omega) b; omega)
  omega
end
theorem parentZ_root (l : List Fr) : parentZ l 0 = -1 := by
  unfold parentZ
  split
  · rfl
  · rfl
theorem parentZ_no {l : List Fr} {i : Int} (h : i < 0 ∨ (l.length : Int) ≤ i ∨ ¬ TreeF l) : parentZ l i = -1 := by unfold parentZ; rw [if_pos h]
theorem endZ_no {l : List Fr} {i : Int} (h : i < 0 ∨ (l.length : Int) ≤ i ∨ ¬ TreeF l) : endZ l i = 0 := by unfold endZ; rw [if_pos h]
/-- FragHangs: below whom a fragment is -/
theorem TreeF.hangs {l : List Fr} (h : TreeF l) {i p : Nat} (h0 : 0 < i) (hi : i < l.length) (hp : parentZ l i = p) :
    p < i ∧ (frA l p).depth = (frA l i).depth - 1 ∧ endN l (frA l i).depth (i + 1) ≤ endN l (frA l p).depth (p + 1) ∧ i < endN l (frA l p).depth (p + 1) ∧
    ∀ k, k < i → i < endN l (frA l k).depth (k + 1) → (frA l k).depth = (frA l p).depth → k = p := by
  obtain ⟨q, e, q1, q2, q3⟩ := h.parent h0 hi
  obtain rfl : q = p := by omega
  have e1 := endN_gt (l := l) (d := (frA l q).depth) (k := q + 1) (m := endN l (frA l i).depth (i + 1)) (endN_le _) (by have := endN_ge (l := l) (d := (frA l i).depth) (k := i + 1) (by omega); omega) (fun k a b => by
    rcases Nat.lt_or_ge i k with c | c
    · have := endN_deep (l := l) (d := (frA l i).depth) (k := i + 1) k c b; omega
    · exact q3 k a c)
  have e2 := endN_ge (l := l) (d := (frA l i).depth) (k := i + 1) (by omega)
  refine ⟨q1, q2, e1, by omega, fun k hk hab hd => ?_⟩
  have hk2 := endN_deep (l := l) (d := (frA l k).depth) (k := k + 1)
  rcases Nat.lt_trichotomy k q with c | c | c
  · have := hk2 q c (by omega); omega
  · exact c
  · have := q3 k c (by omega); omega
/-- FragApart: what is below two of them -/
theorem ends_nest {l : List Fr} {i k : Nat} (hik : i < k) (ha : k < endN l (frA l i).depth (i + 1)) : endN l (frA l k).depth (k + 1) ≤ endN l (frA l i).depth (i + 1) := by
  have hd := endN_deep (l := l) (d := (frA l i).depth) (k := i + 1)
  have h1 := endN_le (l := l) (d := (frA l i).depth) (i + 1)
  by_cases c : endN l (frA l k).depth (k + 1) ≤ endN l (frA l i).depth (i + 1)
  · exact c
  · have h2 := endN_deep (l := l) (d := (frA l k).depth) (k := k + 1) (endN l (frA l i).depth (i + 1)) (by omega) (by omega)
    have h3 := hd k hik ha
    have h4 := endN_stop (l := l) (d := (frA l i).depth) (k := i + 1) (by have := endN_le (l := l) (d := (frA l k).depth) (k + 1); omega)
    omega
theorem TreeF.find {l : List Fr} (h : TreeF l) {i : Nat} (hi : i < l.length) : findZ l (frA l i).node (frA l i).part = i := by
  unfold findZ
  rw [(h.ok i hi).2.1, if_pos hi]
theorem frA_take {l : List Fr} {n i : Nat} (h : i < n) : frA (l.take n) i = frA l i := by unfold frA; rw [List.getElem?_take_of_lt h]
/-- FragFirst: the first so many -/
theorem TreeF.take {l : List Fr} (h : TreeF l) {n : Nat} (h0 : 0 < n) (hn : n ≤ l.length) : TreeF (l.take n) := by
  have hl : (l.take n).length = n := by rw [List.length_take]; omega
  refine ⟨by rw [hl]; have := h.most; omega, by omega, fun i hi => ?_⟩
  rw [hl] at hi
  obtain ⟨h1, h2, h3⟩ := h.ok i (by omega)
  refine ⟨by rw [frA_take hi]; exact h1, ?_, ?_⟩
  · rw [frA_take hi]
    refine findN_eq (by omega) (by rw [frA_take hi]; exact ⟨rfl, rfl⟩) (fun k hk => ?_)
    rw [frA_take (by omega)]
    exact h.key (by omega) hk
  · unfold StandF at h3 ⊢
    by_cases e : i = 0
    · rw [if_pos e] at h3 ⊢; rw [frA_take hi]; exact h3
    · rw [if_neg e] at h3 ⊢; rw [frA_take hi, frA_take (by omega)]; exact h3
/-- what is below a fragment, with it, each one's Depth less its own -/
def belowF (l : List Fr) (i n : Nat) : List Fr := (List.range n).map fun j => { frA l (i + j) with depth := (frA l (i + j)).depth - (frA l i).depth }
theorem belowF_len (l : List Fr) (i n : Nat) : (belowF l i n).length = n := by simp [belowF]
theorem belowF_get (l : List Fr) (i : Nat) {n j : Nat} (h : j < n) : frA (belowF l i n) j = { frA l (i + j) with depth := (frA l (i + j)).depth - (frA l i).depth } := by
  rw [show frA (belowF l i n) j = ((belowF l i n)[j]?).getD frZ from rfl]
  simp [belowF, h]
theorem belowF_succ (l : List Fr) (i n : Nat) : belowF l i (n + 1) = belowF l i n ++ [{ frA l (i + n) with depth := (frA l (i + n)).depth - (frA l i).depth }] := by simp [belowF, List.range_succ]
theorem TreeF.below {l : List Fr} (h : TreeF l) {i e : Nat} (hi : i < l.length) (he : endN l (frA l i).depth (i + 1) = e) : TreeF (belowF l i (e - i)) := by
  have e1 := endN_ge (l := l) (d := (frA l i).depth) (k := i + 1) (by omega)
  have e2 := endN_le (l := l) (d := (frA l i).depth) (i + 1)
  have hd := endN_deep (l := l) (d := (frA l i).depth) (k := i + 1)
  have hz : 0 ≤ (frA l i).depth := by
    by_cases c : i = 0
    · subst c; rw [h.zero]; omega
    · have := h.step (by omega) hi; omega
  rw [he] at e1 e2 hd
  have hm := h.most
  refine ⟨by rw [belowF_len]; omega, by rw [belowF_len]; omega, fun j hj => ?_⟩
  rw [belowF_len] at hj
  obtain ⟨⟨m1, m2, m3, m4⟩, h2, h3⟩ := h.ok (i + j) (by omega)
  have dj : (frA l i).depth ≤ (frA l (i + j)).depth := by
    by_cases c : j = 0
    · subst c; exact Int.le_refl _
    · have := hd (i + j) (by omega) (by omega); omega
  refine ⟨?_, ?_, ?_⟩
  · rw [belowF_get l i hj]
    refine ⟨m1, m2, ?_, m4⟩
    unfold inZ at m3 ⊢
    dsimp only
    omega
  · rw [belowF_get l i hj]
    refine findN_eq (by rw [belowF_len]; exact hj) (by rw [belowF_get l i hj]; exact ⟨rfl, rfl⟩) (fun k hk => ?_)
    rw [belowF_get l i (by omega)]
    exact h.key (i := i + j) (k := i + k) (by omega) (by omega)
  · unfold StandF
    by_cases c : j = 0
    · subst c
      rw [if_pos rfl, belowF_get l i hj]
      dsimp only
      rw [Nat.add_zero]
      omega
    · rw [if_neg c, belowF_get l i hj, belowF_get l i (by omega)]
      have hs := h.step (i := i + j) (by omega) (by omega)
      have hd2 := hd (i + j) (by omega) (by omega)
      rw [show i + j - 1 = i + (j - 1) by omega] at hs
      unfold inZ
      dsimp only
      omega
theorem TreeF.notAt {l : List Fr} {i : Nat} (hi : i < l.length) (h : ¬ OkAt l i) : ¬ TreeF l := fun t => h (t.ok i hi)
end

section
open Go.RowKit

abbrev I64f (y : Int) : Prop := -9223372036854775808 ≤ y ∧ y ≤ 9223372036854775807
theorem b_nx20 {w0 W W' : World} (h : Below w0.heap.size w0 W) (hb : Below W.heap.size W W') : Below w0.heap.size w0 W' := h.trans (hb.mono h.size)
def MayOK20 (F : Nat) : Prop := ∀ (f : Fr) (w : World), BigF f → Calls Try.prog F #[frV f] w fun e w' => e = .returned (.bool (decide (MayF f))) ∧ Below w.heap.size w w'
def CheckOK20 (F : Nat) : Prop := ∀ (v : Value) (l : List Fr) (w : World), FrIn w v l → BigsF l → l.length ≤ 80000 → Calls Try.prog F #[v] w fun e w' => e = .returned (.int .i64 (checkZ l)) ∧ Below w.heap.size w w'
def ParentOK20 (F : Nat) : Prop := ∀ (v : Value) (l : List Fr) (i : Int) (w : World), FrIn w v l → BigsF l → l.length ≤ 80000 → I64f i → Calls Try.prog F #[v, .int .i64 i] w fun e w' => e = .returned (.int .i64 (parentZ l i)) ∧ Below w.heap.size w w'
def EndOK20 (F : Nat) : Prop := ∀ (v : Value) (l : List Fr) (i : Int) (w : World), FrIn w v l → BigsF l → l.length ≤ 80000 → I64f i → Calls Try.prog F #[v, .int .i64 i] w fun e w' => e = .returned (.int .i64 (endZ l i)) ∧ Below w.heap.size w w'
def FindOK20 (F : Nat) : Prop := ∀ (v : Value) (l : List Fr) (n p : Int) (w : World), FrIn w v l → BigsF l → l.length ≤ 80000 → I64f n → I64f p → Calls Try.prog F #[v, .int .i64 n, .int .i64 p] w fun e w' => e = .returned (.int .i64 (findZ l n p)) ∧ Below w.heap.size w w'
def SameOK20 (F : Nat) : Prop := ∀ (v u : Value) (l m : List Fr) (w : World), FrIn w v l → FrIn w u m → l.length ≤ 80000 → m.length ≤ 80000 → Calls Try.prog F #[v, u] w fun e w' => e = .returned (.bool (decide (l = m))) ∧ Below w.heap.size w w'
theorem frs_ext {l m : List Fr} (hl : l.length = m.length) (h : ∀ i, i < l.length → frA l i = frA m i) : l = m := by
  apply List.ext_getElem hl
  intro i h1 h2
  have := h i h1
  rwa [frA_get h1, frA_get h2] at this
end
end Go.Proofs.Ytieaoebphlcmpaa
