/-
  Rows of lines (two numbers each) in memory: as they lie somewhere; of the call's own: read, put onto. Rows of numbers of the call's own.
-/
import Derived.Test.YtpjhhndjbpegcaaMarginMath
import Derived.Test.YtpjhhndjbpegcaaRowsG
namespace Go.Proofs.Ytpjhhndjbpegcaa
open Go.RowKit

def lnCells15 (x : Mg) : List Value := [.int .i64 x.1, .int .i64 x.2]
def lnV15 (x : Mg) : Value := .agg #[.int .i64 x.1, .int .i64 x.2]
def lnNone15 : Value := lnV15 mgZ
theorem lnCells15_len (x : Mg) : (lnCells15 x).length = 2 := rfl
def cellsL15 (l : List Mg) : List Value := l.flatMap lnCells15
theorem cellsL15_len (l : List Mg) : (cellsL15 l).length = l.length * 2 := rowg_len _ 2 lnCells15_len l
theorem cellsL15_append (a b : List Mg) : cellsL15 (a ++ b) = cellsL15 a ++ cellsL15 b := by simp [cellsL15]
theorem cellsL15_one (l : List Mg) : ∀ u ∈ cellsL15 l, u.oneCell' = true := by
  intro u hu
  obtain ⟨x, -, hx⟩ := List.mem_flatMap.1 hu
  simp [lnCells15] at hx
  rcases hx with rfl | rfl <;> rfl

/-- lines as they lie somewhere -/
def LnIn15 (w : World) (v : Value) (l : List Mg) : Prop := ∃ A c, v = .slice A l.length c ∧ (l.length ≤ c ∧ c ≤ 9223372036854775807) ∧ (l ≠ [] → ∃ b off, A = some ⟨b, off, none⟩ ∧ b < w.heap.size ∧
  ∀ j, j < l.length → w.cell? ⟨b, off + j * 2, none⟩ = some (.int .i64 (mu l j)) ∧ w.cell? ⟨b, off + j * 2 + 1, none⟩ = some (.int .i64 (md l j)))
theorem LnIn15.keep {w w' : World} {v : Value} {l : List Mg} (h : LnIn15 w v l) (hb : Below w.heap.size w w') : LnIn15 w' v l := by
  obtain ⟨A, c, rfl, hc, hq⟩ := h
  refine ⟨A, c, rfl, hc, fun e => ?_⟩
  obtain ⟨b, off, h1, h2, h3⟩ := hq e
  exact ⟨b, off, h1, Nat.lt_of_lt_of_le h2 hb.size, fun j hj => ⟨(hb.cell (p := ⟨b, off + j * 2, none⟩) h2).trans (h3 j hj).1, (hb.cell (p := ⟨b, off + j * 2 + 1, none⟩) h2).trans (h3 j hj).2⟩⟩
theorem LnIn15.nil (w : World) : LnIn15 w (.slice none 0 0) [] := ⟨none, 0, rfl, ⟨by simp, by omega⟩, fun h => absurd rfl h⟩
/-- a line at its place -/
theorem LnIn15.get {w : World} {v : Value} {l : List Mg} (h : LnIn15 w v l) {i : Nat} (hi : i < l.length) : ∃ b off c, v = .slice (some ⟨b, off, none⟩) l.length c ∧ w.cell? ⟨b, off + i * 2, none⟩ = some (.int .i64 (mu l i)) ∧ w.cell? ⟨b, off + i * 2 + 1, none⟩ = some (.int .i64 (md l i)) := by
  obtain ⟨A, c, rfl, hc, hq⟩ := h
  obtain ⟨b, off, rfl, h2, h3⟩ := hq (by intro e; rw [e] at hi; simp at hi)
  exact ⟨b, off, c, rfl, h3 i hi⟩
theorem LnIn15.at_ {w : World} {b off n c : Nat} {l : List Mg} (h : LnIn15 w (.slice (some ⟨b, off, none⟩) n c) l) {i : Nat} (hi : i < l.length) : w.cell? ⟨b, off + i * 2, none⟩ = some (.int .i64 (mu l i)) ∧ w.cell? ⟨b, off + i * 2 + 1, none⟩ = some (.int .i64 (md l i)) := by
  obtain ⟨b', off', c', e, h1⟩ := h.get hi
  injection e with e1 e2 e3
  injection e1 with e1
  injection e1 with e1 e4
  subst e1 e4
  exact h1
/-- the first of them -/
theorem LnIn15.take {w : World} {A : Option Addr} {n c : Nat} {l : List Mg} (h : LnIn15 w (.slice A n c) l) {k : Nat} (hk : k ≤ l.length) : LnIn15 w (.slice A k c) (l.take k) := by
  obtain ⟨A', c', e, hc, hq⟩ := h
  injection e with e1 e2 e3
  subst e1 e3
  have hl : (l.take k).length = k := by rw [List.length_take]; omega
  refine ⟨A, c, by rw [hl], ⟨by omega, hc.2⟩, fun hne => ?_⟩
  obtain ⟨b, off, h1, h2, h3⟩ := hq (by intro e; rw [e] at hne; exact hne (by simp))
  refine ⟨b, off, h1, h2, fun j hj => ?_⟩
  rw [hl] at hj
  have := h3 j (by omega)
  unfold mu md mgAt at this ⊢
  rw [List.getElem?_take_of_lt hj]
  exact this
/-- the others -/
theorem LnIn15.drop {w : World} {b off : Nat} {n c : Nat} {l : List Mg} (h : LnIn15 w (.slice (some ⟨b, off, none⟩) n c) l) {k : Nat} (hk : k ≤ l.length) : LnIn15 w (.slice (some ⟨b, off + k * 2, none⟩) (n - k) (c - k)) (l.drop k) := by
  obtain ⟨A', c', e, hc, hq⟩ := h
  injection e with e1 e2 e3
  subst e1 e2 e3
  refine ⟨_, _, by rw [List.length_drop], ⟨by rw [List.length_drop]; omega, by omega⟩, fun hne => ?_⟩
  obtain ⟨b', off', h1, h2, h3⟩ := hq (by intro e; rw [e] at hne; exact hne (by simp))
  injection h1 with h1
  injection h1 with h1 h4
  subst h1 h4
  refine ⟨b, off + k * 2, rfl, h2, fun j hj => ?_⟩
  rw [List.length_drop] at hj
  have := h3 (k + j) (by omega)
  unfold mu md mgAt at this ⊢
  rw [List.getElem?_drop]
  rwa [show off + (k + j) * 2 = off + k * 2 + j * 2 by omega] at this

/-- the cells of a row of lines, wherever it lies -/
theorem LnIn15.cells {w : World} {v : Value} {l : List Mg} (h : LnIn15 w v l) {A : Option Addr} {n c : Nat} (e : v = .slice A n c) : ∀ p, A = some p → ∀ j u, (cellsL15 l)[j]? = some u → w.cell? (p.add j) = some u := by
  rintro p rfl j u hu
  have hj := (List.getElem?_eq_some_iff.1 hu).1
  rw [cellsL15_len] at hj
  have hi : j / 2 < l.length := by omega
  obtain ⟨b, off, c', e', c0, c1⟩ := h.get hi
  rw [e] at e'
  injection e' with e1 e2 e3
  injection e1 with e1
  subst e1
  unfold mu at c0
  unfold md at c1
  rw [mgAt_get hi] at c0 c1
  rw [Go.WideShapes.add_plain]
  unfold cellsL15 at hu
  have hc : j % 2 = 0 ∨ j % 2 = 1 := by omega
  rcases hc with hp | hp
  · have g0 := flat_get lnCells15 2 lnCells15_len (l := l) hi (i := 0) (by omega)
    rw [show j / 2 * 2 + 0 = j by omega, hu] at g0
    rw [show off + j = off + j / 2 * 2 by omega, c0]
    exact g0.symm
  · have g0 := flat_get lnCells15 2 lnCells15_len (l := l) hi (i := 1) (by omega)
    rw [show j / 2 * 2 + 1 = j by omega, hu] at g0
    rw [show off + j = off + j / 2 * 2 + 1 by omega, c1]
    exact g0.symm
theorem ln_cells15 {w : World} {T : TypeId} (x : Mg) : ∀ j u, (cellsL15 [x])[j]? = some u → (w.alloc (.cells (lnCells15 x).toArray T)).cell? ((⟨w.heap.size, 0, none⟩ : Addr).add j) = some u := by
  intro j u hu
  rw [Go.WideShapes.add_plain, Nat.zero_add, World.cell?_alloc_new]
  simpa [cellsL15] using hu
/-- a new row of one, of two -/
theorem lns_new15 {w : World} (l : List Mg) (hn : l.length ≤ 1000) (T : TypeId) : LnIn15 (w.alloc (.cells (cellsL15 l).toArray T)) (.slice (some ⟨w.heap.size, 0, none⟩) l.length l.length) l := by
  refine ⟨_, _, rfl, ⟨Nat.le_refl _, by omega⟩, fun _ => ⟨w.heap.size, 0, rfl, by rw [World.size_alloc]; omega, fun j hj => ?_⟩⟩
  have g0 := flat_get lnCells15 2 lnCells15_len hj (i := 0) (by omega)
  have g1 := flat_get lnCells15 2 lnCells15_len hj (i := 1) (by omega)
  unfold mu md
  rw [mgAt_get hj, Nat.zero_add, World.cell?_alloc_new, World.cell?_alloc_new]
  constructor
  · rw [List.getElem?_toArray]; exact g0
  · rw [List.getElem?_toArray]; exact g1
theorem Try.infoI15 : (Try.prog.info? 3).map (fun i => (i.zero, i.size, i.bytes)) = some (some (.int .i64 0), 1, 8) := by kernel_rfl
def ownsI15 (w : World) (base : Nat) (v : Value) (l : List Int) : Prop := w.ownsRow base 3 1 v l.length (l.map (Value.int .i64))
theorem ownsI15.nil (w : World) (base : Nat) : ownsI15 w base (.slice none 0 0) [] := ⟨rfl, .inl ⟨rfl, rfl⟩⟩
theorem ownsI15.keep {w w' : World} {base : Nat} {v : Value} {l : List Int} (h : ownsI15 w base v l) (hb : Below w.heap.size w w') : ownsI15 w' base v l := own_keep h hb
theorem own_off15 {w : World} {B : Nat} {T : TypeId} {k : Nat} {v : Value} {n : Nat} {xs : List Value} (h : w.ownsRow B T k v n xs) {g j : Nat} (hg : g < B) (u : Value) : (w.setCell ⟨g, j, none⟩ u).ownsRow B T k v n xs := by
  obtain ⟨h1, h2⟩ := h
  rcases h2 with h2 | ⟨g', cap, cur, rfl, hb, hw, rest⟩
  · exact ⟨h1, .inl h2⟩
  · exact ⟨h1, .inr ⟨g', cap, cur, rfl, hb, by simp [World.setCell, Array.getElem?_modify, show g ≠ g' by omega, hw], rest⟩⟩
theorem wpList_append_i15 {w : World} {ops : Array Oper} {rest : List Oper} {o : Oper} {a : Act} {Q : Exit → Act → World → Prop} (hgd : o.guard = none) (s x : Operand)
    (ho : o.op = .call { callee := .builtin .append, args := #[s, x], argTypes := #[22, 22] })
    (base : Nat) (v : Value) (l : List Int) (hs : a.eval s = v) (hown : ownsI15 w base v l) (y : Int) (T : TypeId) (hx : a.eval x = .slice (some ⟨w.heap.size, 0, none⟩) 1 1)
    (hb : l.length ≤ 90000) (hbase : base ≤ w.heap.size)
    (h : ∀ v' w', ownsI15 w' base v' (l ++ [y]) → Below base w w' → wpList Try.prog ops Q rest (a.put o.dst v') w') :
    wpList Try.prog ops Q (o :: rest) a (w.alloc (.cells #[.int .i64 y] T)) := by
  obtain ⟨i0, hi, hz0, hz1, hz2⟩ := info_parts10 Try.infoI15
  have ha : Below base w (w.alloc (.cells #[.int .i64 y] T)) := (Below.refl _ _).alloc hbase _
  have hown2 : (w.alloc (.cells #[.int .i64 y] T)).ownsRow base 3 1 v l.length (l.map (Value.int .i64)) := hown.alloc _
  refine wpList_append_own _ hgd s x 22 ho base 3 i0 (.int .i64 0) 1 8 Try.underlying22 hi hz0 hz1 hz2 rfl (by decide) v l.length _ hs hown2 ⟨w.heap.size, 0, none⟩ 1 1 [.int .i64 y] hx rfl (fun j u hj => ?_) (fun u hu => by simp at hu; subst hu; rfl) (by unfold maxLen; omega) (by omega) (by have := ha.size; omega) ?_
  · match j, hj with
    | 0, hj => simp at hj; subst hj; simp [Addr.add, World.cell?_alloc_at]
  · intro v' w' hown' hgrow _
    have ho2 : Below base (w.alloc (.cells #[.int .i64 y] T)) w' := (Below.refl base _).grown hgrow (by have := ha.size; omega) (fun k e => by
      rcases hown2.2 with ⟨rfl, _⟩ | ⟨g, cap, cur, rfl, hbg, _⟩
      · cases e
      · cases e; exact hbg)
    refine h v' w' ?_ (ha.trans ho2)
    unfold ownsI15
    rw [List.map_append, List.length_append]
    exact hown'
/-- a row's cell -/
theorem ownsI15.at_ {w : World} {B : Nat} {v : Value} {l : List Int} (h : ownsI15 w B v l) (hn : l ≠ []) : ∃ g c, v = .slice (some ⟨g, 0, none⟩) l.length c ∧ l.length ≤ c ∧ c ≤ 9223372036854775807 ∧ B ≤ g ∧ g < w.heap.size ∧ (∀ (i : Nat) (y : Int), l[i]? = some y → w.cell? ⟨g, i, none⟩ = some (.int .i64 y)) ∧ ∀ j, w.frozen? ⟨g, j, none⟩ = false := by
  obtain ⟨g, c, e, h1, h2, h3, h4, h5, h6⟩ := own_at h (by intro e; exact hn (List.length_eq_zero_iff.1 e))
  exact ⟨g, c, e, h1, h2, h3, h4, fun i y hy => h5 i _ (by rw [List.getElem?_map, hy]; rfl), h6⟩
theorem ownsI15.set {w : World} {B g n c : Nat} {l : List Int} (h : ownsI15 w B (.slice (some ⟨g, 0, none⟩) n c) l) (j : Nat) (y : Int) : ownsI15 (w.setCell ⟨g, j, none⟩ (.int .i64 y)) B (.slice (some ⟨g, 0, none⟩) n c) (l.set j y) ∧ Below B w (w.setCell ⟨g, j, none⟩ (.int .i64 y)) := by
  have h' := h
  obtain ⟨A, c', e, -⟩ := own_form h'
  injection e with e1 e2 e3
  subst e2
  obtain ⟨s1, s2⟩ := own_set (T := 3) (k := 1) (cs := l.map (Value.int .i64)) h j (.int .i64 y)
  refine ⟨?_, s2⟩
  unfold ownsI15
  rw [List.length_set, List.map_set]
  exact s1
end Go.Proofs.Ytpjhhndjbpegcaa
