/-
  Rows of windowpanelaw17.How in memory: as they lie somewhere; of the call's own.
-/
import Derived.Test.YtpjhhndjbpegcaaRowsG
namespace Go.Proofs.Ytpjhhndjbpegcaa
open Go.RowKit

structure Hw where
  gap : Int
  room : Int
  justify : Int
  back : Bool
  deriving DecidableEq
def hwZ : Hw := ⟨0, 0, 0, false⟩
def hwA (l : List Hw) (i : Nat) : Hw := l[i]?.getD hwZ
theorem hwA_get {l : List Hw} {i : Nat} (h : i < l.length) : hwA l i = l[i] := by
  unfold hwA
  rw [List.getElem?_eq_getElem h]
  rfl
theorem Try.infoH : (Try.prog.info? 24).map (fun i => (i.zero, i.size, i.bytes)) = some (some (.agg #[.int .i64 0, .int .i64 0, .int .u8 0, .bool false]), 4, 24) := by kernel_rfl
def hwCells (k : Hw) : List Value := [.int .i64 k.gap, .int .i64 k.room, .int .u8 k.justify, .bool k.back]
def hwV (k : Hw) : Value := .agg #[.int .i64 k.gap, .int .i64 k.room, .int .u8 k.justify, .bool k.back]
theorem hwCells_len (x : Hw) : (hwCells x).length = 4 := rfl
def cellsH (l : List Hw) : List Value := l.flatMap hwCells
theorem cellsH_len (l : List Hw) : (cellsH l).length = l.length * 4 := rowg_len _ 4 hwCells_len l
theorem cellsH_append (a b : List Hw) : cellsH (a ++ b) = cellsH a ++ cellsH b := by simp [cellsH]
theorem cellsH_one (l : List Hw) : ∀ u ∈ cellsH l, u.oneCell' = true := by
  intro u hu
  obtain ⟨x, -, hx⟩ := List.mem_flatMap.1 hu
  simp [hwCells] at hx
  rcases hx with rfl | rfl | rfl | rfl <;> rfl
/-- its cells -/
def HwAt (w : World) (b off : Nat) (k : Hw) : Prop := w.cell? ⟨b, off, none⟩ = some (.int .i64 k.gap) ∧ w.cell? ⟨b, off + 1, none⟩ = some (.int .i64 k.room) ∧ w.cell? ⟨b, off + 2, none⟩ = some (.int .u8 k.justify) ∧ w.cell? ⟨b, off + 3, none⟩ = some (.bool k.back)
theorem HwAt.keep {w w' : World} {b off : Nat} {k : Hw} (h : HwAt w b off k) (hl : b < w.heap.size) (hb : Below w.heap.size w w') : HwAt w' b off k :=
  ⟨(hb.cell (p := ⟨b, off, none⟩) hl).trans h.1, (hb.cell (p := ⟨b, off + 1, none⟩) hl).trans h.2.1, (hb.cell (p := ⟨b, off + 2, none⟩) hl).trans h.2.2.1, (hb.cell (p := ⟨b, off + 3, none⟩) hl).trans h.2.2.2⟩
theorem HwAt.of {w : World} {b off : Nat} {k : Hw} (h : ∀ i u, i < 4 → (hwCells k)[i]? = some u → w.cell? ⟨b, off + i, none⟩ = some u) : HwAt w b off k :=
  ⟨h 0 _ (by omega) rfl, h 1 _ (by omega) rfl, h 2 _ (by omega) rfl, h 3 _ (by omega) rfl⟩
theorem HwAt.to {w : World} {b off : Nat} {k : Hw} (h : HwAt w b off k) {i : Nat} (hi : i < 4) : w.cell? ⟨b, off + i, none⟩ = (hwCells k)[i]? := by
  obtain ⟨h0, h1, h2, h3⟩ := h
  match i, hi with
  | 0, _ => exact h0
  | 1, _ => exact h1
  | 2, _ => exact h2
  | 3, _ => exact h3
/-- as they lie somewhere -/
def HwIn (w : World) (v : Value) (l : List Hw) : Prop := ∃ A c, v = .slice A l.length c ∧ (l.length ≤ c ∧ c ≤ 9223372036854775807) ∧ (A = none → l = [] ∧ c = 0) ∧ (l ≠ [] → ∃ b off, A = some ⟨b, off, none⟩ ∧ b < w.heap.size ∧ ∀ j, j < l.length → HwAt w b (off + j * 4) (hwA l j))
theorem HwIn.keep {w w' : World} {v : Value} {l : List Hw} (h : HwIn w v l) (hb : Below w.heap.size w w') : HwIn w' v l := by
  obtain ⟨A, c, rfl, hc, hn, hq⟩ := h
  refine ⟨A, c, rfl, hc, hn, fun e => ?_⟩
  obtain ⟨b, off, h1, h2, h3⟩ := hq e
  exact ⟨b, off, h1, Nat.lt_of_lt_of_le h2 hb.size, fun j hj => (h3 j hj).keep h2 hb⟩
theorem HwIn.nil (w : World) : HwIn w (.slice none 0 0) [] := ⟨none, 0, rfl, ⟨by simp, by omega⟩, fun _ => ⟨rfl, rfl⟩, fun h => absurd rfl h⟩
theorem HwIn.get {w : World} {v : Value} {l : List Hw} (h : HwIn w v l) {i : Nat} (hi : i < l.length) : ∃ b off c, v = .slice (some ⟨b, off, none⟩) l.length c ∧ b < w.heap.size ∧ l.length ≤ c ∧ ∀ j, j < l.length → HwAt w b (off + j * 4) (hwA l j) := by
  obtain ⟨A, c, rfl, hc, -, hq⟩ := h
  obtain ⟨b, off, rfl, h2, h3⟩ := hq (by intro e; rw [e] at hi; simp at hi)
  exact ⟨b, off, c, rfl, h2, hc.1, h3⟩
theorem HwIn.form {w : World} {v : Value} {l : List Hw} (h : HwIn w v l) : ∃ A c, v = .slice A l.length c ∧ l.length ≤ c ∧ c ≤ 9223372036854775807 ∧ (A = none → l = [] ∧ c = 0) := by
  obtain ⟨A, c, e, h1, h2, -⟩ := h
  exact ⟨A, c, e, h1.1, h1.2, h2⟩
/-- one of them, the slice's form being known -/
theorem HwIn.at_ {w : World} {A : Option Addr} {m c : Nat} {l : List Hw} (h : HwIn w (.slice A m c) l) {i : Nat} (hi : i < l.length) : ∃ b off, A = some ⟨b, off, none⟩ ∧ b < w.heap.size ∧ HwAt w b (off + i * 4) (hwA l i) := by
  obtain ⟨A', c', e, -, -, hq⟩ := h
  injection e with e1 e2 e3
  subst e1
  obtain ⟨b, off, h1, h2, h3⟩ := hq (by intro e; rw [e] at hi; simp at hi)
  exact ⟨b, off, h1, h2, h3 i hi⟩
/-- the first so many; the others -/
theorem HwIn.take {w : World} {A : Option Addr} {m c : Nat} {l : List Hw} (h : HwIn w (.slice A m c) l) {k : Nat} (hk : k ≤ l.length) : HwIn w (.slice A k c) (l.take k) := by
  obtain ⟨A', c', e, hc, hn, hq⟩ := h
  injection e with e1 e2 e3
  subst e1 e3
  have hl : (l.take k).length = k := by rw [List.length_take]; omega
  refine ⟨A, c, by rw [hl], ⟨by omega, hc.2⟩, fun e => by obtain ⟨e1, e2⟩ := hn e; exact ⟨by rw [e1]; simp, e2⟩, fun hne => ?_⟩
  obtain ⟨b, off, h1, h2, h3⟩ := hq (by intro e; rw [e] at hne; exact hne (by simp))
  refine ⟨b, off, h1, h2, fun j hj => ?_⟩
  rw [hl] at hj
  have := h3 j (by omega)
  unfold hwA at this ⊢
  rw [List.getElem?_take_of_lt hj]
  exact this
theorem HwIn.drop {w : World} {b off : Nat} {m c : Nat} {l : List Hw} (h : HwIn w (.slice (some ⟨b, off, none⟩) m c) l) {k : Nat} (hk : k ≤ l.length) : HwIn w (.slice (some ⟨b, off + k * 4, none⟩) (m - k) (c - k)) (l.drop k) := by
  obtain ⟨A', c', e, hc, hn, hq⟩ := h
  injection e with e1 e2 e3
  subst e1 e2 e3
  refine ⟨_, _, by rw [List.length_drop], ⟨by rw [List.length_drop]; omega, by omega⟩, fun e => (by cases e), fun hne => ?_⟩
  obtain ⟨b', off', h1, h2, h3⟩ := hq (by intro e; rw [e] at hne; exact hne (by simp))
  injection h1 with h1
  injection h1 with h1 h4
  subst h1 h4
  refine ⟨b, off + k * 4, rfl, h2, fun j hj => ?_⟩
  rw [List.length_drop] at hj
  have := h3 (k + j) (by omega)
  unfold hwA at this ⊢
  rw [List.getElem?_drop]
  rwa [show off + (k + j) * 4 = off + k * 4 + j * 4 by omega] at this
/-- the cells of a row, wherever it lies -/
theorem HwIn.cells {w : World} {v : Value} {l : List Hw} (h : HwIn w v l) {A : Option Addr} {m c : Nat} (e : v = .slice A m c) : ∀ p, A = some p → ∀ j u, (cellsH l)[j]? = some u → w.cell? (p.add j) = some u := by
  rintro p rfl j u hu
  have hj := (List.getElem?_eq_some_iff.1 hu).1
  rw [cellsH_len] at hj
  have hi : j / 4 < l.length := by omega
  obtain ⟨b, off, c', e', -, -, hk⟩ := h.get hi
  rw [e] at e'
  injection e' with e1 e2 e3
  injection e1 with e1
  subst e1
  rw [Go.WideShapes.add_plain]
  have g0 := flat_get hwCells 4 hwCells_len (l := l) hi (i := j % 4) (by omega)
  rw [show j / 4 * 4 + j % 4 = j by omega] at g0
  have h1 := (hk _ hi).to (i := j % 4) (by omega)
  rw [hwA_get hi] at h1
  rw [show off + j = off + j / 4 * 4 + j % 4 by omega, h1, ← g0]
  exact hu
/-- a row of the call's own -/
def ownsH (w : World) (base : Nat) (v : Value) (l : List Hw) : Prop := w.ownsRow base 24 4 v l.length (cellsH l)
theorem ownsH.nil (w : World) (base : Nat) : ownsH w base (.slice none 0 0) [] := ⟨rfl, .inl ⟨rfl, rfl⟩⟩
theorem ownsH.keep {w w' : World} {base : Nat} {v : Value} {l : List Hw} (h : ownsH w base v l) (hb : Below w.heap.size w w') : ownsH w' base v l := own_keep h hb
theorem ownsH.row {w : World} {base : Nat} {v : Value} {l : List Hw} (h : ownsH w base v l) : HwIn w v l := by
  by_cases e : l = []
  · rcases h.2 with ⟨rfl, -⟩ | ⟨g, cap, cur, rfl, -, -, h1, h2, -⟩
    · subst e; exact HwIn.nil w
    · exact ⟨_, cap, rfl, ⟨h1, by unfold maxLen at h2; omega⟩, fun h => by (cases h), fun h => absurd e h⟩
  · obtain ⟨g, c, rfl, h2, h3, h4, h5, h6, h7⟩ := own_at h (by intro e'; exact e (List.length_eq_zero_iff.1 e'))
    refine ⟨_, c, rfl, ⟨h2, h3⟩, (fun h => by cases h), fun _ => ⟨g, 0, rfl, h5, fun j hj => HwAt.of fun i u hi hu => ?_⟩⟩
    rw [hwA_get hj] at hu
    have g0 := flat_get hwCells 4 hwCells_len hj (i := i) hi
    rw [Nat.zero_add]
    exact h6 _ _ (g0.trans hu)
/-- a new row -/
theorem hws_new {w : World} (l : List Hw) (hn : l.length ≤ 100000) (T : TypeId) : HwIn (w.alloc (.cells (cellsH l).toArray T)) (.slice (some ⟨w.heap.size, 0, none⟩) l.length l.length) l := by
  refine ⟨_, _, rfl, ⟨Nat.le_refl _, by omega⟩, (fun h => by cases h), fun _ => ⟨w.heap.size, 0, rfl, by rw [World.size_alloc]; omega, fun j hj => HwAt.of fun i u hi hu => ?_⟩⟩
  rw [hwA_get hj] at hu
  have g0 := flat_get hwCells 4 hwCells_len hj (i := i) hi
  rw [Nat.zero_add, World.cell?_alloc_new, List.getElem?_toArray]
  exact g0.trans hu
end Go.Proofs.Ytpjhhndjbpegcaa
