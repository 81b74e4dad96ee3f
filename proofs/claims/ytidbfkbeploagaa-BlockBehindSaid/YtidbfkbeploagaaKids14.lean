/-
  Rows of kids in memory: as they lie somewhere; of the call's own.
-/
import Derived.Test.YtidbfkbeploagaaBlockMath
import Derived.Test.YtidbfkbeploagaaMargins
namespace Go.Proofs.Ytidbfkbeploagaa
open Go.RowKit

theorem Try.infoKd : (Try.prog.info? 35).map (fun i => (i.zero, i.size, i.bytes)) = some (some (.agg #[.int .i64 0, .int .i64 0, .int .i64 0, .int .i64 0, .int .i64 0, .bool false]), 6, 48) := by kernel_rfl
def kdCells (k : Kd) : List Value := [.int .i64 k.t.1, .int .i64 k.t.2, .int .i64 k.b.1, .int .i64 k.b.2, .int .i64 k.h, .bool k.thr]
def kdV (k : Kd) : Value := .agg #[.int .i64 k.t.1, .int .i64 k.t.2, .int .i64 k.b.1, .int .i64 k.b.2, .int .i64 k.h, .bool k.thr]
theorem kdCells_len (x : Kd) : (kdCells x).length = 6 := rfl
def cellsK (l : List Kd) : List Value := l.flatMap kdCells
theorem cellsK_len (l : List Kd) : (cellsK l).length = l.length * 6 := flat_len _ 6 kdCells_len l
theorem cellsK_append (a b : List Kd) : cellsK (a ++ b) = cellsK a ++ cellsK b := by simp [cellsK]
theorem cellsK_one (l : List Kd) : ∀ u ∈ cellsK l, u.oneCell' = true := by
  intro u hu
  obtain ⟨x, -, hx⟩ := List.mem_flatMap.1 hu
  simp [kdCells] at hx
  rcases hx with rfl | rfl | rfl | rfl | rfl | rfl <;> rfl
/-- a kid's six cells -/
def KdAt (w : World) (b off : Nat) (k : Kd) : Prop := w.cell? ⟨b, off, none⟩ = some (.int .i64 k.t.1) ∧ w.cell? ⟨b, off + 1, none⟩ = some (.int .i64 k.t.2) ∧ w.cell? ⟨b, off + 2, none⟩ = some (.int .i64 k.b.1) ∧ w.cell? ⟨b, off + 3, none⟩ = some (.int .i64 k.b.2) ∧ w.cell? ⟨b, off + 4, none⟩ = some (.int .i64 k.h) ∧ w.cell? ⟨b, off + 5, none⟩ = some (.bool k.thr)
theorem KdAt.keep {w w' : World} {b off : Nat} {k : Kd} (h : KdAt w b off k) (hl : b < w.heap.size) (hb : Below w.heap.size w w') : KdAt w' b off k :=
  ⟨(hb.cell (p := ⟨b, off, none⟩) hl).trans h.1, (hb.cell (p := ⟨b, off + 1, none⟩) hl).trans h.2.1, (hb.cell (p := ⟨b, off + 2, none⟩) hl).trans h.2.2.1, (hb.cell (p := ⟨b, off + 3, none⟩) hl).trans h.2.2.2.1, (hb.cell (p := ⟨b, off + 4, none⟩) hl).trans h.2.2.2.2.1, (hb.cell (p := ⟨b, off + 5, none⟩) hl).trans h.2.2.2.2.2⟩
theorem KdAt.of {w : World} {b off : Nat} {k : Kd} (h : ∀ i u, i < 6 → (kdCells k)[i]? = some u → w.cell? ⟨b, off + i, none⟩ = some u) : KdAt w b off k :=
  ⟨h 0 _ (by omega) rfl, h 1 _ (by omega) rfl, h 2 _ (by omega) rfl, h 3 _ (by omega) rfl, h 4 _ (by omega) rfl, h 5 _ (by omega) rfl⟩
theorem KdAt.to {w : World} {b off : Nat} {k : Kd} (h : KdAt w b off k) {i : Nat} (hi : i < 6) : w.cell? ⟨b, off + i, none⟩ = (kdCells k)[i]? := by
  obtain ⟨h0, h1, h2, h3, h4, h5⟩ := h
  match i, hi with
  | 0, _ => exact h0
  | 1, _ => exact h1
  | 2, _ => exact h2
  | 3, _ => exact h3
  | 4, _ => exact h4
  | 5, _ => exact h5
/-- kids as they lie somewhere -/
def KdIn (w : World) (v : Value) (l : List Kd) : Prop := ∃ A c, v = .slice A l.length c ∧ (l.length ≤ c ∧ c ≤ 9223372036854775807) ∧ (A = none → l = [] ∧ c = 0) ∧ (l ≠ [] → ∃ b off, A = some ⟨b, off, none⟩ ∧ b < w.heap.size ∧ ∀ j, j < l.length → KdAt w b (off + j * 6) (kAt l j))
theorem KdIn.keep {w w' : World} {v : Value} {l : List Kd} (h : KdIn w v l) (hb : Below w.heap.size w w') : KdIn w' v l := by
  obtain ⟨A, c, rfl, hc, hn, hq⟩ := h
  refine ⟨A, c, rfl, hc, hn, fun e => ?_⟩
  obtain ⟨b, off, h1, h2, h3⟩ := hq e
  exact ⟨b, off, h1, Nat.lt_of_lt_of_le h2 hb.size, fun j hj => (h3 j hj).keep h2 hb⟩
theorem KdIn.nil (w : World) : KdIn w (.slice none 0 0) [] := ⟨none, 0, rfl, ⟨by simp, by omega⟩, fun _ => ⟨rfl, rfl⟩, fun h => absurd rfl h⟩
theorem KdIn.get {w : World} {v : Value} {l : List Kd} (h : KdIn w v l) {i : Nat} (hi : i < l.length) : ∃ b off c, v = .slice (some ⟨b, off, none⟩) l.length c ∧ b < w.heap.size ∧ l.length ≤ c ∧ ∀ j, j < l.length → KdAt w b (off + j * 6) (kAt l j) := by
  obtain ⟨A, c, rfl, hc, -, hq⟩ := h
  obtain ⟨b, off, rfl, h2, h3⟩ := hq (by intro e; rw [e] at hi; simp at hi)
  exact ⟨b, off, c, rfl, h2, hc.1, h3⟩
/-- the cells of a row of kids, wherever it lies -/
theorem KdIn.cells {w : World} {v : Value} {l : List Kd} (h : KdIn w v l) {A : Option Addr} {n c : Nat} (e : v = .slice A n c) : ∀ p, A = some p → ∀ j u, (cellsK l)[j]? = some u → w.cell? (p.add j) = some u := by
  rintro p rfl j u hu
  have hj := (List.getElem?_eq_some_iff.1 hu).1
  rw [cellsK_len] at hj
  have hi : j / 6 < l.length := by omega
  obtain ⟨b, off, c', e', -, -, hk⟩ := h.get hi
  rw [e] at e'
  injection e' with e1 e2 e3
  injection e1 with e1
  subst e1
  rw [Go.WideShapes.add_plain]
  have g0 := flat_get kdCells 6 kdCells_len (l := l) hi (i := j % 6) (by omega)
  rw [show j / 6 * 6 + j % 6 = j by omega] at g0
  have h1 := (hk _ hi).to (i := j % 6) (by omega)
  rw [kAt_get hi] at h1
  rw [show off + j = off + j / 6 * 6 + j % 6 by omega, h1, ← g0]
  exact hu
/-- a row of kids of the call's own -/
def ownsK (w : World) (base : Nat) (v : Value) (l : List Kd) : Prop := w.ownsRow base 35 6 v l.length (cellsK l)
theorem ownsK.nil (w : World) (base : Nat) : ownsK w base (.slice none 0 0) [] := ⟨rfl, .inl ⟨rfl, rfl⟩⟩
theorem ownsK.keep {w w' : World} {base : Nat} {v : Value} {l : List Kd} (h : ownsK w base v l) (hb : Below w.heap.size w w') : ownsK w' base v l := own_keep h hb
theorem ownsK.kids {w : World} {base : Nat} {v : Value} {l : List Kd} (h : ownsK w base v l) : KdIn w v l := by
  by_cases e : l = []
  · rcases h.2 with ⟨rfl, -⟩ | ⟨g, cap, cur, rfl, -, -, h1, h2, -⟩
    · subst e; exact KdIn.nil w
    · exact ⟨_, cap, rfl, ⟨h1, by unfold maxLen at h2; omega⟩, fun h => by (cases h), fun h => absurd e h⟩
  · obtain ⟨g, c, rfl, h2, h3, h4, h5, h6, h7⟩ := own_at h (by intro e'; exact e (List.length_eq_zero_iff.1 e'))
    refine ⟨_, c, rfl, ⟨h2, h3⟩, (fun h => by cases h), fun _ => ⟨g, 0, rfl, h5, fun j hj => KdAt.of fun i u hi hu => ?_⟩⟩
    rw [kAt_get hj] at hu
    have g0 := flat_get kdCells 6 kdCells_len hj (i := i) hi
    rw [Nat.zero_add]
    exact h6 _ _ (g0.trans hu)
/-- kids in a new row -/
theorem kids_new {w : World} (l : List Kd) (hn : l.length ≤ 1000) (T : TypeId) : KdIn (w.alloc (.cells (cellsK l).toArray T)) (.slice (some ⟨w.heap.size, 0, none⟩) l.length l.length) l := by
  refine ⟨_, _, rfl, ⟨Nat.le_refl _, by omega⟩, (fun h => by cases h), fun _ => ⟨w.heap.size, 0, rfl, by rw [World.size_alloc]; omega, fun j hj => KdAt.of fun i u hi hu => ?_⟩⟩
  rw [kAt_get hj] at hu
  have g0 := flat_get kdCells 6 kdCells_len hj (i := i) hi
  rw [Nat.zero_add, World.cell?_alloc_new, List.getElem?_toArray]
  exact g0.trans hu
theorem KdIn.first {w : World} {A : Option Addr} {c : Nat} {x y : Kd} (h : KdIn w (.slice A 2 c) [x, y]) : KdIn w (.slice A 1 c) [x] := by
  obtain ⟨A', c', e, hc, hn, hq⟩ := h
  injection e with e1 e2 e3
  subst e1 e3
  obtain ⟨b, off, rfl, h2, h3⟩ := hq (by simp)
  refine ⟨_, _, rfl, ⟨by have := hc.1; simp at this ⊢; omega, hc.2⟩, (fun h => by cases h), fun _ => ⟨b, off, rfl, h2, fun j hj => ?_⟩⟩
  have h4 := h3 0 (by simp)
  obtain rfl : j = 0 := by simpa using hj
  exact h4
/-- kids put onto kids of the call's own -/
theorem wpList_append_kids {w : World} {ops : Array Oper} {rest : List Oper} {o : Oper} {a : Act} {Q : Exit → Act → World → Prop} (hgd : o.guard = none) (s x : Operand)
    (ho : o.op = .call { callee := .builtin .append, args := #[s, x], argTypes := #[22, 22] })
    (base : Nat) (v : Value) (l : List Kd) (hs : a.eval s = v) (hown : ownsK w base v l) (m : List Kd) (u : Value) (hx : a.eval x = u) (hm : KdIn w u m)
    (hb : l.length + m.length ≤ 100000) (hbase : base ≤ w.heap.size)
    (h : ∀ v' w', ownsK w' base v' (l ++ m) → Below base w w' → (∀ k, k < w.heap.size → some k ≠ v.ownBlock → w'.heap[k]? = w.heap[k]?) → wpList Try.prog ops Q rest (a.put o.dst v') w') :
    wpList Try.prog ops Q (o :: rest) a w := by
  obtain ⟨i0, hi, hz0, hz1, hz2⟩ := info_parts10 Try.infoKd
  have hm' := hm
  obtain ⟨A, c, rfl, -, hA, -⟩ := hm
  cases A with
  | none =>
    obtain ⟨rfl, rfl⟩ := hA rfl
    refine wpList_append_own_none hgd s x 22 ho base 35 i0 6 Try.underlying22 hi v l.length _ hs hown hx ?_
    exact h v w (by rw [List.append_nil]; exact hown) (Below.refl _ _) (fun _ _ _ => rfl)
  | some ad =>
    refine wpList_append_own _ hgd s x 22 ho base 35 i0 _ 6 48 Try.underlying22 hi hz0 hz1 hz2 rfl (by decide) v l.length _ hs hown ad m.length c (cellsK m) hx (cellsK_len m) (hm'.cells rfl ad rfl) (cellsK_one m) (by unfold maxLen; omega) (by omega) hbase ?_
    intro v' w' hown' hgrow _
    refine h v' w' ?_ ((Below.refl base _).grown hgrow hbase (fun k e => ?_)) (fun k hk e => hgrow.block k hk e)
    · unfold ownsK
      rw [cellsK_append, List.length_append]
      exact hown'
    · rcases hown.2 with ⟨rfl, _⟩ | ⟨g, cap, cur, rfl, hbg, _⟩
      · cases e
      · cases e; exact hbg
end Go.Proofs.Ytidbfkbeploagaa
