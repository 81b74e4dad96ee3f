/-
  Rows of pieces in memory of the call's own: read, put onto, written into.
-/
import Derived.Test.YtgfiiohglgbdiaaBreaksMath
import Derived.WalkKit
import Derived.ProofKit
import Derived.Lib.Hide
import Derived.Below
import Derived.Laws.MakeOwn
import Derived.Laws.AppendOwn
import Derived.Laws.OwnMore
import Derived.Deep.LoopGhost
namespace Go.Proofs.Ytgfiiohglgbdiaa
open Go.RowKit

theorem info_parts9 {zs : Option TypeInfo} {z : Option Value} {s b : Nat} (h : zs.map (fun i => (i.zero, i.size, i.bytes)) = some (z, s, b)) : ∃ i, zs = some i ∧ i.zero = z ∧ i.size = s ∧ i.bytes = b := by
  cases zs with
  | none => simp at h
  | some i => simp at h; exact ⟨i, rfl, h.1, h.2.1, h.2.2⟩
theorem Try.infoPc : (Try.prog.info? 26).map (fun i => (i.zero, i.size, i.bytes)) = some (some (.agg #[.int .u8 0, .string ⟨#[]⟩]), 2, 24) := by kernel_rfl
def pcCells (p : Pc) : List Value := [.int .u8 (p.1 : Nat), .string ⟨p.2.toArray⟩]
def cellsP (ps : List Pc) : List Value := ps.flatMap pcCells
theorem cellsP_cons (p : Pc) (ps : List Pc) : cellsP (p :: ps) = pcCells p ++ cellsP ps := rfl
theorem cellsP_append (a b : List Pc) : cellsP (a ++ b) = cellsP a ++ cellsP b := by simp [cellsP]
theorem cellsP_len (ps : List Pc) : (cellsP ps).length = ps.length * 2 := by
  induction ps with
  | nil => rfl
  | cons p ps ih => rw [cellsP_cons, List.length_append, ih, List.length_cons]; show 2 + _ = _; omega
theorem cellsP_get {ps : List Pc} {j : Nat} {p : Pc} (h : ps[j]? = some p) : (cellsP ps)[j * 2]? = some (.int .u8 (p.1 : Nat)) ∧ (cellsP ps)[j * 2 + 1]? = some (.string ⟨p.2.toArray⟩) := by
  induction ps generalizing j with
  | nil => simp at h
  | cons q ps ih =>
    cases j with
    | zero =>
      obtain rfl : q = p := by simpa using h
      exact ⟨rfl, rfl⟩
    | succ j =>
      obtain ⟨h1, h2⟩ := ih (j := j) (by simpa using h)
      rw [cellsP_cons]
      have e : (pcCells q).length = 2 := rfl
      refine ⟨?_, ?_⟩
      · rw [List.getElem?_append_right (by rw [e]; omega), e, show (j + 1) * 2 - 2 = j * 2 by omega]; exact h1
      · rw [List.getElem?_append_right (by rw [e]; omega), e, show (j + 1) * 2 + 1 - 2 = j * 2 + 1 by omega]; exact h2
theorem cellsP_one (ps : List Pc) : ∀ u ∈ cellsP ps, u.oneCell' = true := by
  induction ps with
  | nil => intro u hu; cases hu
  | cons p ps ih =>
    intro u hu
    rw [cellsP_cons] at hu
    rcases List.mem_append.1 hu with h | h
    · simp [pcCells] at h
      rcases h with rfl | rfl <;> rfl
    · exact ih u h

/-- a row of pieces of the call's own -/
def ownsP (w : World) (base : Nat) (v : Value) (ps : List Pc) : Prop := w.ownsRow base 26 2 v ps.length (cellsP ps)
theorem ownsP.nil (w : World) (base : Nat) : ownsP w base (.slice none 0 0) [] := ⟨rfl, .inl ⟨rfl, rfl⟩⟩
theorem ownsP.keep {w w' : World} {base : Nat} {v : Value} {ps : List Pc} (h : ownsP w base v ps) (hb : Below w.heap.size w w') : ownsP w' base v ps := by
  refine ⟨h.1, ?_⟩
  rcases h.2 with hn | ⟨g, cap, cur, hv, hbg, hg, rest⟩
  · exact .inl hn
  · have hlt : g < w.heap.size := by
      by_cases e : g < w.heap.size
      · exact e
      · rw [Array.getElem?_eq_none (by omega)] at hg; cases hg
    exact .inr ⟨g, cap, cur, hv, hbg, (hb.block g hlt).trans hg, rest⟩
theorem ownsP.form {w : World} {base : Nat} {v : Value} {ps : List Pc} (h : ownsP w base v ps) : ∃ A c, v = .slice A ps.length c ∧ ps.length ≤ c ∧ c ≤ 9223372036854775807 ∧ (A = none → ps = [] ∧ c = 0) := by
  rcases h.2 with ⟨rfl, h0⟩ | ⟨g, cap, cur, rfl, _, _, h1, h2, _⟩
  · exact ⟨none, 0, by rw [h0], by omega, by omega, fun _ => ⟨List.length_eq_zero_iff.1 h0, rfl⟩⟩
  · unfold maxLen at h2
    exact ⟨some ⟨g, 0, none⟩, cap, rfl, h1, by omega, fun e => by cases e⟩
/-- where the pieces lie -/
structure PcAt (w : World) (base : Nat) (v : Value) (ps : List Pc) (g c : Nat) : Prop where
  val : v = .slice (some ⟨g, 0, none⟩) ps.length c
  most : ps.length ≤ c
  own : base ≤ g
  lt : g < w.heap.size
  at0 : ∀ j p, ps[j]? = some p → w.cell? ⟨g, j * 2, none⟩ = some (.int .u8 (p.1 : Nat))
  at1 : ∀ j p, ps[j]? = some p → w.cell? ⟨g, j * 2 + 1, none⟩ = some (.string ⟨p.2.toArray⟩)
  fro : ∀ j, w.frozen? ⟨g, j, none⟩ = false
theorem ownsP.at_ {w : World} {base : Nat} {v : Value} {ps : List Pc} (h : ownsP w base v ps) (hn : ps ≠ []) : ∃ g c, PcAt w base v ps g c := by
  rcases h.2 with ⟨_, h0⟩ | ⟨g, cap, cur, rfl, hbg, hg, h1, h2, h3, ht⟩
  · exact absurd (List.length_eq_zero_iff.1 h0) hn
  · have hlt : g < w.heap.size := by
      by_cases e : g < w.heap.size
      · exact e
      · rw [Array.getElem?_eq_none (by omega)] at hg; cases hg
    have key : ∀ k v, (cellsP ps)[k]? = some v → w.cell? ⟨g, k, none⟩ = some v := fun k v hv => by
      have hk := (List.getElem?_eq_some_iff.1 hv).1
      rw [cellsP_len] at hk
      rw [← ht, List.getElem?_take_of_lt hk] at hv
      simp only [World.cell?, hg]
      simpa using hv
    exact ⟨g, cap, rfl, h1, hbg, hlt, fun j p hp => key _ _ (cellsP_get hp).1, fun j p hp => key _ _ (cellsP_get hp).2, fun j => by simp [World.frozen?, hg]⟩
/-- a piece's text written over -/
theorem ownsP.set {w : World} {base g c : Nat} {ps : List Pc} (h : ownsP w base (.slice (some ⟨g, 0, none⟩) ps.length c) ps) (init : List Pc) (k : Nat) (t u : List UInt8) (tl : List Pc) (hp : ps = init ++ (k, t) :: tl) :
    ownsP (w.setCell ⟨g, init.length * 2 + 1, none⟩ (.string ⟨u.toArray⟩)) base (.slice (some ⟨g, 0, none⟩) ps.length c) (init ++ (k, u) :: tl) ∧ Below base w (w.setCell ⟨g, init.length * 2 + 1, none⟩ (.string ⟨u.toArray⟩)) := by
  subst hp
  have hl : (init ++ (k, u) :: tl).length = (init ++ (k, t) :: tl).length := by simp
  rcases h.2 with ⟨e, _⟩ | ⟨g', cap, cur, e, hbg, hg, h1, h2, h3, ht⟩
  · cases e
  · injection e with e1 e2 e3
    injection e1 with e1
    injection e1 with e1
    subst e1 e3
    have hc : cur.toList.take ((init ++ (k, t) :: tl).length * 2) = cellsP init ++ (.int .u8 (k : Nat) :: .string ⟨t.toArray⟩ :: cellsP tl) := by rw [ht, cellsP_append, cellsP_cons]; rfl
    have hi : init.length * 2 + 1 < cur.size := by rw [h3]; simp at h1; omega
    refine ⟨⟨by rw [cellsP_len], .inr ⟨g, c, cur.setIfInBounds (init.length * 2 + 1) (.string ⟨u.toArray⟩), by rw [hl], hbg, ?_, by rw [hl]; exact h1, h2, by simpa using h3, ?_⟩⟩, ?_⟩
    · simp [World.setCell, Array.getElem?_modify, hg]
    · rw [hl, Array.toList_setIfInBounds, List.take_set, hc, cellsP_append, cellsP_cons]
      rw [List.set_append_right _ _ (by rw [cellsP_len]; omega), cellsP_len, show init.length * 2 + 1 - init.length * 2 = 1 by omega]
      rfl
    · refine ⟨rfl, rfl, rfl, by simp [World.setCell], fun j hj => ?_⟩
      simp [World.setCell, Array.getElem?_modify, show g ≠ j by omega]
theorem pc_cells {w : World} {T : TypeId} (p : Pc) : ∀ j u, (cellsP [p])[j]? = some u → (w.alloc (.cells (pcCells p).toArray T)).cell? ((⟨w.heap.size, 0, none⟩ : Addr).add j) = some u := by
  intro j u hu
  rw [Go.WideShapes.add_plain, Nat.zero_add, World.cell?_alloc_new]
  simpa [cellsP] using hu
theorem wpList_append_pc {w : World} {ops : Array Oper} {rest : List Oper} {o : Oper} {a : Act} {Q : Exit → Act → World → Prop} (hgd : o.guard = none) (s x : Operand)
    (ho : o.op = .call { callee := .builtin .append, args := #[s, x], argTypes := #[22, 22] })
    (base : Nat) (v : Value) (ps : List Pc) (hs : a.eval s = v) (hown : ownsP w base v ps) (p : Pc) (T : TypeId) (hx : a.eval x = .slice (some ⟨w.heap.size, 0, none⟩) 1 1)
    (hb : ps.length ≤ 100000) (hbase : base ≤ w.heap.size)
    (h : ∀ v' w', ownsP w' base v' (ps ++ [p]) → Below base w w' → wpList Try.prog ops Q rest (a.put o.dst v') w') :
    wpList Try.prog ops Q (o :: rest) a (w.alloc (.cells (pcCells p).toArray T)) := by
  obtain ⟨i0, hi, hz0, hz1, hz2⟩ := info_parts9 Try.infoPc
  have ha : Below base w (w.alloc (.cells (pcCells p).toArray T)) := (Below.refl _ _).alloc hbase _
  have hown2 : ownsP (w.alloc (.cells (pcCells p).toArray T)) base v ps := hown.keep ((Below.refl _ _).alloc (Nat.le_refl _) _)
  refine wpList_append_own _ hgd s x 22 ho base 26 i0 _ 2 24 Try.underlying22 hi hz0 hz1 hz2 rfl (by decide) v ps.length _ hs hown2 _ 1 1 (cellsP [p]) hx (cellsP_len [p]) (pc_cells p) (cellsP_one [p]) (by unfold maxLen; omega) (by omega) (by have := ha.size; omega) ?_
  intro v' w' hown' hgrow _
  refine h v' w' ?_ (ha.trans ((Below.refl base _).grown hgrow (by have := ha.size; omega) (fun k e => ?_)))
  · unfold ownsP
    rw [cellsP_append, List.length_append]
    exact hown'
  · rcases hown.2 with ⟨rfl, _⟩ | ⟨g, cap, cur, rfl, hbg, _⟩
    · cases e
    · cases e; exact hbg
end Go.Proofs.Ytgfiiohglgbdiaa
