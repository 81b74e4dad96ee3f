/-
  Which styles may be: the landed code's questions and the document's are the same.
-/
import Derived.Test.YtdadlhkbngopaaaStyleEdges
namespace Go.Proofs.Ytdadlhkbngopaaa
open Go.RowKit

theorem some_id {x : Int} (h : 0 ≤ x) (n : Nat) : someB x idI n = true ↔ x < n := by
  unfold someB idI
  rw [decide_eq_true_iff]
  constructor
  · rintro ⟨i, hi, rfl⟩; omega
  · intro hx; exact ⟨x.toNat, by omega, by omega⟩
theorem some_align {x : Int} (h : 0 ≤ x) : someB x alignI 4 = true ↔ x < 3 ∨ x = 5 := by
  unfold someB alignI
  rw [decide_eq_true_iff]
  constructor
  · rintro ⟨i, hi, rfl⟩
    split <;> omega
  · rintro (hx | rfl)
    · exact ⟨x.toNat, by omega, by rw [if_pos (by omega)]; omega⟩
    · exact ⟨3, by omega, rfl⟩
/-- the document's questions -/
structure MayS (s : RS) : Prop where
  d1 : ¬ (2 < s.display ∨ 2 < s.ws ∨ 2 < s.valign ∨ 3 < s.dir)
  d3 : ¬ (s.lines ≠ 0 ∧ s.lines ≠ 1 ∧ s.lines ≠ 2)
  d5 : ¬ (s.align ≠ 0 ∧ s.align ≠ 1 ∧ s.align ≠ 2 ∧ s.align ≠ 5)
  d7 : ¬ (s.justify ≠ 0 ∧ s.justify ≠ 1 ∧ s.justify ≠ 2 ∧ s.justify ≠ 3 ∧ s.justify ≠ 4)
  d9 : LenMay s.width 0 ∧ LenMay s.minW 0 ∧ LenMay s.maxW 0 ∧ LenMay s.basis 0 ∧ LenMay s.height 0 ∧ LenMay s.minH 0 ∧ LenMay s.maxH 0
  d11 : ¬ (s.height.kind = 2 ∨ s.minH.kind = 2 ∨ s.maxH.kind = 2)
  dm : ∀ i, i < 4 → LenMay (s.margin i) (-274877906944)
  dp : ∀ i, i < 4 → Side (s.pad i)
  db : ∀ i, i < 4 → Side (s.bord i)
  g1 : Side s.gap ∧ Side s.lineGap
  g2 : (-274877906944 ≤ s.offX ∧ s.offX ≤ 274877906944) ∧ (-274877906944 ≤ s.offY ∧ s.offY ≤ 274877906944)
  g3 : 0 ≤ s.font ∧ s.font ≤ 1000
  g4 : (0 ≤ s.grow ∧ s.grow ≤ 1000) ∧ (0 ≤ s.shrink ∧ s.shrink ≤ 1000)
  g5 : -1000 ≤ s.order ∧ s.order ≤ 1000

theorem within_two {lo hi a b : Int} : withinB lo hi (pick2 a b) 2 = true ↔ (lo ≤ a ∧ a ≤ hi) ∧ (lo ≤ b ∧ b ≤ hi) := by
  unfold withinB
  rw [decide_eq_true_iff]
  constructor
  · intro h; exact ⟨h 0 (by omega), h 1 (by omega)⟩
  · intro h i hi'
    obtain rfl | rfl : i = 0 ∨ i = 1 := by omega
    · exact h.1
    · exact h.2
theorem within_one {lo hi a : Int} : withinB lo hi (fun _ => a) 1 = true ↔ lo ≤ a ∧ a ≤ hi := by
  unfold withinB
  rw [decide_eq_true_iff]
  exact ⟨fun h => h 0 (by omega), fun h _ _ => h⟩
theorem lens_four {a b c d : RL} {lo : Int} : lensB (pick4 a b c d) 4 lo = true ↔ LenMay a lo ∧ LenMay b lo ∧ LenMay c lo ∧ LenMay d lo := by
  unfold lensB
  rw [decide_eq_true_iff]
  constructor
  · intro h; exact ⟨h 0 (by omega), h 1 (by omega), h 2 (by omega), h 3 (by omega)⟩
  · intro h i hi
    obtain rfl | rfl | rfl | rfl : i = 0 ∨ i = 1 ∨ i = 2 ∨ i = 3 := by omega
    · exact h.1
    · exact h.2.1
    · exact h.2.2.1
    · exact h.2.2.2
theorem lens_three {a b c : RL} {lo : Int} : lensB (pick3 a b c) 3 lo = true ↔ LenMay a lo ∧ LenMay b lo ∧ LenMay c lo := by
  unfold lensB
  rw [decide_eq_true_iff]
  constructor
  · intro h; exact ⟨h 0 (by omega), h 1 (by omega), h 2 (by omega)⟩
  · intro h i hi
    obtain rfl | rfl | rfl : i = 0 ∨ i = 1 ∨ i = 2 := by omega
    · exact h.1
    · exact h.2.1
    · exact h.2.2
theorem parts_three {a b c : RL} : partsB (pick3 a b c) 3 = true ↔ a.kind = 2 ∨ b.kind = 2 ∨ c.kind = 2 := by
  unfold partsB
  rw [decide_eq_true_iff]
  constructor
  · rintro ⟨i, hi, e⟩
    obtain rfl | rfl | rfl : i = 0 ∨ i = 1 ∨ i = 2 := by omega
    · exact .inl e
    · exact .inr (.inl e)
    · exact .inr (.inr e)
  · rintro (e | e | e)
    · exact ⟨0, by omega, e⟩
    · exact ⟨1, by omega, e⟩
    · exact ⟨2, by omega, e⟩
theorem may_iff (s : RS) (hs : s.ok) : mayB s = true ↔ MayS s := by
  constructor
  · intro h
    have p0 := (some_id hs.display.1 3).1 (may_part h (i := 0) (by omega))
    have p1 := (some_id hs.ws.1 3).1 (may_part h (i := 1) (by omega))
    have p2 := (some_id hs.valign.1 3).1 (may_part h (i := 2) (by omega))
    have p3 := (some_id hs.dir.1 4).1 (may_part h (i := 3) (by omega))
    have p4 := (some_id hs.lines.1 3).1 (may_part h (i := 4) (by omega))
    have p5 := (some_align hs.align.1).1 (may_part h (i := 5) (by omega))
    have p6 := (some_id hs.justify.1 5).1 (may_part h (i := 6) (by omega))
    obtain ⟨l1, l2, l3, l4⟩ := lens_four.1 (may_part h (i := 7) (by omega))
    have p8 : (lensB (pick3 s.height s.minH s.maxH) 3 0 && !partsB (pick3 s.height s.minH s.maxH) 3) = true := may_part h (i := 8) (by omega)
    rw [Bool.and_eq_true] at p8
    obtain ⟨l5, l6, l7⟩ := lens_three.1 p8.1
    have n8 : ¬ (partsB (pick3 s.height s.minH s.maxH) 3 = true) := by simpa using p8.2
    rw [parts_three] at n8
    have p9 := may_part h (i := 9) (by omega)
    have b1 := hs.display.1
    have b2 := hs.lines.1
    have b3 := hs.align.1
    have b4 := hs.justify.1
    exact ⟨by omega, by omega, by omega, by omega, ⟨l1, l2, l3, l4, l5, l6, l7⟩, n8, of_decide_eq_true p9, fun i hi => may_pad h hi, fun i hi => may_bord h hi,
      within_two.1 (may_part h (i := 12) (by omega)), within_two.1 (may_part h (i := 13) (by omega)), within_one.1 (may_part h (i := 14) (by omega)), within_two.1 (may_part h (i := 15) (by omega)), within_one.1 (may_part h (i := 16) (by omega))⟩
  · intro h
    have d1 := h.d1
    have d3 := h.d3
    have d5 := h.d5
    have d7 := h.d7
    have b2 := hs.lines.1
    have b3 := hs.align.1
    have b4 := hs.justify.1
    unfold mayB allB
    rw [decide_eq_true_iff]
    intro i hi
    refine less17 (P := fun i => part s i = true) hi ?_ ?_ ?_ ?_ ?_ ?_ ?_ ?_ ?_ ?_ ?_ ?_ ?_ ?_ ?_ ?_ ?_
    · exact (some_id hs.display.1 3).2 (by omega)
    · exact (some_id hs.ws.1 3).2 (by omega)
    · exact (some_id hs.valign.1 3).2 (by omega)
    · exact (some_id hs.dir.1 4).2 (by omega)
    · exact (some_id hs.lines.1 3).2 (by omega)
    · exact (some_align hs.align.1).2 (by omega)
    · exact (some_id hs.justify.1 5).2 (by omega)
    · exact lens_four.2 ⟨h.d9.1, h.d9.2.1, h.d9.2.2.1, h.d9.2.2.2.1⟩
    · show (lensB (pick3 s.height s.minH s.maxH) 3 0 && !partsB (pick3 s.height s.minH s.maxH) 3) = true
      rw [Bool.and_eq_true]
      refine ⟨lens_three.2 h.d9.2.2.2.2, ?_⟩
      have : ¬ (partsB (pick3 s.height s.minH s.maxH) 3 = true) := fun e => h.d11 (parts_three.1 e)
      simpa using this
    · exact decide_eq_true h.dm
    · exact decide_eq_true h.dp
    · exact decide_eq_true h.db
    · exact within_two.2 h.g1
    · exact within_two.2 h.g2
    · exact within_one.2 h.g3
    · exact within_two.2 h.g4
    · exact within_one.2 h.g5
end Go.Proofs.Ytdadlhkbngopaaa
