/-
  The chapter's examples of tree, which each of the stage's laws begins with, are met by any program that answers as is asked.
-/
import Derived.Test.YtmodegkpfdlccaaTreeOK
import Derived.Deep.RegionHeld3
namespace Go.Proofs.Ytmodegkpfdlccaa
open Go.RowKit
theorem keep_heap {w w' : World} {b : Nat} {o : Obj} (h : w.heap[b]? = some o) (hb : Below w.heap.size w w') : w'.heap[b]? = some o := by
  have hlt : b < w.heap.size := by
    rcases Nat.lt_or_ge b w.heap.size with h1 | h1
    · exact h1
    · rw [Array.getElem?_eq_none h1] at h; cases h
  rw [hb.block b hlt]; exact h

def deepN (j : Nat) : RN := if j = 0 then box 1 0 else if j = 1 then box 2 2 else if j = 2 then box 3 2 else box 4 1
theorem box_cells_len (k d : Int) : (box k d).cells.length = 51 := by kernel_rfl
theorem fourN_ok (j : Nat) : (fourN j).ok := by
  unfold fourN
  split
  · exact box_ok (by omega) (by omega)
  · split
    · exact box_ok (by omega) (by omega)
    · split <;> exact box_ok (by omega) (by omega)
theorem deepN_ok (j : Nat) : (deepN j).ok := by
  unfold deepN
  split
  · exact box_ok (by omega) (by omega)
  · split
    · exact box_ok (by omega) (by omega)
    · split <;> exact box_ok (by omega) (by omega)
theorem fourN_get {j k : Nat} (hj : j < 4) (hk : k < 51) : fourCells[j * 51 + k]? = (fourN j).cells[k]? := by
  have h0 : (fourN 0).cells.length = 51 := box_cells_len _ _
  have h1 : (fourN 1).cells.length = 51 := box_cells_len _ _
  have h2 : (fourN 2).cells.length = 51 := box_cells_len _ _
  have h3 : (fourN 3).cells.length = 51 := box_cells_len _ _
  unfold fourCells
  rcases (show j = 0 ∨ j = 1 ∨ j = 2 ∨ j = 3 by omega) with rfl | rfl | rfl | rfl
  · rw [List.getElem?_append_left (by simp only [List.length_append]; omega), List.getElem?_append_left (by simp only [List.length_append]; omega), List.getElem?_append_left (by omega)]
    simp
  · rw [List.getElem?_append_left (by simp only [List.length_append]; omega), List.getElem?_append_left (by simp only [List.length_append]; omega), List.getElem?_append_right (by omega), h0]
    simp
  · rw [List.getElem?_append_left (by simp only [List.length_append]; omega), List.getElem?_append_right (by simp only [List.length_append]; omega)]
    simp only [List.length_append, h0, h1]
    rw [show 2 * 51 + k - (51 + 51) = k by omega]
  · rw [List.getElem?_append_right (by simp only [List.length_append]; omega)]
    simp only [List.length_append, h0, h1, h2]
    rw [show 3 * 51 + k - (51 + 51 + 51) = k by omega]
theorem doc_of_cells {W : World} {b : Nat} {x : Int} (hx : -9223372036854775808 ≤ x ∧ x ≤ 9223372036854775807) (N : Nat → RN) (hN : ∀ j, (N j).ok) (hb : b < W.heap.size) (h : ∀ j, j < 4 → NodeAt W b (j * 51) (N j)) : DocIn W (some ⟨b, 0, none⟩) 4 4 x N :=
  ⟨⟨⟨fun j _ => hN j, fun _ => ⟨b, 0, rfl, hb, fun j hj => by rw [Nat.zero_add]; exact h j hj⟩⟩, (fun e => by cases e), ⟨by omega, by omega⟩, by omega⟩, hx⟩
theorem four_cell {W : World} {b : Nat} (h : W.heap[b]? = some (.cells fourCells.toArray 32 (0, 0))) : b < W.heap.size ∧ ∀ j, j < 4 → NodeAt W b (j * 51) (fourN j) := by
  refine ⟨?_, fun j hj k hk => ?_⟩
  · rcases Nat.lt_or_ge b W.heap.size with h1 | h1
    · exact h1
    · rw [Array.getElem?_eq_none h1] at h; cases h
  · unfold World.cell?
    simp only [h]
    have := fourN_get hj hk
    simpa using this

/-- where the walk stands: the three documents and their variables -/
structure Stage (H p b1 b2 b3 : Nat) (w W : World) : Prop where
  below : Below H w W
  size : H ≤ W.heap.size
  d1 : DocIn W (some ⟨b1, 0, none⟩) 4 4 5 fourN
  d2 : DocIn W (some ⟨b2, 0, none⟩) 4 4 4 fourN
  d3 : DocIn W (some ⟨b3, 0, none⟩) 4 4 5 deepN
  x10 : W.cell? ⟨p, 0, none⟩ = some (.slice (some ⟨b1, 0, none⟩) 4 4)
  x11 : W.cell? ⟨p, 1, none⟩ = some (.int .i64 5)
  x20 : W.cell? ⟨p + 1, 0, none⟩ = some (.slice (some ⟨b2, 0, none⟩) 4 4)
  x21 : W.cell? ⟨p + 1, 1, none⟩ = some (.int .i64 4)
  x30 : W.cell? ⟨p + 1 + 1, 0, none⟩ = some (.slice (some ⟨b3, 0, none⟩) 4 4)
  x31 : W.cell? ⟨p + 1 + 1, 1, none⟩ = some (.int .i64 5)
theorem Stage.next {H p b1 b2 b3 : Nat} {w W W' : World} (h : Stage H p b1 b2 b3 w W) (hb : Below W.heap.size W W') : Stage H p b1 b2 b3 w W' := by
  have k : ∀ {q o : Nat} {v : Value}, W.cell? ⟨q, o, none⟩ = some v → W'.cell? ⟨q, o, none⟩ = some v := fun {q o v} hv => (hb.cell (lt_of_cell hv)).trans hv
  exact ⟨h.below.trans (hb.mono h.size), Nat.le_trans h.size hb.size, h.d1.below hb, h.d2.below hb, h.d3.below hb, k h.x10, k h.x11, k h.x20, k h.x21, k h.x30, k h.x31⟩


def threeDocs (w3 : World) (b1 b2 b3 : Nat) : World := ((w3.alloc (.cells #[.slice (some ⟨b1, 0, none⟩) 4 4, .int .i64 5] 24)).alloc (.cells #[.slice (some ⟨b2, 0, none⟩) 4 4, .int .i64 4] 24)).alloc (.cells #[.slice (some ⟨b3, 0, none⟩) 4 4, .int .i64 5] 24)
theorem three_size (w3 : World) (b1 b2 b3 : Nat) : (threeDocs w3 b1 b2 b3).heap.size = w3.heap.size + 3 := by simp [threeDocs]
theorem three_below (w3 : World) (b1 b2 b3 : Nat) : Below w3.heap.size w3 (threeDocs w3 b1 b2 b3) := (((Below.refl _ _).alloc (Nat.le_refl _) _).alloc (by simp) _).alloc (by simp; omega) _
theorem three_fix {w3 : World} (b1 b2 : Nat) {b3 : Nat} (C3 : w3.heap[b3]? = some (.cells fourCells.toArray 32 (0, 0))) :
    (threeDocs w3 b1 b2 b3).frozen? ⟨b3, 52, none⟩ = false ∧ (threeDocs w3 b1 b2 b3).cell? ⟨b3, 52, none⟩ = some (.int .i64 1) := by
  have h := keep_heap C3 (three_below w3 b1 b2 b3)
  refine ⟨?_, ?_⟩
  · unfold World.frozen?
    simp [h]
  · have := (four_cell h).2 1 (by omega) 1 (by omega)
    rw [show 1 * 51 + 1 = 52 by omega] at this
    exact this.trans rfl
theorem stage_start {w w3 : World} {b1 b2 b3 : Nat} (B3 : Below w.heap.size w w3) (C1 : w3.heap[b1]? = some (.cells fourCells.toArray 32 (0, 0))) (C2 : w3.heap[b2]? = some (.cells fourCells.toArray 32 (0, 0)))
    (C3 : w3.heap[b3]? = some (.cells fourCells.toArray 32 (0, 0))) (g : w.heap.size ≤ b3) (h1 : b1 < b3) (h2 : b2 < b3) :
    Stage w.heap.size w3.heap.size b1 b2 b3 w ((threeDocs w3 b1 b2 b3).setCell ⟨b3, 52, none⟩ (.int .i64 2)) := by
  have hB := three_below w3 b1 b2 b3
  have D1 := four_cell (keep_heap C1 hB)
  have D2 := four_cell (keep_heap C2 hB)
  have D3 := four_cell (keep_heap C3 hB)
  have L3 := (four_cell C3).1
  have hs := three_size w3 b1 b2 b3
  have far : ∀ (q o : Nat), q ≠ b3 → ((threeDocs w3 b1 b2 b3).setCell ⟨b3, 52, none⟩ (.int .i64 2)).cell? ⟨q, o, none⟩ = (threeDocs w3 b1 b2 b3).cell? ⟨q, o, none⟩ := fun q o hq => World.cell?_setCell_other _ _ _ _ (fun e => hq (by cases e; rfl))
  have hw : w.heap.size ≤ w3.heap.size := B3.size
  refine ⟨?_, by simp only [World.size_setCell, hs]; omega, ?_, ?_, ?_, ?_, ?_, ?_, ?_, ?_, ?_⟩
  · exact (B3.trans (hB.mono hw)).setCell g _
  · exact doc_of_cells (by omega) _ fourN_ok (by simp only [World.size_setCell]; exact D1.1) (fun j hj k hk => (far _ _ (by omega)).trans (D1.2 j hj k hk))
  · exact doc_of_cells (by omega) _ fourN_ok (by simp only [World.size_setCell]; exact D2.1) (fun j hj k hk => (far _ _ (by omega)).trans (D2.2 j hj k hk))
  · refine doc_of_cells (by omega) _ deepN_ok (by simp only [World.size_setCell]; exact D3.1) (fun j hj k hk => ?_)
    by_cases he : j * 51 + k = 52
    · obtain rfl : j = 1 := by omega
      obtain rfl : k = 1 := by omega
      rw [World.cell?_setCell_same _ _ _ (three_fix b1 b2 C3).2]
      kernel_rfl
    · rw [World.cell?_setCell_other _ _ _ _ (fun e => he (congrArg Addr.off e).symm)]
      refine (D3.2 j hj k hk).trans ?_
      rcases (show j = 0 ∨ j = 1 ∨ j = 2 ∨ j = 3 by omega) with rfl | rfl | rfl | rfl
      · rfl
      · match k, (show k ≠ 1 by omega) with
        | 0, _ => rfl
        | k + 2, _ => rfl
      · rfl
      · rfl
  all_goals
    rw [far _ _ (by omega)]
    unfold threeDocs
  · rw [World.cell?_alloc_past (hn := by simp; omega), World.cell?_alloc_past (hn := by simp)]
    simp
  · rw [World.cell?_alloc_past (hn := by simp; omega), World.cell?_alloc_past (hn := by simp)]
    simp
  all_goals simp [World.cell?_alloc_past, World.cell?_alloc_at]

/-- the examples' answers -/
theorem four_steps : Steps (dps fourN) 4 := ⟨rfl, fun i h1 h2 => by
  rcases (show i = 1 ∨ i = 2 ∨ i = 3 by omega) with rfl | rfl | rfl <;> exact ⟨by decide, by decide⟩⟩
theorem fourN_box (j : Nat) : (fourN j).kind = 0 ∧ (fourN j).text = [] ∧ (fourN j).depth ≤ 15 ∧ 1 ≤ (fourN j).key ∧ (fourN j).key < 5 := by
  unfold fourN
  split
  · exact ⟨rfl, rfl, by decide, by decide, by decide⟩
  · split
    · exact ⟨rfl, rfl, by decide, by decide, by decide⟩
    · split <;> exact ⟨rfl, rfl, by decide, by decide, by decide⟩
theorem four_shape : Shape 4 5 fourN where
  some_ := by omega
  most := by omega
  next := by omega
  steps := four_steps
  deep := fun i _ => (fourN_box i).2.2.1
  kind := fun i _ => .inl (fourN_box i).1
  first := rfl
  behind := fun i _ h => by rw [(fourN_box i).1] at h; omega
  key := fun i _ => (fourN_box i).2.2.2
  once := fun i j h1 h2 => by
    rcases (show (i = 0 ∧ j = 1) ∨ (i = 0 ∧ j = 2) ∨ (i = 0 ∧ j = 3) ∨ (i = 1 ∧ j = 2) ∨ (i = 1 ∧ j = 3) ∨ (i = 2 ∧ j = 3) by omega) with ⟨rfl, rfl⟩ | ⟨rfl, rfl⟩ | ⟨rfl, rfl⟩ | ⟨rfl, rfl⟩ | ⟨rfl, rfl⟩ | ⟨rfl, rfl⟩ <;> decide
  box := fun i _ _ => (fourN_box i).2.1
  text := fun i _ h => by rw [(fourN_box i).1] at h; omega
  bytes := by decide
theorem less_none : ¬ Shape 4 4 fourN := fun h => by have := (h.key 3 (by omega)).2; revert this; decide
theorem deep_none : ¬ Shape 4 5 deepN := fun h => by have := (h.steps.2 1 (by omega) (by omega)).2; revert this; decide
theorem no_nodes {x : Int} {N : Nat → RN} : ¬ Shape 0 x N := fun h => absurd h.some_ (by omega)
theorem find_3 : FindIs fourN 4 3 2 := .inr ⟨2, by omega, rfl, rfl, fun j hj => by rcases (show j = 0 ∨ j = 1 by omega) with rfl | rfl <;> decide⟩
theorem find_9 : FindIs fourN 4 9 (-1) := .inl ⟨rfl, fun j hj => by rcases (show j = 0 ∨ j = 1 ∨ j = 2 ∨ j = 3 by omega) with rfl | rfl | rfl | rfl <;> decide⟩
/-- the first node's kids -/
def Row2 (b o : Nat) (W : World) : Prop := b < W.heap.size ∧ W.cell? ⟨b, o, none⟩ = some (.int .i64 1) ∧ W.cell? ⟨b, o + 1, none⟩ = some (.int .i64 3)
theorem Row2.next {b o : Nat} {W W' : World} (h : Row2 b o W) (hb : Below W.heap.size W W') : Row2 b o W' := ⟨Nat.lt_of_lt_of_le h.1 hb.size, (hb.cell h.1).trans h.2.1, (hb.cell h.1).trans h.2.2⟩

theorem Stage.drew {H p b1 b2 b3 : Nat} {w W : World} (h : Stage H p b1 b2 b3 w W) : Stage H p b1 b2 b3 w W.drew := h.next (Below.refl _ _).drew
theorem stage_S {H p b1 b2 b3 : Nat} {w W : World} (h : Stage H p b1 b2 b3 w W) : Stage H p b1 b2 b3 w W ∧ W.cell? ⟨p, 0, none⟩ = some (.slice (some ⟨b1, 0, none⟩) 4 4) ∧ W.cell? ⟨p, 1, none⟩ = some (.int .i64 5) ∧ W.cell? ⟨p + 1, 0, none⟩ = some (.slice (some ⟨b2, 0, none⟩) 4 4) ∧ W.cell? ⟨p + 1, 1, none⟩ = some (.int .i64 4) :=
  ⟨h, h.x10, h.x11, h.x20, h.x21⟩
theorem end_at (hE : EndOK) (a r : Int) (h1 : -9223372036854775808 ≤ a) (h2 : a ≤ 9223372036854775807) (he : endAns fourN 4 a = r) (H p b1 b2 b3 : Nat) (w : World) : ∀ W, Stage H p b1 b2 b3 w W →
    Calls Try.prog 48 #[.agg #[.slice (some ⟨b1, 0, none⟩) 4 4, .int .i64 5], .int .i64 a] W fun e w' => e = .returned (.int .i64 r) ∧ Below W.heap.size W w' := fun W h => by
  subst he
  exact hE _ 4 4 5 fourN a W h.d1 h1 h2
theorem kids_3 (hK : KidsOK) (H p b1 b2 b3 : Nat) (w : World) : ∀ W, Stage H p b1 b2 b3 w W →
    Calls Try.prog 47 #[.agg #[.slice (some ⟨b1, 0, none⟩) 4 4, .int .i64 5], .int .i64 3] W fun e w' => ∃ B c, e = .returned (.slice B 0 c) ∧ Below W.heap.size W w' := fun W h => by
  refine (hK _ 4 4 5 fourN 3 W h.d1 (by omega) (by omega)).mono ?_
  rintro e w' ⟨B, c, rfl, -, hb⟩
  exact ⟨B, c, rfl, hb⟩
theorem copy_at (hC : CopyOK5) (H p b1 b2 b3 : Nat) (w : World) : ∀ W, Stage H p b1 b2 b3 w W →
    Calls Try.prog 40 #[.agg #[.slice (some ⟨b1, 0, none⟩) 4 4, .int .i64 5]] W fun e w' => ∃ B c, e = .returned (.agg #[.slice B 4 c, .int .i64 5]) ∧ DocIn w' B 4 c 5 fourN ∧ Below W.heap.size W w' := fun W h => by
  refine (hC _ 4 4 5 fourN W h.d1).mono ?_
  rintro e w' ⟨B, c, rfl, hd, -, hb⟩
  exact ⟨B, c, rfl, hd, hb⟩
end Go.Proofs.Ytmodegkpfdlccaa
