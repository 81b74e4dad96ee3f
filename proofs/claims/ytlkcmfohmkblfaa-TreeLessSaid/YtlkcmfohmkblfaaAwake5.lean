/-
  The chapter's examples of tree, which each of the stage's laws begins with, are met by any program that answers as is asked.
-/
import Derived.Test.YtlkcmfohmkblfaaTreeOK
import Derived.Deep.RegionHeld3
namespace Go.Proofs.Ytlkcmfohmkblfaa
open Go.RowKit
theorem four_new (w : World) : Calls Try.prog 17 #[] w fun e w' => ∃ b, e = .returned (docV (some ⟨b, 0, none⟩) 4 4 5) ∧ Below w.heap.size w w' ∧ w.heap.size ≤ b ∧ b < w'.heap.size ∧ w'.heap[b]? = some (.cells fourCells.toArray 36 (0, 0)) := by
  refine (four_any w).mono ?_
  rintro e w' ⟨rfl, h1, h2, h3⟩
  exact ⟨_, rfl, h1, by omega, by omega, h2⟩
theorem keep_heap {w w' : World} {b : Nat} {o : Obj} (h : w.heap[b]? = some o) (hb : Below w.heap.size w w') : w'.heap[b]? = some o := by
  have hlt : b < w.heap.size := by
    rcases Nat.lt_or_ge b w.heap.size with h1 | h1
    · exact h1
    · rw [Array.getElem?_eq_none h1] at h; cases h
  rw [hb.block b hlt]; exact h

def deepN (j : Nat) : RN := if j = 0 then box 1 0 else if j = 1 then box 2 2 else if j = 2 then box 3 2 else box 4 1
theorem box_cells_len (k d : Int) : (box k d).cells.length = 51 := by kernel_rfl
theorem fourN_ok (j : Nat) : (fourN j).ok := by
  unfold fourN
  split
  · exact box_ok (by omega) (by omega)
  · split
    · exact box_ok (by omega) (by omega)
    · split <;> exact box_ok (by omega) (by omega)
theorem deepN_ok (j : Nat) : (deepN j).ok := by
  unfold deepN
  split
  · exact box_ok (by omega) (by omega)
  · split
    · exact box_ok (by omega) (by omega)
    · split <;> exact box_ok (by omega) (by omega)
theorem fourN_get {j k : Nat} (hj : j < 4) (hk : k < 51) : fourCells[j * 51 + k]? = (fourN j).cells[k]? := by
  have h0 : (fourN 0).cells.length = 51 := box_cells_len _ _
  have h1 : (fourN 1).cells.length = 51 := box_cells_len _ _
  have h2 : (fourN 2).cells.length = 51 := box_cells_len _ _
  have h3 : (fourN 3).cells.length = 51 := box_cells_len _ _
  unfold fourCells
  rcases (show j = 0 ∨ j = 1 ∨ j = 2 ∨ j = 3 by omega) with rfl | rfl | rfl | rfl
  · rw [List.getElem?_append_left (by simp only [List.length_append]; omega), List.getElem?_append_left (by simp only [List.length_append]; omega), List.getElem?_append_left (by omega)]
    simp
  · rw [List.getElem?_append_left (by simp only [List.length_append]; omega), List.getElem?_append_left (by simp only [List.length_append]; omega), List.getElem?_append_right (by omega), h0]
    simp
  · rw [List.getElem?_append_left (by simp only [List.length_append]; omega), List.getElem?_append_right (by simp only [List.length_append]; omega)]
    simp only [List.length_append, h0, h1]
    rw [show 2 * 51 + k - (51 + 51) = k by omega]
  · rw [List.getElem?_append_right (by simp only [List.length_append]; omega)]
    simp only [List.length_append, h0, h1, h2]
    rw [show 3 * 51 + k - (51 + 51 + 51) = k by omega]
theorem doc_of_cells {W : World} {b : Nat} {x : Int} (hx : -9223372036854775808 ≤ x ∧ x ≤ 9223372036854775807) (N : Nat → RN) (hN : ∀ j, (N j).ok) (hb : b < W.heap.size) (h : ∀ j, j < 4 → NodeAt W b (j * 51) (N j)) : DocIn W (some ⟨b, 0, none⟩) 4 4 x N :=
  ⟨⟨⟨fun j _ => hN j, fun _ => ⟨b, 0, rfl, hb, fun j hj => by rw [Nat.zero_add]; exact h j hj⟩⟩, (fun e => by cases e), ⟨by omega, by omega⟩, by omega⟩, hx⟩
theorem four_cell {W : World} {b : Nat} (h : W.heap[b]? = some (.cells fourCells.toArray 36 (0, 0))) : b < W.heap.size ∧ ∀ j, j < 4 → NodeAt W b (j * 51) (fourN j) := by
  refine ⟨?_, fun j hj k hk => ?_⟩
  · rcases Nat.lt_or_ge b W.heap.size with h1 | h1
    · exact h1
    · rw [Array.getElem?_eq_none h1] at h; cases h
  · unfold World.cell?
    simp only [h]
    have := fourN_get hj hk
    simpa using this

/-- where the walk stands: the three documents and their variables -/
structure Stage (H p b1 b2 b3 : Nat) (w W : World) : Prop where
  below : Below H w W
  size : H ≤ W.heap.size
  d1 : DocIn W (some ⟨b1, 0, none⟩) 4 4 5 fourN
  d2 : DocIn W (some ⟨b2, 0, none⟩) 4 4 4 fourN
  d3 : DocIn W (some ⟨b3, 0, none⟩) 4 4 5 deepN
  x10 : W.cell? ⟨p, 0, none⟩ = some (.slice (some ⟨b1, 0, none⟩) 4 4)
  x11 : W.cell? ⟨p, 1, none⟩ = some (.int .i64 5)
  x20 : W.cell? ⟨p + 1, 0, none⟩ = some (.slice (some ⟨b2, 0, none⟩) 4 4)
  x21 : W.cell? ⟨p + 1, 1, none⟩ = some (.int .i64 4)
  x30 : W.cell? ⟨p + 1 + 1, 0, none⟩ = some (.slice (some ⟨b3, 0, none⟩) 4 4)
  x31 : W.cell? ⟨p + 1 + 1, 1, none⟩ = some (.int .i64 5)
theorem Stage.next {H p b1 b2 b3 : Nat} {w W W' : World} (h : Stage H p b1 b2 b3 w W) (hb : Below W.heap.size W W') : Stage H p b1 b2 b3 w W' := by
  have k : ∀ {q o : Nat} {v : Value}, W.cell? ⟨q, o, none⟩ = some v → W'.cell? ⟨q, o, none⟩ = some v := fun {q o v} hv => (hb.cell (lt_of_cell hv)).trans hv
  exact ⟨h.below.trans (hb.mono h.size), Nat.le_trans h.size hb.size, h.d1.below hb, h.d2.below hb, h.d3.below hb, k h.x10, k h.x11, k h.x20, k h.x21, k h.x30, k h.x31⟩


def threeDocs (w3 : World) (b1 b2 b3 : Nat) : World := ((w3.alloc (.cells #[.slice (some ⟨b1, 0, none⟩) 4 4, .int .i64 5] 24)).alloc (.cells #[.slice (some ⟨b2, 0, none⟩) 4 4, .int .i64 4] 24)).alloc (.cells #[.slice (some ⟨b3, 0, none⟩) 4 4, .int .i64 5] 24)
theorem three_size (w3 : World) (b1 b2 b3 : Nat) : (threeDocs w3 b1 b2 b3).heap.size = w3.heap.size + 3 := by simp [threeDocs]
theorem three_below (w3 : World) (b1 b2 b3 : Nat) : Below w3.heap.size w3 (threeDocs w3 b1 b2 b3) := (((Below.refl _ _).alloc (Nat.le_refl _) _).alloc (by simp) _).alloc (by simp; omega) _
theorem three_fix {w3 : World} (b1 b2 : Nat) {b3 : Nat} (C3 : w3.heap[b3]? = some (.cells fourCells.toArray 36 (0, 0))) :
    (threeDocs w3 b1 b2 b3).frozen? ⟨b3, 52, none⟩ = false ∧ (threeDocs w3 b1 b2 b3).cell? ⟨b3, 52, none⟩ = some (.int .i64 1) := by
  have h := keep_heap C3 (three_below w3 b1 b2 b3)
  refine ⟨?_, ?_⟩
  · unfold World.frozen?
    simp [h]
  · have := (four_cell h).2 1 (by omega) 1 (by omega)
    rw [show 1 * 51 + 1 = 52 by omega] at this
    exact this.trans rfl
theorem stage_start {w w3 : World} {b1 b2 b3 : Nat} (B3 : Below w.heap.size w w3) (C1 : w3.heap[b1]? = some (.cells fourCells.toArray 36 (0, 0))) (C2 : w3.heap[b2]? = some (.cells fourCells.toArray 36 (0, 0)))
    (C3 : w3.heap[b3]? = some (.cells fourCells.toArray 36 (0, 0))) (g : w.heap.size ≤ b3) (h1 : b1 < b3) (h2 : b2 < b3) :
    Stage w.heap.size w3.heap.size b1 b2 b3 w ((threeDocs w3 b1 b2 b3).setCell ⟨b3, 52, none⟩ (.int .i64 2)) := by
  have hB := three_below w3 b1 b2 b3
  have D1 := four_cell (keep_heap C1 hB)
  have D2 := four_cell (keep_heap C2 hB)
  have D3 := four_cell (keep_heap C3 hB)
  have L3 := (four_cell C3).1
  have hs := three_size w3 b1 b2 b3
  have far : ∀ (q o : Nat), q ≠ b3 → ((threeDocs w3 b1 b2 b3).setCell ⟨b3, 52, none⟩ (.int .i64 2)).cell? ⟨q, o, none⟩ = (threeDocs w3 b1 b2 b3).cell? ⟨q, o, none⟩ := fun q o hq => World.cell?_setCell_other _ _ _ _ (fun e => hq (by cases e; rfl))
  have hw : w.heap.size ≤ w3.heap.size := B3.size
  refine ⟨?_, by simp only [World.size_setCell, hs]; omega, ?_, ?_, ?_, ?_, ?_, ?_, ?_, ?_, ?_⟩
  · exact (B3.trans (hB.mono hw)).setCell g _
  · exact doc_of_cells (by omega) _ fourN_ok (by simp only [World.size_setCell]; exact D1.1) (fun j hj k hk => (far _ _ (by omega)).trans (D1.2 j hj k hk))
  · exact doc_of_cells (by omega) _ fourN_ok (by simp only [World.size_setCell]; exact D2.1) (fun j hj k hk => (far _ _ (by omega)).trans (D2.2 j hj k hk))
  · refine doc_of_cells (by omega) _ deepN_ok (by simp only [World.size_setCell]; exact D3.1) (fun j hj k hk => ?_)
    by_cases he : j * 51 + k = 52
    · obtain rfl : j = 1 := by omega
      obtain rfl : k = 1 := by omega
      rw [World.cell?_setCell_same _ _ _ (three_fix b1 b2 C3).2]
      kernel_rfl
    · rw [World.cell?_setCell_other _ _ _ _ (fun e => he (congrArg Addr.off e).symm)]
      refine (D3.2 j hj k hk).trans ?_
      rcases (show j = 0 ∨ j = 1 ∨ j = 2 ∨ j = 3 by omega) with rfl | rfl | rfl | rfl
      · rfl
      · match k, (show k ≠ 1 by omega) with
        | 0, _ => rfl
        | k + 2, _ => rfl
      · rfl
      · rfl
  all_goals
    rw [far _ _ (by omega)]
    unfold threeDocs
  · rw [World.cell?_alloc_past (hn := by simp; omega), World.cell?_alloc_past (hn := by simp)]
    simp
  · rw [World.cell?_alloc_past (hn := by simp; omega), World.cell?_alloc_past (hn := by simp)]
    simp
  all_goals simp [World.cell?_alloc_past, World.cell?_alloc_at]

/-- the examples' answers -/
theorem four_steps : Steps (dps fourN) 4 := ⟨rfl, fun i h1 h2 => by
  rcases (show i = 1 ∨ i = 2 ∨ i = 3 by omega) with rfl | rfl | rfl <;> exact ⟨by decide, by decide⟩⟩
theorem fourN_box (j : Nat) : (fourN j).kind = 0 ∧ (fourN j).text = [] ∧ (fourN j).depth ≤ 15 ∧ 1 ≤ (fourN j).key ∧ (fourN j).key < 5 := by
  unfold fourN
  split
  · exact ⟨rfl, rfl, by decide, by decide, by decide⟩
  · split
    · exact ⟨rfl, rfl, by decide, by decide, by decide⟩
    · split <;> exact ⟨rfl, rfl, by decide, by decide, by decide⟩
theorem four_shape : Shape 4 5 fourN where
  some_ := by omega
  most := by omega
  next := by omega
  steps := four_steps
  deep := fun i _ => (fourN_box i).2.2.1
  kind := fun i _ => .inl (fourN_box i).1
  first := rfl
  behind := fun i _ h => by rw [(fourN_box i).1] at h; omega
  key := fun i _ => (fourN_box i).2.2.2
  once := fun i j h1 h2 => by
    rcases (show (i = 0 ∧ j = 1) ∨ (i = 0 ∧ j = 2) ∨ (i = 0 ∧ j = 3) ∨ (i = 1 ∧ j = 2) ∨ (i = 1 ∧ j = 3) ∨ (i = 2 ∧ j = 3) by omega) with ⟨rfl, rfl⟩ | ⟨rfl, rfl⟩ | ⟨rfl, rfl⟩ | ⟨rfl, rfl⟩ | ⟨rfl, rfl⟩ | ⟨rfl, rfl⟩ <;> decide
  box := fun i _ _ => (fourN_box i).2.1
  text := fun i _ h => by rw [(fourN_box i).1] at h; omega
  bytes := by decide
theorem less_none : ¬ Shape 4 4 fourN := fun h => by have := (h.key 3 (by omega)).2; revert this; decide
theorem deep_none : ¬ Shape 4 5 deepN := fun h => by have := (h.steps.2 1 (by omega) (by omega)).2; revert this; decide
theorem no_nodes {x : Int} {N : Nat → RN} : ¬ Shape 0 x N := fun h => absurd h.some_ (by omega)
theorem find_3 : FindIs fourN 4 3 2 := .inr ⟨2, by omega, rfl, rfl, fun j hj => by rcases (show j = 0 ∨ j = 1 by omega) with rfl | rfl <;> decide⟩
theorem find_9 : FindIs fourN 4 9 (-1) := .inl ⟨rfl, fun j hj => by rcases (show j = 0 ∨ j = 1 ∨ j = 2 ∨ j = 3 by omega) with rfl | rfl | rfl | rfl <;> decide⟩
/-- the first node's kids -/
def Row2 (b o : Nat) (W : World) : Prop := b < W.heap.size ∧ W.cell? ⟨b, o, none⟩ = some (.int .i64 1) ∧ W.cell? ⟨b, o + 1, none⟩ = some (.int .i64 3)
theorem Row2.next {b o : Nat} {W W' : World} (h : Row2 b o W) (hb : Below W.heap.size W W') : Row2 b o W' := ⟨Nat.lt_of_lt_of_le h.1 hb.size, (hb.cell h.1).trans h.2.1, (hb.cell h.1).trans h.2.2⟩

theorem Stage.drew {H p b1 b2 b3 : Nat} {w W : World} (h : Stage H p b1 b2 b3 w W) : Stage H p b1 b2 b3 w W.drew := h.next (Below.refl _ _).drew
theorem stage_S {H p b1 b2 b3 : Nat} {w W : World} (h : Stage H p b1 b2 b3 w W) : Stage H p b1 b2 b3 w W ∧ W.cell? ⟨p, 0, none⟩ = some (.slice (some ⟨b1, 0, none⟩) 4 4) ∧ W.cell? ⟨p, 1, none⟩ = some (.int .i64 5) ∧ W.cell? ⟨p + 1, 0, none⟩ = some (.slice (some ⟨b2, 0, none⟩) 4 4) ∧ W.cell? ⟨p + 1, 1, none⟩ = some (.int .i64 4) :=
  ⟨h, h.x10, h.x11, h.x20, h.x21⟩
theorem end_at (hE : EndOK) (a r : Int) (h1 : -9223372036854775808 ≤ a) (h2 : a ≤ 9223372036854775807) (he : endAns fourN 4 a = r) (H p b1 b2 b3 : Nat) (w : World) : ∀ W, Stage H p b1 b2 b3 w W →
    Calls Try.prog 14 #[.agg #[.slice (some ⟨b1, 0, none⟩) 4 4, .int .i64 5], .int .i64 a] W fun e w' => e = .returned (.int .i64 r) ∧ Below W.heap.size W w' := fun W h => by
  subst he
  exact hE _ 4 4 5 fourN a W h.d1 h1 h2
theorem par_at (hE : ParentOK) (a r : Int) (h1 : -9223372036854775808 ≤ a) (h2 : a ≤ 9223372036854775807) (he : parAns fourN 4 a = r) (H p b1 b2 b3 : Nat) (w : World) : ∀ W, Stage H p b1 b2 b3 w W →
    Calls Try.prog 12 #[.agg #[.slice (some ⟨b1, 0, none⟩) 4 4, .int .i64 5], .int .i64 a] W fun e w' => e = .returned (.int .i64 r) ∧ Below W.heap.size W w' := fun W h => by
  subst he
  exact hE _ 4 4 5 fourN a W h.d1 h1 h2
theorem kids_3 (hK : KidsOK) (H p b1 b2 b3 : Nat) (w : World) : ∀ W, Stage H p b1 b2 b3 w W →
    Calls Try.prog 11 #[.agg #[.slice (some ⟨b1, 0, none⟩) 4 4, .int .i64 5], .int .i64 3] W fun e w' => ∃ B c, e = .returned (.slice B 0 c) ∧ Below W.heap.size W w' := fun W h => by
  refine (hK _ 4 4 5 fourN 3 W h.d1 (by omega) (by omega)).mono ?_
  rintro e w' ⟨B, c, rfl, -, hb⟩
  exact ⟨B, c, rfl, hb⟩
theorem copy_at (hC : CopyOK5) (H p b1 b2 b3 : Nat) (w : World) : ∀ W, Stage H p b1 b2 b3 w W →
    Calls Try.prog 15 #[.agg #[.slice (some ⟨b1, 0, none⟩) 4 4, .int .i64 5]] W fun e w' => ∃ B c, e = .returned (.agg #[.slice B 4 c, .int .i64 5]) ∧ DocIn w' B 4 c 5 fourN ∧ Below W.heap.size W w' := fun W h => by
  refine (hC _ 4 4 5 fourN W h.d1).mono ?_
  rintro e w' ⟨B, c, rfl, hd, -, hb⟩
  exact ⟨B, c, rfl, hd, hb⟩
theorem same_copy (hS : SameOK5) (H p b1 b2 b3 : Nat) (w : World) : ∀ B c W, Stage H p b1 b2 b3 w W → DocIn W B 4 c 5 fourN →
    Calls Try.prog 16 #[.agg #[.slice (some ⟨b1, 0, none⟩) 4 4, .int .i64 5], .agg #[.slice B 4 c, .int .i64 5]] W fun e w' => e = .returned (.bool true) ∧ Below W.heap.size W w' := fun B c W h hd => by
  refine (hS _ 4 4 5 fourN B 4 c 5 fourN W h.d1 hd).mono ?_
  rintro e w' ⟨q, rfl, hq, hb⟩
  obtain rfl : q = true := hq.2 ⟨rfl, rfl, fun _ _ => rfl⟩
  exact ⟨rfl, hb⟩
theorem same_less (hS : SameOK5) (H p b1 b2 b3 : Nat) (w : World) : ∀ W, Stage H p b1 b2 b3 w W →
    Calls Try.prog 16 #[.agg #[.slice (some ⟨b1, 0, none⟩) 4 4, .int .i64 5], .agg #[.slice (some ⟨b2, 0, none⟩) 4 4, .int .i64 4]] W fun e w' => e = .returned (.bool false) ∧ Below W.heap.size W w' := fun W h => by
  refine (hS _ 4 4 5 fourN _ 4 4 4 fourN W h.d1 h.d2).mono ?_
  rintro e w' ⟨q, rfl, hq, hb⟩
  obtain rfl : q = false := by cases q with | false => rfl | true => exact absurd (hq.1 rfl).1 (by omega)
  exact ⟨rfl, hb⟩

set_option maxRecDepth 100000 in
set_option maxHeartbeats 8000000 in
theorem awake5_any (hM : MayOK) (hS : SameOK5) (hC : CopyOK5) (hF : FindOK) (hE : EndOK) (hP : ParentOK) (hK : KidsOK) (w : World) :
    Calls Try.prog 8 #[] w fun e w' => e = .returned (.bool true) ∧ Below w.heap.size w w' := by
  have KM := Lib.hid hM
  have KS := Lib.hid hS
  have KC := Lib.hid hC
  have KF := Lib.hid hF
  have KE := Lib.hid hE
  have KP := Lib.hid hP
  have KK := Lib.hid hK
  clear hM hS hC hF hE hP hK
  go_enter Try.func8, Try.ntmps8
  go_wp2_with fail
  refine (four_new w).mono ?_
  rintro e w1 ⟨b1, rfl, h1, g1, l1, c1⟩
  have B1 := Lib.hid h1
  have L1 := Lib.hid l1
  have C1 := Lib.hid c1
  clear h1 g1 l1 c1
  unfold docV
  go_wp2_with fail
  refine (four_new w1).mono ?_
  rintro e w2 ⟨b2, rfl, h1, g1, l1, c1⟩
  have B2 := Lib.hid (B1.out.trans (h1.mono B1.out.size))
  have C12 := Lib.hid (keep_heap C1.out h1)
  have L12 := Lib.hid (Nat.lt_of_lt_of_le L1.out h1.size)
  have L2 := Lib.hid l1
  have C2 := Lib.hid c1
  clear h1 g1 l1 c1 C1 B1 L1
  unfold docV
  go_wp2_with fail
  refine (four_new w2).mono ?_
  rintro e w3 ⟨b3, rfl, h1, g1, l1, c1⟩
  have TS := Lib.hid (stage_start (B2.out.trans (h1.mono B2.out.size)) (keep_heap C12.out h1) (keep_heap C2.out h1) c1 (Nat.le_trans B2.out.size g1) (Nat.lt_of_lt_of_le L12.out g1) (Nat.lt_of_lt_of_le L2.out g1))
  obtain ⟨F3, D3⟩ := three_fix b1 b2 c1
  clear h1 g1 l1 c1 C12 C2 B2 L12 L2
  unfold docV
  unfold threeDocs at F3 D3
  go_wp2_with fail
  clear F3 D3
  obtain ⟨W0, hW0⟩ : ∃ W0, W0 = (threeDocs w3 b1 b2 b3).setCell ⟨b3, 52, none⟩ (.int .i64 2) := ⟨_, rfl⟩
  have T0 : Hid (Stage w.heap.size w3.heap.size b1 b2 b3 w W0) := Lib.hid (by rw [hW0]; exact TS.out)
  unfold threeDocs at hW0
  rw [← hW0]
  clear TS hW0
  refine (KK.out _ 4 4 5 fourN 0 W0 T0.out.d1 (by omega) (by omega)).mono ?_
  rintro e v1 ⟨B, cB, rfl, hp, hb⟩
  rw [show kidsAns fourN 4 0 = [1, 3] from rfl] at hp ⊢
  obtain ⟨-, -, ⟨hl, hl'⟩, hc⟩ := hp
  obtain ⟨kb, ko, rfl, hlt, hc⟩ := hc (by simp)
  have R1 : Hid (Row2 kb ko v1) := Lib.hid ⟨hlt, hc 0 1 rfl, hc 1 3 rfl⟩
  have T1 := Lib.hid (T0.out.next hb)
  clear hb hc hlt T0
  simp only [List.length_cons, List.length_nil] at hl ⊢
  obtain ⟨-, -, -, -, -, x10, x11, x20, x21, x30, x31⟩ := T1.out
  obtain ⟨-, r0, r1⟩ := R1.out
  go_wp2_with fail
  clear x10 x11 x20 x21 x30 x31 r0 r1
  refine (KM.out _ 4 4 5 fourN _ T1.out.d1).mono ?_
  rintro e v2 ⟨q, rfl, hq, hb⟩
  obtain rfl : q = true := hq.2 four_shape
  clear hq
  have T2 := Lib.hid (T1.out.next hb)
  have R2 := Lib.hid (R1.out.next hb)
  clear hb T1 R1
  obtain ⟨-, -, -, -, -, x10, x11, x20, x21, x30, x31⟩ := T2.out
  obtain ⟨-, r0, r1⟩ := R2.out
  go_wp2_with fail
  clear x10 x11 x20 x21 x30 x31 r0 r1
  refine (KM.out _ 4 4 4 fourN _ T2.out.d2).mono ?_
  rintro e v3 ⟨q, rfl, hq, hb⟩
  obtain rfl : q = false := by cases q with | false => rfl | true => exact absurd (hq.1 rfl) less_none
  clear hq
  have T3 := Lib.hid (T2.out.next hb)
  have R3 := Lib.hid (R2.out.next hb)
  clear hb T2 R2
  obtain ⟨-, -, -, -, -, x10, x11, x20, x21, x30, x31⟩ := T3.out
  obtain ⟨-, r0, r1⟩ := R3.out
  go_wp2_with fail
  clear x10 x11 x20 x21 x30 x31 r0 r1
  refine (KM.out _ 4 4 5 deepN _ T3.out.d3).mono ?_
  rintro e v4 ⟨q, rfl, hq, hb⟩
  obtain rfl : q = false := by cases q with | false => rfl | true => exact absurd (hq.1 rfl) deep_none
  clear hq
  have T4 := Lib.hid (T3.out.next hb)
  have R4 := Lib.hid (R3.out.next hb)
  clear hb T3 R3
  obtain ⟨-, -, -, -, -, x10, x11, x20, x21, x30, x31⟩ := T4.out
  obtain ⟨-, r0, r1⟩ := R4.out
  go_wp2_with fail
  clear x10 x11 x20 x21 x30 x31 r0 r1
  refine (KM.out none 0 0 0 fourN _ ⟨⟨Nodes.zero _ _ _, fun _ => ⟨rfl, rfl⟩, ⟨by omega, by omega⟩, by omega⟩, by omega, by omega⟩).mono ?_
  rintro e v5 ⟨q, rfl, hq, hb⟩
  obtain rfl : q = false := by cases q with | false => rfl | true => exact absurd (hq.1 rfl) no_nodes
  clear hq
  have T5 := Lib.hid (T4.out.next hb)
  have R5 := Lib.hid (R4.out.next hb)
  clear hb T4 R4
  obtain ⟨-, -, -, -, -, x10, x11, x20, x21, x30, x31⟩ := T5.out
  obtain ⟨-, r0, r1⟩ := R5.out
  go_wp2_with fail
  clear x10 x11 x20 x21 x30 x31 r0 r1
  refine (KF.out _ 4 4 5 fourN 3 _ T5.out.d1 (by omega) (by omega)).mono ?_
  rintro e v6 ⟨q, rfl, hq, hb⟩
  obtain rfl : q = 2 := hq.uniq find_3
  clear hq
  have T6 := Lib.hid (T5.out.next hb)
  have R6 := Lib.hid (R5.out.next hb)
  clear hb T5 R5
  obtain ⟨-, -, -, -, -, x10, x11, x20, x21, x30, x31⟩ := T6.out
  obtain ⟨-, r0, r1⟩ := R6.out
  go_wp2_with fail
  clear x10 x11 x20 x21 x30 x31 r0 r1
  refine (KF.out _ 4 4 5 fourN 9 _ T6.out.d1 (by omega) (by omega)).mono ?_
  rintro e v7 ⟨q, rfl, hq, hb⟩
  obtain rfl : q = -1 := hq.uniq find_9
  clear hq
  have T7 := Lib.hid (T6.out.next hb)
  have R7 := Lib.hid (R6.out.next hb)
  clear hb T6 R6
  have ST := T7
  obtain ⟨-, -, -, -, -, x10, x11, x20, x21, -, -⟩ := T7.out
  obtain ⟨-, r0, r1⟩ := R7.out
  clear R7 T7
  go_wp2_with fail
  clear x10 x11 x20 x21 r0 r1
  have E0 := Lib.hid (end_at KE.out 0 4 (by omega) (by omega) rfl w.heap.size w3.heap.size b1 b2 b3 w)
  have E1 := Lib.hid (end_at KE.out 1 3 (by omega) (by omega) rfl w.heap.size w3.heap.size b1 b2 b3 w)
  have E4 := Lib.hid (end_at KE.out 4 (-1) (by omega) (by omega) rfl w.heap.size w3.heap.size b1 b2 b3 w)
  have P0 := Lib.hid (par_at KP.out 0 (-1) (by omega) (by omega) rfl w.heap.size w3.heap.size b1 b2 b3 w)
  have P2 := Lib.hid (par_at KP.out 2 1 (by omega) (by omega) rfl w.heap.size w3.heap.size b1 b2 b3 w)
  have P3 := Lib.hid (par_at KP.out 3 0 (by omega) (by omega) rfl w.heap.size w3.heap.size b1 b2 b3 w)
  have K3 := Lib.hid (kids_3 KK.out w.heap.size w3.heap.size b1 b2 b3 w)
  have CP := Lib.hid (copy_at KC.out w.heap.size w3.heap.size b1 b2 b3 w)
  have S1 := Lib.hid (same_copy KS.out w.heap.size w3.heap.size b1 b2 b3 w)
  have S2 := Lib.hid (same_less KS.out w.heap.size w3.heap.size b1 b2 b3 w)
  clear KM KF KE KP KK KC KS
  go_region_held3 (fun W' => Stage w.heap.size w3.heap.size b1 b2 b3 w W' ∧ W'.cell? ⟨w3.heap.size, 0, none⟩ = some (.slice (some ⟨b1, 0, none⟩) 4 4) ∧ W'.cell? ⟨w3.heap.size, 1, none⟩ = some (.int .i64 5) ∧ W'.cell? ⟨w3.heap.size + 1, 0, none⟩ = some (.slice (some ⟨b2, 0, none⟩) 4 4) ∧ W'.cell? ⟨w3.heap.size + 1, 1, none⟩ = some (.int .i64 4))
    (first | (with_reducible exact stage_S KB.out) | (with_reducible exact stage_S ST.out.drew))
    (first
    | (go_at_call 14; (with_reducible refine (E0.out _ (And.left (by assumption))).mono ?_); rintro e w5 ⟨rfl, hb⟩; have KB : Hid (Stage w.heap.size w3.heap.size b1 b2 b3 w w5) := Lib.hid (Stage.next (And.left (by assumption)) hb); clear hb)
    | (go_at_call 14; (with_reducible refine (E1.out _ (And.left (by assumption))).mono ?_); rintro e w5 ⟨rfl, hb⟩; have KB : Hid (Stage w.heap.size w3.heap.size b1 b2 b3 w w5) := Lib.hid (Stage.next (And.left (by assumption)) hb); clear hb)
    | (go_at_call 14; (with_reducible refine (E4.out _ (And.left (by assumption))).mono ?_); rintro e w5 ⟨rfl, hb⟩; have KB : Hid (Stage w.heap.size w3.heap.size b1 b2 b3 w w5) := Lib.hid (Stage.next (And.left (by assumption)) hb); clear hb)
    | (go_at_call 12; (with_reducible refine (P0.out _ (And.left (by assumption))).mono ?_); rintro e w5 ⟨rfl, hb⟩; have KB : Hid (Stage w.heap.size w3.heap.size b1 b2 b3 w w5) := Lib.hid (Stage.next (And.left (by assumption)) hb); clear hb)
    | (go_at_call 12; (with_reducible refine (P2.out _ (And.left (by assumption))).mono ?_); rintro e w5 ⟨rfl, hb⟩; have KB : Hid (Stage w.heap.size w3.heap.size b1 b2 b3 w w5) := Lib.hid (Stage.next (And.left (by assumption)) hb); clear hb)
    | (go_at_call 12; (with_reducible refine (P3.out _ (And.left (by assumption))).mono ?_); rintro e w5 ⟨rfl, hb⟩; have KB : Hid (Stage w.heap.size w3.heap.size b1 b2 b3 w w5) := Lib.hid (Stage.next (And.left (by assumption)) hb); clear hb)
    | (go_at_call 11; (with_reducible refine (K3.out _ (And.left (by assumption))).mono ?_); rintro e w5 ⟨B5, c5, rfl, hb⟩; have KB : Hid (Stage w.heap.size w3.heap.size b1 b2 b3 w w5) := Lib.hid (Stage.next (And.left (by assumption)) hb); clear hb)
    | (go_at_call 15; (with_reducible refine (CP.out _ (And.left (by assumption))).mono ?_); rintro e w5 ⟨BC, cC, rfl, hd, hb⟩; have KB : Hid (Stage w.heap.size w3.heap.size b1 b2 b3 w w5) := Lib.hid (Stage.next (And.left (by assumption)) hb); have DC := Lib.hid hd; clear hb hd)
    | (go_at_call 16; (with_reducible refine (S1.out BC cC _ (And.left (by assumption)) DC.out).mono ?_); rintro e w5 ⟨rfl, hb⟩; have KB : Hid (Stage w.heap.size w3.heap.size b1 b2 b3 w w5) := Lib.hid (Stage.next (And.left (by assumption)) hb); clear hb)
    | (go_at_call 16; (with_reducible refine (S2.out _ (And.left (by assumption))).mono ?_); rintro e w5 ⟨rfl, hb⟩; have KB : Hid (Stage w.heap.size w3.heap.size b1 b2 b3 w w5) := Lib.hid (Stage.next (And.left (by assumption)) hb); clear hb))
  go_wp2_with fail
  go_ret
  exact ⟨rfl, KB.out.below⟩
end Go.Proofs.Ytlkcmfohmkblfaa
