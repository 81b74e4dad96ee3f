/-
  What law 6's awake answers: yes, over any program that is in order.
-/
import Derived.Test.YtgfcddanikeelaaBlocks
import Derived.Test.YtgfcddanikeelaaStyleWidth
import Derived.Deep.Cut
namespace Go.Proofs.Ytgfcddanikeelaa
open Go.RowKit

def oddS : RS := { zeroS with display := 3 }
def lessS : RS := { zeroS with pad := fun i => if i = 2 then -1 else 0 }
def partS : RS := { zeroS with height := ⟨2, 1⟩ }
def sidesS : RS := { zeroS with pad := fun i => if i = 0 then 1 else if i = 1 then 2 else if i = 2 then 3 else 4, bord := fun i => if i = 0 then 10 else if i = 1 then 20 else if i = 2 then 30 else 40 }
def boxS : RS := { zeroS with width := ⟨1, 100⟩, pad := fun _ => 10 }
def wholeS : RS := { boxS with whole := true }
def smallS : RS := { wholeS with width := ⟨1, 5⟩ }
def fontS : RS := { zeroS with font := 12 }
theorem zeroS_ok : zeroS.ok := by
  constructor
  all_goals first
    | (constructor <;> decide)
    | (constructor <;> constructor <;> decide)
    | (intro i hi; obtain rfl | rfl | rfl | rfl : i = 0 ∨ i = 1 ∨ i = 2 ∨ i = 3 := by omega
       all_goals first
         | (constructor <;> decide)
         | (constructor <;> constructor <;> decide))
theorem oddS_ok : oddS.ok := by
  constructor
  all_goals first
    | (constructor <;> decide)
    | (constructor <;> constructor <;> decide)
    | (intro i hi; obtain rfl | rfl | rfl | rfl : i = 0 ∨ i = 1 ∨ i = 2 ∨ i = 3 := by omega
       all_goals first
         | (constructor <;> decide)
         | (constructor <;> constructor <;> decide))
theorem lessS_ok : lessS.ok := by
  constructor
  all_goals first
    | (constructor <;> decide)
    | (constructor <;> constructor <;> decide)
    | (intro i hi; obtain rfl | rfl | rfl | rfl : i = 0 ∨ i = 1 ∨ i = 2 ∨ i = 3 := by omega
       all_goals first
         | (constructor <;> decide)
         | (constructor <;> constructor <;> decide))
theorem partS_ok : partS.ok := by
  constructor
  all_goals first
    | (constructor <;> decide)
    | (constructor <;> constructor <;> decide)
    | (intro i hi; obtain rfl | rfl | rfl | rfl : i = 0 ∨ i = 1 ∨ i = 2 ∨ i = 3 := by omega
       all_goals first
         | (constructor <;> decide)
         | (constructor <;> constructor <;> decide))
theorem sidesS_ok : sidesS.ok := by
  constructor
  all_goals first
    | (constructor <;> decide)
    | (constructor <;> constructor <;> decide)
    | (intro i hi; obtain rfl | rfl | rfl | rfl : i = 0 ∨ i = 1 ∨ i = 2 ∨ i = 3 := by omega
       all_goals first
         | (constructor <;> decide)
         | (constructor <;> constructor <;> decide))
theorem boxS_ok : boxS.ok := by
  constructor
  all_goals first
    | (constructor <;> decide)
    | (constructor <;> constructor <;> decide)
    | (intro i hi; obtain rfl | rfl | rfl | rfl : i = 0 ∨ i = 1 ∨ i = 2 ∨ i = 3 := by omega
       all_goals first
         | (constructor <;> decide)
         | (constructor <;> constructor <;> decide))
theorem wholeS_ok : wholeS.ok := by
  constructor
  all_goals first
    | (constructor <;> decide)
    | (constructor <;> constructor <;> decide)
    | (intro i hi; obtain rfl | rfl | rfl | rfl : i = 0 ∨ i = 1 ∨ i = 2 ∨ i = 3 := by omega
       all_goals first
         | (constructor <;> decide)
         | (constructor <;> constructor <;> decide))
theorem smallS_ok : smallS.ok := by
  constructor
  all_goals first
    | (constructor <;> decide)
    | (constructor <;> constructor <;> decide)
    | (intro i hi; obtain rfl | rfl | rfl | rfl : i = 0 ∨ i = 1 ∨ i = 2 ∨ i = 3 := by omega
       all_goals first
         | (constructor <;> decide)
         | (constructor <;> constructor <;> decide))
theorem fontS_ok : fontS.ok := by
  constructor
  all_goals first
    | (constructor <;> decide)
    | (constructor <;> constructor <;> decide)
    | (intro i hi; obtain rfl | rfl | rfl | rfl : i = 0 ∨ i = 1 ∨ i = 2 ∨ i = 3 := by omega
       all_goals first
         | (constructor <;> decide)
         | (constructor <;> constructor <;> decide))

theorem run_build_zero (W : World) : (Instr.build 27 #[]).run Try.prog W = .ok (.agg zeroS.cells.toArray) W := by kernel_rfl
theorem run_build_sides (W : World) : (Instr.build 27 #[(9, .agg #[.int .i64 1, .int .i64 2, .int .i64 3, .int .i64 4]), (10, .agg #[.int .i64 10, .int .i64 20, .int .i64 30, .int .i64 40])]).run Try.prog W = .ok (.agg sidesS.cells.toArray) W := by kernel_rfl
theorem run_build_box (W : World) : (Instr.build 27 #[(2, .agg #[.int .u8 1, .int .i64 100]), (9, .agg #[.int .i64 10, .int .i64 10, .int .i64 10, .int .i64 10])]).run Try.prog W = .ok (.agg boxS.cells.toArray) W := by kernel_rfl
theorem run_build_font (W : World) : (Instr.build 27 #[(13, .int .i64 12)]).run Try.prog W = .ok (.agg fontS.cells.toArray) W := by kernel_rfl
theorem one_agg (xs : Array Value) (h : ∀ v ∈ xs.toList, v.oneCell' = true) : ∀ v ∈ (Value.agg xs).cells.toList, v.oneCell' = true := h
theorem one_int (k : IntKind) (n : Int) : ∀ v ∈ (Value.int k n).cells.toList, v.oneCell' = true := fun v hv => by simp [Value.cells] at hv; subst hv; rfl
theorem one_bool (b : Bool) : ∀ v ∈ (Value.bool b).cells.toList, v.oneCell' = true := fun v hv => by simp [Value.cells] at hv; subst hv; rfl
theorem one_agg2 (k j : IntKind) (n m : Int) : ∀ v ∈ (Value.agg #[.int k n, .int j m]).cells.toList, v.oneCell' = true := fun v hv => by simp [Value.cells] at hv; rcases hv with rfl | rfl <;> rfl
set_option maxRecDepth 100000 in
set_option maxHeartbeats 16000000 in
theorem awake_any (w : World) : Calls Try.prog 26 #[] w fun e w' => e = .returned (.bool true) ∧ Below w.heap.size w w' := by
  have CE := Lib.hid (fun W => edges_any sidesS sidesS_ok W (66, 44, 0) (by kernel_rfl))
  have CR1 := Lib.hid (fun W => resolve_any 2 5000 7 (by constructor <;> constructor <;> decide) (by unfold Big; omega) W (3, true, 0) (by kernel_rfl))
  have CR2 := Lib.hid (fun W => resolve_any 0 0 7 (by constructor <;> constructor <;> decide) (by unfold Big; omega) W (0, false, 0) (by kernel_rfl))
  have CW1 := Lib.hid (fun W => width_any boxS boxS_ok 500 (by unfold Big; omega) W (100, true, 0) (by kernel_rfl))
  have CW2 := Lib.hid (fun W => width_any wholeS wholeS_ok 500 (by unfold Big; omega) W (80, true, 0) (by kernel_rfl))
  have CW3 := Lib.hid (fun W => width_any smallS smallS_ok 500 (by unfold Big; omega) W (0, true, 0) (by kernel_rfl))
  have CWS := Lib.hid (fun W => widths_any zeroS zeroS_ok 50 (by unfold Big; omega) W (0, 1099511627776, 0) (by kernel_rfl))
  have CM1 := Lib.hid (fun W => may_any zeroS zeroS_ok W true (by kernel_rfl))
  have CM2 := Lib.hid (fun W => may_any oddS oddS_ok W false (by kernel_rfl))
  have CM3 := Lib.hid (fun W => may_any lessS lessS_ok W false (by kernel_rfl))
  have CM4 := Lib.hid (fun W => may_any partS partS_ok W false (by kernel_rfl))
  have CF1 := Lib.hid (fun W => font_any zeroS 16 W 16 (by kernel_rfl))
  have CF2 := Lib.hid (fun W => font_any fontS 16 W 12 (by kernel_rfl))
  have BL0 := Lib.hid (Blocks.nil w)
  go_enter Try.func26, Try.ntmps26
  go_upto_region 2 with (first | ((with_reducible change wpList _ _ _ (Oper.mk _ (Op.build 27 _) _ _ _ _ :: _) _ _); refine wpList_build_val rfl _ _ rfl _ (by intro W; simp only [List.map_toArray, List.map_nil]; exact run_build_zero W) ?_) | ((with_reducible change wpList _ _ _ (Oper.mk _ (Op.alloc 27) _ _ _ _ :: _) _ _); refine wpList_alloc_style rfl rfl ?_; intro wa1 g1 ha; have BL1 := Lib.hid (BL0.out.grew ha zeroS rfl); clear ha) | ((with_reducible change wpList _ _ _ (Oper.mk none (Op.store 27 _ _) _ _ _ _ :: _) _ _); refine wpList_store_style rfl _ _ rfl g1 rfl zeroS.cells.toArray rfl (style_cellsz zeroS) _ (BL1.out.box 0 rfl) (style_cellsz _).1 ?_; intro ws1 hs; have BL2 := Lib.hid (BL1.out.wrote hs 0 rfl zeroS rfl); clear hs))
  try simp only [Act.put, List.setIfInBounds_toArray, List.set_cons_zero, List.set_cons_succ]
  have BLs := Lib.hid BL2.out.drew
  go_cut [2, 3, 4] from 31 (fun p2 p3 p4 wx => ∃ g2 g3 g4 : Nat, p2 = .pointer (some ⟨g2, 0, none⟩) ∧ p3 = .pointer (some ⟨g3, 0, none⟩) ∧ p4 = .pointer (some ⟨g4, 0, none⟩) ∧ Hid (Blocks w wx [(g4, zeroS), (g3, zeroS), (g2, zeroS), (g1, zeroS)]))
  case first =>
    have SX : Hid (∀ W l k, Blocks w W l → l[k]? = some (g1, zeroS) → Box27 W g1 zeroS.cells.toArray ∧ Below w.heap.size w W) := Lib.hid (fun W l k h hk => ⟨h.box k hk, h.below⟩)
    have hS0 := SX.out _ _ 0 BLs.out rfl
    refine wp_region_held_drew (S := fun W => Box27 W g1 zeroS.cells.toArray ∧ Below w.heap.size w W) (by kernel_rfl) hS0 (fun _ => ?_)
    refine held_style 0 rfl (by kernel_rfl) (by kernel_rfl) (by kernel_rfl) (fun _ _ _ _ h => h) _ rfl (by rfl) g1 zeroS.cells.toArray rfl (fun _ h => h.1) (style_cellsz _).1 hS0 ?_
    try simp only [Act.put, List.setIfInBounds_toArray, List.set_cons_zero, List.set_cons_succ]
    refine held_style 1 rfl (by kernel_rfl) (by kernel_rfl) (by kernel_rfl) (fun _ _ _ _ h => h) _ rfl (by rfl) g1 zeroS.cells.toArray rfl (fun _ h => h.1) (style_cellsz _).1 hS0 ?_
    try simp only [Act.put, List.setIfInBounds_toArray, List.set_cons_zero, List.set_cons_succ]
    refine held_style 2 rfl (by kernel_rfl) (by kernel_rfl) (by kernel_rfl) (fun _ _ _ _ h => h) _ rfl (by rfl) g1 zeroS.cells.toArray rfl (fun _ h => h.1) (style_cellsz _).1 hS0 ?_
    try simp only [Act.put, List.setIfInBounds_toArray, List.set_cons_zero, List.set_cons_succ]
    refine wpAnyH_ready (rs := [3, 4, 5]) (by kernel_rfl) (by simp) ?_
    refine AllReadyH.cons rfl (fun K hK => ?_) ?_
    · rw [if_pos (by rfl)]
      refine wp_alloc_style rfl (fun Wp3 g2 ha => ?_)
      have Bp3 := Lib.hid (BLs.out.grew ha zeroS rfl)
      clear ha
      refine hK.out _ _ (SX.out _ _ 1 Bp3.out rfl) (fun _ => ?_)
      clear hK K
      try simp only [Act.put, List.setIfInBounds_toArray]
      refine wpAnyH_ready (rs := [4, 5]) (by kernel_rfl) (by simp) ?_
      refine AllReadyH.cons rfl (fun K hK => ?_) ?_
      · rw [if_pos (by rfl)]
        refine wp_alloc_style rfl (fun Wp34 g3 ha => ?_)
        have Bp34 := Lib.hid (Bp3.out.grew ha zeroS rfl)
        clear ha
        refine hK.out _ _ (SX.out _ _ 2 Bp34.out rfl) (fun _ => ?_)
        clear hK K
        try simp only [Act.put]
        refine wpAnyH_ready (rs := [5]) (by kernel_rfl) (by simp) ?_
        refine AllReadyH.cons rfl (fun K hK => ?_) ?_
        · rw [if_pos (by rfl)]
          refine wp_alloc_style rfl (fun Wp345 g4 ha => ?_)
          have Bp345 := Lib.hid (Bp34.out.grew ha zeroS rfl)
          clear ha
          refine hK.out _ _ (SX.out _ _ 3 Bp345.out rfl) (fun _ => ?_)
          clear hK K
          try simp only [Act.put]
          refine held_one 6 rfl (by kernel_rfl) (by rfl) (fun K hK => ?_)
          refine wp_store_style _ _ rfl g2 rfl zeroS.cells.toArray rfl (style_cellsz _) _ (Bp345.out.box 2 rfl) (style_cellsz _).1 (fun Wp3456 hs => ?_)
          have Bp345s6 := Lib.hid (Bp345.out.wrote hs 2 rfl zeroS rfl)
          clear hs
          refine hK.out _ _ (SX.out _ _ 3 Bp345s6.out rfl) (fun _ => ?_)
          clear hK K
          try simp only [Act.put]
          refine held_one 7 rfl (by kernel_rfl) (by rfl) (fun K hK => ?_)
          refine wp_store_style _ _ rfl g3 rfl zeroS.cells.toArray rfl (style_cellsz _) _ (Bp345s6.out.box 1 rfl) (style_cellsz _).1 (fun Wp3457 hs => ?_)
          have Bp345s7 := Lib.hid (Bp345s6.out.wrote hs 1 rfl zeroS rfl)
          clear hs
          refine hK.out _ _ (SX.out _ _ 3 Bp345s7.out rfl) (fun _ => ?_)
          clear hK K
          try simp only [Act.put]
          refine held_one 8 rfl (by kernel_rfl) (by rfl) (fun K hK => ?_)
          refine wp_store_style _ _ rfl g4 rfl zeroS.cells.toArray rfl (style_cellsz _) _ (Bp345s7.out.box 0 rfl) (style_cellsz _).1 (fun Wp3458 hs => ?_)
          have Bp345s8 := Lib.hid (Bp345s7.out.wrote hs 0 rfl zeroS rfl)
          clear hs
          refine hK.out _ _ (SX.out _ _ 3 Bp345s8.out rfl) (fun _ => ?_)
          clear hK K
          try simp only [Act.put]
          refine wpAnyH_done (by kernel_rfl) ?_ _
          go_wp2_with fail
          go_meet
          exact ⟨g2, g3, g4, rfl, rfl, rfl, Lib.hid Bp345s8.out⟩
        exact AllReadyH.nil
      refine AllReadyH.cons rfl (fun K hK => ?_) ?_
      · rw [if_pos (by rfl)]
        refine wp_alloc_style rfl (fun Wp35 g4 ha => ?_)
        have Bp35 := Lib.hid (Bp3.out.grew ha zeroS rfl)
        clear ha
        refine hK.out _ _ (SX.out _ _ 2 Bp35.out rfl) (fun _ => ?_)
        clear hK K
        try simp only [Act.put]
        refine wpAnyH_ready (rs := [4]) (by kernel_rfl) (by simp) ?_
        refine AllReadyH.cons rfl (fun K hK => ?_) ?_
        · rw [if_pos (by rfl)]
          refine wp_alloc_style rfl (fun Wp354 g3 ha => ?_)
          have Bp354 := Lib.hid (Bp35.out.grew ha zeroS rfl)
          clear ha
          refine hK.out _ _ (SX.out _ _ 3 Bp354.out rfl) (fun _ => ?_)
          clear hK K
          try simp only [Act.put]
          have Bp354w1 := Lib.hid Bp354.out.swap
          refine held_one 6 rfl (by kernel_rfl) (by rfl) (fun K hK => ?_)
          refine wp_store_style _ _ rfl g2 rfl zeroS.cells.toArray rfl (style_cellsz _) _ (Bp354w1.out.box 2 rfl) (style_cellsz _).1 (fun Wp3546 hs => ?_)
          have Bp354s6 := Lib.hid (Bp354w1.out.wrote hs 2 rfl zeroS rfl)
          clear hs
          refine hK.out _ _ (SX.out _ _ 3 Bp354s6.out rfl) (fun _ => ?_)
          clear hK K
          try simp only [Act.put]
          refine held_one 7 rfl (by kernel_rfl) (by rfl) (fun K hK => ?_)
          refine wp_store_style _ _ rfl g3 rfl zeroS.cells.toArray rfl (style_cellsz _) _ (Bp354s6.out.box 1 rfl) (style_cellsz _).1 (fun Wp3547 hs => ?_)
          have Bp354s7 := Lib.hid (Bp354s6.out.wrote hs 1 rfl zeroS rfl)
          clear hs
          refine hK.out _ _ (SX.out _ _ 3 Bp354s7.out rfl) (fun _ => ?_)
          clear hK K
          try simp only [Act.put]
          refine held_one 8 rfl (by kernel_rfl) (by rfl) (fun K hK => ?_)
          refine wp_store_style _ _ rfl g4 rfl zeroS.cells.toArray rfl (style_cellsz _) _ (Bp354s7.out.box 0 rfl) (style_cellsz _).1 (fun Wp3548 hs => ?_)
          have Bp354s8 := Lib.hid (Bp354s7.out.wrote hs 0 rfl zeroS rfl)
          clear hs
          refine hK.out _ _ (SX.out _ _ 3 Bp354s8.out rfl) (fun _ => ?_)
          clear hK K
          try simp only [Act.put]
          refine wpAnyH_done (by kernel_rfl) ?_ _
          go_wp2_with fail
          go_meet
          exact ⟨g2, g3, g4, rfl, rfl, rfl, Lib.hid Bp354s8.out⟩
        exact AllReadyH.nil
      exact AllReadyH.nil
    refine AllReadyH.cons rfl (fun K hK => ?_) ?_
    · rw [if_pos (by rfl)]
      refine wp_alloc_style rfl (fun Wp4 g3 ha => ?_)
      have Bp4 := Lib.hid (BLs.out.grew ha zeroS rfl)
      clear ha
      refine hK.out _ _ (SX.out _ _ 1 Bp4.out rfl) (fun _ => ?_)
      clear hK K
      try simp only [Act.put, List.setIfInBounds_toArray]
      refine wpAnyH_ready (rs := [3, 5]) (by kernel_rfl) (by simp) ?_
      refine AllReadyH.cons rfl (fun K hK => ?_) ?_
      · rw [if_pos (by rfl)]
        refine wp_alloc_style rfl (fun Wp43 g2 ha => ?_)
        have Bp43 := Lib.hid (Bp4.out.grew ha zeroS rfl)
        clear ha
        refine hK.out _ _ (SX.out _ _ 2 Bp43.out rfl) (fun _ => ?_)
        clear hK K
        try simp only [Act.put]
        refine wpAnyH_ready (rs := [5]) (by kernel_rfl) (by simp) ?_
        refine AllReadyH.cons rfl (fun K hK => ?_) ?_
        · rw [if_pos (by rfl)]
          refine wp_alloc_style rfl (fun Wp435 g4 ha => ?_)
          have Bp435 := Lib.hid (Bp43.out.grew ha zeroS rfl)
          clear ha
          refine hK.out _ _ (SX.out _ _ 3 Bp435.out rfl) (fun _ => ?_)
          clear hK K
          try simp only [Act.put]
          have Bp435w1 := Lib.hid Bp435.out.swap1
          refine held_one 6 rfl (by kernel_rfl) (by rfl) (fun K hK => ?_)
          refine wp_store_style _ _ rfl g2 rfl zeroS.cells.toArray rfl (style_cellsz _) _ (Bp435w1.out.box 2 rfl) (style_cellsz _).1 (fun Wp4356 hs => ?_)
          have Bp435s6 := Lib.hid (Bp435w1.out.wrote hs 2 rfl zeroS rfl)
          clear hs
          refine hK.out _ _ (SX.out _ _ 3 Bp435s6.out rfl) (fun _ => ?_)
          clear hK K
          try simp only [Act.put]
          refine held_one 7 rfl (by kernel_rfl) (by rfl) (fun K hK => ?_)
          refine wp_store_style _ _ rfl g3 rfl zeroS.cells.toArray rfl (style_cellsz _) _ (Bp435s6.out.box 1 rfl) (style_cellsz _).1 (fun Wp4357 hs => ?_)
          have Bp435s7 := Lib.hid (Bp435s6.out.wrote hs 1 rfl zeroS rfl)
          clear hs
          refine hK.out _ _ (SX.out _ _ 3 Bp435s7.out rfl) (fun _ => ?_)
          clear hK K
          try simp only [Act.put]
          refine held_one 8 rfl (by kernel_rfl) (by rfl) (fun K hK => ?_)
          refine wp_store_style _ _ rfl g4 rfl zeroS.cells.toArray rfl (style_cellsz _) _ (Bp435s7.out.box 0 rfl) (style_cellsz _).1 (fun Wp4358 hs => ?_)
          have Bp435s8 := Lib.hid (Bp435s7.out.wrote hs 0 rfl zeroS rfl)
          clear hs
          refine hK.out _ _ (SX.out _ _ 3 Bp435s8.out rfl) (fun _ => ?_)
          clear hK K
          try simp only [Act.put]
          refine wpAnyH_done (by kernel_rfl) ?_ _
          go_wp2_with fail
          go_meet
          exact ⟨g2, g3, g4, rfl, rfl, rfl, Lib.hid Bp435s8.out⟩
        exact AllReadyH.nil
      refine AllReadyH.cons rfl (fun K hK => ?_) ?_
      · rw [if_pos (by rfl)]
        refine wp_alloc_style rfl (fun Wp45 g4 ha => ?_)
        have Bp45 := Lib.hid (Bp4.out.grew ha zeroS rfl)
        clear ha
        refine hK.out _ _ (SX.out _ _ 2 Bp45.out rfl) (fun _ => ?_)
        clear hK K
        try simp only [Act.put]
        refine wpAnyH_ready (rs := [3]) (by kernel_rfl) (by simp) ?_
        refine AllReadyH.cons rfl (fun K hK => ?_) ?_
        · rw [if_pos (by rfl)]
          refine wp_alloc_style rfl (fun Wp453 g2 ha => ?_)
          have Bp453 := Lib.hid (Bp45.out.grew ha zeroS rfl)
          clear ha
          refine hK.out _ _ (SX.out _ _ 3 Bp453.out rfl) (fun _ => ?_)
          clear hK K
          try simp only [Act.put]
          have Bp453w1 := Lib.hid Bp453.out.swap
          have Bp453w2 := Lib.hid Bp453w1.out.swap1
          refine held_one 6 rfl (by kernel_rfl) (by rfl) (fun K hK => ?_)
          refine wp_store_style _ _ rfl g2 rfl zeroS.cells.toArray rfl (style_cellsz _) _ (Bp453w2.out.box 2 rfl) (style_cellsz _).1 (fun Wp4536 hs => ?_)
          have Bp453s6 := Lib.hid (Bp453w2.out.wrote hs 2 rfl zeroS rfl)
          clear hs
          refine hK.out _ _ (SX.out _ _ 3 Bp453s6.out rfl) (fun _ => ?_)
          clear hK K
          try simp only [Act.put]
          refine held_one 7 rfl (by kernel_rfl) (by rfl) (fun K hK => ?_)
          refine wp_store_style _ _ rfl g3 rfl zeroS.cells.toArray rfl (style_cellsz _) _ (Bp453s6.out.box 1 rfl) (style_cellsz _).1 (fun Wp4537 hs => ?_)
          have Bp453s7 := Lib.hid (Bp453s6.out.wrote hs 1 rfl zeroS rfl)
          clear hs
          refine hK.out _ _ (SX.out _ _ 3 Bp453s7.out rfl) (fun _ => ?_)
          clear hK K
          try simp only [Act.put]
          refine held_one 8 rfl (by kernel_rfl) (by rfl) (fun K hK => ?_)
          refine wp_store_style _ _ rfl g4 rfl zeroS.cells.toArray rfl (style_cellsz _) _ (Bp453s7.out.box 0 rfl) (style_cellsz _).1 (fun Wp4538 hs => ?_)
          have Bp453s8 := Lib.hid (Bp453s7.out.wrote hs 0 rfl zeroS rfl)
          clear hs
          refine hK.out _ _ (SX.out _ _ 3 Bp453s8.out rfl) (fun _ => ?_)
          clear hK K
          try simp only [Act.put]
          refine wpAnyH_done (by kernel_rfl) ?_ _
          go_wp2_with fail
          go_meet
          exact ⟨g2, g3, g4, rfl, rfl, rfl, Lib.hid Bp453s8.out⟩
        exact AllReadyH.nil
      exact AllReadyH.nil
    refine AllReadyH.cons rfl (fun K hK => ?_) ?_
    · rw [if_pos (by rfl)]
      refine wp_alloc_style rfl (fun Wp5 g4 ha => ?_)
      have Bp5 := Lib.hid (BLs.out.grew ha zeroS rfl)
      clear ha
      refine hK.out _ _ (SX.out _ _ 1 Bp5.out rfl) (fun _ => ?_)
      clear hK K
      try simp only [Act.put, List.setIfInBounds_toArray]
      refine wpAnyH_ready (rs := [3, 4]) (by kernel_rfl) (by simp) ?_
      refine AllReadyH.cons rfl (fun K hK => ?_) ?_
      · rw [if_pos (by rfl)]
        refine wp_alloc_style rfl (fun Wp53 g2 ha => ?_)
        have Bp53 := Lib.hid (Bp5.out.grew ha zeroS rfl)
        clear ha
        refine hK.out _ _ (SX.out _ _ 2 Bp53.out rfl) (fun _ => ?_)
        clear hK K
        try simp only [Act.put]
        refine wpAnyH_ready (rs := [4]) (by kernel_rfl) (by simp) ?_
        refine AllReadyH.cons rfl (fun K hK => ?_) ?_
        · rw [if_pos (by rfl)]
          refine wp_alloc_style rfl (fun Wp534 g3 ha => ?_)
          have Bp534 := Lib.hid (Bp53.out.grew ha zeroS rfl)
          clear ha
          refine hK.out _ _ (SX.out _ _ 3 Bp534.out rfl) (fun _ => ?_)
          clear hK K
          try simp only [Act.put]
          have Bp534w1 := Lib.hid Bp534.out.swap1
          have Bp534w2 := Lib.hid Bp534w1.out.swap
          refine held_one 6 rfl (by kernel_rfl) (by rfl) (fun K hK => ?_)
          refine wp_store_style _ _ rfl g2 rfl zeroS.cells.toArray rfl (style_cellsz _) _ (Bp534w2.out.box 2 rfl) (style_cellsz _).1 (fun Wp5346 hs => ?_)
          have Bp534s6 := Lib.hid (Bp534w2.out.wrote hs 2 rfl zeroS rfl)
          clear hs
          refine hK.out _ _ (SX.out _ _ 3 Bp534s6.out rfl) (fun _ => ?_)
          clear hK K
          try simp only [Act.put]
          refine held_one 7 rfl (by kernel_rfl) (by rfl) (fun K hK => ?_)
          refine wp_store_style _ _ rfl g3 rfl zeroS.cells.toArray rfl (style_cellsz _) _ (Bp534s6.out.box 1 rfl) (style_cellsz _).1 (fun Wp5347 hs => ?_)
          have Bp534s7 := Lib.hid (Bp534s6.out.wrote hs 1 rfl zeroS rfl)
          clear hs
          refine hK.out _ _ (SX.out _ _ 3 Bp534s7.out rfl) (fun _ => ?_)
          clear hK K
          try simp only [Act.put]
          refine held_one 8 rfl (by kernel_rfl) (by rfl) (fun K hK => ?_)
          refine wp_store_style _ _ rfl g4 rfl zeroS.cells.toArray rfl (style_cellsz _) _ (Bp534s7.out.box 0 rfl) (style_cellsz _).1 (fun Wp5348 hs => ?_)
          have Bp534s8 := Lib.hid (Bp534s7.out.wrote hs 0 rfl zeroS rfl)
          clear hs
          refine hK.out _ _ (SX.out _ _ 3 Bp534s8.out rfl) (fun _ => ?_)
          clear hK K
          try simp only [Act.put]
          refine wpAnyH_done (by kernel_rfl) ?_ _
          go_wp2_with fail
          go_meet
          exact ⟨g2, g3, g4, rfl, rfl, rfl, Lib.hid Bp534s8.out⟩
        exact AllReadyH.nil
      refine AllReadyH.cons rfl (fun K hK => ?_) ?_
      · rw [if_pos (by rfl)]
        refine wp_alloc_style rfl (fun Wp54 g3 ha => ?_)
        have Bp54 := Lib.hid (Bp5.out.grew ha zeroS rfl)
        clear ha
        refine hK.out _ _ (SX.out _ _ 2 Bp54.out rfl) (fun _ => ?_)
        clear hK K
        try simp only [Act.put]
        refine wpAnyH_ready (rs := [3]) (by kernel_rfl) (by simp) ?_
        refine AllReadyH.cons rfl (fun K hK => ?_) ?_
        · rw [if_pos (by rfl)]
          refine wp_alloc_style rfl (fun Wp543 g2 ha => ?_)
          have Bp543 := Lib.hid (Bp54.out.grew ha zeroS rfl)
          clear ha
          refine hK.out _ _ (SX.out _ _ 3 Bp543.out rfl) (fun _ => ?_)
          clear hK K
          try simp only [Act.put]
          have Bp543w1 := Lib.hid Bp543.out.swap
          have Bp543w2 := Lib.hid Bp543w1.out.swap1
          have Bp543w3 := Lib.hid Bp543w2.out.swap
          refine held_one 6 rfl (by kernel_rfl) (by rfl) (fun K hK => ?_)
          refine wp_store_style _ _ rfl g2 rfl zeroS.cells.toArray rfl (style_cellsz _) _ (Bp543w3.out.box 2 rfl) (style_cellsz _).1 (fun Wp5436 hs => ?_)
          have Bp543s6 := Lib.hid (Bp543w3.out.wrote hs 2 rfl zeroS rfl)
          clear hs
          refine hK.out _ _ (SX.out _ _ 3 Bp543s6.out rfl) (fun _ => ?_)
          clear hK K
          try simp only [Act.put]
          refine held_one 7 rfl (by kernel_rfl) (by rfl) (fun K hK => ?_)
          refine wp_store_style _ _ rfl g3 rfl zeroS.cells.toArray rfl (style_cellsz _) _ (Bp543s6.out.box 1 rfl) (style_cellsz _).1 (fun Wp5437 hs => ?_)
          have Bp543s7 := Lib.hid (Bp543s6.out.wrote hs 1 rfl zeroS rfl)
          clear hs
          refine hK.out _ _ (SX.out _ _ 3 Bp543s7.out rfl) (fun _ => ?_)
          clear hK K
          try simp only [Act.put]
          refine held_one 8 rfl (by kernel_rfl) (by rfl) (fun K hK => ?_)
          refine wp_store_style _ _ rfl g4 rfl zeroS.cells.toArray rfl (style_cellsz _) _ (Bp543s7.out.box 0 rfl) (style_cellsz _).1 (fun Wp5438 hs => ?_)
          have Bp543s8 := Lib.hid (Bp543s7.out.wrote hs 0 rfl zeroS rfl)
          clear hs
          refine hK.out _ _ (SX.out _ _ 3 Bp543s8.out rfl) (fun _ => ?_)
          clear hK K
          try simp only [Act.put]
          refine wpAnyH_done (by kernel_rfl) ?_ _
          go_wp2_with fail
          go_meet
          exact ⟨g2, g3, g4, rfl, rfl, rfl, Lib.hid Bp543s8.out⟩
        exact AllReadyH.nil
      exact AllReadyH.nil
    exact AllReadyH.nil
  case rest =>
    obtain ⟨g2, g3, g4, rfl, rfl, rfl, BLr⟩ := hcut
    obtain ⟨wr, rfl⟩ : ∃ wo : World, wo = wc := ⟨_, rfl⟩
    have t5 := True.intro
    have t3 := True.intro
    have t23 := True.intro
    go_upto_region 4 with (first | ((with_reducible change wpList _ _ _ (Oper.mk none (Op.store 5 _ _) _ _ _ _ :: _) _ _); have tok := t5; refine wpList_store_part rfl 5 _ _ rfl g2 0 rfl (.int .u8 3) rfl _ (BLr.out.box 2 rfl) (by kernel_rfl) (one_int _ _) (by rw [(style_cellsz _).1]; decide) oddS.cells.toArray (by kernel_rfl) ?_; intro w31 hs; have BL3 := Lib.hid (BLr.out.wrote hs 2 rfl oddS rfl); clear hs tok t5) | ((with_reducible change wpList _ _ _ (Oper.mk none (Op.store 3 _ _) _ _ _ _ :: _) _ _); have tok := t3; refine wpList_store_part rfl 3 _ _ rfl g3 24 rfl (.int .i64 (-1)) rfl _ (BL3.out.box 1 rfl) (by kernel_rfl) (one_int _ _) (by rw [(style_cellsz _).1]; decide) lessS.cells.toArray (by kernel_rfl) ?_; intro w32 hs; have BL4 := Lib.hid (BL3.out.wrote hs 1 rfl lessS rfl); clear hs tok t3) | ((with_reducible change wpList _ _ _ (Oper.mk none (Op.store 23 _ _) _ _ _ _ :: _) _ _); have tok := t23; refine wpList_store_part rfl 23 _ _ rfl g4 8 rfl (.agg #[.int .u8 2, .int .i64 1]) rfl _ (BL4.out.box 0 rfl) (by kernel_rfl) (one_agg2 _ _ _ _) (by rw [(style_cellsz _).1]; decide) partS.cells.toArray (by kernel_rfl) ?_; intro w33 hs; have BL5 := Lib.hid (BL4.out.wrote hs 0 rfl partS rfl); clear hs tok t23))
    try simp only [Act.put]
    go_upto_region 5 with (first | ((with_reducible change wpList _ _ _ (Oper.mk _ (Op.build 27 _) _ _ _ _ :: _) _ _); refine wpList_build_val rfl _ _ rfl _ (by intro W; simp only [List.map_toArray, List.map_cons, List.map_nil]; exact run_build_sides W) ?_) | ((with_reducible change wpList _ _ _ (Oper.mk _ (Op.alloc 27) _ _ _ _ :: _) _ _); refine wpList_alloc_style rfl rfl ?_; intro wa5 g5 ha; have BL6 := Lib.hid (BL5.out.grew ha zeroS rfl); clear ha) | ((with_reducible change wpList _ _ _ (Oper.mk none (Op.store 27 _ _) _ _ _ _ :: _) _ _); refine wpList_store_style rfl _ _ rfl g5 rfl sidesS.cells.toArray rfl (style_cellsz sidesS) _ (BL6.out.box 0 rfl) (style_cellsz _).1 ?_; intro ws5 hs; have BL7 := Lib.hid (BL6.out.wrote hs 0 rfl sidesS rfl); clear hs))
    try simp only [Act.put, List.setIfInBounds_toArray, List.set_cons_zero, List.set_cons_succ]
    go_upto_region 6 with (first | ((with_reducible change wpList _ _ _ (Oper.mk _ (Op.build 27 _) _ _ _ _ :: _) _ _); refine wpList_build_val rfl _ _ rfl _ (by intro W; simp only [List.map_toArray, List.map_cons, List.map_nil]; exact run_build_box W) ?_) | ((with_reducible change wpList _ _ _ (Oper.mk _ (Op.alloc 27) _ _ _ _ :: _) _ _); refine wpList_alloc_style rfl rfl ?_; intro wa6 g6 ha; have BL8 := Lib.hid (BL7.out.grew ha zeroS rfl); clear ha) | ((with_reducible change wpList _ _ _ (Oper.mk none (Op.store 27 _ _) _ _ _ _ :: _) _ _); refine wpList_store_style rfl _ _ rfl g6 rfl boxS.cells.toArray rfl (style_cellsz boxS) _ (BL8.out.box 0 rfl) (style_cellsz _).1 ?_; intro ws6 hs; have BL9 := Lib.hid (BL8.out.wrote hs 0 rfl boxS rfl); clear hs))
    try simp only [Act.put, List.setIfInBounds_toArray, List.set_cons_zero, List.set_cons_succ]
    go_upto_region 7 with (first | (refine wpList_load_style (o := ⟨some 45, _, _, _, _, _⟩) rfl _ rfl g6 rfl _ (BL9.out.box 0 rfl) (style_cellsz _).1 ?_) | ((with_reducible change wpList _ _ _ (Oper.mk _ (Op.alloc 27) _ _ _ _ :: _) _ _); refine wpList_alloc_style rfl rfl ?_; intro wa7 g7 ha; have BL10 := Lib.hid (BL9.out.grew ha zeroS rfl); clear ha) | ((with_reducible change wpList _ _ _ (Oper.mk none (Op.store 27 _ _) _ _ _ _ :: _) _ _); refine wpList_store_style rfl _ _ rfl g7 rfl boxS.cells.toArray rfl (style_cellsz boxS) _ (BL10.out.box 0 rfl) (style_cellsz _).1 ?_; intro ws7 hs; have BL11 := Lib.hid (BL10.out.wrote hs 0 rfl boxS rfl); clear hs))
    try simp only [Act.put, List.setIfInBounds_toArray, List.set_cons_zero, List.set_cons_succ]
    have t4 := True.intro
    go_upto_region 8 with (first | ((with_reducible change wpList _ _ _ (Oper.mk none (Op.store 4 _ _) _ _ _ _ :: _) _ _); have tok := t4; refine wpList_store_part rfl 4 _ _ rfl g7 1 rfl (.bool true) rfl _ (BL11.out.box 0 rfl) (by kernel_rfl) (one_bool _) (by rw [(style_cellsz _).1]; decide) wholeS.cells.toArray (by kernel_rfl) ?_; intro w71 hs; have BL12 := Lib.hid (BL11.out.wrote hs 0 rfl wholeS rfl); clear hs tok t4))
    try simp only [Act.put]
    go_upto_region 9 with (first | (refine wpList_load_style (o := ⟨some 47, _, _, _, _, _⟩) rfl _ rfl g7 rfl _ (BL12.out.box 0 rfl) (style_cellsz _).1 ?_) | ((with_reducible change wpList _ _ _ (Oper.mk _ (Op.alloc 27) _ _ _ _ :: _) _ _); refine wpList_alloc_style rfl rfl ?_; intro wa8 g8 ha; have BL13 := Lib.hid (BL12.out.grew ha zeroS rfl); clear ha) | ((with_reducible change wpList _ _ _ (Oper.mk none (Op.store 27 _ _) _ _ _ _ :: _) _ _); refine wpList_store_style rfl _ _ rfl g8 rfl wholeS.cells.toArray rfl (style_cellsz wholeS) _ (BL13.out.box 0 rfl) (style_cellsz _).1 ?_; intro ws8 hs; have BL14 := Lib.hid (BL13.out.wrote hs 0 rfl wholeS rfl); clear hs))
    try simp only [Act.put, List.setIfInBounds_toArray, List.set_cons_zero, List.set_cons_succ]
    have t3 := True.intro
    go_upto_region 10 with (first | ((with_reducible change wpList _ _ _ (Oper.mk none (Op.store 3 _ _) _ _ _ _ :: _) _ _); have tok := t3; refine wpList_store_part rfl 3 _ _ rfl g8 3 rfl (.int .i64 5) rfl _ (BL14.out.box 0 rfl) (by kernel_rfl) (one_int _ _) (by rw [(style_cellsz _).1]; decide) smallS.cells.toArray (by kernel_rfl) ?_; intro w91 hs; have BL15 := Lib.hid (BL14.out.wrote hs 0 rfl smallS rfl); clear hs tok t3))
    try simp only [Act.put]
    go_wp2_with (refine wpList_load_style (o := ⟨some 51, _, _, _, _, _⟩) rfl _ rfl g5 rfl _ (BL15.out.box 3 rfl) (style_cellsz _).1 ?_)
    refine (CE.out _).mono ?_
    rintro e wq1 ⟨rfl, hb⟩
    have BL16 := Lib.hid (BL15.out.call hb)
    clear hb
    go_wp2_with fail
    refine (CR1.out _).mono ?_
    rintro e wq2 ⟨rfl, hb⟩
    have BL17 := Lib.hid (BL16.out.call hb)
    clear hb
    go_wp2_with fail
    refine (CR2.out _).mono ?_
    rintro e wq3 ⟨rfl, hb⟩
    have BL18 := Lib.hid (BL17.out.call hb)
    clear hb
    go_wp2_with (refine wpList_load_style (o := ⟨some 69, _, _, _, _, _⟩) rfl _ rfl g6 rfl _ (BL18.out.box 2 rfl) (style_cellsz _).1 ?_)
    refine (CW1.out _).mono ?_
    rintro e wq4 ⟨rfl, hb⟩
    have BL19 := Lib.hid (BL18.out.call hb)
    clear hb
    go_wp2_with (refine wpList_load_style (o := ⟨some 75, _, _, _, _, _⟩) rfl _ rfl g7 rfl _ (BL19.out.box 1 rfl) (style_cellsz _).1 ?_)
    refine (CW2.out _).mono ?_
    rintro e wq5 ⟨rfl, hb⟩
    have BL20 := Lib.hid (BL19.out.call hb)
    clear hb
    go_wp2_with (refine wpList_load_style (o := ⟨some 81, _, _, _, _, _⟩) rfl _ rfl g8 rfl _ (BL20.out.box 0 rfl) (style_cellsz _).1 ?_)
    refine (CW3.out _).mono ?_
    rintro e wq6 ⟨rfl, hb⟩
    have BL21 := Lib.hid (BL20.out.call hb)
    clear hb
    go_wp2_with (refine wpList_load_style (o := ⟨some 87, _, _, _, _, _⟩) rfl _ rfl g1 rfl _ (BL21.out.box 7 rfl) (style_cellsz _).1 ?_)
    refine (CWS.out _).mono ?_
    rintro e wq7 ⟨rfl, hb⟩
    have BL22 := Lib.hid (BL21.out.call hb)
    clear hb
    go_wp2_with (refine wpList_load_style (o := ⟨some 92, _, _, _, _, _⟩) rfl _ rfl g1 rfl _ (BL22.out.box 7 rfl) (style_cellsz _).1 ?_)
    refine (CM1.out _).mono ?_
    rintro e wq8 ⟨rfl, hb⟩
    have BL23 := Lib.hid (BL22.out.call hb)
    clear hb
    go_wp2_with (refine wpList_load_style (o := ⟨some 96, _, _, _, _, _⟩) rfl _ rfl g2 rfl _ (BL23.out.box 6 rfl) (style_cellsz _).1 ?_)
    refine (CM2.out _).mono ?_
    rintro e wq9 ⟨rfl, hb⟩
    have BL24 := Lib.hid (BL23.out.call hb)
    clear hb
    go_wp2_with (refine wpList_load_style (o := ⟨some 100, _, _, _, _, _⟩) rfl _ rfl g3 rfl _ (BL24.out.box 5 rfl) (style_cellsz _).1 ?_)
    refine (CM3.out _).mono ?_
    rintro e wq10 ⟨rfl, hb⟩
    have BL25 := Lib.hid (BL24.out.call hb)
    clear hb
    go_wp2_with (refine wpList_load_style (o := ⟨some 104, _, _, _, _, _⟩) rfl _ rfl g4 rfl _ (BL25.out.box 4 rfl) (style_cellsz _).1 ?_)
    refine (CM4.out _).mono ?_
    rintro e wq11 ⟨rfl, hb⟩
    have BL26 := Lib.hid (BL25.out.call hb)
    clear hb
    go_wp2_with (refine wpList_load_style (o := ⟨some 152, _, _, _, _, _⟩) rfl _ rfl g1 rfl _ (BL26.out.box 7 rfl) (style_cellsz _).1 ?_)
    refine (CF1.out _).mono ?_
    rintro e wq12 ⟨rfl, hb⟩
    have BL27 := Lib.hid (BL26.out.call hb)
    clear hb
    go_wp2_with ((with_reducible change wpList _ _ _ (Oper.mk _ (Op.build 27 _) _ _ _ _ :: _) _ _); refine wpList_build_val rfl _ _ rfl _ (by intro W; simp only [List.map_toArray, List.map_cons, List.map_nil]; exact run_build_font W) ?_)
    refine (CF2.out _).mono ?_
    rintro e wq13 ⟨rfl, hb⟩
    have BL28 := Lib.hid (BL27.out.call hb)
    clear hb
    go_wp2_with fail
    go_ret
    exact ⟨rfl, BL28.out.below⟩
end Go.Proofs.Ytgfcddanikeelaa
