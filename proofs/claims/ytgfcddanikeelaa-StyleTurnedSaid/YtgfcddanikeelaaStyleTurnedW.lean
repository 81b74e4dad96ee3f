/-
  The walk of StyleTurned.
-/
import Derived.Test.YtgfcddanikeelaaAwake6
import Derived.Test.YtgfcddanikeelaaStyleMath
import Derived.Test.YtgfcddanikeelaaStyleArg
import Derived.Deep.Cut
namespace Go.Proofs.Ytgfcddanikeelaa
open Go.RowKit

/-- one alone has its margin on the right written -/
def marginL (s : RS) : RS := { s with margin := fun i => if i = 3 then s.margin 1 else s.margin i }
def crossL (s : RS) : RS := { marginS s with pad := fun i => if i = 3 then s.bord 1 else s.pad i }
def turnT (s : RS) : RS := { crossS s with pad := fun i => if i = 0 then s.pad 2 else if i = 3 then s.bord 1 else s.pad i }
set_option maxRecDepth 100000 in
set_option maxHeartbeats 16000000 in
theorem walkStyleTurned (z0 : RS) (a1 : Int) (w : World) (w0 : z0.ok) (w1 : (Lit.int .i64 a1).wf = true) :
    Calls Try.prog 8 #[styleV z0, .int .i64 a1] w fun e w' => e = .returned (.bool true) ∧ Below w.heap.size w w' := by
  unfold styleV
  have BL0 : Hid (Blocks w (w.alloc (.cells z0.cells.toArray 27)) [(w.heap.size, z0)]) := Lib.hid ((Blocks.nil w).grew (grew_alloc w _) z0 rfl)
  have AW := Lib.hid (fun W => awake_any W)
  have hx : Big a1 := i64_in w1
  have wt := turn_ok w0
  obtain ⟨r, hr⟩ : ∃ r, mayB z0 = r := ⟨_, rfl⟩
  have M1 := Lib.hid (fun W => may_any z0 w0 W r hr)
  have M2 := Lib.hid (fun W => may_any (turnS z0) wt W r ((turn_may z0 w0).trans hr))
  obtain ⟨q1, hq1⟩ : ∃ q, edgesR z0 = q := ⟨_, rfl⟩
  obtain ⟨q2, hq2⟩ : ∃ q, widthR z0 a1 = q := ⟨_, rfl⟩
  obtain ⟨q3, hq3⟩ : ∃ q, heightR z0 = q := ⟨_, rfl⟩
  have E1 := Lib.hid (fun W => edges_any z0 w0 W q1 hq1)
  have E2 := Lib.hid (fun W => edges_any (turnS z0) wt W q1 ((turn_edges z0 w0).trans hq1))
  have W1 := Lib.hid (fun W => width_any z0 w0 a1 hx W q2 hq2)
  have W2 := Lib.hid (fun W => width_any (turnS z0) wt a1 hx W q2 ((turn_width z0 w0 a1).trans hq2))
  have H1 := Lib.hid (fun W => height_any z0 w0 W q3 hq3)
  have H2 := Lib.hid (fun W => height_any (turnS z0) wt W q3 ((turn_height z0 w0).trans hq3))
  obtain ⟨n1, m1, e1⟩ := q1
  obtain ⟨n2, i2, e2⟩ := q2
  obtain ⟨n3, i3, e3⟩ := q3
  clear hr hq1 hq2 hq3 wt w0 w1 hx
  go_enter Try.func8, Try.ntmps8
  go_wp2_with fail
  refine (AW.out _).mono ?_
  rintro e wq0 ⟨rfl, hb⟩
  have BL1 := Lib.hid (BL0.out.call hb)
  clear hb
  go_upto_region 4 with (first | (refine wpList_load_style (o := ⟨some 26, _, _, _, _, _⟩) rfl _ rfl w.heap.size rfl _ (BL1.out.box 0 rfl) (style_cellsz _).1 ?_) | ((with_reducible change wpList _ _ _ (Oper.mk _ (Op.alloc 27) _ _ _ _ :: _) _ _); refine wpList_alloc_style rfl rfl ?_; intro wa5 g5 ha; have BL2 := Lib.hid (BL1.out.grew ha zeroS rfl); clear ha) | ((with_reducible change wpList _ _ _ (Oper.mk none (Op.store 27 _ _) _ _ _ _ :: _) _ _); refine wpList_store_style rfl _ _ rfl g5 rfl z0.cells.toArray rfl (style_cellsz z0) _ (BL2.out.box 0 rfl) (style_cellsz _).1 ?_; intro ws5 hs; have BL3 := Lib.hid (BL2.out.wrote hs 0 rfl z0 rfl); clear hs))
  simp only [Act.put, List.setIfInBounds_toArray, List.set_cons_zero, List.set_cons_succ]
  have SX : Hid (∀ W l s, Blocks w W [(g5, s), (w.heap.size, z0)] → l = () → Box27 W w.heap.size z0.cells.toArray ∧ Box27 W g5 s.cells.toArray ∧ Below w.heap.size w W) := Lib.hid (fun W l s h _ => ⟨h.box 1 rfl, h.box 0 rfl, h.below⟩)
  have BD4 := Lib.hid BL3.out.drew
  have hR4 := (fun (W : World) (l : List (Nat × RS)) (h : Blocks w W l) (hk : l[1]? = some (w.heap.size, z0)) => (⟨h.box 1 hk, h.below⟩ : Box27 W w.heap.size z0.cells.toArray ∧ Below w.heap.size w W))
  have HR4 := Lib.hid hR4
  clear hR4
  have hS4 := HR4.out _ _ BD4.out rfl
  refine wp_region_held_drew (S := fun W => Box27 W w.heap.size z0.cells.toArray ∧ Below w.heap.size w W) (by kernel_rfl) hS4 (fun _ => ?_)
  try simp only [Act.put, List.setIfInBounds_toArray, List.set_cons_zero, List.set_cons_succ]
  refine held_pure 0 ?vt4_0 rfl (by kernel_rfl) (by kernel_rfl) (by kernel_rfl) (fun _ _ _ _ h => h) (by rfl) ?yt4_0 hS4 ?rt4_0
  case yt4_0 => ((intro w; go_simp) <;> with_reducible rfl)
  simp only [Act.put, List.setIfInBounds_toArray, List.set_cons_zero, List.set_cons_succ]
  refine held_pure 1 ?vt4_1 rfl (by kernel_rfl) (by kernel_rfl) (by kernel_rfl) (fun _ _ _ _ h => h) (by rfl) ?yt4_1 hS4 ?rt4_1
  case yt4_1 => ((intro w; go_simp) <;> with_reducible rfl)
  simp only [Act.put, List.setIfInBounds_toArray, List.set_cons_zero, List.set_cons_succ]
  refine held_read 2 (.agg #[.int .u8 (z0.margin 1).kind, .int .i64 (z0.margin 1).n]) rfl (by kernel_rfl) (by kernel_rfl) (by kernel_rfl) (fun _ _ _ _ h => h) (by rfl) (fun W hW => ?_) hS4 ?_
  · have c16 := hW.1.cell (k := 16) (v := .int .u8 (z0.margin 1).kind) rfl
    have c17 := hW.1.cell (k := 17) (v := .int .i64 (z0.margin 1).n) rfl
    go_simp
  simp only [Act.put, List.setIfInBounds_toArray, List.set_cons_zero, List.set_cons_succ]
  refine held_pure 3 ?vt4_3 rfl (by kernel_rfl) (by kernel_rfl) (by kernel_rfl) (fun _ _ _ _ h => h) (by rfl) ?yt4_3 hS4 ?rt4_3
  case yt4_3 => ((intro w; go_simp) <;> with_reducible rfl)
  simp only [Act.put, List.setIfInBounds_toArray, List.set_cons_zero, List.set_cons_succ]
  refine held_pure 4 ?vt4_4 rfl (by kernel_rfl) (by kernel_rfl) (by kernel_rfl) (fun _ _ _ _ h => h) (by rfl) ?yt4_4 hS4 ?rt4_4
  case yt4_4 => ((intro w; go_simp) <;> with_reducible rfl)
  simp only [Act.put, List.setIfInBounds_toArray, List.set_cons_zero, List.set_cons_succ]
  refine held_read 5 (.agg #[.int .u8 (z0.margin 3).kind, .int .i64 (z0.margin 3).n]) rfl (by kernel_rfl) (by kernel_rfl) (by kernel_rfl) (fun _ _ _ _ h => h) (by rfl) (fun W hW => ?_) hS4 ?_
  · have c20 := hW.1.cell (k := 20) (v := .int .u8 (z0.margin 3).kind) rfl
    have c21 := hW.1.cell (k := 21) (v := .int .i64 (z0.margin 3).n) rfl
    go_simp
  simp only [Act.put, List.setIfInBounds_toArray, List.set_cons_zero, List.set_cons_succ]
  refine held_pure 6 ?vt4_6 rfl (by kernel_rfl) (by kernel_rfl) (by kernel_rfl) (fun _ _ _ _ h => h) (by rfl) ?yt4_6 hS4 ?rt4_6
  case yt4_6 => ((intro w; go_simp) <;> with_reducible rfl)
  simp only [Act.put, List.setIfInBounds_toArray, List.set_cons_zero, List.set_cons_succ]
  refine held_pure 7 ?vt4_7 rfl (by kernel_rfl) (by kernel_rfl) (by kernel_rfl) (fun _ _ _ _ h => h) (by rfl) ?yt4_7 hS4 ?rt4_7
  case yt4_7 => ((intro w; go_simp) <;> with_reducible rfl)
  simp only [Act.put, List.setIfInBounds_toArray, List.set_cons_zero, List.set_cons_succ]
  refine held_pure 9 ?vt4_9 rfl (by kernel_rfl) (by kernel_rfl) (by kernel_rfl) (fun _ _ _ _ h => h) (by rfl) ?yt4_9 hS4 ?rt4_9
  case yt4_9 => ((intro w; go_simp) <;> with_reducible rfl)
  simp only [Act.put, List.setIfInBounds_toArray, List.set_cons_zero, List.set_cons_succ]
  refine held_one 8 rfl (by kernel_rfl) (by rfl) (fun K hK => ?_)
  refine wp_store_part 23 _ _ rfl g5 20 rfl (.agg #[.int .u8 (z0.margin 1).kind, .int .i64 (z0.margin 1).n]) rfl _ (BD4.out.box 0 rfl) (by kernel_rfl) (one_agg2 _ _ _ _) (by rw [(style_cellsz _).1]; show 20 + 2 ≤ 47; omega) (marginL z0).cells.toArray (by rfl) (fun wk4_8 hs => ?_)
  have BT4_8 := Lib.hid (BD4.out.wrote hs 0 rfl (marginL z0) rfl)
  clear hs
  have hT4_8 := HR4.out _ _ BT4_8.out rfl
  refine hK.out _ _ hT4_8 (fun _ => ?_)
  clear hK K
  try simp only [Act.put]
  refine held_pure 10 ?vt4_10 rfl (by kernel_rfl) (by kernel_rfl) (by kernel_rfl) (fun _ _ _ _ h => h) (by rfl) ?yt4_10 hT4_8 ?rt4_10
  case yt4_10 => ((intro w; go_simp) <;> with_reducible rfl)
  simp only [Act.put, List.setIfInBounds_toArray, List.set_cons_zero, List.set_cons_succ]
  refine held_one 11 rfl (by kernel_rfl) (by rfl) (fun K hK => ?_)
  refine wp_store_part 23 _ _ rfl g5 16 rfl (.agg #[.int .u8 (z0.margin 3).kind, .int .i64 (z0.margin 3).n]) rfl _ (BT4_8.out.box 0 rfl) (by kernel_rfl) (one_agg2 _ _ _ _) (by rw [(style_cellsz _).1]; show 16 + 2 ≤ 47; omega) (marginS z0).cells.toArray (by rfl) (fun wk4_11 hs => ?_)
  have BT4_11 := Lib.hid (BT4_8.out.wrote hs 0 rfl (marginS z0) rfl)
  clear hs
  have hT4_11 := HR4.out _ _ BT4_11.out rfl
  refine hK.out _ _ hT4_11 (fun _ => ?_)
  clear hK K
  try simp only [Act.put]
  refine wpAnyH_done (by kernel_rfl) ?_ _
  clear hS4 hT4_8 hT4_11
  go_upto_region 5 with fail
  have BD5 := Lib.hid BT4_11.out.drew
  have hR5 := (fun (W : World) (l : List (Nat × RS)) (h : Blocks w W l) (hk : l[1]? = some (w.heap.size, z0)) => (⟨h.box 1 hk, h.below⟩ : Box27 W w.heap.size z0.cells.toArray ∧ Below w.heap.size w W))
  have HR5 := Lib.hid hR5
  clear hR5
  have hS5 := HR5.out _ _ BD5.out rfl
  refine wp_region_held_drew (S := fun W => Box27 W w.heap.size z0.cells.toArray ∧ Below w.heap.size w W) (by kernel_rfl) hS5 (fun _ => ?_)
  try simp only [Act.put, List.setIfInBounds_toArray, List.set_cons_zero, List.set_cons_succ]
  refine held_pure 0 ?vt5_0 rfl (by kernel_rfl) (by kernel_rfl) (by kernel_rfl) (fun _ _ _ _ h => h) (by rfl) ?yt5_0 hS5 ?rt5_0
  case yt5_0 => ((intro w; go_simp) <;> with_reducible rfl)
  simp only [Act.put, List.setIfInBounds_toArray, List.set_cons_zero, List.set_cons_succ]
  refine held_pure 1 ?vt5_1 rfl (by kernel_rfl) (by kernel_rfl) (by kernel_rfl) (fun _ _ _ _ h => h) (by rfl) ?yt5_1 hS5 ?rt5_1
  case yt5_1 => ((intro w; go_simp) <;> with_reducible rfl)
  simp only [Act.put, List.setIfInBounds_toArray, List.set_cons_zero, List.set_cons_succ]
  refine held_read 2 (.int .i64 (z0.bord 1)) rfl (by kernel_rfl) (by kernel_rfl) (by kernel_rfl) (fun _ _ _ _ h => h) (by rfl) (fun W hW => ?_) hS5 ?_
  · have c27 := hW.1.cell (k := 27) (v := .int .i64 (z0.bord 1)) rfl
    go_simp
  simp only [Act.put, List.setIfInBounds_toArray, List.set_cons_zero, List.set_cons_succ]
  refine held_pure 3 ?vt5_3 rfl (by kernel_rfl) (by kernel_rfl) (by kernel_rfl) (fun _ _ _ _ h => h) (by rfl) ?yt5_3 hS5 ?rt5_3
  case yt5_3 => ((intro w; go_simp) <;> with_reducible rfl)
  simp only [Act.put, List.setIfInBounds_toArray, List.set_cons_zero, List.set_cons_succ]
  refine held_pure 4 ?vt5_4 rfl (by kernel_rfl) (by kernel_rfl) (by kernel_rfl) (fun _ _ _ _ h => h) (by rfl) ?yt5_4 hS5 ?rt5_4
  case yt5_4 => ((intro w; go_simp) <;> with_reducible rfl)
  simp only [Act.put, List.setIfInBounds_toArray, List.set_cons_zero, List.set_cons_succ]
  refine held_read 5 (.int .i64 (z0.pad 3)) rfl (by kernel_rfl) (by kernel_rfl) (by kernel_rfl) (fun _ _ _ _ h => h) (by rfl) (fun W hW => ?_) hS5 ?_
  · have c25 := hW.1.cell (k := 25) (v := .int .i64 (z0.pad 3)) rfl
    go_simp
  simp only [Act.put, List.setIfInBounds_toArray, List.set_cons_zero, List.set_cons_succ]
  refine held_pure 6 ?vt5_6 rfl (by kernel_rfl) (by kernel_rfl) (by kernel_rfl) (fun _ _ _ _ h => h) (by rfl) ?yt5_6 hS5 ?rt5_6
  case yt5_6 => ((intro w; go_simp) <;> with_reducible rfl)
  simp only [Act.put, List.setIfInBounds_toArray, List.set_cons_zero, List.set_cons_succ]
  refine held_pure 7 ?vt5_7 rfl (by kernel_rfl) (by kernel_rfl) (by kernel_rfl) (fun _ _ _ _ h => h) (by rfl) ?yt5_7 hS5 ?rt5_7
  case yt5_7 => ((intro w; go_simp) <;> with_reducible rfl)
  simp only [Act.put, List.setIfInBounds_toArray, List.set_cons_zero, List.set_cons_succ]
  refine held_pure 9 ?vt5_9 rfl (by kernel_rfl) (by kernel_rfl) (by kernel_rfl) (fun _ _ _ _ h => h) (by rfl) ?yt5_9 hS5 ?rt5_9
  case yt5_9 => ((intro w; go_simp) <;> with_reducible rfl)
  simp only [Act.put, List.setIfInBounds_toArray, List.set_cons_zero, List.set_cons_succ]
  refine held_one 8 rfl (by kernel_rfl) (by rfl) (fun K hK => ?_)
  refine wp_store_part 3 _ _ rfl g5 25 rfl (.int .i64 (z0.bord 1)) rfl _ (BD5.out.box 0 rfl) (by kernel_rfl) (one_int _ _) (by rw [(style_cellsz _).1]; show 25 + 1 ≤ 47; omega) (crossL z0).cells.toArray (by rfl) (fun wk5_8 hs => ?_)
  have BT5_8 := Lib.hid (BD5.out.wrote hs 0 rfl (crossL z0) rfl)
  clear hs
  have hT5_8 := HR5.out _ _ BT5_8.out rfl
  refine hK.out _ _ hT5_8 (fun _ => ?_)
  clear hK K
  try simp only [Act.put]
  refine held_pure 10 ?vt5_10 rfl (by kernel_rfl) (by kernel_rfl) (by kernel_rfl) (fun _ _ _ _ h => h) (by rfl) ?yt5_10 hT5_8 ?rt5_10
  case yt5_10 => ((intro w; go_simp) <;> with_reducible rfl)
  simp only [Act.put, List.setIfInBounds_toArray, List.set_cons_zero, List.set_cons_succ]
  refine held_one 11 rfl (by kernel_rfl) (by rfl) (fun K hK => ?_)
  refine wp_store_part 3 _ _ rfl g5 27 rfl (.int .i64 (z0.pad 3)) rfl _ (BT5_8.out.box 0 rfl) (by kernel_rfl) (one_int _ _) (by rw [(style_cellsz _).1]; show 27 + 1 ≤ 47; omega) (crossS z0).cells.toArray (by rfl) (fun wk5_11 hs => ?_)
  have BT5_11 := Lib.hid (BT5_8.out.wrote hs 0 rfl (crossS z0) rfl)
  clear hs
  have hT5_11 := HR5.out _ _ BT5_11.out rfl
  refine hK.out _ _ hT5_11 (fun _ => ?_)
  clear hK K
  try simp only [Act.put]
  refine wpAnyH_done (by kernel_rfl) ?_ _
  clear hS5 hT5_8 hT5_11
  go_upto_region 6 with fail
  have BD6 := Lib.hid BT5_11.out.drew
  have hR6 := (fun (W : World) (l : List (Nat × RS)) (h : Blocks w W l) (hk : l[1]? = some (w.heap.size, z0)) => (⟨h.box 1 hk, h.below⟩ : Box27 W w.heap.size z0.cells.toArray ∧ Below w.heap.size w W))
  have HR6 := Lib.hid hR6
  clear hR6
  have hS6 := HR6.out _ _ BD6.out rfl
  refine wp_region_held_drew (S := fun W => Box27 W w.heap.size z0.cells.toArray ∧ Below w.heap.size w W) (by kernel_rfl) hS6 (fun _ => ?_)
  try simp only [Act.put, List.setIfInBounds_toArray, List.set_cons_zero, List.set_cons_succ]
  refine held_pure 0 ?vt6_0 rfl (by kernel_rfl) (by kernel_rfl) (by kernel_rfl) (fun _ _ _ _ h => h) (by rfl) ?yt6_0 hS6 ?rt6_0
  case yt6_0 => ((intro w; go_simp) <;> with_reducible rfl)
  simp only [Act.put, List.setIfInBounds_toArray, List.set_cons_zero, List.set_cons_succ]
  refine held_pure 1 ?vt6_1 rfl (by kernel_rfl) (by kernel_rfl) (by kernel_rfl) (fun _ _ _ _ h => h) (by rfl) ?yt6_1 hS6 ?rt6_1
  case yt6_1 => ((intro w; go_simp) <;> with_reducible rfl)
  simp only [Act.put, List.setIfInBounds_toArray, List.set_cons_zero, List.set_cons_succ]
  refine held_read 2 (.int .i64 (z0.pad 2)) rfl (by kernel_rfl) (by kernel_rfl) (by kernel_rfl) (fun _ _ _ _ h => h) (by rfl) (fun W hW => ?_) hS6 ?_
  · have c24 := hW.1.cell (k := 24) (v := .int .i64 (z0.pad 2)) rfl
    go_simp
  simp only [Act.put, List.setIfInBounds_toArray, List.set_cons_zero, List.set_cons_succ]
  refine held_pure 3 ?vt6_3 rfl (by kernel_rfl) (by kernel_rfl) (by kernel_rfl) (fun _ _ _ _ h => h) (by rfl) ?yt6_3 hS6 ?rt6_3
  case yt6_3 => ((intro w; go_simp) <;> with_reducible rfl)
  simp only [Act.put, List.setIfInBounds_toArray, List.set_cons_zero, List.set_cons_succ]
  refine held_pure 4 ?vt6_4 rfl (by kernel_rfl) (by kernel_rfl) (by kernel_rfl) (fun _ _ _ _ h => h) (by rfl) ?yt6_4 hS6 ?rt6_4
  case yt6_4 => ((intro w; go_simp) <;> with_reducible rfl)
  simp only [Act.put, List.setIfInBounds_toArray, List.set_cons_zero, List.set_cons_succ]
  refine held_read 5 (.int .i64 (z0.pad 0)) rfl (by kernel_rfl) (by kernel_rfl) (by kernel_rfl) (fun _ _ _ _ h => h) (by rfl) (fun W hW => ?_) hS6 ?_
  · have c22 := hW.1.cell (k := 22) (v := .int .i64 (z0.pad 0)) rfl
    go_simp
  simp only [Act.put, List.setIfInBounds_toArray, List.set_cons_zero, List.set_cons_succ]
  refine held_pure 6 ?vt6_6 rfl (by kernel_rfl) (by kernel_rfl) (by kernel_rfl) (fun _ _ _ _ h => h) (by rfl) ?yt6_6 hS6 ?rt6_6
  case yt6_6 => ((intro w; go_simp) <;> with_reducible rfl)
  simp only [Act.put, List.setIfInBounds_toArray, List.set_cons_zero, List.set_cons_succ]
  refine held_pure 7 ?vt6_7 rfl (by kernel_rfl) (by kernel_rfl) (by kernel_rfl) (fun _ _ _ _ h => h) (by rfl) ?yt6_7 hS6 ?rt6_7
  case yt6_7 => ((intro w; go_simp) <;> with_reducible rfl)
  simp only [Act.put, List.setIfInBounds_toArray, List.set_cons_zero, List.set_cons_succ]
  refine held_pure 9 ?vt6_9 rfl (by kernel_rfl) (by kernel_rfl) (by kernel_rfl) (fun _ _ _ _ h => h) (by rfl) ?yt6_9 hS6 ?rt6_9
  case yt6_9 => ((intro w; go_simp) <;> with_reducible rfl)
  simp only [Act.put, List.setIfInBounds_toArray, List.set_cons_zero, List.set_cons_succ]
  refine held_one 8 rfl (by kernel_rfl) (by rfl) (fun K hK => ?_)
  refine wp_store_part 3 _ _ rfl g5 22 rfl (.int .i64 (z0.pad 2)) rfl _ (BD6.out.box 0 rfl) (by kernel_rfl) (one_int _ _) (by rw [(style_cellsz _).1]; show 22 + 1 ≤ 47; omega) (turnT z0).cells.toArray (by rfl) (fun wk6_8 hs => ?_)
  have BT6_8 := Lib.hid (BD6.out.wrote hs 0 rfl (turnT z0) rfl)
  clear hs
  have hT6_8 := HR6.out _ _ BT6_8.out rfl
  refine hK.out _ _ hT6_8 (fun _ => ?_)
  clear hK K
  try simp only [Act.put]
  refine held_pure 10 ?vt6_10 rfl (by kernel_rfl) (by kernel_rfl) (by kernel_rfl) (fun _ _ _ _ h => h) (by rfl) ?yt6_10 hT6_8 ?rt6_10
  case yt6_10 => ((intro w; go_simp) <;> with_reducible rfl)
  simp only [Act.put, List.setIfInBounds_toArray, List.set_cons_zero, List.set_cons_succ]
  refine held_one 11 rfl (by kernel_rfl) (by rfl) (fun K hK => ?_)
  refine wp_store_part 3 _ _ rfl g5 24 rfl (.int .i64 (z0.pad 0)) rfl _ (BT6_8.out.box 0 rfl) (by kernel_rfl) (one_int _ _) (by rw [(style_cellsz _).1]; show 24 + 1 ≤ 47; omega) (turnS z0).cells.toArray (by rfl) (fun wk6_11 hs => ?_)
  have BT6_11 := Lib.hid (BT6_8.out.wrote hs 0 rfl (turnS z0) rfl)
  clear hs
  have hT6_11 := HR6.out _ _ BT6_11.out rfl
  refine hK.out _ _ hT6_11 (fun _ => ?_)
  clear hK K
  try simp only [Act.put]
  refine wpAnyH_done (by kernel_rfl) ?_ _
  clear hS6 hT6_8 hT6_11
  go_wp2_with (refine wpList_load_style (o := ⟨some 58, _, _, _, _, _⟩) rfl _ rfl w.heap.size rfl _ (BT6_11.out.box 1 rfl) (style_cellsz _).1 ?_)
  refine (E1.out _).mono ?_
  rintro e wq1 ⟨rfl, hb⟩
  have BC0 := Lib.hid (BT6_11.out.call hb)
  clear hb
  go_wp2_with (refine wpList_load_style (o := ⟨some 64, _, _, _, _, _⟩) rfl _ rfl g5 rfl _ (BC0.out.box 0 rfl) (style_cellsz _).1 ?_)
  refine (E2.out _).mono ?_
  rintro e wq2 ⟨rfl, hb⟩
  have BC1 := Lib.hid (BC0.out.call hb)
  clear hb
  go_wp2_with (refine wpList_load_style (o := ⟨some 70, _, _, _, _, _⟩) rfl _ rfl w.heap.size rfl _ (BC1.out.box 1 rfl) (style_cellsz _).1 ?_)
  refine (W1.out _).mono ?_
  rintro e wq3 ⟨rfl, hb⟩
  have BC2 := Lib.hid (BC1.out.call hb)
  clear hb
  go_wp2_with (refine wpList_load_style (o := ⟨some 77, _, _, _, _, _⟩) rfl _ rfl g5 rfl _ (BC2.out.box 0 rfl) (style_cellsz _).1 ?_)
  refine (W2.out _).mono ?_
  rintro e wq4 ⟨rfl, hb⟩
  have BC3 := Lib.hid (BC2.out.call hb)
  clear hb
  go_wp2_with (refine wpList_load_style (o := ⟨some 84, _, _, _, _, _⟩) rfl _ rfl w.heap.size rfl _ (BC3.out.box 1 rfl) (style_cellsz _).1 ?_)
  refine (H1.out _).mono ?_
  rintro e wq5 ⟨rfl, hb⟩
  have BC4 := Lib.hid (BC3.out.call hb)
  clear hb
  go_wp2_with (refine wpList_load_style (o := ⟨some 90, _, _, _, _, _⟩) rfl _ rfl g5 rfl _ (BC4.out.box 0 rfl) (style_cellsz _).1 ?_)
  refine (H2.out _).mono ?_
  rintro e wq6 ⟨rfl, hb⟩
  have BC5 := Lib.hid (BC4.out.call hb)
  clear hb
  go_upto_region 13 with fail
  have BD13 := Lib.hid BC5.out.drew
  have ZB := Lib.hid (fun (W W' : World) (h : Blocks w W [(g5, turnS z0), (w.heap.size, z0)]) (hb : Below W.heap.size W W') => h.call hb)
  have HS := Lib.hid (fun (W : World) (h : Blocks w W [(g5, turnS z0), (w.heap.size, z0)]) => h)
  have hS := BD13.out
  refine wp_region_held_drew (S := fun W => Blocks w W [(g5, turnS z0), (w.heap.size, z0)]) (by kernel_rfl) hS (fun _ => ?_)
  try simp only [Act.put, List.setIfInBounds_toArray, List.set_cons_zero, List.set_cons_succ]
  refine held_style 0 rfl (by kernel_rfl) (by kernel_rfl) (by kernel_rfl) (fun _ _ _ _ h => h) _ rfl (by rfl) w.heap.size z0.cells.toArray rfl (fun _ h => h.box 1 rfl) (style_cellsz _).1 hS ?_
  simp only [Act.put, List.setIfInBounds_toArray, List.set_cons_zero, List.set_cons_succ]
  refine held_style 2 rfl (by kernel_rfl) (by kernel_rfl) (by kernel_rfl) (fun _ _ _ _ h => h) _ rfl (by rfl) g5 (turnS z0).cells.toArray rfl (fun _ h => h.box 0 rfl) (style_cellsz _).1 hS ?_
  simp only [Act.put, List.setIfInBounds_toArray, List.set_cons_zero, List.set_cons_succ]
  refine held_one 1 rfl (by kernel_rfl) (by rfl) (fun K hK => ?_)
  go_simp
  refine (M1.out _).mono ?_
  rintro e wq1 ⟨rfl, hbq1⟩
  have hS1 := ZB.out _ _ hS hbq1
  clear hbq1
  refine hK.out _ _ hS1 (fun _ => ?_)
  clear hK K
  try simp only [Act.put, List.setIfInBounds_toArray, List.set_cons_zero, List.set_cons_succ]
  refine held_one 3 rfl (by kernel_rfl) (by rfl) (fun K hK => ?_)
  go_simp
  refine (M2.out _).mono ?_
  rintro e wq2 ⟨rfl, hbq2⟩
  have hS2 := ZB.out _ _ hS1 hbq2
  clear hbq2
  refine hK.out _ _ hS2 (fun _ => ?_)
  clear hK K
  try simp only [Act.put, List.setIfInBounds_toArray, List.set_cons_zero, List.set_cons_succ]
  first
    | (refine held_skip 4 rfl (by kernel_rfl) (by kernel_rfl) (by kernel_rfl) (fun _ _ _ _ h => h) (by rfl) hS2 ?_)
    | (refine held_pure 4 ?vz4 rfl (by kernel_rfl) (by kernel_rfl) (by kernel_rfl) (fun _ _ _ _ h => h) (by rfl) ?yz4 hS2 ?rz4; case yz4 => ((intro w; go_simp) <;> with_reducible rfl))
  simp only [Act.put, List.setIfInBounds_toArray, List.set_cons_zero, List.set_cons_succ]
  first
    | (refine held_skip 5 rfl (by kernel_rfl) (by kernel_rfl) (by kernel_rfl) (fun _ _ _ _ h => h) (by rfl) hS2 ?_)
    | (refine held_pure 5 ?vz5 rfl (by kernel_rfl) (by kernel_rfl) (by kernel_rfl) (fun _ _ _ _ h => h) (by rfl) ?yz5 hS2 ?rz5; case yz5 => ((intro w; go_simp) <;> with_reducible rfl))
  simp only [Act.put, List.setIfInBounds_toArray, List.set_cons_zero, List.set_cons_succ]
  first
    | (refine held_skip 6 rfl (by kernel_rfl) (by kernel_rfl) (by kernel_rfl) (fun _ _ _ _ h => h) (by rfl) hS2 ?_)
    | (refine held_pure 6 ?vz6 rfl (by kernel_rfl) (by kernel_rfl) (by kernel_rfl) (fun _ _ _ _ h => h) (by rfl) ?yz6 hS2 ?rz6; case yz6 => ((intro w; go_simp) <;> with_reducible rfl))
  simp only [Act.put, List.setIfInBounds_toArray, List.set_cons_zero, List.set_cons_succ]
  first
    | (refine held_skip 7 rfl (by kernel_rfl) (by kernel_rfl) (by kernel_rfl) (fun _ _ _ _ h => h) (by rfl) hS2 ?_)
    | (refine held_pure 7 ?vz7 rfl (by kernel_rfl) (by kernel_rfl) (by kernel_rfl) (fun _ _ _ _ h => h) (by rfl) ?yz7 hS2 ?rz7; case yz7 => ((intro w; go_simp) <;> with_reducible rfl))
  simp only [Act.put, List.setIfInBounds_toArray, List.set_cons_zero, List.set_cons_succ]
  first
    | (refine held_skip 8 rfl (by kernel_rfl) (by kernel_rfl) (by kernel_rfl) (fun _ _ _ _ h => h) (by rfl) hS2 ?_)
    | (refine held_pure 8 ?vz8 rfl (by kernel_rfl) (by kernel_rfl) (by kernel_rfl) (fun _ _ _ _ h => h) (by rfl) ?yz8 hS2 ?rz8; case yz8 => ((intro w; go_simp) <;> with_reducible rfl))
  simp only [Act.put, List.setIfInBounds_toArray, List.set_cons_zero, List.set_cons_succ]
  first
    | (refine held_skip 9 rfl (by kernel_rfl) (by kernel_rfl) (by kernel_rfl) (fun _ _ _ _ h => h) (by rfl) hS2 ?_)
    | (refine held_pure 9 ?vz9 rfl (by kernel_rfl) (by kernel_rfl) (by kernel_rfl) (fun _ _ _ _ h => h) (by rfl) ?yz9 hS2 ?rz9; case yz9 => ((intro w; go_simp) <;> with_reducible rfl))
  simp only [Act.put, List.setIfInBounds_toArray, List.set_cons_zero, List.set_cons_succ]
  first
    | (refine held_skip 10 rfl (by kernel_rfl) (by kernel_rfl) (by kernel_rfl) (fun _ _ _ _ h => h) (by rfl) hS2 ?_)
    | (refine held_pure 10 ?vz10 rfl (by kernel_rfl) (by kernel_rfl) (by kernel_rfl) (fun _ _ _ _ h => h) (by rfl) ?yz10 hS2 ?rz10; case yz10 => ((intro w; go_simp) <;> with_reducible rfl))
  simp only [Act.put, List.setIfInBounds_toArray, List.set_cons_zero, List.set_cons_succ]
  first
    | (refine held_skip 11 rfl (by kernel_rfl) (by kernel_rfl) (by kernel_rfl) (fun _ _ _ _ h => h) (by rfl) hS2 ?_)
    | (refine held_pure 11 ?vz11 rfl (by kernel_rfl) (by kernel_rfl) (by kernel_rfl) (fun _ _ _ _ h => h) (by rfl) ?yz11 hS2 ?rz11; case yz11 => ((intro w; go_simp) <;> with_reducible rfl))
  simp only [Act.put, List.setIfInBounds_toArray, List.set_cons_zero, List.set_cons_succ]
  first
    | (refine held_skip 12 rfl (by kernel_rfl) (by kernel_rfl) (by kernel_rfl) (fun _ _ _ _ h => h) (by rfl) hS2 ?_)
    | (refine held_pure 12 ?vz12 rfl (by kernel_rfl) (by kernel_rfl) (by kernel_rfl) (fun _ _ _ _ h => h) (by rfl) ?yz12 hS2 ?rz12; case yz12 => ((intro w; go_simp) <;> with_reducible rfl))
  simp only [Act.put, List.setIfInBounds_toArray, List.set_cons_zero, List.set_cons_succ]
  first
    | (refine held_skip 13 rfl (by kernel_rfl) (by kernel_rfl) (by kernel_rfl) (fun _ _ _ _ h => h) (by rfl) hS2 ?_)
    | (refine held_pure 13 ?vz13 rfl (by kernel_rfl) (by kernel_rfl) (by kernel_rfl) (fun _ _ _ _ h => h) (by rfl) ?yz13 hS2 ?rz13; case yz13 => ((intro w; go_simp) <;> with_reducible rfl))
  simp only [Act.put, List.setIfInBounds_toArray, List.set_cons_zero, List.set_cons_succ]
  first
    | (refine held_skip 14 rfl (by kernel_rfl) (by kernel_rfl) (by kernel_rfl) (fun _ _ _ _ h => h) (by rfl) hS2 ?_)
    | (refine held_pure 14 ?vz14 rfl (by kernel_rfl) (by kernel_rfl) (by kernel_rfl) (fun _ _ _ _ h => h) (by rfl) ?yz14 hS2 ?rz14; case yz14 => ((intro w; go_simp) <;> with_reducible rfl))
  simp only [Act.put, List.setIfInBounds_toArray, List.set_cons_zero, List.set_cons_succ]
  first
    | (refine held_skip 15 rfl (by kernel_rfl) (by kernel_rfl) (by kernel_rfl) (fun _ _ _ _ h => h) (by rfl) hS2 ?_)
    | (refine held_pure 15 ?vz15 rfl (by kernel_rfl) (by kernel_rfl) (by kernel_rfl) (fun _ _ _ _ h => h) (by rfl) ?yz15 hS2 ?rz15; case yz15 => ((intro w; go_simp) <;> with_reducible rfl))
  simp only [Act.put, List.setIfInBounds_toArray, List.set_cons_zero, List.set_cons_succ]
  first
    | (refine held_skip 16 rfl (by kernel_rfl) (by kernel_rfl) (by kernel_rfl) (fun _ _ _ _ h => h) (by rfl) hS2 ?_)
    | (refine held_pure 16 ?vz16 rfl (by kernel_rfl) (by kernel_rfl) (by kernel_rfl) (fun _ _ _ _ h => h) (by rfl) ?yz16 hS2 ?rz16; case yz16 => ((intro w; go_simp) <;> with_reducible rfl))
  simp only [Act.put, List.setIfInBounds_toArray, List.set_cons_zero, List.set_cons_succ]
  first
    | (refine held_skip 17 rfl (by kernel_rfl) (by kernel_rfl) (by kernel_rfl) (fun _ _ _ _ h => h) (by rfl) hS2 ?_)
    | (refine held_pure 17 ?vz17 rfl (by kernel_rfl) (by kernel_rfl) (by kernel_rfl) (fun _ _ _ _ h => h) (by rfl) ?yz17 hS2 ?rz17; case yz17 => ((intro w; go_simp) <;> with_reducible rfl))
  simp only [Act.put, List.setIfInBounds_toArray, List.set_cons_zero, List.set_cons_succ]
  first
    | (refine held_skip 18 rfl (by kernel_rfl) (by kernel_rfl) (by kernel_rfl) (fun _ _ _ _ h => h) (by rfl) hS2 ?_)
    | (refine held_pure 18 ?vz18 rfl (by kernel_rfl) (by kernel_rfl) (by kernel_rfl) (fun _ _ _ _ h => h) (by rfl) ?yz18 hS2 ?rz18; case yz18 => ((intro w; go_simp) <;> with_reducible rfl))
  simp only [Act.put, List.setIfInBounds_toArray, List.set_cons_zero, List.set_cons_succ]
  first
    | (refine held_skip 19 rfl (by kernel_rfl) (by kernel_rfl) (by kernel_rfl) (fun _ _ _ _ h => h) (by rfl) hS2 ?_)
    | (refine held_pure 19 ?vz19 rfl (by kernel_rfl) (by kernel_rfl) (by kernel_rfl) (fun _ _ _ _ h => h) (by rfl) ?yz19 hS2 ?rz19; case yz19 => ((intro w; go_simp) <;> with_reducible rfl))
  simp only [Act.put, List.setIfInBounds_toArray, List.set_cons_zero, List.set_cons_succ]
  first
    | (refine held_skip 20 rfl (by kernel_rfl) (by kernel_rfl) (by kernel_rfl) (fun _ _ _ _ h => h) (by rfl) hS2 ?_)
    | (refine held_pure 20 ?vz20 rfl (by kernel_rfl) (by kernel_rfl) (by kernel_rfl) (fun _ _ _ _ h => h) (by rfl) ?yz20 hS2 ?rz20; case yz20 => ((intro w; go_simp) <;> with_reducible rfl))
  simp only [Act.put, List.setIfInBounds_toArray, List.set_cons_zero, List.set_cons_succ]
  first
    | (refine held_skip 21 rfl (by kernel_rfl) (by kernel_rfl) (by kernel_rfl) (fun _ _ _ _ h => h) (by rfl) hS2 ?_)
    | (refine held_pure 21 ?vz21 rfl (by kernel_rfl) (by kernel_rfl) (by kernel_rfl) (fun _ _ _ _ h => h) (by rfl) ?yz21 hS2 ?rz21; case yz21 => ((intro w; go_simp) <;> with_reducible rfl))
  simp only [Act.put, List.setIfInBounds_toArray, List.set_cons_zero, List.set_cons_succ]
  first
    | (refine held_skip 22 rfl (by kernel_rfl) (by kernel_rfl) (by kernel_rfl) (fun _ _ _ _ h => h) (by rfl) hS2 ?_)
    | (refine held_pure 22 ?vz22 rfl (by kernel_rfl) (by kernel_rfl) (by kernel_rfl) (fun _ _ _ _ h => h) (by rfl) ?yz22 hS2 ?rz22; case yz22 => ((intro w; go_simp) <;> with_reducible rfl))
  simp only [Act.put, List.setIfInBounds_toArray, List.set_cons_zero, List.set_cons_succ]
  first
    | (refine held_skip 23 rfl (by kernel_rfl) (by kernel_rfl) (by kernel_rfl) (fun _ _ _ _ h => h) (by rfl) hS2 ?_)
    | (refine held_pure 23 ?vz23 rfl (by kernel_rfl) (by kernel_rfl) (by kernel_rfl) (fun _ _ _ _ h => h) (by rfl) ?yz23 hS2 ?rz23; case yz23 => ((intro w; go_simp) <;> with_reducible rfl))
  simp only [Act.put, List.setIfInBounds_toArray, List.set_cons_zero, List.set_cons_succ]
  first
    | (refine held_skip 24 rfl (by kernel_rfl) (by kernel_rfl) (by kernel_rfl) (fun _ _ _ _ h => h) (by rfl) hS2 ?_)
    | (refine held_pure 24 ?vz24 rfl (by kernel_rfl) (by kernel_rfl) (by kernel_rfl) (fun _ _ _ _ h => h) (by rfl) ?yz24 hS2 ?rz24; case yz24 => ((intro w; go_simp) <;> with_reducible rfl))
  simp only [Act.put, List.setIfInBounds_toArray, List.set_cons_zero, List.set_cons_succ]
  first
    | (refine held_skip 25 rfl (by kernel_rfl) (by kernel_rfl) (by kernel_rfl) (fun _ _ _ _ h => h) (by rfl) hS2 ?_)
    | (refine held_pure 25 ?vz25 rfl (by kernel_rfl) (by kernel_rfl) (by kernel_rfl) (fun _ _ _ _ h => h) (by rfl) ?yz25 hS2 ?rz25; case yz25 => ((intro w; go_simp) <;> with_reducible rfl))
  simp only [Act.put, List.setIfInBounds_toArray, List.set_cons_zero, List.set_cons_succ]
  first
    | (refine held_skip 26 rfl (by kernel_rfl) (by kernel_rfl) (by kernel_rfl) (fun _ _ _ _ h => h) (by rfl) hS2 ?_)
    | (refine held_pure 26 ?vz26 rfl (by kernel_rfl) (by kernel_rfl) (by kernel_rfl) (fun _ _ _ _ h => h) (by rfl) ?yz26 hS2 ?rz26; case yz26 => ((intro w; go_simp) <;> with_reducible rfl))
  simp only [Act.put, List.setIfInBounds_toArray, List.set_cons_zero, List.set_cons_succ]
  first
    | (refine held_skip 27 rfl (by kernel_rfl) (by kernel_rfl) (by kernel_rfl) (fun _ _ _ _ h => h) (by rfl) hS2 ?_)
    | (refine held_pure 27 ?vz27 rfl (by kernel_rfl) (by kernel_rfl) (by kernel_rfl) (fun _ _ _ _ h => h) (by rfl) ?yz27 hS2 ?rz27; case yz27 => ((intro w; go_simp) <;> with_reducible rfl))
  simp only [Act.put, List.setIfInBounds_toArray, List.set_cons_zero, List.set_cons_succ]
  first
    | (refine held_skip 28 rfl (by kernel_rfl) (by kernel_rfl) (by kernel_rfl) (fun _ _ _ _ h => h) (by rfl) hS2 ?_)
    | (refine held_pure 28 ?vz28 rfl (by kernel_rfl) (by kernel_rfl) (by kernel_rfl) (fun _ _ _ _ h => h) (by rfl) ?yz28 hS2 ?rz28; case yz28 => ((intro w; go_simp) <;> with_reducible rfl))
  simp only [Act.put, List.setIfInBounds_toArray, List.set_cons_zero, List.set_cons_succ]
  first
    | (refine held_skip 29 rfl (by kernel_rfl) (by kernel_rfl) (by kernel_rfl) (fun _ _ _ _ h => h) (by rfl) hS2 ?_)
    | (refine held_pure 29 ?vz29 rfl (by kernel_rfl) (by kernel_rfl) (by kernel_rfl) (fun _ _ _ _ h => h) (by rfl) ?yz29 hS2 ?rz29; case yz29 => ((intro w; go_simp) <;> with_reducible rfl))
  simp only [Act.put, List.setIfInBounds_toArray, List.set_cons_zero, List.set_cons_succ]
  first
    | (refine held_skip 30 rfl (by kernel_rfl) (by kernel_rfl) (by kernel_rfl) (fun _ _ _ _ h => h) (by rfl) hS2 ?_)
    | (refine held_pure 30 ?vz30 rfl (by kernel_rfl) (by kernel_rfl) (by kernel_rfl) (fun _ _ _ _ h => h) (by rfl) ?yz30 hS2 ?rz30; case yz30 => ((intro w; go_simp) <;> with_reducible rfl))
  simp only [Act.put, List.setIfInBounds_toArray, List.set_cons_zero, List.set_cons_succ]
  first
    | (refine held_skip 31 rfl (by kernel_rfl) (by kernel_rfl) (by kernel_rfl) (fun _ _ _ _ h => h) (by rfl) hS2 ?_)
    | (refine held_pure 31 ?vz31 rfl (by kernel_rfl) (by kernel_rfl) (by kernel_rfl) (fun _ _ _ _ h => h) (by rfl) ?yz31 hS2 ?rz31; case yz31 => ((intro w; go_simp) <;> with_reducible rfl))
  simp only [Act.put, List.setIfInBounds_toArray, List.set_cons_zero, List.set_cons_succ]
  first
    | (refine held_skip 32 rfl (by kernel_rfl) (by kernel_rfl) (by kernel_rfl) (fun _ _ _ _ h => h) (by rfl) hS2 ?_)
    | (refine held_pure 32 ?vz32 rfl (by kernel_rfl) (by kernel_rfl) (by kernel_rfl) (fun _ _ _ _ h => h) (by rfl) ?yz32 hS2 ?rz32; case yz32 => ((intro w; go_simp) <;> with_reducible rfl))
  simp only [Act.put, List.setIfInBounds_toArray, List.set_cons_zero, List.set_cons_succ]
  first
    | (refine held_skip 33 rfl (by kernel_rfl) (by kernel_rfl) (by kernel_rfl) (fun _ _ _ _ h => h) (by rfl) hS2 ?_)
    | (refine held_pure 33 ?vz33 rfl (by kernel_rfl) (by kernel_rfl) (by kernel_rfl) (fun _ _ _ _ h => h) (by rfl) ?yz33 hS2 ?rz33; case yz33 => ((intro w; go_simp) <;> with_reducible rfl))
  simp only [Act.put, List.setIfInBounds_toArray, List.set_cons_zero, List.set_cons_succ]
  first
    | (refine held_skip 34 rfl (by kernel_rfl) (by kernel_rfl) (by kernel_rfl) (fun _ _ _ _ h => h) (by rfl) hS2 ?_)
    | (refine held_pure 34 ?vz34 rfl (by kernel_rfl) (by kernel_rfl) (by kernel_rfl) (fun _ _ _ _ h => h) (by rfl) ?yz34 hS2 ?rz34; case yz34 => ((intro w; go_simp) <;> with_reducible rfl))
  simp only [Act.put, List.setIfInBounds_toArray, List.set_cons_zero, List.set_cons_succ]
  first
    | (refine held_skip 35 rfl (by kernel_rfl) (by kernel_rfl) (by kernel_rfl) (fun _ _ _ _ h => h) (by rfl) hS2 ?_)
    | (refine held_pure 35 ?vz35 rfl (by kernel_rfl) (by kernel_rfl) (by kernel_rfl) (fun _ _ _ _ h => h) (by rfl) ?yz35 hS2 ?rz35; case yz35 => ((intro w; go_simp) <;> with_reducible rfl))
  simp only [Act.put, List.setIfInBounds_toArray, List.set_cons_zero, List.set_cons_succ]
  first
    | (refine held_skip 36 rfl (by kernel_rfl) (by kernel_rfl) (by kernel_rfl) (fun _ _ _ _ h => h) (by rfl) hS2 ?_)
    | (refine held_pure 36 ?vz36 rfl (by kernel_rfl) (by kernel_rfl) (by kernel_rfl) (fun _ _ _ _ h => h) (by rfl) ?yz36 hS2 ?rz36; case yz36 => ((intro w; go_simp) <;> with_reducible rfl))
  simp only [Act.put, List.setIfInBounds_toArray, List.set_cons_zero, List.set_cons_succ]
  first
    | (refine held_skip 37 rfl (by kernel_rfl) (by kernel_rfl) (by kernel_rfl) (fun _ _ _ _ h => h) (by rfl) hS2 ?_)
    | (refine held_pure 37 ?vz37 rfl (by kernel_rfl) (by kernel_rfl) (by kernel_rfl) (fun _ _ _ _ h => h) (by rfl) ?yz37 hS2 ?rz37; case yz37 => ((intro w; go_simp) <;> with_reducible rfl))
  simp only [Act.put, List.setIfInBounds_toArray, List.set_cons_zero, List.set_cons_succ]
  first
    | (refine held_skip 38 rfl (by kernel_rfl) (by kernel_rfl) (by kernel_rfl) (fun _ _ _ _ h => h) (by rfl) hS2 ?_)
    | (refine held_pure 38 ?vz38 rfl (by kernel_rfl) (by kernel_rfl) (by kernel_rfl) (fun _ _ _ _ h => h) (by rfl) ?yz38 hS2 ?rz38; case yz38 => ((intro w; go_simp) <;> with_reducible rfl))
  simp only [Act.put, List.setIfInBounds_toArray, List.set_cons_zero, List.set_cons_succ]
  first
    | (refine held_skip 39 rfl (by kernel_rfl) (by kernel_rfl) (by kernel_rfl) (fun _ _ _ _ h => h) (by rfl) hS2 ?_)
    | (refine held_pure 39 ?vz39 rfl (by kernel_rfl) (by kernel_rfl) (by kernel_rfl) (fun _ _ _ _ h => h) (by rfl) ?yz39 hS2 ?rz39; case yz39 => ((intro w; go_simp) <;> with_reducible rfl))
  simp only [Act.put, List.setIfInBounds_toArray, List.set_cons_zero, List.set_cons_succ]
  first
    | (refine held_skip 40 rfl (by kernel_rfl) (by kernel_rfl) (by kernel_rfl) (fun _ _ _ _ h => h) (by rfl) hS2 ?_)
    | (refine held_pure 40 ?vz40 rfl (by kernel_rfl) (by kernel_rfl) (by kernel_rfl) (fun _ _ _ _ h => h) (by rfl) ?yz40 hS2 ?rz40; case yz40 => ((intro w; go_simp) <;> with_reducible rfl))
  simp only [Act.put, List.setIfInBounds_toArray, List.set_cons_zero, List.set_cons_succ]
  first
    | (refine held_skip 41 rfl (by kernel_rfl) (by kernel_rfl) (by kernel_rfl) (fun _ _ _ _ h => h) (by rfl) hS2 ?_)
    | (refine held_pure 41 ?vz41 rfl (by kernel_rfl) (by kernel_rfl) (by kernel_rfl) (fun _ _ _ _ h => h) (by rfl) ?yz41 hS2 ?rz41; case yz41 => ((intro w; go_simp) <;> with_reducible rfl))
  simp only [Act.put, List.setIfInBounds_toArray, List.set_cons_zero, List.set_cons_succ]
  first
    | (refine held_skip 42 rfl (by kernel_rfl) (by kernel_rfl) (by kernel_rfl) (fun _ _ _ _ h => h) (by rfl) hS2 ?_)
    | (refine held_pure 42 ?vz42 rfl (by kernel_rfl) (by kernel_rfl) (by kernel_rfl) (fun _ _ _ _ h => h) (by rfl) ?yz42 hS2 ?rz42; case yz42 => ((intro w; go_simp) <;> with_reducible rfl))
  simp only [Act.put, List.setIfInBounds_toArray, List.set_cons_zero, List.set_cons_succ]
  first
    | (refine held_skip 43 rfl (by kernel_rfl) (by kernel_rfl) (by kernel_rfl) (fun _ _ _ _ h => h) (by rfl) hS2 ?_)
    | (refine held_pure 43 ?vz43 rfl (by kernel_rfl) (by kernel_rfl) (by kernel_rfl) (fun _ _ _ _ h => h) (by rfl) ?yz43 hS2 ?rz43; case yz43 => ((intro w; go_simp) <;> with_reducible rfl))
  simp only [Act.put, List.setIfInBounds_toArray, List.set_cons_zero, List.set_cons_succ]
  first
    | (refine held_skip 44 rfl (by kernel_rfl) (by kernel_rfl) (by kernel_rfl) (fun _ _ _ _ h => h) (by rfl) hS2 ?_)
    | (refine held_pure 44 ?vz44 rfl (by kernel_rfl) (by kernel_rfl) (by kernel_rfl) (fun _ _ _ _ h => h) (by rfl) ?yz44 hS2 ?rz44; case yz44 => ((intro w; go_simp) <;> with_reducible rfl))
  simp only [Act.put, List.setIfInBounds_toArray, List.set_cons_zero, List.set_cons_succ]
  first
    | (refine held_skip 45 rfl (by kernel_rfl) (by kernel_rfl) (by kernel_rfl) (fun _ _ _ _ h => h) (by rfl) hS2 ?_)
    | (refine held_pure 45 ?vz45 rfl (by kernel_rfl) (by kernel_rfl) (by kernel_rfl) (fun _ _ _ _ h => h) (by rfl) ?yz45 hS2 ?rz45; case yz45 => ((intro w; go_simp) <;> with_reducible rfl))
  simp only [Act.put, List.setIfInBounds_toArray, List.set_cons_zero, List.set_cons_succ]
  first
    | (refine held_skip 46 rfl (by kernel_rfl) (by kernel_rfl) (by kernel_rfl) (fun _ _ _ _ h => h) (by rfl) hS2 ?_)
    | (refine held_pure 46 ?vz46 rfl (by kernel_rfl) (by kernel_rfl) (by kernel_rfl) (fun _ _ _ _ h => h) (by rfl) ?yz46 hS2 ?rz46; case yz46 => ((intro w; go_simp) <;> with_reducible rfl))
  simp only [Act.put, List.setIfInBounds_toArray, List.set_cons_zero, List.set_cons_succ]
  first
    | (refine held_skip 47 rfl (by kernel_rfl) (by kernel_rfl) (by kernel_rfl) (fun _ _ _ _ h => h) (by rfl) hS2 ?_)
    | (refine held_pure 47 ?vz47 rfl (by kernel_rfl) (by kernel_rfl) (by kernel_rfl) (fun _ _ _ _ h => h) (by rfl) ?yz47 hS2 ?rz47; case yz47 => ((intro w; go_simp) <;> with_reducible rfl))
  simp only [Act.put, List.setIfInBounds_toArray, List.set_cons_zero, List.set_cons_succ]
  first
    | (refine held_skip 48 rfl (by kernel_rfl) (by kernel_rfl) (by kernel_rfl) (fun _ _ _ _ h => h) (by rfl) hS2 ?_)
    | (refine held_pure 48 ?vz48 rfl (by kernel_rfl) (by kernel_rfl) (by kernel_rfl) (fun _ _ _ _ h => h) (by rfl) ?yz48 hS2 ?rz48; case yz48 => ((intro w; go_simp) <;> with_reducible rfl))
  simp only [Act.put, List.setIfInBounds_toArray, List.set_cons_zero, List.set_cons_succ]
  first
    | (refine held_skip 49 rfl (by kernel_rfl) (by kernel_rfl) (by kernel_rfl) (fun _ _ _ _ h => h) (by rfl) hS2 ?_)
    | (refine held_pure 49 ?vz49 rfl (by kernel_rfl) (by kernel_rfl) (by kernel_rfl) (fun _ _ _ _ h => h) (by rfl) ?yz49 hS2 ?rz49; case yz49 => ((intro w; go_simp) <;> with_reducible rfl))
  simp only [Act.put, List.setIfInBounds_toArray, List.set_cons_zero, List.set_cons_succ]
  first
    | (refine held_skip 50 rfl (by kernel_rfl) (by kernel_rfl) (by kernel_rfl) (fun _ _ _ _ h => h) (by rfl) hS2 ?_)
    | (refine held_pure 50 ?vz50 rfl (by kernel_rfl) (by kernel_rfl) (by kernel_rfl) (fun _ _ _ _ h => h) (by rfl) ?yz50 hS2 ?rz50; case yz50 => ((intro w; go_simp) <;> with_reducible rfl))
  simp only [Act.put, List.setIfInBounds_toArray, List.set_cons_zero, List.set_cons_succ]
  refine wpAnyH_done (by kernel_rfl) ?_ _
  go_wp2_with fail
  go_ret
  exact ⟨by simp, hS2.below⟩
end Go.Proofs.Ytgfcddanikeelaa
