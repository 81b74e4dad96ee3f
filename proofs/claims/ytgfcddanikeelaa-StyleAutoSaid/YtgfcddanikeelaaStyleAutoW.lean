/-
  The walk of StyleAuto.
-/
import Derived.Test.YtgfcddanikeelaaAwake6
import Derived.Test.YtgfcddanikeelaaStyleMath
import Derived.Test.YtgfcddanikeelaaStyleArg
namespace Go.Proofs.Ytgfcddanikeelaa
open Go.RowKit

def auto1 (s : RS) : RS := { s with width := ⟨0, 0⟩ }
def auto2 (s : RS) : RS := { auto1 s with minW := ⟨0, 0⟩ }
def auto3 (s : RS) : RS := { auto2 s with maxW := ⟨0, 0⟩ }
def auto4 (s : RS) : RS := { auto3 s with height := ⟨0, 0⟩ }
def auto5 (s : RS) : RS := { auto4 s with minH := ⟨0, 0⟩ }
set_option maxRecDepth 100000 in
set_option maxHeartbeats 8000000 in
theorem walkStyleAuto (z0 : RS) (a1 : Int) (w : World) (w0 : z0.ok) (w1 : (Lit.int .i64 a1).wf = true) :
    Calls Try.prog 9 #[styleV z0, .int .i64 a1] w fun e w' => e = .returned (.bool true) ∧ Below w.heap.size w w' := by
  unfold styleV
  have BL0 : Hid (Blocks w (w.alloc (.cells z0.cells.toArray 27)) [(w.heap.size, z0)]) := Lib.hid ((Blocks.nil w).grew (grew_alloc w _) z0 rfl)
  have AW := Lib.hid (fun W => awake_any W)
  have w0' := auto_ok w0
  obtain ⟨r, hr⟩ : ∃ r, mayB (autoS z0) = r := ⟨_, rfl⟩
  obtain ⟨er, her⟩ : ∃ er : Int, (if r = true then 0 else 60) = er := ⟨_, rfl⟩
  obtain ⟨mo, hmo⟩ : ∃ mo : Int, (if r = true then 1099511627776 else 0) = mo := ⟨_, rfl⟩
  have C1 := Lib.hid (fun W => width_any (autoS z0) w0' a1 (i64_in w1) W (0, false, er) (by
    unfold widthR
    rw [hr, ← her]
    cases r with
    | true => rw [if_pos rfl, if_pos rfl]; exact content_none _ _ _
    | false => rw [if_neg (by simp), if_neg (by simp)]))
  have C2 := Lib.hid (fun W => height_any (autoS z0) w0' W (0, false, er) (by
    unfold heightR
    rw [hr, ← her]
    cases r with
    | true => rw [if_pos rfl, if_pos rfl]; exact content_none _ _ _
    | false => rw [if_neg (by simp), if_neg (by simp)]))
  have C3 := Lib.hid (fun W => widths_any (autoS z0) w0' a1 (i64_in w1) W (0, mo, er) (by
    unfold widthsR
    rw [hr, ← her, ← hmo]
    cases r with
    | true => rw [if_pos rfl, if_pos rfl, if_pos rfl]; exact limits_none _ _ _
    | false => rw [if_neg (by simp), if_neg (by simp), if_neg (by simp)]))
  have C4 := Lib.hid (fun W => heights_any (autoS z0) w0' W (0, mo, er) (by
    unfold heightsR
    rw [hr, ← her, ← hmo]
    cases r with
    | true => rw [if_pos rfl, if_pos rfl, if_pos rfl]; exact limits_none _ _ _
    | false => rw [if_neg (by simp), if_neg (by simp), if_neg (by simp)]))
  have C5 := Lib.hid (fun W => may_any (autoS z0) w0' W r hr)
  have HE : Hid (r = true ∧ er = 0 ∧ mo = 1099511627776 ∨ r = false ∧ er = 60) := Lib.hid (by
    cases r with
    | true => exact .inl ⟨rfl, by rw [← her, if_pos rfl], by rw [← hmo, if_pos rfl]⟩
    | false => exact .inr ⟨rfl, by rw [← her, if_neg (by simp)]⟩)
  clear w0 w1 w0' hr her hmo
  go_enter Try.func9, Try.ntmps9
  go_wp2_with fail
  refine (AW.out _).mono ?_
  rintro e wq0 ⟨rfl, hb⟩
  have BL1 := Lib.hid (BL0.out.call hb)
  clear hb
  go_upto_region 4 with (first | ((with_reducible change wpList _ _ _ (Oper.mk none (Op.store 23 _ _) _ _ _ _ :: _) _ _); refine wpList_store_part rfl 23 _ _ rfl w.heap.size 2 rfl (.agg #[.int .u8 0, .int .i64 0]) rfl _ (BL1.out.box 0 rfl) (by kernel_rfl) (one_agg2 _ _ _ _) (by rw [(style_cellsz _).1]; decide) (auto1 z0).cells.toArray (by rfl) ?_; intro wk0 hs; have BL2 := Lib.hid (BL1.out.wrote hs 0 rfl (auto1 z0) rfl); clear hs) | ((with_reducible change wpList _ _ _ (Oper.mk none (Op.store 23 _ _) _ _ _ _ :: _) _ _); refine wpList_store_part rfl 23 _ _ rfl w.heap.size 4 rfl (.agg #[.int .u8 0, .int .i64 0]) rfl _ (BL2.out.box 0 rfl) (by kernel_rfl) (one_agg2 _ _ _ _) (by rw [(style_cellsz _).1]; decide) (auto2 z0).cells.toArray (by rfl) ?_; intro wk1 hs; have BL3 := Lib.hid (BL2.out.wrote hs 0 rfl (auto2 z0) rfl); clear hs) | ((with_reducible change wpList _ _ _ (Oper.mk none (Op.store 23 _ _) _ _ _ _ :: _) _ _); refine wpList_store_part rfl 23 _ _ rfl w.heap.size 6 rfl (.agg #[.int .u8 0, .int .i64 0]) rfl _ (BL3.out.box 0 rfl) (by kernel_rfl) (one_agg2 _ _ _ _) (by rw [(style_cellsz _).1]; decide) (auto3 z0).cells.toArray (by rfl) ?_; intro wk2 hs; have BL4 := Lib.hid (BL3.out.wrote hs 0 rfl (auto3 z0) rfl); clear hs) | ((with_reducible change wpList _ _ _ (Oper.mk none (Op.store 23 _ _) _ _ _ _ :: _) _ _); refine wpList_store_part rfl 23 _ _ rfl w.heap.size 8 rfl (.agg #[.int .u8 0, .int .i64 0]) rfl _ (BL4.out.box 0 rfl) (by kernel_rfl) (one_agg2 _ _ _ _) (by rw [(style_cellsz _).1]; decide) (auto4 z0).cells.toArray (by rfl) ?_; intro wk3 hs; have BL5 := Lib.hid (BL4.out.wrote hs 0 rfl (auto4 z0) rfl); clear hs) | ((with_reducible change wpList _ _ _ (Oper.mk none (Op.store 23 _ _) _ _ _ _ :: _) _ _); refine wpList_store_part rfl 23 _ _ rfl w.heap.size 10 rfl (.agg #[.int .u8 0, .int .i64 0]) rfl _ (BL5.out.box 0 rfl) (by kernel_rfl) (one_agg2 _ _ _ _) (by rw [(style_cellsz _).1]; decide) (auto5 z0).cells.toArray (by rfl) ?_; intro wk4 hs; have BL6 := Lib.hid (BL5.out.wrote hs 0 rfl (auto5 z0) rfl); clear hs) | ((with_reducible change wpList _ _ _ (Oper.mk none (Op.store 23 _ _) _ _ _ _ :: _) _ _); refine wpList_store_part rfl 23 _ _ rfl w.heap.size 12 rfl (.agg #[.int .u8 0, .int .i64 0]) rfl _ (BL6.out.box 0 rfl) (by kernel_rfl) (one_agg2 _ _ _ _) (by rw [(style_cellsz _).1]; decide) (autoS z0).cells.toArray (by rfl) ?_; intro wk5 hs; have BL7 := Lib.hid (BL6.out.wrote hs 0 rfl (autoS z0) rfl); clear hs))
  try simp only [Act.put]
  go_wp2_with (refine wpList_load_style (o := ⟨some 32, _, _, _, _, _⟩) rfl _ rfl w.heap.size rfl _ (BL7.out.box 0 rfl) (style_cellsz _).1 ?_)
  refine (C1.out _).mono ?_
  rintro e wq2 ⟨rfl, hb⟩
  have BL8 := Lib.hid (BL7.out.call hb)
  clear hb
  go_wp2_with (refine wpList_load_style (o := ⟨some 39, _, _, _, _, _⟩) rfl _ rfl w.heap.size rfl _ (BL8.out.box 0 rfl) (style_cellsz _).1 ?_)
  refine (C2.out _).mono ?_
  rintro e wq3 ⟨rfl, hb⟩
  have BL9 := Lib.hid (BL8.out.call hb)
  clear hb
  go_wp2_with (refine wpList_load_style (o := ⟨some 45, _, _, _, _, _⟩) rfl _ rfl w.heap.size rfl _ (BL9.out.box 0 rfl) (style_cellsz _).1 ?_)
  refine (C3.out _).mono ?_
  rintro e wq4 ⟨rfl, hb⟩
  have BL10 := Lib.hid (BL9.out.call hb)
  clear hb
  go_wp2_with (refine wpList_load_style (o := ⟨some 52, _, _, _, _, _⟩) rfl _ rfl w.heap.size rfl _ (BL10.out.box 0 rfl) (style_cellsz _).1 ?_)
  refine (C4.out _).mono ?_
  rintro e wq5 ⟨rfl, hb⟩
  have BL11 := Lib.hid (BL10.out.call hb)
  clear hb
  rcases HE.out with ⟨rfl, rfl, rfl⟩ | ⟨rfl, rfl⟩
  · go_wp2_with (refine wpList_load_style (o := ⟨some 87, _, _, _, _, _⟩) rfl _ rfl w.heap.size rfl _ (BL11.out.box 0 rfl) (style_cellsz _).1 ?_)
    refine (C5.out _).mono ?_
    rintro e wq7 ⟨rfl, hb⟩
    have BL12 := Lib.hid (BL11.out.call hb)
    clear hb
    go_wp2_with fail
    go_ret
    exact ⟨rfl, BL12.out.below⟩
  · go_wp2_with (refine wpList_load_style (o := ⟨some 87, _, _, _, _, _⟩) rfl _ rfl w.heap.size rfl _ (BL11.out.box 0 rfl) (style_cellsz _).1 ?_)
    refine (C5.out _).mono ?_
    rintro e wq7 ⟨rfl, hb⟩
    have BL12 := Lib.hid (BL11.out.call hb)
    clear hb
    go_wp2_with fail
    go_ret
    exact ⟨rfl, BL12.out.below⟩
end Go.Proofs.Ytgfcddanikeelaa
