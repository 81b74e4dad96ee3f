/-
  The walks of StyleMay, StyleLengths.
-/
import Derived.Test.YtgfcddanikeelaaRefMay
import Derived.Test.YtgfcddanikeelaaStyleWidth
import Derived.Test.YtgfcddanikeelaaStyleArg
import Derived.Test.YtgfcddanikeelaaHeld6
import Derived.Deep.Cut
namespace Go.Proofs.Ytgfcddanikeelaa
open Go.RowKit

theorem style_load {W : World} {b : Nat} {X : Array Value} (hs : (Try.prog.info? 27).map (·.size) = some X.size) (h : Box27 W b X) : (Instr.loadAt 27 (.pointer (some ⟨b, 0, none⟩))).run Try.prog W = .ok (.agg X) W := by
  simp only [Instr.loadAt, Instr.sureAddr, Sem.run_bind, Sem.run_pure, Result.andThen_ok, run_loadVar_row W b _ 27 X _ _ h.2 Try.underlying27 rfl hs]

set_option maxRecDepth 100000 in
set_option maxHeartbeats 8000000 in
theorem walkStyleMay (z0 : RS) (a1 : Int) (w : World) (w0 : z0.ok) (_ : (Lit.int .i64 a1).wf = true) :
    Calls Try.prog 3 #[styleV z0, .int .i64 a1] w fun e w' => e = .returned (.bool true) ∧ Below w.heap.size w w' := by
  unfold styleV
  have BX := Lib.hid (Box27.new w z0.cells.toArray)
  have XS : Hid (z0.cells.toArray.size = 47) := Lib.hid z0.len
  have SZ : Hid ((Try.prog.info? 27).map (·.size) = some z0.cells.toArray.size) := Lib.hid style_size
  have HL : Hid (∀ W, (Box27 W w.heap.size z0.cells.toArray ∧ Below w.heap.size w W) → (Instr.loadAt 27 (.pointer (some ⟨w.heap.size, 0, none⟩))).run Try.prog W = .ok (.agg z0.cells.toArray) W) := Lib.hid (fun W h => style_load SZ.out h.1)
  obtain ⟨r, hr⟩ : ∃ r, mayB z0 = r := ⟨_, rfl⟩
  have M := Lib.hid (fun W => may_any z0 w0 W r hr)
  have N := Lib.hid (fun W => refMay_any z0 w0 W r hr)
  obtain ⟨q, hq⟩ : ∃ q, edgesR z0 = q := ⟨_, rfl⟩
  have E := Lib.hid (fun W => edges_any z0 w0 W q hq)
  have Q1 : Hid (r = true → q = (acrossV z0, upV z0, 0)) := Lib.hid (fun h => by rw [← hq]; unfold edgesR; rw [if_pos (hr.trans h)])
  have Q2 : Hid (r = false → q = (0, 0, 60)) := Lib.hid (fun h => by rw [← hq]; unfold edgesR; rw [if_neg (by rw [hr, h]; simp)])
  have D : Hid (∀ W, r = true → Calls Try.prog 15 #[.agg z0.cells.toArray] W fun e w' => e = .returned (.tuple #[.int .i64 (acrossV z0), .int .i64 (upV z0)]) ∧ Below W.heap.size W w') := Lib.hid (fun W h => refEdges_any z0 (hr.trans h) W _ _ rfl rfl)
  have F := Lib.hid (fun W => font_any z0 a1 W _ rfl)
  have G := Lib.hid (fun W => refFont_any z0 a1 W _ rfl)
  clear hr hq w0
  generalize z0.cells.toArray = X at *
  generalize acrossV z0 = ac at *
  generalize upV z0 = up at *
  generalize fontR z0 a1 = fo at *
  have ZZ : Hid (∀ W W', (Box27 W w.heap.size X ∧ Below w.heap.size w W) → Below W.heap.size W W' → Box27 W' w.heap.size X ∧ Below w.heap.size w W') := Lib.hid (fun W W' h hb => ⟨h.1.below hb, h.2.trans (hb.mono h.2.size)⟩)
  have Z0 : Hid (Box27 (w.alloc (.cells X 27)) w.heap.size X ∧ Below w.heap.size w (w.alloc (.cells X 27))) := Lib.hid ⟨BX.out, (Below.refl _ _).alloc (Nat.le_refl _) _⟩
  cases r with
  | true =>
    obtain rfl := Q1.out rfl
    go_enter Try.func3, Try.ntmps3
    go_wp2_with (refine wpList_load_row (o := ⟨some 12, _, _, _, _, _⟩) rfl 27 _ rfl w.heap.size rfl _ X _ _ BX.out.2 Try.underlying27 rfl SZ.out ?_)
    refine (E.out _).mono ?_
    rintro e w1 ⟨rfl, hb1⟩
    have Z1 := Lib.hid (ZZ.out _ _ Z0.out hb1)
    clear hb1
    go_wp2_with (refine wpList_load_row (o := ⟨some 17, _, _, _, _, _⟩) rfl 27 _ rfl w.heap.size rfl _ X _ _ Z1.out.1.2 Try.underlying27 rfl SZ.out ?_)
    refine (N.out _).mono ?_
    rintro e w2 ⟨rfl, hb2⟩
    have Z2 := Lib.hid (ZZ.out _ _ Z1.out hb2)
    clear hb2
    go_upto_region 3 with fail
    go_cut [44] from 19 (fun c wx => c = .bool false ∧ Box27 wx w.heap.size X ∧ Below w.heap.size w wx)
    case first =>
      have hl := HL.out
      have hz2 := Z2.out
      have hS : Box27 w2.drew w.heap.size X ∧ Below w.heap.size w w2.drew := ⟨Z2.out.1, Z2.out.2.drew⟩
      refine wp_region_held_drew (S := fun W => Box27 W w.heap.size X ∧ Below w.heap.size w W) (by kernel_rfl) hS (fun _ => ?_)
      clear hl hz2
      refine held_style 0 rfl (by kernel_rfl) (by kernel_rfl) (by kernel_rfl) (fun _ _ _ _ h => h) _ rfl (by rfl) w.heap.size X rfl (fun _ h => h.1) XS.out hS ?_
      simp only [Act.put, List.setIfInBounds_toArray, List.set_cons_zero, List.set_cons_succ]
      first
        | (refine held_skip 2 rfl (by kernel_rfl) (by kernel_rfl) (by kernel_rfl) (fun _ _ _ _ h => h) (by rfl) hS ?_)
        | (refine held_pure 2 ?va2 rfl (by kernel_rfl) (by kernel_rfl) (by kernel_rfl) (fun _ _ _ _ h => h) (by rfl) ?ya2 hS ?ra2; case ya2 => ((intro w; go_simp) <;> with_reducible rfl))
      simp only [Act.put, List.setIfInBounds_toArray, List.set_cons_zero, List.set_cons_succ]
      refine held_one 1 rfl (by kernel_rfl) (by rfl) (fun K hK => ?_)
      go_simp
      refine (M.out _).mono ?_
      rintro e wq1 ⟨rfl, hbq1⟩
      have hS1 := ZZ.out _ _ hS hbq1
      clear hbq1
      refine hK.out _ _ hS1 (fun _ => ?_)
      clear hK K
      try simp only [Act.put, List.setIfInBounds_toArray, List.set_cons_zero, List.set_cons_succ]
      first
        | (refine held_skip 3 rfl (by kernel_rfl) (by kernel_rfl) (by kernel_rfl) (fun _ _ _ _ h => h) (by rfl) hS1 ?_)
        | (refine held_pure 3 ?va3 rfl (by kernel_rfl) (by kernel_rfl) (by kernel_rfl) (fun _ _ _ _ h => h) (by rfl) ?ya3 hS1 ?ra3; case ya3 => ((intro w; go_simp) <;> with_reducible rfl))
      simp only [Act.put, List.setIfInBounds_toArray, List.set_cons_zero, List.set_cons_succ]
      first
        | (refine held_skip 4 rfl (by kernel_rfl) (by kernel_rfl) (by kernel_rfl) (fun _ _ _ _ h => h) (by rfl) hS1 ?_)
        | (refine held_pure 4 ?va4 rfl (by kernel_rfl) (by kernel_rfl) (by kernel_rfl) (fun _ _ _ _ h => h) (by rfl) ?ya4 hS1 ?ra4; case ya4 => ((intro w; go_simp) <;> with_reducible rfl))
      simp only [Act.put, List.setIfInBounds_toArray, List.set_cons_zero, List.set_cons_succ]
      first
        | (refine held_skip 5 rfl (by kernel_rfl) (by kernel_rfl) (by kernel_rfl) (fun _ _ _ _ h => h) (by rfl) hS1 ?_)
        | (refine held_pure 5 ?va5 rfl (by kernel_rfl) (by kernel_rfl) (by kernel_rfl) (fun _ _ _ _ h => h) (by rfl) ?ya5 hS1 ?ra5; case ya5 => ((intro w; go_simp) <;> with_reducible rfl))
      simp only [Act.put, List.setIfInBounds_toArray, List.set_cons_zero, List.set_cons_succ]
      first
        | (refine held_skip 6 rfl (by kernel_rfl) (by kernel_rfl) (by kernel_rfl) (fun _ _ _ _ h => h) (by rfl) hS1 ?_)
        | (refine held_pure 6 ?va6 rfl (by kernel_rfl) (by kernel_rfl) (by kernel_rfl) (fun _ _ _ _ h => h) (by rfl) ?ya6 hS1 ?ra6; case ya6 => ((intro w; go_simp) <;> with_reducible rfl))
      simp only [Act.put, List.setIfInBounds_toArray, List.set_cons_zero, List.set_cons_succ]
      first
        | (refine held_skip 7 rfl (by kernel_rfl) (by kernel_rfl) (by kernel_rfl) (fun _ _ _ _ h => h) (by rfl) hS1 ?_)
        | (refine held_pure 7 ?va7 rfl (by kernel_rfl) (by kernel_rfl) (by kernel_rfl) (fun _ _ _ _ h => h) (by rfl) ?ya7 hS1 ?ra7; case ya7 => ((intro w; go_simp) <;> with_reducible rfl))
      simp only [Act.put, List.setIfInBounds_toArray, List.set_cons_zero, List.set_cons_succ]
      first
        | (refine held_skip 8 rfl (by kernel_rfl) (by kernel_rfl) (by kernel_rfl) (fun _ _ _ _ h => h) (by rfl) hS1 ?_)
        | (refine held_pure 8 ?va8 rfl (by kernel_rfl) (by kernel_rfl) (by kernel_rfl) (fun _ _ _ _ h => h) (by rfl) ?ya8 hS1 ?ra8; case ya8 => ((intro w; go_simp) <;> with_reducible rfl))
      simp only [Act.put, List.setIfInBounds_toArray, List.set_cons_zero, List.set_cons_succ]
      first
        | (refine held_skip 9 rfl (by kernel_rfl) (by kernel_rfl) (by kernel_rfl) (fun _ _ _ _ h => h) (by rfl) hS1 ?_)
        | (refine held_pure 9 ?va9 rfl (by kernel_rfl) (by kernel_rfl) (by kernel_rfl) (fun _ _ _ _ h => h) (by rfl) ?ya9 hS1 ?ra9; case ya9 => ((intro w; go_simp) <;> with_reducible rfl))
      simp only [Act.put, List.setIfInBounds_toArray, List.set_cons_zero, List.set_cons_succ]
      first
        | (refine held_skip 10 rfl (by kernel_rfl) (by kernel_rfl) (by kernel_rfl) (fun _ _ _ _ h => h) (by rfl) hS1 ?_)
        | (refine held_pure 10 ?va10 rfl (by kernel_rfl) (by kernel_rfl) (by kernel_rfl) (fun _ _ _ _ h => h) (by rfl) ?ya10 hS1 ?ra10; case ya10 => ((intro w; go_simp) <;> with_reducible rfl))
      simp only [Act.put, List.setIfInBounds_toArray, List.set_cons_zero, List.set_cons_succ]
      first
        | (refine held_skip 11 rfl (by kernel_rfl) (by kernel_rfl) (by kernel_rfl) (fun _ _ _ _ h => h) (by rfl) hS1 ?_)
        | (refine held_pure 11 ?va11 rfl (by kernel_rfl) (by kernel_rfl) (by kernel_rfl) (fun _ _ _ _ h => h) (by rfl) ?ya11 hS1 ?ra11; case ya11 => ((intro w; go_simp) <;> with_reducible rfl))
      simp only [Act.put, List.setIfInBounds_toArray, List.set_cons_zero, List.set_cons_succ]
      first
        | (refine held_skip 12 rfl (by kernel_rfl) (by kernel_rfl) (by kernel_rfl) (fun _ _ _ _ h => h) (by rfl) hS1 ?_)
        | (refine held_pure 12 ?va12 rfl (by kernel_rfl) (by kernel_rfl) (by kernel_rfl) (fun _ _ _ _ h => h) (by rfl) ?ya12 hS1 ?ra12; case ya12 => ((intro w; go_simp) <;> with_reducible rfl))
      simp only [Act.put, List.setIfInBounds_toArray, List.set_cons_zero, List.set_cons_succ]
      first
        | (refine held_skip 13 rfl (by kernel_rfl) (by kernel_rfl) (by kernel_rfl) (fun _ _ _ _ h => h) (by rfl) hS1 ?_)
        | (refine held_pure 13 ?va13 rfl (by kernel_rfl) (by kernel_rfl) (by kernel_rfl) (fun _ _ _ _ h => h) (by rfl) ?ya13 hS1 ?ra13; case ya13 => ((intro w; go_simp) <;> with_reducible rfl))
      simp only [Act.put, List.setIfInBounds_toArray, List.set_cons_zero, List.set_cons_succ]
      first
        | (refine held_skip 14 rfl (by kernel_rfl) (by kernel_rfl) (by kernel_rfl) (fun _ _ _ _ h => h) (by rfl) hS1 ?_)
        | (refine held_pure 14 ?va14 rfl (by kernel_rfl) (by kernel_rfl) (by kernel_rfl) (fun _ _ _ _ h => h) (by rfl) ?ya14 hS1 ?ra14; case ya14 => ((intro w; go_simp) <;> with_reducible rfl))
      simp only [Act.put, List.setIfInBounds_toArray, List.set_cons_zero, List.set_cons_succ]
      first
        | (refine held_skip 15 rfl (by kernel_rfl) (by kernel_rfl) (by kernel_rfl) (fun _ _ _ _ h => h) (by rfl) hS1 ?_)
        | (refine held_pure 15 ?va15 rfl (by kernel_rfl) (by kernel_rfl) (by kernel_rfl) (fun _ _ _ _ h => h) (by rfl) ?ya15 hS1 ?ra15; case ya15 => ((intro w; go_simp) <;> with_reducible rfl))
      simp only [Act.put, List.setIfInBounds_toArray, List.set_cons_zero, List.set_cons_succ]
      first
        | (refine held_skip 16 rfl (by kernel_rfl) (by kernel_rfl) (by kernel_rfl) (fun _ _ _ _ h => h) (by rfl) hS1 ?_)
        | (refine held_pure 16 ?va16 rfl (by kernel_rfl) (by kernel_rfl) (by kernel_rfl) (fun _ _ _ _ h => h) (by rfl) ?ya16 hS1 ?ra16; case ya16 => ((intro w; go_simp) <;> with_reducible rfl))
      simp only [Act.put, List.setIfInBounds_toArray, List.set_cons_zero, List.set_cons_succ]
      first
        | (refine held_skip 17 rfl (by kernel_rfl) (by kernel_rfl) (by kernel_rfl) (fun _ _ _ _ h => h) (by rfl) hS1 ?_)
        | (refine held_pure 17 ?va17 rfl (by kernel_rfl) (by kernel_rfl) (by kernel_rfl) (fun _ _ _ _ h => h) (by rfl) ?ya17 hS1 ?ra17; case ya17 => ((intro w; go_simp) <;> with_reducible rfl))
      simp only [Act.put, List.setIfInBounds_toArray, List.set_cons_zero, List.set_cons_succ]
      first
        | (refine held_skip 18 rfl (by kernel_rfl) (by kernel_rfl) (by kernel_rfl) (fun _ _ _ _ h => h) (by rfl) hS1 ?_)
        | (refine held_style 18 rfl (by kernel_rfl) (by kernel_rfl) (by kernel_rfl) (fun _ _ _ _ h => h) _ rfl (by rfl) w.heap.size X rfl (fun _ h => h.1) XS.out hS1 ?_)
      simp only [Act.put, List.setIfInBounds_toArray, List.set_cons_zero, List.set_cons_succ]
      first
        | (refine held_skip 19 rfl (by kernel_rfl) (by kernel_rfl) (by kernel_rfl) (fun _ _ _ _ h => h) (by rfl) hS1 ?_)
        | (refine held_pure 19 ?va19 rfl (by kernel_rfl) (by kernel_rfl) (by kernel_rfl) (fun _ _ _ _ h => h) (by rfl) ?ya19 hS1 ?ra19; case ya19 => ((intro w; go_simp) <;> with_reducible rfl))
      simp only [Act.put, List.setIfInBounds_toArray, List.set_cons_zero, List.set_cons_succ]
      first
        | (refine held_skip 21 rfl (by kernel_rfl) (by kernel_rfl) (by kernel_rfl) (fun _ _ _ _ h => h) (by rfl) hS1 ?_)
        | (refine held_style 21 rfl (by kernel_rfl) (by kernel_rfl) (by kernel_rfl) (fun _ _ _ _ h => h) _ rfl (by rfl) w.heap.size X rfl (fun _ h => h.1) XS.out hS1 ?_)
      simp only [Act.put, List.setIfInBounds_toArray, List.set_cons_zero, List.set_cons_succ]
      first
        | (refine held_skip 22 rfl (by kernel_rfl) (by kernel_rfl) (by kernel_rfl) (fun _ _ _ _ h => h) (by rfl) hS1 ?_)
        | (refine held_pure 22 ?va22 rfl (by kernel_rfl) (by kernel_rfl) (by kernel_rfl) (fun _ _ _ _ h => h) (by rfl) ?ya22 hS1 ?ra22; case ya22 => ((intro w; go_simp) <;> with_reducible rfl))
      simp only [Act.put, List.setIfInBounds_toArray, List.set_cons_zero, List.set_cons_succ]
      refine held_one 20 rfl (by kernel_rfl) (by rfl) (fun K hK => ?_)
      go_simp
      refine (F.out _).mono ?_
      rintro e wq2 ⟨rfl, hbq2⟩
      have hS2 := ZZ.out _ _ hS1 hbq2
      clear hbq2
      refine hK.out _ _ hS2 (fun _ => ?_)
      clear hK K
      try simp only [Act.put, List.setIfInBounds_toArray, List.set_cons_zero, List.set_cons_succ]
      refine held_one 23 rfl (by kernel_rfl) (by rfl) (fun K hK => ?_)
      go_simp
      refine (G.out _).mono ?_
      rintro e wq3 ⟨rfl, hbq3⟩
      have hS3 := ZZ.out _ _ hS2 hbq3
      clear hbq3
      refine hK.out _ _ hS3 (fun _ => ?_)
      clear hK K
      try simp only [Act.put, List.setIfInBounds_toArray, List.set_cons_zero, List.set_cons_succ]
      first
        | (refine held_skip 24 rfl (by kernel_rfl) (by kernel_rfl) (by kernel_rfl) (fun _ _ _ _ h => h) (by rfl) hS3 ?_)
        | (refine held_pure 24 ?va24 rfl (by kernel_rfl) (by kernel_rfl) (by kernel_rfl) (fun _ _ _ _ h => h) (by rfl) ?ya24 hS3 ?ra24; case ya24 => ((intro w; go_simp) <;> with_reducible rfl))
      simp only [Act.put, List.setIfInBounds_toArray, List.set_cons_zero, List.set_cons_succ]
      first
        | (refine held_skip 25 rfl (by kernel_rfl) (by kernel_rfl) (by kernel_rfl) (fun _ _ _ _ h => h) (by rfl) hS3 ?_)
        | (refine held_pure 25 ?va25 rfl (by kernel_rfl) (by kernel_rfl) (by kernel_rfl) (fun _ _ _ _ h => h) (by rfl) ?ya25 hS3 ?ra25; case ya25 => ((intro w; go_simp) <;> with_reducible rfl))
      simp only [Act.put, List.setIfInBounds_toArray, List.set_cons_zero, List.set_cons_succ]
      refine wpAnyH_done (by kernel_rfl) ?_ _
      go_wp2_with fail
      go_meet
      exact ⟨rfl, hS3⟩
    case rest =>
      obtain ⟨rfl, hz⟩ := hcut
      obtain ⟨wa, rfl⟩ : ∃ wo : World, wo = wc := ⟨_, rfl⟩
      have ZA := Lib.hid hz
      clear hz
      go_wp2_with (refine wpList_load_row (o := ⟨some 54, _, _, _, _, _⟩) rfl 27 _ rfl w.heap.size rfl _ X _ _ ZA.out.1.2 Try.underlying27 rfl SZ.out ?_)
      refine (D.out _ (by trivial)).mono ?_
      rintro e w4 ⟨rfl, hb4⟩
      have Z4 := Lib.hid (ZZ.out _ _ ZA.out hb4)
      clear hb4
      go_wp2_with fail
      go_ret
      exact ⟨by simp, Z4.out.2⟩
  | false =>
    obtain rfl := Q2.out rfl
    go_enter Try.func3, Try.ntmps3
    go_wp2_with (refine wpList_load_row (o := ⟨some 12, _, _, _, _, _⟩) rfl 27 _ rfl w.heap.size rfl _ X _ _ BX.out.2 Try.underlying27 rfl SZ.out ?_)
    refine (E.out _).mono ?_
    rintro e w1 ⟨rfl, hb1⟩
    have Z1 := Lib.hid (ZZ.out _ _ Z0.out hb1)
    clear hb1
    go_wp2_with (refine wpList_load_row (o := ⟨some 17, _, _, _, _, _⟩) rfl 27 _ rfl w.heap.size rfl _ X _ _ Z1.out.1.2 Try.underlying27 rfl SZ.out ?_)
    refine (N.out _).mono ?_
    rintro e w2 ⟨rfl, hb2⟩
    have Z2 := Lib.hid (ZZ.out _ _ Z1.out hb2)
    clear hb2
    go_upto_region 3 with fail
    go_cut [44] from 19 (fun c wx => c = .bool false ∧ Box27 wx w.heap.size X ∧ Below w.heap.size w wx)
    case first =>
      have hl := HL.out
      have hz2 := Z2.out
      have hS : Box27 w2.drew w.heap.size X ∧ Below w.heap.size w w2.drew := ⟨Z2.out.1, Z2.out.2.drew⟩
      refine wp_region_held_drew (S := fun W => Box27 W w.heap.size X ∧ Below w.heap.size w W) (by kernel_rfl) hS (fun _ => ?_)
      clear hl hz2
      refine held_style 0 rfl (by kernel_rfl) (by kernel_rfl) (by kernel_rfl) (fun _ _ _ _ h => h) _ rfl (by rfl) w.heap.size X rfl (fun _ h => h.1) XS.out hS ?_
      simp only [Act.put, List.setIfInBounds_toArray, List.set_cons_zero, List.set_cons_succ]
      first
        | (refine held_skip 2 rfl (by kernel_rfl) (by kernel_rfl) (by kernel_rfl) (fun _ _ _ _ h => h) (by rfl) hS ?_)
        | (refine held_pure 2 ?vb2 rfl (by kernel_rfl) (by kernel_rfl) (by kernel_rfl) (fun _ _ _ _ h => h) (by rfl) ?yb2 hS ?rb2; case yb2 => ((intro w; go_simp) <;> with_reducible rfl))
      simp only [Act.put, List.setIfInBounds_toArray, List.set_cons_zero, List.set_cons_succ]
      refine held_one 1 rfl (by kernel_rfl) (by rfl) (fun K hK => ?_)
      go_simp
      refine (M.out _).mono ?_
      rintro e wq1 ⟨rfl, hbq1⟩
      have hS1 := ZZ.out _ _ hS hbq1
      clear hbq1
      refine hK.out _ _ hS1 (fun _ => ?_)
      clear hK K
      try simp only [Act.put, List.setIfInBounds_toArray, List.set_cons_zero, List.set_cons_succ]
      first
        | (refine held_skip 3 rfl (by kernel_rfl) (by kernel_rfl) (by kernel_rfl) (fun _ _ _ _ h => h) (by rfl) hS1 ?_)
        | (refine held_pure 3 ?vb3 rfl (by kernel_rfl) (by kernel_rfl) (by kernel_rfl) (fun _ _ _ _ h => h) (by rfl) ?yb3 hS1 ?rb3; case yb3 => ((intro w; go_simp) <;> with_reducible rfl))
      simp only [Act.put, List.setIfInBounds_toArray, List.set_cons_zero, List.set_cons_succ]
      first
        | (refine held_skip 4 rfl (by kernel_rfl) (by kernel_rfl) (by kernel_rfl) (fun _ _ _ _ h => h) (by rfl) hS1 ?_)
        | (refine held_pure 4 ?vb4 rfl (by kernel_rfl) (by kernel_rfl) (by kernel_rfl) (fun _ _ _ _ h => h) (by rfl) ?yb4 hS1 ?rb4; case yb4 => ((intro w; go_simp) <;> with_reducible rfl))
      simp only [Act.put, List.setIfInBounds_toArray, List.set_cons_zero, List.set_cons_succ]
      first
        | (refine held_skip 5 rfl (by kernel_rfl) (by kernel_rfl) (by kernel_rfl) (fun _ _ _ _ h => h) (by rfl) hS1 ?_)
        | (refine held_pure 5 ?vb5 rfl (by kernel_rfl) (by kernel_rfl) (by kernel_rfl) (fun _ _ _ _ h => h) (by rfl) ?yb5 hS1 ?rb5; case yb5 => ((intro w; go_simp) <;> with_reducible rfl))
      simp only [Act.put, List.setIfInBounds_toArray, List.set_cons_zero, List.set_cons_succ]
      first
        | (refine held_skip 6 rfl (by kernel_rfl) (by kernel_rfl) (by kernel_rfl) (fun _ _ _ _ h => h) (by rfl) hS1 ?_)
        | (refine held_pure 6 ?vb6 rfl (by kernel_rfl) (by kernel_rfl) (by kernel_rfl) (fun _ _ _ _ h => h) (by rfl) ?yb6 hS1 ?rb6; case yb6 => ((intro w; go_simp) <;> with_reducible rfl))
      simp only [Act.put, List.setIfInBounds_toArray, List.set_cons_zero, List.set_cons_succ]
      first
        | (refine held_skip 7 rfl (by kernel_rfl) (by kernel_rfl) (by kernel_rfl) (fun _ _ _ _ h => h) (by rfl) hS1 ?_)
        | (refine held_pure 7 ?vb7 rfl (by kernel_rfl) (by kernel_rfl) (by kernel_rfl) (fun _ _ _ _ h => h) (by rfl) ?yb7 hS1 ?rb7; case yb7 => ((intro w; go_simp) <;> with_reducible rfl))
      simp only [Act.put, List.setIfInBounds_toArray, List.set_cons_zero, List.set_cons_succ]
      first
        | (refine held_skip 8 rfl (by kernel_rfl) (by kernel_rfl) (by kernel_rfl) (fun _ _ _ _ h => h) (by rfl) hS1 ?_)
        | (refine held_pure 8 ?vb8 rfl (by kernel_rfl) (by kernel_rfl) (by kernel_rfl) (fun _ _ _ _ h => h) (by rfl) ?yb8 hS1 ?rb8; case yb8 => ((intro w; go_simp) <;> with_reducible rfl))
      simp only [Act.put, List.setIfInBounds_toArray, List.set_cons_zero, List.set_cons_succ]
      first
        | (refine held_skip 9 rfl (by kernel_rfl) (by kernel_rfl) (by kernel_rfl) (fun _ _ _ _ h => h) (by rfl) hS1 ?_)
        | (refine held_pure 9 ?vb9 rfl (by kernel_rfl) (by kernel_rfl) (by kernel_rfl) (fun _ _ _ _ h => h) (by rfl) ?yb9 hS1 ?rb9; case yb9 => ((intro w; go_simp) <;> with_reducible rfl))
      simp only [Act.put, List.setIfInBounds_toArray, List.set_cons_zero, List.set_cons_succ]
      first
        | (refine held_skip 10 rfl (by kernel_rfl) (by kernel_rfl) (by kernel_rfl) (fun _ _ _ _ h => h) (by rfl) hS1 ?_)
        | (refine held_pure 10 ?vb10 rfl (by kernel_rfl) (by kernel_rfl) (by kernel_rfl) (fun _ _ _ _ h => h) (by rfl) ?yb10 hS1 ?rb10; case yb10 => ((intro w; go_simp) <;> with_reducible rfl))
      simp only [Act.put, List.setIfInBounds_toArray, List.set_cons_zero, List.set_cons_succ]
      first
        | (refine held_skip 11 rfl (by kernel_rfl) (by kernel_rfl) (by kernel_rfl) (fun _ _ _ _ h => h) (by rfl) hS1 ?_)
        | (refine held_pure 11 ?vb11 rfl (by kernel_rfl) (by kernel_rfl) (by kernel_rfl) (fun _ _ _ _ h => h) (by rfl) ?yb11 hS1 ?rb11; case yb11 => ((intro w; go_simp) <;> with_reducible rfl))
      simp only [Act.put, List.setIfInBounds_toArray, List.set_cons_zero, List.set_cons_succ]
      first
        | (refine held_skip 12 rfl (by kernel_rfl) (by kernel_rfl) (by kernel_rfl) (fun _ _ _ _ h => h) (by rfl) hS1 ?_)
        | (refine held_pure 12 ?vb12 rfl (by kernel_rfl) (by kernel_rfl) (by kernel_rfl) (fun _ _ _ _ h => h) (by rfl) ?yb12 hS1 ?rb12; case yb12 => ((intro w; go_simp) <;> with_reducible rfl))
      simp only [Act.put, List.setIfInBounds_toArray, List.set_cons_zero, List.set_cons_succ]
      first
        | (refine held_skip 13 rfl (by kernel_rfl) (by kernel_rfl) (by kernel_rfl) (fun _ _ _ _ h => h) (by rfl) hS1 ?_)
        | (refine held_pure 13 ?vb13 rfl (by kernel_rfl) (by kernel_rfl) (by kernel_rfl) (fun _ _ _ _ h => h) (by rfl) ?yb13 hS1 ?rb13; case yb13 => ((intro w; go_simp) <;> with_reducible rfl))
      simp only [Act.put, List.setIfInBounds_toArray, List.set_cons_zero, List.set_cons_succ]
      first
        | (refine held_skip 14 rfl (by kernel_rfl) (by kernel_rfl) (by kernel_rfl) (fun _ _ _ _ h => h) (by rfl) hS1 ?_)
        | (refine held_pure 14 ?vb14 rfl (by kernel_rfl) (by kernel_rfl) (by kernel_rfl) (fun _ _ _ _ h => h) (by rfl) ?yb14 hS1 ?rb14; case yb14 => ((intro w; go_simp) <;> with_reducible rfl))
      simp only [Act.put, List.setIfInBounds_toArray, List.set_cons_zero, List.set_cons_succ]
      first
        | (refine held_skip 15 rfl (by kernel_rfl) (by kernel_rfl) (by kernel_rfl) (fun _ _ _ _ h => h) (by rfl) hS1 ?_)
        | (refine held_pure 15 ?vb15 rfl (by kernel_rfl) (by kernel_rfl) (by kernel_rfl) (fun _ _ _ _ h => h) (by rfl) ?yb15 hS1 ?rb15; case yb15 => ((intro w; go_simp) <;> with_reducible rfl))
      simp only [Act.put, List.setIfInBounds_toArray, List.set_cons_zero, List.set_cons_succ]
      first
        | (refine held_skip 16 rfl (by kernel_rfl) (by kernel_rfl) (by kernel_rfl) (fun _ _ _ _ h => h) (by rfl) hS1 ?_)
        | (refine held_pure 16 ?vb16 rfl (by kernel_rfl) (by kernel_rfl) (by kernel_rfl) (fun _ _ _ _ h => h) (by rfl) ?yb16 hS1 ?rb16; case yb16 => ((intro w; go_simp) <;> with_reducible rfl))
      simp only [Act.put, List.setIfInBounds_toArray, List.set_cons_zero, List.set_cons_succ]
      first
        | (refine held_skip 17 rfl (by kernel_rfl) (by kernel_rfl) (by kernel_rfl) (fun _ _ _ _ h => h) (by rfl) hS1 ?_)
        | (refine held_pure 17 ?vb17 rfl (by kernel_rfl) (by kernel_rfl) (by kernel_rfl) (fun _ _ _ _ h => h) (by rfl) ?yb17 hS1 ?rb17; case yb17 => ((intro w; go_simp) <;> with_reducible rfl))
      simp only [Act.put, List.setIfInBounds_toArray, List.set_cons_zero, List.set_cons_succ]
      first
        | (refine held_skip 18 rfl (by kernel_rfl) (by kernel_rfl) (by kernel_rfl) (fun _ _ _ _ h => h) (by rfl) hS1 ?_)
        | (refine held_style 18 rfl (by kernel_rfl) (by kernel_rfl) (by kernel_rfl) (fun _ _ _ _ h => h) _ rfl (by rfl) w.heap.size X rfl (fun _ h => h.1) XS.out hS1 ?_)
      simp only [Act.put, List.setIfInBounds_toArray, List.set_cons_zero, List.set_cons_succ]
      first
        | (refine held_skip 19 rfl (by kernel_rfl) (by kernel_rfl) (by kernel_rfl) (fun _ _ _ _ h => h) (by rfl) hS1 ?_)
        | (refine held_pure 19 ?vb19 rfl (by kernel_rfl) (by kernel_rfl) (by kernel_rfl) (fun _ _ _ _ h => h) (by rfl) ?yb19 hS1 ?rb19; case yb19 => ((intro w; go_simp) <;> with_reducible rfl))
      simp only [Act.put, List.setIfInBounds_toArray, List.set_cons_zero, List.set_cons_succ]
      first
        | (refine held_skip 21 rfl (by kernel_rfl) (by kernel_rfl) (by kernel_rfl) (fun _ _ _ _ h => h) (by rfl) hS1 ?_)
        | (refine held_style 21 rfl (by kernel_rfl) (by kernel_rfl) (by kernel_rfl) (fun _ _ _ _ h => h) _ rfl (by rfl) w.heap.size X rfl (fun _ h => h.1) XS.out hS1 ?_)
      simp only [Act.put, List.setIfInBounds_toArray, List.set_cons_zero, List.set_cons_succ]
      first
        | (refine held_skip 22 rfl (by kernel_rfl) (by kernel_rfl) (by kernel_rfl) (fun _ _ _ _ h => h) (by rfl) hS1 ?_)
        | (refine held_pure 22 ?vb22 rfl (by kernel_rfl) (by kernel_rfl) (by kernel_rfl) (fun _ _ _ _ h => h) (by rfl) ?yb22 hS1 ?rb22; case yb22 => ((intro w; go_simp) <;> with_reducible rfl))
      simp only [Act.put, List.setIfInBounds_toArray, List.set_cons_zero, List.set_cons_succ]
      refine held_one 20 rfl (by kernel_rfl) (by rfl) (fun K hK => ?_)
      go_simp
      refine (F.out _).mono ?_
      rintro e wq2 ⟨rfl, hbq2⟩
      have hS2 := ZZ.out _ _ hS1 hbq2
      clear hbq2
      refine hK.out _ _ hS2 (fun _ => ?_)
      clear hK K
      try simp only [Act.put, List.setIfInBounds_toArray, List.set_cons_zero, List.set_cons_succ]
      refine held_one 23 rfl (by kernel_rfl) (by rfl) (fun K hK => ?_)
      go_simp
      refine (G.out _).mono ?_
      rintro e wq3 ⟨rfl, hbq3⟩
      have hS3 := ZZ.out _ _ hS2 hbq3
      clear hbq3
      refine hK.out _ _ hS3 (fun _ => ?_)
      clear hK K
      try simp only [Act.put, List.setIfInBounds_toArray, List.set_cons_zero, List.set_cons_succ]
      first
        | (refine held_skip 24 rfl (by kernel_rfl) (by kernel_rfl) (by kernel_rfl) (fun _ _ _ _ h => h) (by rfl) hS3 ?_)
        | (refine held_pure 24 ?vb24 rfl (by kernel_rfl) (by kernel_rfl) (by kernel_rfl) (fun _ _ _ _ h => h) (by rfl) ?yb24 hS3 ?rb24; case yb24 => ((intro w; go_simp) <;> with_reducible rfl))
      simp only [Act.put, List.setIfInBounds_toArray, List.set_cons_zero, List.set_cons_succ]
      first
        | (refine held_skip 25 rfl (by kernel_rfl) (by kernel_rfl) (by kernel_rfl) (fun _ _ _ _ h => h) (by rfl) hS3 ?_)
        | (refine held_pure 25 ?vb25 rfl (by kernel_rfl) (by kernel_rfl) (by kernel_rfl) (fun _ _ _ _ h => h) (by rfl) ?yb25 hS3 ?rb25; case yb25 => ((intro w; go_simp) <;> with_reducible rfl))
      simp only [Act.put, List.setIfInBounds_toArray, List.set_cons_zero, List.set_cons_succ]
      refine wpAnyH_done (by kernel_rfl) ?_ _
      go_wp2_with fail
      go_meet
      exact ⟨rfl, hS3⟩
    case rest =>
      obtain ⟨rfl, hz⟩ := hcut
      obtain ⟨wa, rfl⟩ : ∃ wo : World, wo = wc := ⟨_, rfl⟩
      have ZA := Lib.hid hz
      clear hz
      go_wp2_with fail
      go_ret
      exact ⟨rfl, ZA.out.2⟩
end Go.Proofs.Ytgfcddanikeelaa
