/-
  The chapter's examples, which each of the laws begins with, are met by any program that answers as is asked.
-/
import Derived.Test.YtmodegkpfdlccaaMutFour
import Derived.Test.YtmodegkpfdlccaaFour7
import Derived.Test.YtmodegkpfdlccaaLaw7
import Derived.Test.YtmodegkpfdlccaaAwake5
import Derived.StillTailTactics
namespace Go.Proofs.Ytmodegkpfdlccaa
open Go.RowKit

section
variable {W : World} {ops : Array Oper} {rest : List Oper} {o : Oper} {a : Act} {Q : Exit → Act → World → Prop}
theorem wpList_build_it (hgd : Region.wanted o (yielded ops a.tmps) = true) (ty : TypeId) (parts : Array (Nat × Operand)) (ho : o.op = .build ty parts) (V : Value) (hr : ∀ W, (Instr.build ty (parts.map fun (i, x) => (i, a.eval x))).run Try.prog W = .ok V W)
    (h : wpList Try.prog ops Q rest (a.put o.dst V) W) : wpList Try.prog ops Q (o :: rest) a W := by
  refine wpList_step fun K hK => ?_
  rw [if_pos hgd]
  unfold Oper.wp execOp
  simp only [ho, Sem.run_bind, hr, Result.andThen_ok, Sem.run_pure]
  exact hK _ _ h
end
/-- a variable that holds a document -/
structure Var (W : World) (q : Nat) (A : Option Addr) (n c : Nat) (x : Int) (N : Nat → RN) : Prop where
  lt : q < W.heap.size
  c0 : W.cell? ⟨q, 0, none⟩ = some (.slice A n c)
  c1 : W.cell? ⟨q, 1, none⟩ = some (.int .i64 x)
  doc : DocIn W A n c x N
theorem Var.next {W W' : World} {q : Nat} {A : Option Addr} {n c : Nat} {x : Int} {N : Nat → RN} (h : Var W q A n c x N) (hb : Below W.heap.size W W') : Var W' q A n c x N :=
  ⟨Nat.lt_of_lt_of_le h.lt hb.size, (hb.cell h.lt).trans h.c0, (hb.cell h.lt).trans h.c1, h.doc.below hb⟩
/-- a new variable -/
def newDoc (W : World) (A : Option Addr) (n c : Nat) (x : Int) : World := W.alloc (.cells #[.slice A n c, .int .i64 x] 24)
theorem newDoc_below (W : World) (A : Option Addr) (n c : Nat) (x : Int) : Below W.heap.size W (newDoc W A n c x) := (Below.refl _ _).alloc (Nat.le_refl _) _
theorem newDoc_var {W : World} {A : Option Addr} {n c : Nat} {x : Int} {N : Nat → RN} (h : DocIn W A n c x N) : Var (newDoc W A n c x) W.heap.size A n c x N :=
  ⟨by simp [newDoc], by simp [newDoc], by simp [newDoc], h.below (newDoc_below _ _ _ _ _)⟩
theorem noNode_ok : noNode.ok := box_ok (k := 0) (d := 0) (by omega) (by omega)
def oddStyle : List Lit := .int .u8 3 :: noStyle.tail
theorem RC.ok_of {k a b t : Int} {v : RN} (h1 : 0 ≤ k ∧ k < 256) (h2 : 0 ≤ a ∧ a < 256) (h3 : 0 ≤ b ∧ b < 256) (h4 : 0 ≤ t ∧ t < 256) (h : v.ok) : (⟨k, a, b, t, v⟩ : RC).ok :=
  ⟨h1, (by show -9223372036854775808 ≤ a ∧ a ≤ 9223372036854775807; omega), (by show -9223372036854775808 ≤ b ∧ b ≤ 9223372036854775807; omega), (by show -9223372036854775808 ≤ t ∧ t ≤ 9223372036854775807; omega), h⟩
theorem lit_ok {v : RN} (h1 : Try.prog.keyLits 6 32 v.cells = some v.lits) (h2 : Try.prog.keyLits 5 30 (v.style.map Lit.toCell) = some v.style) (h3 : v.key = 0) (h4 : v.depth = 0) (h5 : 0 ≤ v.kind ∧ v.kind < 256) (h6 : v.text.length ≤ 9223372036854775807) : v.ok :=
  ⟨h1, h2, by omega, by omega, h5, h6⟩
theorem ok_a : exA.ok := RC.ok_of (by omega) (by omega) (by omega) (by omega) noNode_ok
theorem ok_g : exG.ok := RC.ok_of (by omega) (by omega) (by omega) (by omega) noNode_ok
theorem ok_c : exC.ok := RC.ok_of (by omega) (by omega) (by omega) (by omega) noNode_ok
theorem ok_i : exI.ok := RC.ok_of (by omega) (by omega) (by omega) (by omega) noNode_ok
theorem ok_m : exM.ok := RC.ok_of (by omega) (by omega) (by omega) (by omega) noNode_ok
theorem ok_l : exL.ok := RC.ok_of (by omega) (by omega) (by omega) (by omega) noNode_ok
theorem ok_n : exN.ok := RC.ok_of (by omega) (by omega) (by omega) (by omega) noNode_ok
theorem ok_p : exP.ok := RC.ok_of (by omega) (by omega) (by omega) (by omega) noNode_ok
theorem ok_b : (exB [97]).ok := RC.ok_of (by omega) (by omega) (by omega) (by omega) (lit_ok (by kernel_rfl) (by kernel_rfl) rfl rfl (by decide) (by decide))
theorem ok_q : (exQ oddStyle).ok := RC.ok_of (by omega) (by omega) (by omega) (by omega) (lit_ok (by kernel_rfl) (by kernel_rfl) rfl rfl (by decide) (by decide))
theorem build_a (W : World) : (Instr.build 34 #[(0, .int .u8 1), (2, .int .i64 1), (3, .int .i64 1)]).run Try.prog W = .ok (changeV exA) W := by kernel_rfl
theorem build_g (W : World) : (Instr.build 34 #[(0, .int .u8 1), (2, .int .i64 3), (3, .int .i64 1)]).run Try.prog W = .ok (changeV exG) W := by kernel_rfl
theorem build_c (W : World) : (Instr.build 34 #[(0, .int .u8 2), (1, .int .i64 2)]).run Try.prog W = .ok (changeV exC) W := by kernel_rfl
theorem build_i (W : World) : (Instr.build 34 #[(0, .int .u8 2), (1, .int .i64 1)]).run Try.prog W = .ok (changeV exI) W := by kernel_rfl
theorem build_m (W : World) : (Instr.build 34 #[(0, .int .u8 3), (1, .int .i64 2), (2, .int .i64 4)]).run Try.prog W = .ok (changeV exM) W := by kernel_rfl
theorem build_l (W : World) : (Instr.build 34 #[(0, .int .u8 3), (1, .int .i64 2), (2, .int .i64 3)]).run Try.prog W = .ok (changeV exL) W := by kernel_rfl
theorem build_n (W : World) : (Instr.build 34 #[(0, .int .u8 3), (1, .int .i64 2), (2, .int .i64 1), (3, .int .i64 1)]).run Try.prog W = .ok (changeV exN) W := by kernel_rfl
theorem build_p (W : World) : (Instr.build 34 #[(0, .int .u8 5), (1, .int .i64 4)]).run Try.prog W = .ok (changeV exP) W := by kernel_rfl
theorem build_b (W : World) : (Instr.build 34 #[(0, .int .u8 1), (2, .int .i64 4), (4, RN.val ⟨0, 0, 1, noStyle, [97]⟩)]).run Try.prog W = .ok (changeV (exB [97])) W := by kernel_rfl
theorem build_q (W : World) : (Instr.build 34 #[(0, .int .u8 4), (1, .int .i64 4), (4, RN.val ⟨0, 0, 0, oddStyle, []⟩)]).run Try.prog W = .ok (changeV (exQ oddStyle)) W := by kernel_rfl
theorem build_b1 (W : World) : (Instr.build 32 #[(2, .int .u8 1), (4, .string ⟨#[97]⟩)]).run Try.prog W = .ok (RN.val ⟨0, 0, 1, noStyle, [97]⟩) W := by kernel_rfl
theorem build_q1 (W : World) : (Instr.build 30 #[(0, .int .u8 3)]).run Try.prog W = .ok (.agg (oddStyle.map Lit.toCell).toArray) W := by kernel_rfl
theorem build_q2 (W : World) : (Instr.build 32 #[(3, .agg (oddStyle.map Lit.toCell).toArray)]).run Try.prog W = .ok (RN.val ⟨0, 0, 0, oddStyle, []⟩) W := by kernel_rfl

theorem told_new {W : World} {q : Nat} {A : Option Addr} {n c : Nat} {x : Int} {N : Nat → RN} {l : List Int} (V : Var W q A n c x N) (t : tells N n l = true) (hn : n ≤ 320) (hl : l.length = 2 * n) (m cc : Nat) (hm : 2 * n = m) (b : Nat) (hb : b = W.heap.size)
    (X : Array Value) (hX : X = (l.map (Value.int .i64)).toArray) :
    Calls Try.prog 20 #[docV A n c x, .slice (some ⟨b, 0, none⟩) m cc] (W.alloc (.cells X 3)) fun e w' => e = .returned (.bool true) ∧ Below W.heap.size W w' := by
  have hB : Below W.heap.size W (W.alloc (.cells X 3)) := (Below.refl _ _).alloc (Nat.le_refl _) _
  refine (told_yes A n c x N b m cc (fun k => l.getD k 0) _ (V.doc.below hB) hn hm (by simp [hb]) (fun i hi => ?_) (tells_all t)).mono ?_
  · rw [hb, World.cell?_alloc_new, hX]
    have hi' : i < l.length := by omega
    simp [hi', List.getD_eq_getElem?_getD]
  · rintro e w' ⟨he, hw⟩
    exact ⟨he, hB.trans (hw.mono hB.size)⟩

set_option maxRecDepth 100000 in
set_option maxHeartbeats 4000000 in
theorem awake7_any {Sty : List Lit → Prop} (st : Sty noStyle) (nq : ¬ Sty oddStyle) (hA : ApplyOK7 Sty 10) (hM : MayOK7 Sty 11) (w : World) :
    Calls Try.prog 8 #[] w fun e w' => e = .returned (.bool true) ∧ Below w.heap.size w w' := by
  have KA := Lib.hid hA
  have KM := Lib.hid hM
  clear hA hM
  go_enter Try.func8, Try.ntmps8
  go_wp2_with fail
  refine (four7_any w).mono ?_
  rintro e w1 ⟨rfl, hb, hc, hs⟩
  obtain ⟨b, hbb⟩ : ∃ b, b = w.heap.size + 1 := ⟨_, rfl⟩
  rw [← hbb] at hc ⊢
  have D := four_cell hc
  have V1 : Hid (Var (newDoc w1 (some ⟨b, 0, none⟩) 4 4 5) w1.heap.size (some ⟨b, 0, none⟩) 4 4 5 fourN) := Lib.hid (newDoc_var (doc_of_cells (by omega) _ fourN_ok D.1 D.2))
  have BW : Hid (Below w.heap.size w (newDoc w1 (some ⟨b, 0, none⟩) 4 4 5)) := Lib.hid (hb.trans ((newDoc_below _ _ _ _ _).mono hb.size))
  have g1 : w.heap.size ≤ w1.heap.size := hb.size
  clear hb hc D hbb hs
  unfold docV
  obtain ⟨-, c0, c1, -⟩ := V1.out
  unfold newDoc at c0 c1
  go_wp2_with ((with_reducible change wpList _ _ _ (Oper.mk _ (Op.build _ _) _ _ _ _ :: _) _ _); refine wpList_build_it rfl _ _ rfl _ (by intro W; simp only [List.map_toArray, List.map_cons, List.map_nil]; first | exact build_a W) ?_)
  clear c0 c1
  refine (KA.out _ 4 4 5 fourN exA _ V1.out.doc ok_a).mono ?_
  rintro e va ⟨ha, hb⟩
  obtain ⟨Ma, hM, tMa⟩ := ex_a st
  rw [hM] at ha
  obtain ⟨Ba, da, rfl, dM, -⟩ := ha
  have hn := hb.trans ((newDoc_below va Ba 5 da 6).mono hb.size)
  replace BW := Lib.hid (BW.out.trans (hn.mono BW.out.size))
  replace V1 := Lib.hid (V1.out.next hn)
  have Va := Lib.hid (newDoc_var dM)
  clear dM hM
  clear hb hn
  unfold docV
  obtain ⟨-, c0, c1, -⟩ := V1.out
  unfold newDoc at c0 c1
  go_wp2_with ((with_reducible change wpList _ _ _ (Oper.mk _ (Op.build _ _) _ _ _ _ :: _) _ _); refine wpList_build_it rfl _ _ rfl _ (by intro W; simp only [List.map_toArray, List.map_cons, List.map_nil]; first | exact build_b1 W | exact build_b W) ?_)
  clear c0 c1
  refine (KA.out _ 4 4 5 fourN (exB [97]) _ V1.out.doc ok_b).mono ?_
  rintro e vb ⟨ha, hb⟩
  obtain ⟨Mb, hM, tMb⟩ := ex_b st
  rw [hM] at ha
  obtain ⟨Bb, db, rfl, dM, -⟩ := ha
  have hn := hb.trans ((newDoc_below vb Bb 5 db 6).mono hb.size)
  replace BW := Lib.hid (BW.out.trans (hn.mono BW.out.size))
  replace V1 := Lib.hid (V1.out.next hn)
  replace Va := Lib.hid (Va.out.next hn)
  have Vb := Lib.hid (newDoc_var dM)
  clear dM hM
  clear hb hn
  unfold docV
  obtain ⟨-, c0, c1, -⟩ := V1.out
  unfold newDoc at c0 c1
  go_wp2_with ((with_reducible change wpList _ _ _ (Oper.mk _ (Op.build _ _) _ _ _ _ :: _) _ _); refine wpList_build_it rfl _ _ rfl _ (by intro W; simp only [List.map_toArray, List.map_cons, List.map_nil]; first | exact build_g W) ?_)
  clear c0 c1
  refine (KA.out _ 4 4 5 fourN exG _ V1.out.doc ok_g).mono ?_
  rintro e vg ⟨ha, hb⟩
  rw [ex_g st] at ha
  obtain rfl := ha
  have hn := hb.trans ((newDoc_below vg none 0 0 0).mono hb.size)
  replace BW := Lib.hid (BW.out.trans (hn.mono BW.out.size))
  replace V1 := Lib.hid (V1.out.next hn)
  replace Va := Lib.hid (Va.out.next hn)
  replace Vb := Lib.hid (Vb.out.next hn)
  clear hb hn
  unfold docV
  obtain ⟨-, c0, c1, -⟩ := V1.out
  unfold newDoc at c0 c1
  go_wp2_with ((with_reducible change wpList _ _ _ (Oper.mk _ (Op.build _ _) _ _ _ _ :: _) _ _); refine wpList_build_it rfl _ _ rfl _ (by intro W; simp only [List.map_toArray, List.map_cons, List.map_nil]; first | exact build_c W) ?_)
  clear c0 c1
  refine (KA.out _ 4 4 5 fourN exC _ V1.out.doc ok_c).mono ?_
  rintro e vc ⟨ha, hb⟩
  obtain ⟨Mc, hM, tMc⟩ := ex_c st
  rw [hM] at ha
  obtain ⟨Bc, dc, rfl, dM, -⟩ := ha
  have hn := hb.trans ((newDoc_below vc Bc 2 dc 5).mono hb.size)
  replace BW := Lib.hid (BW.out.trans (hn.mono BW.out.size))
  replace V1 := Lib.hid (V1.out.next hn)
  replace Va := Lib.hid (Va.out.next hn)
  replace Vb := Lib.hid (Vb.out.next hn)
  have Vc := Lib.hid (newDoc_var dM)
  clear dM hM
  clear hb hn
  unfold docV
  obtain ⟨-, c0, c1, -⟩ := V1.out
  unfold newDoc at c0 c1
  go_wp2_with ((with_reducible change wpList _ _ _ (Oper.mk _ (Op.build _ _) _ _ _ _ :: _) _ _); refine wpList_build_it rfl _ _ rfl _ (by intro W; simp only [List.map_toArray, List.map_cons, List.map_nil]; first | exact build_i W) ?_)
  clear c0 c1
  refine (KA.out _ 4 4 5 fourN exI _ V1.out.doc ok_i).mono ?_
  rintro e vi ⟨ha, hb⟩
  rw [ex_i st] at ha
  obtain rfl := ha
  have hn := hb.trans ((newDoc_below vi none 0 0 0).mono hb.size)
  replace BW := Lib.hid (BW.out.trans (hn.mono BW.out.size))
  replace V1 := Lib.hid (V1.out.next hn)
  replace Va := Lib.hid (Va.out.next hn)
  replace Vb := Lib.hid (Vb.out.next hn)
  replace Vc := Lib.hid (Vc.out.next hn)
  clear hb hn
  unfold docV
  obtain ⟨-, c0, c1, -⟩ := V1.out
  unfold newDoc at c0 c1
  go_wp2_with ((with_reducible change wpList _ _ _ (Oper.mk _ (Op.build _ _) _ _ _ _ :: _) _ _); refine wpList_build_it rfl _ _ rfl _ (by intro W; simp only [List.map_toArray, List.map_cons, List.map_nil]; first | exact build_m W) ?_)
  clear c0 c1
  refine (KA.out _ 4 4 5 fourN exM _ V1.out.doc ok_m).mono ?_
  rintro e vm ⟨ha, hb⟩
  obtain ⟨Mm, hM, tMm⟩ := ex_m st
  rw [hM] at ha
  obtain ⟨Bm, dm, rfl, dM, -⟩ := ha
  have hn := hb.trans ((newDoc_below vm Bm 4 dm 5).mono hb.size)
  replace BW := Lib.hid (BW.out.trans (hn.mono BW.out.size))
  replace V1 := Lib.hid (V1.out.next hn)
  replace Va := Lib.hid (Va.out.next hn)
  replace Vb := Lib.hid (Vb.out.next hn)
  replace Vc := Lib.hid (Vc.out.next hn)
  have Vm := Lib.hid (newDoc_var dM)
  clear dM hM
  clear hb hn
  unfold docV
  obtain ⟨-, c0, c1, -⟩ := V1.out
  unfold newDoc at c0 c1
  go_wp2_with ((with_reducible change wpList _ _ _ (Oper.mk _ (Op.build _ _) _ _ _ _ :: _) _ _); refine wpList_build_it rfl _ _ rfl _ (by intro W; simp only [List.map_toArray, List.map_cons, List.map_nil]; first | exact build_l W) ?_)
  clear c0 c1
  refine (KA.out _ 4 4 5 fourN exL _ V1.out.doc ok_l).mono ?_
  rintro e vl ⟨ha, hb⟩
  rw [ex_l st] at ha
  obtain rfl := ha
  have hn := hb.trans ((newDoc_below vl none 0 0 0).mono hb.size)
  replace BW := Lib.hid (BW.out.trans (hn.mono BW.out.size))
  replace V1 := Lib.hid (V1.out.next hn)
  replace Va := Lib.hid (Va.out.next hn)
  replace Vb := Lib.hid (Vb.out.next hn)
  replace Vc := Lib.hid (Vc.out.next hn)
  replace Vm := Lib.hid (Vm.out.next hn)
  clear hb hn
  unfold docV
  obtain ⟨-, c0, c1, -⟩ := V1.out
  unfold newDoc at c0 c1
  go_wp2_with ((with_reducible change wpList _ _ _ (Oper.mk _ (Op.build _ _) _ _ _ _ :: _) _ _); refine wpList_build_it rfl _ _ rfl _ (by intro W; simp only [List.map_toArray, List.map_cons, List.map_nil]; first | exact build_n W) ?_)
  clear c0 c1
  refine (KA.out _ 4 4 5 fourN exN _ V1.out.doc ok_n).mono ?_
  rintro e vn ⟨ha, hb⟩
  obtain ⟨Mn, hM, tMn⟩ := ex_n st
  rw [hM] at ha
  obtain ⟨Bn, dn, rfl, dM, -⟩ := ha
  have hn := hb.trans ((newDoc_below vn Bn 4 dn 5).mono hb.size)
  replace BW := Lib.hid (BW.out.trans (hn.mono BW.out.size))
  replace V1 := Lib.hid (V1.out.next hn)
  replace Va := Lib.hid (Va.out.next hn)
  replace Vb := Lib.hid (Vb.out.next hn)
  replace Vc := Lib.hid (Vc.out.next hn)
  replace Vm := Lib.hid (Vm.out.next hn)
  have Vn := Lib.hid (newDoc_var dM)
  clear dM hM
  clear hb hn
  unfold docV
  obtain ⟨-, c0, c1, -⟩ := V1.out
  unfold newDoc at c0 c1
  go_wp2_with ((with_reducible change wpList _ _ _ (Oper.mk _ (Op.build _ _) _ _ _ _ :: _) _ _); refine wpList_build_it rfl _ _ rfl _ (by intro W; simp only [List.map_toArray, List.map_cons, List.map_nil]; first | exact build_p W) ?_)
  clear c0 c1
  refine (KA.out _ 4 4 5 fourN exP _ V1.out.doc ok_p).mono ?_
  rintro e vp ⟨ha, hb⟩
  rw [ex_p st] at ha
  obtain rfl := ha
  have hn := hb.trans ((newDoc_below vp none 0 0 0).mono hb.size)
  replace BW := Lib.hid (BW.out.trans (hn.mono BW.out.size))
  replace V1 := Lib.hid (V1.out.next hn)
  replace Va := Lib.hid (Va.out.next hn)
  replace Vb := Lib.hid (Vb.out.next hn)
  replace Vc := Lib.hid (Vc.out.next hn)
  replace Vm := Lib.hid (Vm.out.next hn)
  replace Vn := Lib.hid (Vn.out.next hn)
  clear hb hn
  unfold docV
  obtain ⟨-, c0, c1, -⟩ := V1.out
  unfold newDoc at c0 c1
  go_wp2_with ((with_reducible change wpList _ _ _ (Oper.mk _ (Op.build _ _) _ _ _ _ :: _) _ _); refine wpList_build_it rfl _ _ rfl _ (by intro W; simp only [List.map_toArray, List.map_cons, List.map_nil]; first | exact build_q1 W | exact build_q2 W | exact build_q W) ?_)
  clear c0 c1
  refine (KA.out _ 4 4 5 fourN (exQ oddStyle) _ V1.out.doc ok_q).mono ?_
  rintro e vq ⟨ha, hb⟩
  rw [ex_q st nq] at ha
  obtain rfl := ha
  have hn := hb.trans ((newDoc_below vq none 0 0 0).mono hb.size)
  replace BW := Lib.hid (BW.out.trans (hn.mono BW.out.size))
  replace V1 := Lib.hid (V1.out.next hn)
  replace Va := Lib.hid (Va.out.next hn)
  replace Vb := Lib.hid (Vb.out.next hn)
  replace Vc := Lib.hid (Vc.out.next hn)
  replace Vm := Lib.hid (Vm.out.next hn)
  replace Vn := Lib.hid (Vn.out.next hn)
  clear hb hn
  unfold docV
  have g : (newDoc vq none 0 0 0).heap.size = vq.heap.size + 1 := by simp [newDoc]
  obtain ⟨-, c0, c1, -⟩ := V1.out
  obtain ⟨-, a0, a1, -⟩ := Va.out
  unfold newDoc at c0 c1 a0 a1
  go_wp2_with fail
  clear c0 c1 a0 a1
  refine (told_new Va.out tMa (by omega) rfl 10 10 rfl _ (g.symm) _ rfl).mono ?_
  rintro e ua ⟨rfl, hb⟩
  replace BW := Lib.hid (BW.out.trans (hb.mono BW.out.size))
  replace V1 := Lib.hid (V1.out.next hb)
  replace Va := Lib.hid (Va.out.next hb)
  replace Vb := Lib.hid (Vb.out.next hb)
  replace Vc := Lib.hid (Vc.out.next hb)
  replace Vm := Lib.hid (Vm.out.next hb)
  replace Vn := Lib.hid (Vn.out.next hb)
  clear hb
  obtain ⟨-, c0, c1, -⟩ := V1.out
  obtain ⟨-, a0, a1, -⟩ := Vb.out
  go_wp2_with fail
  clear c0 c1 a0 a1
  refine (told_new Vb.out tMb (by omega) rfl 10 10 rfl _ (rfl) _ rfl).mono ?_
  rintro e ub ⟨rfl, hb⟩
  replace BW := Lib.hid (BW.out.trans (hb.mono BW.out.size))
  replace V1 := Lib.hid (V1.out.next hb)
  replace Va := Lib.hid (Va.out.next hb)
  replace Vb := Lib.hid (Vb.out.next hb)
  replace Vc := Lib.hid (Vc.out.next hb)
  replace Vm := Lib.hid (Vm.out.next hb)
  replace Vn := Lib.hid (Vn.out.next hb)
  clear hb
  obtain ⟨-, c0, c1, -⟩ := V1.out
  obtain ⟨-, a0, a1, -⟩ := Vc.out
  go_wp2_with fail
  clear c0 c1 a0 a1
  refine (told_new Vc.out tMc (by omega) rfl 4 4 rfl _ (rfl) _ rfl).mono ?_
  rintro e uc ⟨rfl, hb⟩
  replace BW := Lib.hid (BW.out.trans (hb.mono BW.out.size))
  replace V1 := Lib.hid (V1.out.next hb)
  replace Va := Lib.hid (Va.out.next hb)
  replace Vb := Lib.hid (Vb.out.next hb)
  replace Vc := Lib.hid (Vc.out.next hb)
  replace Vm := Lib.hid (Vm.out.next hb)
  replace Vn := Lib.hid (Vn.out.next hb)
  clear hb
  obtain ⟨-, c0, c1, -⟩ := V1.out
  obtain ⟨-, a0, a1, -⟩ := Vm.out
  go_wp2_with fail
  clear c0 c1 a0 a1
  refine (told_new Vm.out tMm (by omega) rfl 8 8 rfl _ (rfl) _ rfl).mono ?_
  rintro e um ⟨rfl, hb⟩
  replace BW := Lib.hid (BW.out.trans (hb.mono BW.out.size))
  replace V1 := Lib.hid (V1.out.next hb)
  replace Va := Lib.hid (Va.out.next hb)
  replace Vb := Lib.hid (Vb.out.next hb)
  replace Vc := Lib.hid (Vc.out.next hb)
  replace Vm := Lib.hid (Vm.out.next hb)
  replace Vn := Lib.hid (Vn.out.next hb)
  clear hb
  obtain ⟨-, c0, c1, -⟩ := V1.out
  obtain ⟨-, a0, a1, -⟩ := Vn.out
  go_wp2_with fail
  clear c0 c1 a0 a1
  refine (told_new Vn.out tMn (by omega) rfl 8 8 rfl _ (rfl) _ rfl).mono ?_
  rintro e un ⟨rfl, hb⟩
  replace BW := Lib.hid (BW.out.trans (hb.mono BW.out.size))
  replace V1 := Lib.hid (V1.out.next hb)
  replace Va := Lib.hid (Va.out.next hb)
  replace Vb := Lib.hid (Vb.out.next hb)
  replace Vc := Lib.hid (Vc.out.next hb)
  replace Vm := Lib.hid (Vm.out.next hb)
  replace Vn := Lib.hid (Vn.out.next hb)
  clear hb
  obtain ⟨-, c0, c1, -⟩ := V1.out
  obtain ⟨-, a0, a1, -⟩ := Va.out
  go_wp2_with fail
  clear c0 c1 a0 a1
  refine (KM.out _ 4 4 5 fourN _ V1.out.doc).mono ?_
  rintro e z1 ⟨q1, rfl, hq, hb⟩
  obtain rfl : q1 = true := hq.2 (four_may st)
  replace BW := Lib.hid (BW.out.trans (hb.mono BW.out.size))
  clear hq hb
  go_wp2_with fail
  refine (KM.out none 0 0 0 fourN _ ⟨⟨Nodes.zero _ _ _, fun _ => ⟨rfl, rfl⟩, ⟨by omega, by omega⟩, by omega⟩, by omega, by omega⟩).mono ?_
  rintro e z2 ⟨q2, rfl, hq, hb⟩
  obtain rfl : q2 = false := by cases q2 with | false => rfl | true => exact absurd (hq.1 rfl) (may_nothing _ _)
  replace BW := Lib.hid (BW.out.trans (hb.mono BW.out.size))
  clear hq hb
  go_wp2_with fail
  go_ret
  exact ⟨rfl, BW.out⟩
end Go.Proofs.Ytmodegkpfdlccaa
