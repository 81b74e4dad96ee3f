/-
  The chapter's examples (awake): of any Cut and Shown that answer as is asked.
-/
import Derived.Test.YtgfiiohglgbdiaaBreaksCut
import Derived.Deep.Cut
import Derived.Outline
import Derived.Test.YtgfiiohglgbdiaaHeldG
namespace Go.Proofs.Ytgfiiohglgbdiaa
open Go.RowKit

/-- what lies where behind the chapter's five calls -/
structure Aw9 (w : World) (ga gb gc gd ge gq gh : Nat) : Prop where
  lga : ga < w.heap.size
  lgb : gb < w.heap.size
  lgc : gc < w.heap.size
  lgd : gd < w.heap.size
  lge : ge < w.heap.size
  lgq : gq < w.heap.size
  lgh : gh < w.heap.size
  ak0 : w.cell? ⟨ga, 0, none⟩ = some (.int .u8 0)
  at0 : w.cell? ⟨ga, 1, none⟩ = some (.string ⟨#[97]⟩)
  ak1 : w.cell? ⟨ga, 2, none⟩ = some (.int .u8 1)
  at1 : w.cell? ⟨ga, 3, none⟩ = some (.string ⟨#[32]⟩)
  ak2 : w.cell? ⟨ga, 4, none⟩ = some (.int .u8 0)
  at2 : w.cell? ⟨ga, 5, none⟩ = some (.string ⟨#[98]⟩)
  ak3 : w.cell? ⟨ga, 6, none⟩ = some (.int .u8 1)
  at3 : w.cell? ⟨ga, 7, none⟩ = some (.string ⟨#[32]⟩)
  ak4 : w.cell? ⟨ga, 8, none⟩ = some (.int .u8 0)
  at4 : w.cell? ⟨ga, 9, none⟩ = some (.string ⟨#[99]⟩)
  ak5 : w.cell? ⟨ga, 10, none⟩ = some (.int .u8 1)
  at5 : w.cell? ⟨ga, 11, none⟩ = some (.string ⟨#[32]⟩)
  bk0 : w.cell? ⟨gb, 0, none⟩ = some (.int .u8 0)
  bt0 : w.cell? ⟨gb, 1, none⟩ = some (.string ⟨#[97, 32, 98, 32, 99, 32]⟩)
  ck0 : w.cell? ⟨gc, 0, none⟩ = some (.int .u8 0)
  ct0 : w.cell? ⟨gc, 1, none⟩ = some (.string ⟨#[97, 32, 32, 98]⟩)
  ck1 : w.cell? ⟨gc, 2, none⟩ = some (.int .u8 2)
  ct1 : w.cell? ⟨gc, 3, none⟩ = some (.string ⟨#[]⟩)
  ck2 : w.cell? ⟨gc, 4, none⟩ = some (.int .u8 0)
  ct2 : w.cell? ⟨gc, 5, none⟩ = some (.string ⟨#[99, 32]⟩)
  dk0 : w.cell? ⟨gd, 0, none⟩ = some (.int .u8 2)
  dt0 : w.cell? ⟨gd, 1, none⟩ = some (.string ⟨#[]⟩)
  ek0 : w.cell? ⟨ge, 0, none⟩ = some (.int .u8 0)
  et0 : w.cell? ⟨ge, 1, none⟩ = some (.string ⟨#[32]⟩)
  qk : w.cell? ⟨gq, 0, none⟩ = some (.int .u8 1)
  qt : w.cell? ⟨gq, 1, none⟩ = some (.string ⟨#[32]⟩)
  hk : w.cell? ⟨gh, 0, none⟩ = some (.int .u8 2)
  ht : w.cell? ⟨gh, 1, none⟩ = some (.string ⟨#[]⟩)
theorem Aw9.keep {w w' : World} {ga gb gc gd ge gq gh : Nat} (h : Aw9 w ga gb gc gd ge gq gh) (hb : Below w.heap.size w w') : Aw9 w' ga gb gc gd ge gq gh where
  lga := Nat.lt_of_lt_of_le h.lga hb.size
  lgb := Nat.lt_of_lt_of_le h.lgb hb.size
  lgc := Nat.lt_of_lt_of_le h.lgc hb.size
  lgd := Nat.lt_of_lt_of_le h.lgd hb.size
  lge := Nat.lt_of_lt_of_le h.lge hb.size
  lgq := Nat.lt_of_lt_of_le h.lgq hb.size
  lgh := Nat.lt_of_lt_of_le h.lgh hb.size
  ak0 := (hb.cell (p := ⟨ga, 0, none⟩) h.lga).trans h.ak0
  at0 := (hb.cell (p := ⟨ga, 1, none⟩) h.lga).trans h.at0
  ak1 := (hb.cell (p := ⟨ga, 2, none⟩) h.lga).trans h.ak1
  at1 := (hb.cell (p := ⟨ga, 3, none⟩) h.lga).trans h.at1
  ak2 := (hb.cell (p := ⟨ga, 4, none⟩) h.lga).trans h.ak2
  at2 := (hb.cell (p := ⟨ga, 5, none⟩) h.lga).trans h.at2
  ak3 := (hb.cell (p := ⟨ga, 6, none⟩) h.lga).trans h.ak3
  at3 := (hb.cell (p := ⟨ga, 7, none⟩) h.lga).trans h.at3
  ak4 := (hb.cell (p := ⟨ga, 8, none⟩) h.lga).trans h.ak4
  at4 := (hb.cell (p := ⟨ga, 9, none⟩) h.lga).trans h.at4
  ak5 := (hb.cell (p := ⟨ga, 10, none⟩) h.lga).trans h.ak5
  at5 := (hb.cell (p := ⟨ga, 11, none⟩) h.lga).trans h.at5
  bk0 := (hb.cell (p := ⟨gb, 0, none⟩) h.lgb).trans h.bk0
  bt0 := (hb.cell (p := ⟨gb, 1, none⟩) h.lgb).trans h.bt0
  ck0 := (hb.cell (p := ⟨gc, 0, none⟩) h.lgc).trans h.ck0
  ct0 := (hb.cell (p := ⟨gc, 1, none⟩) h.lgc).trans h.ct0
  ck1 := (hb.cell (p := ⟨gc, 2, none⟩) h.lgc).trans h.ck1
  ct1 := (hb.cell (p := ⟨gc, 3, none⟩) h.lgc).trans h.ct1
  ck2 := (hb.cell (p := ⟨gc, 4, none⟩) h.lgc).trans h.ck2
  ct2 := (hb.cell (p := ⟨gc, 5, none⟩) h.lgc).trans h.ct2
  dk0 := (hb.cell (p := ⟨gd, 0, none⟩) h.lgd).trans h.dk0
  dt0 := (hb.cell (p := ⟨gd, 1, none⟩) h.lgd).trans h.dt0
  ek0 := (hb.cell (p := ⟨ge, 0, none⟩) h.lge).trans h.ek0
  et0 := (hb.cell (p := ⟨ge, 1, none⟩) h.lge).trans h.et0
  qk := (hb.cell (p := ⟨gq, 0, none⟩) h.lgq).trans h.qk
  qt := (hb.cell (p := ⟨gq, 1, none⟩) h.lgq).trans h.qt
  hk := (hb.cell (p := ⟨gh, 0, none⟩) h.lgh).trans h.hk
  ht := (hb.cell (p := ⟨gh, 1, none⟩) h.lgh).trans h.ht
theorem PcAt.keep {w w' : World} {base : Nat} {v : Value} {ps : List Pc} {g c : Nat} (h : PcAt w base v ps g c) (hb : Below w.heap.size w w') : PcAt w' base v ps g c where
  val := h.val
  most := h.most
  own := h.own
  lt := Nat.lt_of_lt_of_le h.lt hb.size
  at0 := fun j p hp => (hb.cell (p := ⟨g, j * 2, none⟩) h.lt).trans (h.at0 j p hp)
  at1 := fun j p hp => (hb.cell (p := ⟨g, j * 2 + 1, none⟩) h.lt).trans (h.at1 j p hp)
  fro := fun j => (hb.frozen (p := ⟨g, j, none⟩) h.lt).trans (h.fro j)
def ex9 : ByteArray := ⟨#[97, 32, 32, 98, 10, 99, 32]⟩
theorem ex_a : cutP 0 ex9.data.toList = [(0, [97]), (1, [32]), (0, [98]), (1, [32]), (0, [99]), (1, [32])] := by decide
theorem ex_b : cutP 1 ex9.data.toList = [(0, [97, 32, 98, 32, 99, 32])] := by decide
theorem ex_c : cutP 2 ex9.data.toList = [(0, [97, 32, 32, 98]), (2, []), (0, [99, 32])] := by decide
theorem ex_d : cutP 2 (⟨#[10]⟩ : ByteArray).data.toList = [(2, [])] := by decide
theorem ex_e : cutP 1 (⟨#[10]⟩ : ByteArray).data.toList = [(0, [32])] := by decide
theorem ex_s : shownP 0 ex9.data.toList = [97, 32, 98, 32, 99, 32] := by decide
set_option maxRecDepth 100000 in
set_option maxHeartbeats 4000000 in
theorem awake9_any (hC : CutOK 9) (hS : ShownOK 11) (w : World) : Calls Try.prog 13 #[] w fun e w' => e = .returned (.bool true) ∧ Below w.heap.size w w' := by
  have KA := Lib.hid (fun W => hC ex9 0 W (by decide) (by omega))
  have KB := Lib.hid (fun W => hC ex9 1 W (by decide) (by omega))
  have KC := Lib.hid (fun W => hC ex9 2 W (by decide) (by omega))
  have KD := Lib.hid (fun W => hC ⟨#[10]⟩ 2 W (by decide) (by omega))
  have KE := Lib.hid (fun W => hC ⟨#[10]⟩ 1 W (by decide) (by omega))
  have KF := Lib.hid (fun W => hC ⟨#[]⟩ 1 W (by decide) (by omega))
  have KG := Lib.hid (fun W => hC ⟨#[97]⟩ 3 W (by decide) (by omega))
  have KS := Lib.hid (fun W => hS ex9 0 W (by decide) (by omega))
  rw [ex_a] at KA
  rw [ex_b] at KB
  rw [ex_c] at KC
  rw [ex_d] at KD
  rw [ex_e] at KE
  rw [show cutP 1 (⟨#[]⟩ : ByteArray).data.toList = [] by decide] at KF
  rw [show cutP 3 (⟨#[97]⟩ : ByteArray).data.toList = [] by decide] at KG
  rw [ex_s] at KS
  unfold ex9 at KA KB KC KS
  have B := Lib.hid (Below.refl w.heap.size w)
  clear hC hS
  go_enter Try.func13, Try.ntmps13
  go_wp2_with fail
  (with_reducible refine (KA.out _).mono ?_)
  rintro e wa ⟨v, rfl, hO, hb⟩
  obtain ⟨ga, ca, hP⟩ := hO.at_ (by simp)
  obtain rfl : v = .slice (some ⟨ga, 0, none⟩) 6 ca := hP.val
  have Pa := Lib.hid hP
  replace B := Lib.hid (B.out.trans (hb.mono B.out.size))
  clear hO hb hP
  go_wp2_with fail
  (with_reducible refine (KB.out _).mono ?_)
  rintro e wb ⟨v, rfl, hO, hb⟩
  obtain ⟨gb, cb, hP⟩ := hO.at_ (by simp)
  obtain rfl : v = .slice (some ⟨gb, 0, none⟩) 1 cb := hP.val
  have Pb := Lib.hid hP
  replace Pa := Lib.hid (Pa.out.keep hb)
  replace B := Lib.hid (B.out.trans (hb.mono B.out.size))
  clear hO hb hP
  go_wp2_with fail
  (with_reducible refine (KC.out _).mono ?_)
  rintro e wc ⟨v, rfl, hO, hb⟩
  obtain ⟨gc, cc, hP⟩ := hO.at_ (by simp)
  obtain rfl : v = .slice (some ⟨gc, 0, none⟩) 3 cc := hP.val
  have Pc := Lib.hid hP
  replace Pa := Lib.hid (Pa.out.keep hb)
  replace Pb := Lib.hid (Pb.out.keep hb)
  replace B := Lib.hid (B.out.trans (hb.mono B.out.size))
  clear hO hb hP
  go_wp2_with fail
  (with_reducible refine (KF.out _).mono ?_)
  rintro e wf ⟨v, rfl, hO, hb⟩
  obtain ⟨Af, cf, rfl, -, -, -⟩ := hO.form
  replace Pa := Lib.hid (Pa.out.keep hb)
  replace Pb := Lib.hid (Pb.out.keep hb)
  replace Pc := Lib.hid (Pc.out.keep hb)
  replace B := Lib.hid (B.out.trans (hb.mono B.out.size))
  clear hO hb
  go_wp2_with fail
  (with_reducible refine (KG.out _).mono ?_)
  rintro e wg ⟨v, rfl, hO, hb⟩
  obtain ⟨Ag, cg, rfl, -, -, -⟩ := hO.form
  replace Pa := Lib.hid (Pa.out.keep hb)
  replace Pb := Lib.hid (Pb.out.keep hb)
  replace Pc := Lib.hid (Pc.out.keep hb)
  replace B := Lib.hid (B.out.trans (hb.mono B.out.size))
  clear hO hb
  go_wp2_with fail
  (with_reducible refine (KD.out _).mono ?_)
  rintro e wd ⟨v, rfl, hO, hb⟩
  obtain ⟨gd, cd, hP⟩ := hO.at_ (by simp)
  obtain rfl : v = .slice (some ⟨gd, 0, none⟩) 1 cd := hP.val
  have Pd := Lib.hid hP
  replace Pa := Lib.hid (Pa.out.keep hb)
  replace Pb := Lib.hid (Pb.out.keep hb)
  replace Pc := Lib.hid (Pc.out.keep hb)
  replace B := Lib.hid (B.out.trans (hb.mono B.out.size))
  clear hO hb hP
  go_wp2_with fail
  (with_reducible refine (KE.out _).mono ?_)
  rintro e we ⟨v, rfl, hO, hb⟩
  obtain ⟨ge, ce, hP⟩ := hO.at_ (by simp)
  obtain rfl : v = .slice (some ⟨ge, 0, none⟩) 1 ce := hP.val
  have Pe := Lib.hid hP
  replace Pa := Lib.hid (Pa.out.keep hb)
  replace Pb := Lib.hid (Pb.out.keep hb)
  replace Pc := Lib.hid (Pc.out.keep hb)
  replace Pd := Lib.hid (Pd.out.keep hb)
  replace B := Lib.hid (B.out.trans (hb.mono B.out.size))
  clear hO hb hP
  have hW : Below we.heap.size we ((we.alloc (.cells #[.int .u8 1, .string ⟨#[32]⟩] 26)).alloc (.cells #[.int .u8 2, .string ⟨#[]⟩] 26)) := ((Below.refl _ _).alloc (Nat.le_refl _) _).alloc (by simp only [World.size_alloc]; omega) _
  replace B := Lib.hid (B.out.trans (hW.mono B.out.size))
  replace Pa := Lib.hid (Pa.out.keep hW)
  replace Pb := Lib.hid (Pb.out.keep hW)
  replace Pc := Lib.hid (Pc.out.keep hW)
  replace Pd := Lib.hid (Pd.out.keep hW)
  replace Pe := Lib.hid (Pe.out.keep hW)
  have e1 : ((we.alloc (.cells #[.int .u8 1, .string ⟨#[32]⟩] 26)).alloc (.cells #[.int .u8 2, .string ⟨#[]⟩] 26)).heap[we.heap.size]? = some (.cells #[.int .u8 1, .string ⟨#[32]⟩] 26 (0, 0)) := by
    show ((we.heap.push _).push _)[we.heap.size]? = _
    rw [Array.getElem?_push, if_neg (by simp)]
    simp
  have e2 : ((we.alloc (.cells #[.int .u8 1, .string ⟨#[32]⟩] 26)).alloc (.cells #[.int .u8 2, .string ⟨#[]⟩] 26)).heap[we.heap.size + 1]? = some (.cells #[.int .u8 2, .string ⟨#[]⟩] 26 (0, 0)) := by
    show ((we.heap.push _).push _)[we.heap.size + 1]? = _
    rw [Array.getElem?_push, if_pos (by simp)]
  have AW := Lib.hid (Aw9.mk (w := (we.alloc (.cells #[.int .u8 1, .string ⟨#[32]⟩] 26)).alloc (.cells #[.int .u8 2, .string ⟨#[]⟩] 26)) (gq := we.heap.size) (gh := we.heap.size + 1) Pa.out.lt Pb.out.lt Pc.out.lt Pd.out.lt Pe.out.lt (by simp only [World.size_alloc]; omega) (by simp only [World.size_alloc]; omega)
    (Pa.out.at0 0 (0, [97]) rfl)
    (Pa.out.at1 0 (0, [97]) rfl)
    (Pa.out.at0 1 (1, [32]) rfl)
    (Pa.out.at1 1 (1, [32]) rfl)
    (Pa.out.at0 2 (0, [98]) rfl)
    (Pa.out.at1 2 (0, [98]) rfl)
    (Pa.out.at0 3 (1, [32]) rfl)
    (Pa.out.at1 3 (1, [32]) rfl)
    (Pa.out.at0 4 (0, [99]) rfl)
    (Pa.out.at1 4 (0, [99]) rfl)
    (Pa.out.at0 5 (1, [32]) rfl)
    (Pa.out.at1 5 (1, [32]) rfl)
    (Pb.out.at0 0 (0, [97, 32, 98, 32, 99, 32]) rfl)
    (Pb.out.at1 0 (0, [97, 32, 98, 32, 99, 32]) rfl)
    (Pc.out.at0 0 (0, [97, 32, 32, 98]) rfl)
    (Pc.out.at1 0 (0, [97, 32, 32, 98]) rfl)
    (Pc.out.at0 1 (2, []) rfl)
    (Pc.out.at1 1 (2, []) rfl)
    (Pc.out.at0 2 (0, [99, 32]) rfl)
    (Pc.out.at1 2 (0, [99, 32]) rfl)
    (Pd.out.at0 0 (2, []) rfl)
    (Pd.out.at1 0 (2, []) rfl)
    (Pe.out.at0 0 (0, [32]) rfl)
    (Pe.out.at1 0 (0, [32]) rfl)
    (by simp only [World.cell?, e1]; rfl) (by simp only [World.cell?, e1]; rfl)
    (by simp only [World.cell?, e2]; rfl) (by simp only [World.cell?, e2]; rfl))
  clear hW e1 e2 Pa Pb Pc Pd Pe
  go_upto_region 8 with fail
  simp only [List.append_eq, List.cons_append, List.nil_append]
  obtain ⟨gq, hgq⟩ : ∃ x, x = we.heap.size := ⟨_, rfl⟩
  obtain ⟨gh, hgh⟩ : ∃ x, x = we.heap.size + 1 := ⟨_, rfl⟩
  generalize hWW : (we.alloc (.cells #[.int .u8 1, .string ⟨#[32]⟩] 26)).alloc (.cells #[.int .u8 2, .string ⟨#[]⟩] 26) = W0 at AW B ⊢
  rw [← hgh] at AW ⊢
  rw [← hgq] at AW ⊢
  clear hgq hgh hWW KA KB KC KD KE KF KG
  refine wp_region_held_drew (S := fun W' => Aw9 W' ga gb gc gd ge gq gh ∧ Below w.heap.size w W') (by kernel_rfl) ⟨AW.out.keep (Below.refl _ _).drew, B.out.drew⟩ (fun hS0 => ?_)
  clear AW B
  refine heldg_read 0 (.slice (some ⟨ga, 0, none⟩) 6 ca) rfl (by as_aux_lemma => kernel_rfl) (by as_aux_lemma => kernel_rfl) (by as_aux_lemma => kernel_rfl) (fun _ _ _ _ h => h) (by rfl) hS0 (fun w hSw => ?_) ?_
  · clear hSw; go_simp
  try simp only [Act.put, List.setIfInBounds_toArray, List.set_cons_zero, List.set_cons_succ]
  refine heldg_read 1 (.pointer (some ⟨ga, 0, none⟩)) rfl (by as_aux_lemma => kernel_rfl) (by as_aux_lemma => kernel_rfl) (by as_aux_lemma => kernel_rfl) (fun _ _ _ _ h => h) (by rfl) hS0 (fun w hSw => ?_) ?_
  · clear hSw; go_simp
  try simp only [Act.put, List.setIfInBounds_toArray, List.set_cons_zero, List.set_cons_succ]
  refine heldg_read 2 (.agg #[.int .u8 0, .string ⟨#[97]⟩]) rfl (by as_aux_lemma => kernel_rfl) (by as_aux_lemma => kernel_rfl) (by as_aux_lemma => kernel_rfl) (fun _ _ _ _ h => h) (by rfl) hS0 (fun w hSw => ?_) ?_
  · have x0 := hSw.1.ak0; have x1 := hSw.1.at0; clear hSw; go_simp
  try simp only [Act.put, List.setIfInBounds_toArray, List.set_cons_zero, List.set_cons_succ]
  refine heldg_one 3 rfl (by as_aux_lemma => kernel_rfl) (by rfl) (fun K hK => ?_)
  go_simp
  (with_reducible refine (word_any9 _ _).mono ?_)
  rintro e wq1 ⟨rfl, hb⟩
  have hS1 : Aw9 wq1 ga gb gc gd ge gq gh ∧ Below w.heap.size w wq1 := ⟨hS0.1.keep hb, hS0.2.trans (hb.mono hS0.2.size)⟩
  clear hb hS0
  refine hK.out _ _ hS1 (fun _ => ?_)
  clear hK K
  try simp only [Act.put, List.setIfInBounds_toArray, List.set_cons_zero, List.set_cons_succ]
  refine heldg_read 4 (.bool true) rfl (by as_aux_lemma => kernel_rfl) (by as_aux_lemma => kernel_rfl) (by as_aux_lemma => kernel_rfl) (fun _ _ _ _ h => h) (by rfl) hS1 (fun w hSw => ?_) ?_
  · clear hSw; go_simp
  try simp only [Act.put, List.setIfInBounds_toArray, List.set_cons_zero, List.set_cons_succ]
  refine heldg_read 5 (.bool true) rfl (by as_aux_lemma => kernel_rfl) (by as_aux_lemma => kernel_rfl) (by as_aux_lemma => kernel_rfl) (fun _ _ _ _ h => h) (by rfl) hS1 (fun w hSw => ?_) ?_
  · clear hSw; go_simp
  try simp only [Act.put, List.setIfInBounds_toArray, List.set_cons_zero, List.set_cons_succ]
  refine heldg_read 6 (.slice (some ⟨ga, 0, none⟩) 6 ca) rfl (by as_aux_lemma => kernel_rfl) (by as_aux_lemma => kernel_rfl) (by as_aux_lemma => kernel_rfl) (fun _ _ _ _ h => h) (by rfl) hS1 (fun w hSw => ?_) ?_
  · clear hSw; go_simp
  try simp only [Act.put, List.setIfInBounds_toArray, List.set_cons_zero, List.set_cons_succ]
  refine heldg_read 7 (.pointer (some ⟨ga, 2, none⟩)) rfl (by as_aux_lemma => kernel_rfl) (by as_aux_lemma => kernel_rfl) (by as_aux_lemma => kernel_rfl) (fun _ _ _ _ h => h) (by rfl) hS1 (fun w hSw => ?_) ?_
  · clear hSw; go_simp
  try simp only [Act.put, List.setIfInBounds_toArray, List.set_cons_zero, List.set_cons_succ]
  refine heldg_read 8 (.agg #[.int .u8 1, .string ⟨#[32]⟩]) rfl (by as_aux_lemma => kernel_rfl) (by as_aux_lemma => kernel_rfl) (by as_aux_lemma => kernel_rfl) (fun _ _ _ _ h => h) (by rfl) hS1 (fun w hSw => ?_) ?_
  · have x0 := hSw.1.ak1; have x1 := hSw.1.at1; clear hSw; go_simp
  try simp only [Act.put, List.setIfInBounds_toArray, List.set_cons_zero, List.set_cons_succ]
  refine heldg_read 9 (.agg #[.int .u8 1, .string ⟨#[32]⟩]) rfl (by as_aux_lemma => kernel_rfl) (by as_aux_lemma => kernel_rfl) (by as_aux_lemma => kernel_rfl) (fun _ _ _ _ h => h) (by rfl) hS1 (fun w hSw => ?_) ?_
  · have x0 := hSw.1.qk; have x1 := hSw.1.qt; clear hSw; go_simp
  try simp only [Act.put, List.setIfInBounds_toArray, List.set_cons_zero, List.set_cons_succ]
  refine heldg_read 10 (.bool true) rfl (by as_aux_lemma => kernel_rfl) (by as_aux_lemma => kernel_rfl) (by as_aux_lemma => kernel_rfl) (fun _ _ _ _ h => h) (by rfl) hS1 (fun w hSw => ?_) ?_
  · clear hSw; go_simp
  try simp only [Act.put, List.setIfInBounds_toArray, List.set_cons_zero, List.set_cons_succ]
  refine heldg_read 11 (.bool true) rfl (by as_aux_lemma => kernel_rfl) (by as_aux_lemma => kernel_rfl) (by as_aux_lemma => kernel_rfl) (fun _ _ _ _ h => h) (by rfl) hS1 (fun w hSw => ?_) ?_
  · clear hSw; go_simp
  try simp only [Act.put, List.setIfInBounds_toArray, List.set_cons_zero, List.set_cons_succ]
  refine heldg_read 12 (.bool true) rfl (by as_aux_lemma => kernel_rfl) (by as_aux_lemma => kernel_rfl) (by as_aux_lemma => kernel_rfl) (fun _ _ _ _ h => h) (by rfl) hS1 (fun w hSw => ?_) ?_
  · clear hSw; go_simp
  try simp only [Act.put, List.setIfInBounds_toArray, List.set_cons_zero, List.set_cons_succ]
  refine heldg_read 13 (.slice (some ⟨ga, 0, none⟩) 6 ca) rfl (by as_aux_lemma => kernel_rfl) (by as_aux_lemma => kernel_rfl) (by as_aux_lemma => kernel_rfl) (fun _ _ _ _ h => h) (by rfl) hS1 (fun w hSw => ?_) ?_
  · clear hSw; go_simp
  try simp only [Act.put, List.setIfInBounds_toArray, List.set_cons_zero, List.set_cons_succ]
  refine heldg_read 14 (.pointer (some ⟨ga, 4, none⟩)) rfl (by as_aux_lemma => kernel_rfl) (by as_aux_lemma => kernel_rfl) (by as_aux_lemma => kernel_rfl) (fun _ _ _ _ h => h) (by rfl) hS1 (fun w hSw => ?_) ?_
  · clear hSw; go_simp
  try simp only [Act.put, List.setIfInBounds_toArray, List.set_cons_zero, List.set_cons_succ]
  refine heldg_read 15 (.agg #[.int .u8 0, .string ⟨#[98]⟩]) rfl (by as_aux_lemma => kernel_rfl) (by as_aux_lemma => kernel_rfl) (by as_aux_lemma => kernel_rfl) (fun _ _ _ _ h => h) (by rfl) hS1 (fun w hSw => ?_) ?_
  · have x0 := hSw.1.ak2; have x1 := hSw.1.at2; clear hSw; go_simp
  try simp only [Act.put, List.setIfInBounds_toArray, List.set_cons_zero, List.set_cons_succ]
  refine heldg_one 16 rfl (by as_aux_lemma => kernel_rfl) (by rfl) (fun K hK => ?_)
  go_simp
  (with_reducible refine (word_any9 _ _).mono ?_)
  rintro e wq2 ⟨rfl, hb⟩
  have hS2 : Aw9 wq2 ga gb gc gd ge gq gh ∧ Below w.heap.size w wq2 := ⟨hS1.1.keep hb, hS1.2.trans (hb.mono hS1.2.size)⟩
  clear hb hS1
  refine hK.out _ _ hS2 (fun _ => ?_)
  clear hK K
  try simp only [Act.put, List.setIfInBounds_toArray, List.set_cons_zero, List.set_cons_succ]
  refine heldg_read 17 (.bool true) rfl (by as_aux_lemma => kernel_rfl) (by as_aux_lemma => kernel_rfl) (by as_aux_lemma => kernel_rfl) (fun _ _ _ _ h => h) (by rfl) hS2 (fun w hSw => ?_) ?_
  · clear hSw; go_simp
  try simp only [Act.put, List.setIfInBounds_toArray, List.set_cons_zero, List.set_cons_succ]
  refine heldg_read 18 (.bool true) rfl (by as_aux_lemma => kernel_rfl) (by as_aux_lemma => kernel_rfl) (by as_aux_lemma => kernel_rfl) (fun _ _ _ _ h => h) (by rfl) hS2 (fun w hSw => ?_) ?_
  · clear hSw; go_simp
  try simp only [Act.put, List.setIfInBounds_toArray, List.set_cons_zero, List.set_cons_succ]
  refine heldg_read 19 (.bool true) rfl (by as_aux_lemma => kernel_rfl) (by as_aux_lemma => kernel_rfl) (by as_aux_lemma => kernel_rfl) (fun _ _ _ _ h => h) (by rfl) hS2 (fun w hSw => ?_) ?_
  · clear hSw; go_simp
  try simp only [Act.put, List.setIfInBounds_toArray, List.set_cons_zero, List.set_cons_succ]
  refine heldg_read 20 (.slice (some ⟨ga, 0, none⟩) 6 ca) rfl (by as_aux_lemma => kernel_rfl) (by as_aux_lemma => kernel_rfl) (by as_aux_lemma => kernel_rfl) (fun _ _ _ _ h => h) (by rfl) hS2 (fun w hSw => ?_) ?_
  · clear hSw; go_simp
  try simp only [Act.put, List.setIfInBounds_toArray, List.set_cons_zero, List.set_cons_succ]
  refine heldg_read 21 (.pointer (some ⟨ga, 6, none⟩)) rfl (by as_aux_lemma => kernel_rfl) (by as_aux_lemma => kernel_rfl) (by as_aux_lemma => kernel_rfl) (fun _ _ _ _ h => h) (by rfl) hS2 (fun w hSw => ?_) ?_
  · clear hSw; go_simp
  try simp only [Act.put, List.setIfInBounds_toArray, List.set_cons_zero, List.set_cons_succ]
  refine heldg_read 22 (.agg #[.int .u8 1, .string ⟨#[32]⟩]) rfl (by as_aux_lemma => kernel_rfl) (by as_aux_lemma => kernel_rfl) (by as_aux_lemma => kernel_rfl) (fun _ _ _ _ h => h) (by rfl) hS2 (fun w hSw => ?_) ?_
  · have x0 := hSw.1.ak3; have x1 := hSw.1.at3; clear hSw; go_simp
  try simp only [Act.put, List.setIfInBounds_toArray, List.set_cons_zero, List.set_cons_succ]
  refine heldg_read 23 (.agg #[.int .u8 1, .string ⟨#[32]⟩]) rfl (by as_aux_lemma => kernel_rfl) (by as_aux_lemma => kernel_rfl) (by as_aux_lemma => kernel_rfl) (fun _ _ _ _ h => h) (by rfl) hS2 (fun w hSw => ?_) ?_
  · have x0 := hSw.1.qk; have x1 := hSw.1.qt; clear hSw; go_simp
  try simp only [Act.put, List.setIfInBounds_toArray, List.set_cons_zero, List.set_cons_succ]
  refine heldg_read 24 (.bool true) rfl (by as_aux_lemma => kernel_rfl) (by as_aux_lemma => kernel_rfl) (by as_aux_lemma => kernel_rfl) (fun _ _ _ _ h => h) (by rfl) hS2 (fun w hSw => ?_) ?_
  · clear hSw; go_simp
  try simp only [Act.put, List.setIfInBounds_toArray, List.set_cons_zero, List.set_cons_succ]
  refine heldg_read 25 (.bool true) rfl (by as_aux_lemma => kernel_rfl) (by as_aux_lemma => kernel_rfl) (by as_aux_lemma => kernel_rfl) (fun _ _ _ _ h => h) (by rfl) hS2 (fun w hSw => ?_) ?_
  · clear hSw; go_simp
  try simp only [Act.put, List.setIfInBounds_toArray, List.set_cons_zero, List.set_cons_succ]
  refine heldg_read 26 (.bool true) rfl (by as_aux_lemma => kernel_rfl) (by as_aux_lemma => kernel_rfl) (by as_aux_lemma => kernel_rfl) (fun _ _ _ _ h => h) (by rfl) hS2 (fun w hSw => ?_) ?_
  · clear hSw; go_simp
  try simp only [Act.put, List.setIfInBounds_toArray, List.set_cons_zero, List.set_cons_succ]
  refine heldg_read 27 (.slice (some ⟨ga, 0, none⟩) 6 ca) rfl (by as_aux_lemma => kernel_rfl) (by as_aux_lemma => kernel_rfl) (by as_aux_lemma => kernel_rfl) (fun _ _ _ _ h => h) (by rfl) hS2 (fun w hSw => ?_) ?_
  · clear hSw; go_simp
  try simp only [Act.put, List.setIfInBounds_toArray, List.set_cons_zero, List.set_cons_succ]
  refine heldg_read 28 (.pointer (some ⟨ga, 8, none⟩)) rfl (by as_aux_lemma => kernel_rfl) (by as_aux_lemma => kernel_rfl) (by as_aux_lemma => kernel_rfl) (fun _ _ _ _ h => h) (by rfl) hS2 (fun w hSw => ?_) ?_
  · clear hSw; go_simp
  try simp only [Act.put, List.setIfInBounds_toArray, List.set_cons_zero, List.set_cons_succ]
  refine heldg_read 29 (.agg #[.int .u8 0, .string ⟨#[99]⟩]) rfl (by as_aux_lemma => kernel_rfl) (by as_aux_lemma => kernel_rfl) (by as_aux_lemma => kernel_rfl) (fun _ _ _ _ h => h) (by rfl) hS2 (fun w hSw => ?_) ?_
  · have x0 := hSw.1.ak4; have x1 := hSw.1.at4; clear hSw; go_simp
  try simp only [Act.put, List.setIfInBounds_toArray, List.set_cons_zero, List.set_cons_succ]
  refine heldg_one 30 rfl (by as_aux_lemma => kernel_rfl) (by rfl) (fun K hK => ?_)
  go_simp
  (with_reducible refine (word_any9 _ _).mono ?_)
  rintro e wq3 ⟨rfl, hb⟩
  have hS3 : Aw9 wq3 ga gb gc gd ge gq gh ∧ Below w.heap.size w wq3 := ⟨hS2.1.keep hb, hS2.2.trans (hb.mono hS2.2.size)⟩
  clear hb hS2
  refine hK.out _ _ hS3 (fun _ => ?_)
  clear hK K
  try simp only [Act.put, List.setIfInBounds_toArray, List.set_cons_zero, List.set_cons_succ]
  refine heldg_read 31 (.bool true) rfl (by as_aux_lemma => kernel_rfl) (by as_aux_lemma => kernel_rfl) (by as_aux_lemma => kernel_rfl) (fun _ _ _ _ h => h) (by rfl) hS3 (fun w hSw => ?_) ?_
  · clear hSw; go_simp
  try simp only [Act.put, List.setIfInBounds_toArray, List.set_cons_zero, List.set_cons_succ]
  refine heldg_read 32 (.bool true) rfl (by as_aux_lemma => kernel_rfl) (by as_aux_lemma => kernel_rfl) (by as_aux_lemma => kernel_rfl) (fun _ _ _ _ h => h) (by rfl) hS3 (fun w hSw => ?_) ?_
  · clear hSw; go_simp
  try simp only [Act.put, List.setIfInBounds_toArray, List.set_cons_zero, List.set_cons_succ]
  refine heldg_read 33 (.bool true) rfl (by as_aux_lemma => kernel_rfl) (by as_aux_lemma => kernel_rfl) (by as_aux_lemma => kernel_rfl) (fun _ _ _ _ h => h) (by rfl) hS3 (fun w hSw => ?_) ?_
  · clear hSw; go_simp
  try simp only [Act.put, List.setIfInBounds_toArray, List.set_cons_zero, List.set_cons_succ]
  refine heldg_read 34 (.slice (some ⟨ga, 0, none⟩) 6 ca) rfl (by as_aux_lemma => kernel_rfl) (by as_aux_lemma => kernel_rfl) (by as_aux_lemma => kernel_rfl) (fun _ _ _ _ h => h) (by rfl) hS3 (fun w hSw => ?_) ?_
  · clear hSw; go_simp
  try simp only [Act.put, List.setIfInBounds_toArray, List.set_cons_zero, List.set_cons_succ]
  refine heldg_read 35 (.pointer (some ⟨ga, 10, none⟩)) rfl (by as_aux_lemma => kernel_rfl) (by as_aux_lemma => kernel_rfl) (by as_aux_lemma => kernel_rfl) (fun _ _ _ _ h => h) (by rfl) hS3 (fun w hSw => ?_) ?_
  · clear hSw; go_simp
  try simp only [Act.put, List.setIfInBounds_toArray, List.set_cons_zero, List.set_cons_succ]
  refine heldg_read 36 (.agg #[.int .u8 1, .string ⟨#[32]⟩]) rfl (by as_aux_lemma => kernel_rfl) (by as_aux_lemma => kernel_rfl) (by as_aux_lemma => kernel_rfl) (fun _ _ _ _ h => h) (by rfl) hS3 (fun w hSw => ?_) ?_
  · have x0 := hSw.1.ak5; have x1 := hSw.1.at5; clear hSw; go_simp
  try simp only [Act.put, List.setIfInBounds_toArray, List.set_cons_zero, List.set_cons_succ]
  refine heldg_read 37 (.agg #[.int .u8 1, .string ⟨#[32]⟩]) rfl (by as_aux_lemma => kernel_rfl) (by as_aux_lemma => kernel_rfl) (by as_aux_lemma => kernel_rfl) (fun _ _ _ _ h => h) (by rfl) hS3 (fun w hSw => ?_) ?_
  · have x0 := hSw.1.qk; have x1 := hSw.1.qt; clear hSw; go_simp
  try simp only [Act.put, List.setIfInBounds_toArray, List.set_cons_zero, List.set_cons_succ]
  refine heldg_read 38 (.bool true) rfl (by as_aux_lemma => kernel_rfl) (by as_aux_lemma => kernel_rfl) (by as_aux_lemma => kernel_rfl) (fun _ _ _ _ h => h) (by rfl) hS3 (fun w hSw => ?_) ?_
  · clear hSw; go_simp
  try simp only [Act.put, List.setIfInBounds_toArray, List.set_cons_zero, List.set_cons_succ]
  refine heldg_read 39 (.bool true) rfl (by as_aux_lemma => kernel_rfl) (by as_aux_lemma => kernel_rfl) (by as_aux_lemma => kernel_rfl) (fun _ _ _ _ h => h) (by rfl) hS3 (fun w hSw => ?_) ?_
  · clear hSw; go_simp
  try simp only [Act.put, List.setIfInBounds_toArray, List.set_cons_zero, List.set_cons_succ]
  refine heldg_read 40 (.bool true) rfl (by as_aux_lemma => kernel_rfl) (by as_aux_lemma => kernel_rfl) (by as_aux_lemma => kernel_rfl) (fun _ _ _ _ h => h) (by rfl) hS3 (fun w hSw => ?_) ?_
  · clear hSw; go_simp
  try simp only [Act.put, List.setIfInBounds_toArray, List.set_cons_zero, List.set_cons_succ]
  refine heldg_read 41 (.slice (some ⟨gb, 0, none⟩) 1 cb) rfl (by as_aux_lemma => kernel_rfl) (by as_aux_lemma => kernel_rfl) (by as_aux_lemma => kernel_rfl) (fun _ _ _ _ h => h) (by rfl) hS3 (fun w hSw => ?_) ?_
  · clear hSw; go_simp
  try simp only [Act.put, List.setIfInBounds_toArray, List.set_cons_zero, List.set_cons_succ]
  refine heldg_read 42 (.pointer (some ⟨gb, 0, none⟩)) rfl (by as_aux_lemma => kernel_rfl) (by as_aux_lemma => kernel_rfl) (by as_aux_lemma => kernel_rfl) (fun _ _ _ _ h => h) (by rfl) hS3 (fun w hSw => ?_) ?_
  · clear hSw; go_simp
  try simp only [Act.put, List.setIfInBounds_toArray, List.set_cons_zero, List.set_cons_succ]
  refine heldg_read 43 (.agg #[.int .u8 0, .string ⟨#[97, 32, 98, 32, 99, 32]⟩]) rfl (by as_aux_lemma => kernel_rfl) (by as_aux_lemma => kernel_rfl) (by as_aux_lemma => kernel_rfl) (fun _ _ _ _ h => h) (by rfl) hS3 (fun w hSw => ?_) ?_
  · have x0 := hSw.1.bk0; have x1 := hSw.1.bt0; clear hSw; go_simp
  try simp only [Act.put, List.setIfInBounds_toArray, List.set_cons_zero, List.set_cons_succ]
  refine heldg_one 44 rfl (by as_aux_lemma => kernel_rfl) (by rfl) (fun K hK => ?_)
  go_simp
  (with_reducible refine (word_any9 _ _).mono ?_)
  rintro e wq4 ⟨rfl, hb⟩
  have hS4 : Aw9 wq4 ga gb gc gd ge gq gh ∧ Below w.heap.size w wq4 := ⟨hS3.1.keep hb, hS3.2.trans (hb.mono hS3.2.size)⟩
  clear hb hS3
  refine hK.out _ _ hS4 (fun _ => ?_)
  clear hK K
  try simp only [Act.put, List.setIfInBounds_toArray, List.set_cons_zero, List.set_cons_succ]
  refine heldg_read 45 (.bool true) rfl (by as_aux_lemma => kernel_rfl) (by as_aux_lemma => kernel_rfl) (by as_aux_lemma => kernel_rfl) (fun _ _ _ _ h => h) (by rfl) hS4 (fun w hSw => ?_) ?_
  · clear hSw; go_simp
  try simp only [Act.put, List.setIfInBounds_toArray, List.set_cons_zero, List.set_cons_succ]
  refine heldg_read 46 (.bool true) rfl (by as_aux_lemma => kernel_rfl) (by as_aux_lemma => kernel_rfl) (by as_aux_lemma => kernel_rfl) (fun _ _ _ _ h => h) (by rfl) hS4 (fun w hSw => ?_) ?_
  · clear hSw; go_simp
  try simp only [Act.put, List.setIfInBounds_toArray, List.set_cons_zero, List.set_cons_succ]
  refine heldg_read 47 (.bool true) rfl (by as_aux_lemma => kernel_rfl) (by as_aux_lemma => kernel_rfl) (by as_aux_lemma => kernel_rfl) (fun _ _ _ _ h => h) (by rfl) hS4 (fun w hSw => ?_) ?_
  · clear hSw; go_simp
  try simp only [Act.put, List.setIfInBounds_toArray, List.set_cons_zero, List.set_cons_succ]
  refine heldg_read 48 (.slice (some ⟨gc, 0, none⟩) 3 cc) rfl (by as_aux_lemma => kernel_rfl) (by as_aux_lemma => kernel_rfl) (by as_aux_lemma => kernel_rfl) (fun _ _ _ _ h => h) (by rfl) hS4 (fun w hSw => ?_) ?_
  · clear hSw; go_simp
  try simp only [Act.put, List.setIfInBounds_toArray, List.set_cons_zero, List.set_cons_succ]
  refine heldg_read 49 (.pointer (some ⟨gc, 0, none⟩)) rfl (by as_aux_lemma => kernel_rfl) (by as_aux_lemma => kernel_rfl) (by as_aux_lemma => kernel_rfl) (fun _ _ _ _ h => h) (by rfl) hS4 (fun w hSw => ?_) ?_
  · clear hSw; go_simp
  try simp only [Act.put, List.setIfInBounds_toArray, List.set_cons_zero, List.set_cons_succ]
  refine heldg_read 50 (.agg #[.int .u8 0, .string ⟨#[97, 32, 32, 98]⟩]) rfl (by as_aux_lemma => kernel_rfl) (by as_aux_lemma => kernel_rfl) (by as_aux_lemma => kernel_rfl) (fun _ _ _ _ h => h) (by rfl) hS4 (fun w hSw => ?_) ?_
  · have x0 := hSw.1.ck0; have x1 := hSw.1.ct0; clear hSw; go_simp
  try simp only [Act.put, List.setIfInBounds_toArray, List.set_cons_zero, List.set_cons_succ]
  refine heldg_one 51 rfl (by as_aux_lemma => kernel_rfl) (by rfl) (fun K hK => ?_)
  go_simp
  (with_reducible refine (word_any9 _ _).mono ?_)
  rintro e wq5 ⟨rfl, hb⟩
  have hS5 : Aw9 wq5 ga gb gc gd ge gq gh ∧ Below w.heap.size w wq5 := ⟨hS4.1.keep hb, hS4.2.trans (hb.mono hS4.2.size)⟩
  clear hb hS4
  refine hK.out _ _ hS5 (fun _ => ?_)
  clear hK K
  try simp only [Act.put, List.setIfInBounds_toArray, List.set_cons_zero, List.set_cons_succ]
  refine heldg_read 52 (.bool true) rfl (by as_aux_lemma => kernel_rfl) (by as_aux_lemma => kernel_rfl) (by as_aux_lemma => kernel_rfl) (fun _ _ _ _ h => h) (by rfl) hS5 (fun w hSw => ?_) ?_
  · clear hSw; go_simp
  try simp only [Act.put, List.setIfInBounds_toArray, List.set_cons_zero, List.set_cons_succ]
  refine heldg_read 53 (.bool true) rfl (by as_aux_lemma => kernel_rfl) (by as_aux_lemma => kernel_rfl) (by as_aux_lemma => kernel_rfl) (fun _ _ _ _ h => h) (by rfl) hS5 (fun w hSw => ?_) ?_
  · clear hSw; go_simp
  try simp only [Act.put, List.setIfInBounds_toArray, List.set_cons_zero, List.set_cons_succ]
  refine heldg_read 54 (.bool true) rfl (by as_aux_lemma => kernel_rfl) (by as_aux_lemma => kernel_rfl) (by as_aux_lemma => kernel_rfl) (fun _ _ _ _ h => h) (by rfl) hS5 (fun w hSw => ?_) ?_
  · clear hSw; go_simp
  try simp only [Act.put, List.setIfInBounds_toArray, List.set_cons_zero, List.set_cons_succ]
  refine heldg_read 55 (.slice (some ⟨gc, 0, none⟩) 3 cc) rfl (by as_aux_lemma => kernel_rfl) (by as_aux_lemma => kernel_rfl) (by as_aux_lemma => kernel_rfl) (fun _ _ _ _ h => h) (by rfl) hS5 (fun w hSw => ?_) ?_
  · clear hSw; go_simp
  try simp only [Act.put, List.setIfInBounds_toArray, List.set_cons_zero, List.set_cons_succ]
  refine heldg_read 56 (.pointer (some ⟨gc, 2, none⟩)) rfl (by as_aux_lemma => kernel_rfl) (by as_aux_lemma => kernel_rfl) (by as_aux_lemma => kernel_rfl) (fun _ _ _ _ h => h) (by rfl) hS5 (fun w hSw => ?_) ?_
  · clear hSw; go_simp
  try simp only [Act.put, List.setIfInBounds_toArray, List.set_cons_zero, List.set_cons_succ]
  refine heldg_read 57 (.agg #[.int .u8 2, .string ⟨#[]⟩]) rfl (by as_aux_lemma => kernel_rfl) (by as_aux_lemma => kernel_rfl) (by as_aux_lemma => kernel_rfl) (fun _ _ _ _ h => h) (by rfl) hS5 (fun w hSw => ?_) ?_
  · have x0 := hSw.1.ck1; have x1 := hSw.1.ct1; clear hSw; go_simp
  try simp only [Act.put, List.setIfInBounds_toArray, List.set_cons_zero, List.set_cons_succ]
  refine heldg_read 58 (.agg #[.int .u8 2, .string ⟨#[]⟩]) rfl (by as_aux_lemma => kernel_rfl) (by as_aux_lemma => kernel_rfl) (by as_aux_lemma => kernel_rfl) (fun _ _ _ _ h => h) (by rfl) hS5 (fun w hSw => ?_) ?_
  · have x0 := hSw.1.hk; have x1 := hSw.1.ht; clear hSw; go_simp
  try simp only [Act.put, List.setIfInBounds_toArray, List.set_cons_zero, List.set_cons_succ]
  refine heldg_read 59 (.bool true) rfl (by as_aux_lemma => kernel_rfl) (by as_aux_lemma => kernel_rfl) (by as_aux_lemma => kernel_rfl) (fun _ _ _ _ h => h) (by rfl) hS5 (fun w hSw => ?_) ?_
  · clear hSw; go_simp
  try simp only [Act.put, List.setIfInBounds_toArray, List.set_cons_zero, List.set_cons_succ]
  refine heldg_read 60 (.bool true) rfl (by as_aux_lemma => kernel_rfl) (by as_aux_lemma => kernel_rfl) (by as_aux_lemma => kernel_rfl) (fun _ _ _ _ h => h) (by rfl) hS5 (fun w hSw => ?_) ?_
  · clear hSw; go_simp
  try simp only [Act.put, List.setIfInBounds_toArray, List.set_cons_zero, List.set_cons_succ]
  refine heldg_read 61 (.bool true) rfl (by as_aux_lemma => kernel_rfl) (by as_aux_lemma => kernel_rfl) (by as_aux_lemma => kernel_rfl) (fun _ _ _ _ h => h) (by rfl) hS5 (fun w hSw => ?_) ?_
  · clear hSw; go_simp
  try simp only [Act.put, List.setIfInBounds_toArray, List.set_cons_zero, List.set_cons_succ]
  refine heldg_read 62 (.slice (some ⟨gc, 0, none⟩) 3 cc) rfl (by as_aux_lemma => kernel_rfl) (by as_aux_lemma => kernel_rfl) (by as_aux_lemma => kernel_rfl) (fun _ _ _ _ h => h) (by rfl) hS5 (fun w hSw => ?_) ?_
  · clear hSw; go_simp
  try simp only [Act.put, List.setIfInBounds_toArray, List.set_cons_zero, List.set_cons_succ]
  refine heldg_read 63 (.pointer (some ⟨gc, 4, none⟩)) rfl (by as_aux_lemma => kernel_rfl) (by as_aux_lemma => kernel_rfl) (by as_aux_lemma => kernel_rfl) (fun _ _ _ _ h => h) (by rfl) hS5 (fun w hSw => ?_) ?_
  · clear hSw; go_simp
  try simp only [Act.put, List.setIfInBounds_toArray, List.set_cons_zero, List.set_cons_succ]
  refine heldg_read 64 (.agg #[.int .u8 0, .string ⟨#[99, 32]⟩]) rfl (by as_aux_lemma => kernel_rfl) (by as_aux_lemma => kernel_rfl) (by as_aux_lemma => kernel_rfl) (fun _ _ _ _ h => h) (by rfl) hS5 (fun w hSw => ?_) ?_
  · have x0 := hSw.1.ck2; have x1 := hSw.1.ct2; clear hSw; go_simp
  try simp only [Act.put, List.setIfInBounds_toArray, List.set_cons_zero, List.set_cons_succ]
  refine heldg_one 65 rfl (by as_aux_lemma => kernel_rfl) (by rfl) (fun K hK => ?_)
  go_simp
  (with_reducible refine (word_any9 _ _).mono ?_)
  rintro e wq6 ⟨rfl, hb⟩
  have hS6 : Aw9 wq6 ga gb gc gd ge gq gh ∧ Below w.heap.size w wq6 := ⟨hS5.1.keep hb, hS5.2.trans (hb.mono hS5.2.size)⟩
  clear hb hS5
  refine hK.out _ _ hS6 (fun _ => ?_)
  clear hK K
  try simp only [Act.put, List.setIfInBounds_toArray, List.set_cons_zero, List.set_cons_succ]
  refine heldg_read 66 (.bool true) rfl (by as_aux_lemma => kernel_rfl) (by as_aux_lemma => kernel_rfl) (by as_aux_lemma => kernel_rfl) (fun _ _ _ _ h => h) (by rfl) hS6 (fun w hSw => ?_) ?_
  · clear hSw; go_simp
  try simp only [Act.put, List.setIfInBounds_toArray, List.set_cons_zero, List.set_cons_succ]
  refine heldg_read 67 (.bool true) rfl (by as_aux_lemma => kernel_rfl) (by as_aux_lemma => kernel_rfl) (by as_aux_lemma => kernel_rfl) (fun _ _ _ _ h => h) (by rfl) hS6 (fun w hSw => ?_) ?_
  · clear hSw; go_simp
  try simp only [Act.put, List.setIfInBounds_toArray, List.set_cons_zero, List.set_cons_succ]
  refine heldg_read 68 (.bool true) rfl (by as_aux_lemma => kernel_rfl) (by as_aux_lemma => kernel_rfl) (by as_aux_lemma => kernel_rfl) (fun _ _ _ _ h => h) (by rfl) hS6 (fun w hSw => ?_) ?_
  · clear hSw; go_simp
  try simp only [Act.put, List.setIfInBounds_toArray, List.set_cons_zero, List.set_cons_succ]
  refine heldg_read 69 (.slice (some ⟨gd, 0, none⟩) 1 cd) rfl (by as_aux_lemma => kernel_rfl) (by as_aux_lemma => kernel_rfl) (by as_aux_lemma => kernel_rfl) (fun _ _ _ _ h => h) (by rfl) hS6 (fun w hSw => ?_) ?_
  · clear hSw; go_simp
  try simp only [Act.put, List.setIfInBounds_toArray, List.set_cons_zero, List.set_cons_succ]
  refine heldg_read 70 (.int .i64 1) rfl (by as_aux_lemma => kernel_rfl) (by as_aux_lemma => kernel_rfl) (by as_aux_lemma => kernel_rfl) (fun _ _ _ _ h => h) (by rfl) hS6 (fun w hSw => ?_) ?_
  · clear hSw; go_simp
  try simp only [Act.put, List.setIfInBounds_toArray, List.set_cons_zero, List.set_cons_succ]
  refine heldg_read 71 (.bool true) rfl (by as_aux_lemma => kernel_rfl) (by as_aux_lemma => kernel_rfl) (by as_aux_lemma => kernel_rfl) (fun _ _ _ _ h => h) (by rfl) hS6 (fun w hSw => ?_) ?_
  · clear hSw; go_simp
  try simp only [Act.put, List.setIfInBounds_toArray, List.set_cons_zero, List.set_cons_succ]
  refine heldg_read 72 (.bool true) rfl (by as_aux_lemma => kernel_rfl) (by as_aux_lemma => kernel_rfl) (by as_aux_lemma => kernel_rfl) (fun _ _ _ _ h => h) (by rfl) hS6 (fun w hSw => ?_) ?_
  · clear hSw; go_simp
  try simp only [Act.put, List.setIfInBounds_toArray, List.set_cons_zero, List.set_cons_succ]
  refine heldg_read 73 (.bool true) rfl (by as_aux_lemma => kernel_rfl) (by as_aux_lemma => kernel_rfl) (by as_aux_lemma => kernel_rfl) (fun _ _ _ _ h => h) (by rfl) hS6 (fun w hSw => ?_) ?_
  · clear hSw; go_simp
  try simp only [Act.put, List.setIfInBounds_toArray, List.set_cons_zero, List.set_cons_succ]
  refine heldg_read 74 (.slice (some ⟨gd, 0, none⟩) 1 cd) rfl (by as_aux_lemma => kernel_rfl) (by as_aux_lemma => kernel_rfl) (by as_aux_lemma => kernel_rfl) (fun _ _ _ _ h => h) (by rfl) hS6 (fun w hSw => ?_) ?_
  · clear hSw; go_simp
  try simp only [Act.put, List.setIfInBounds_toArray, List.set_cons_zero, List.set_cons_succ]
  refine heldg_read 75 (.pointer (some ⟨gd, 0, none⟩)) rfl (by as_aux_lemma => kernel_rfl) (by as_aux_lemma => kernel_rfl) (by as_aux_lemma => kernel_rfl) (fun _ _ _ _ h => h) (by rfl) hS6 (fun w hSw => ?_) ?_
  · clear hSw; go_simp
  try simp only [Act.put, List.setIfInBounds_toArray, List.set_cons_zero, List.set_cons_succ]
  refine heldg_read 76 (.agg #[.int .u8 2, .string ⟨#[]⟩]) rfl (by as_aux_lemma => kernel_rfl) (by as_aux_lemma => kernel_rfl) (by as_aux_lemma => kernel_rfl) (fun _ _ _ _ h => h) (by rfl) hS6 (fun w hSw => ?_) ?_
  · have x0 := hSw.1.dk0; have x1 := hSw.1.dt0; clear hSw; go_simp
  try simp only [Act.put, List.setIfInBounds_toArray, List.set_cons_zero, List.set_cons_succ]
  refine heldg_read 77 (.agg #[.int .u8 2, .string ⟨#[]⟩]) rfl (by as_aux_lemma => kernel_rfl) (by as_aux_lemma => kernel_rfl) (by as_aux_lemma => kernel_rfl) (fun _ _ _ _ h => h) (by rfl) hS6 (fun w hSw => ?_) ?_
  · have x0 := hSw.1.hk; have x1 := hSw.1.ht; clear hSw; go_simp
  try simp only [Act.put, List.setIfInBounds_toArray, List.set_cons_zero, List.set_cons_succ]
  refine heldg_read 78 (.bool true) rfl (by as_aux_lemma => kernel_rfl) (by as_aux_lemma => kernel_rfl) (by as_aux_lemma => kernel_rfl) (fun _ _ _ _ h => h) (by rfl) hS6 (fun w hSw => ?_) ?_
  · clear hSw; go_simp
  try simp only [Act.put, List.setIfInBounds_toArray, List.set_cons_zero, List.set_cons_succ]
  refine heldg_read 79 (.bool true) rfl (by as_aux_lemma => kernel_rfl) (by as_aux_lemma => kernel_rfl) (by as_aux_lemma => kernel_rfl) (fun _ _ _ _ h => h) (by rfl) hS6 (fun w hSw => ?_) ?_
  · clear hSw; go_simp
  try simp only [Act.put, List.setIfInBounds_toArray, List.set_cons_zero, List.set_cons_succ]
  refine heldg_read 80 (.bool true) rfl (by as_aux_lemma => kernel_rfl) (by as_aux_lemma => kernel_rfl) (by as_aux_lemma => kernel_rfl) (fun _ _ _ _ h => h) (by rfl) hS6 (fun w hSw => ?_) ?_
  · clear hSw; go_simp
  try simp only [Act.put, List.setIfInBounds_toArray, List.set_cons_zero, List.set_cons_succ]
  refine heldg_read 81 (.slice (some ⟨ge, 0, none⟩) 1 ce) rfl (by as_aux_lemma => kernel_rfl) (by as_aux_lemma => kernel_rfl) (by as_aux_lemma => kernel_rfl) (fun _ _ _ _ h => h) (by rfl) hS6 (fun w hSw => ?_) ?_
  · clear hSw; go_simp
  try simp only [Act.put, List.setIfInBounds_toArray, List.set_cons_zero, List.set_cons_succ]
  refine heldg_read 82 (.int .i64 1) rfl (by as_aux_lemma => kernel_rfl) (by as_aux_lemma => kernel_rfl) (by as_aux_lemma => kernel_rfl) (fun _ _ _ _ h => h) (by rfl) hS6 (fun w hSw => ?_) ?_
  · clear hSw; go_simp
  try simp only [Act.put, List.setIfInBounds_toArray, List.set_cons_zero, List.set_cons_succ]
  refine heldg_read 83 (.bool true) rfl (by as_aux_lemma => kernel_rfl) (by as_aux_lemma => kernel_rfl) (by as_aux_lemma => kernel_rfl) (fun _ _ _ _ h => h) (by rfl) hS6 (fun w hSw => ?_) ?_
  · clear hSw; go_simp
  try simp only [Act.put, List.setIfInBounds_toArray, List.set_cons_zero, List.set_cons_succ]
  refine heldg_read 84 (.bool true) rfl (by as_aux_lemma => kernel_rfl) (by as_aux_lemma => kernel_rfl) (by as_aux_lemma => kernel_rfl) (fun _ _ _ _ h => h) (by rfl) hS6 (fun w hSw => ?_) ?_
  · clear hSw; go_simp
  try simp only [Act.put, List.setIfInBounds_toArray, List.set_cons_zero, List.set_cons_succ]
  refine heldg_read 85 (.bool true) rfl (by as_aux_lemma => kernel_rfl) (by as_aux_lemma => kernel_rfl) (by as_aux_lemma => kernel_rfl) (fun _ _ _ _ h => h) (by rfl) hS6 (fun w hSw => ?_) ?_
  · clear hSw; go_simp
  try simp only [Act.put, List.setIfInBounds_toArray, List.set_cons_zero, List.set_cons_succ]
  refine heldg_read 86 (.slice (some ⟨ge, 0, none⟩) 1 ce) rfl (by as_aux_lemma => kernel_rfl) (by as_aux_lemma => kernel_rfl) (by as_aux_lemma => kernel_rfl) (fun _ _ _ _ h => h) (by rfl) hS6 (fun w hSw => ?_) ?_
  · clear hSw; go_simp
  try simp only [Act.put, List.setIfInBounds_toArray, List.set_cons_zero, List.set_cons_succ]
  refine heldg_read 87 (.pointer (some ⟨ge, 0, none⟩)) rfl (by as_aux_lemma => kernel_rfl) (by as_aux_lemma => kernel_rfl) (by as_aux_lemma => kernel_rfl) (fun _ _ _ _ h => h) (by rfl) hS6 (fun w hSw => ?_) ?_
  · clear hSw; go_simp
  try simp only [Act.put, List.setIfInBounds_toArray, List.set_cons_zero, List.set_cons_succ]
  refine heldg_read 88 (.agg #[.int .u8 0, .string ⟨#[32]⟩]) rfl (by as_aux_lemma => kernel_rfl) (by as_aux_lemma => kernel_rfl) (by as_aux_lemma => kernel_rfl) (fun _ _ _ _ h => h) (by rfl) hS6 (fun w hSw => ?_) ?_
  · have x0 := hSw.1.ek0; have x1 := hSw.1.et0; clear hSw; go_simp
  try simp only [Act.put, List.setIfInBounds_toArray, List.set_cons_zero, List.set_cons_succ]
  refine heldg_one 89 rfl (by as_aux_lemma => kernel_rfl) (by rfl) (fun K hK => ?_)
  go_simp
  (with_reducible refine (word_any9 _ _).mono ?_)
  rintro e wq7 ⟨rfl, hb⟩
  have hS7 : Aw9 wq7 ga gb gc gd ge gq gh ∧ Below w.heap.size w wq7 := ⟨hS6.1.keep hb, hS6.2.trans (hb.mono hS6.2.size)⟩
  clear hb hS6
  refine hK.out _ _ hS7 (fun _ => ?_)
  clear hK K
  try simp only [Act.put, List.setIfInBounds_toArray, List.set_cons_zero, List.set_cons_succ]
  refine heldg_read 90 (.bool true) rfl (by as_aux_lemma => kernel_rfl) (by as_aux_lemma => kernel_rfl) (by as_aux_lemma => kernel_rfl) (fun _ _ _ _ h => h) (by rfl) hS7 (fun w hSw => ?_) ?_
  · clear hSw; go_simp
  try simp only [Act.put, List.setIfInBounds_toArray, List.set_cons_zero, List.set_cons_succ]
  refine heldg_read 91 (.bool true) rfl (by as_aux_lemma => kernel_rfl) (by as_aux_lemma => kernel_rfl) (by as_aux_lemma => kernel_rfl) (fun _ _ _ _ h => h) (by rfl) hS7 (fun w hSw => ?_) ?_
  · clear hSw; go_simp
  try simp only [Act.put, List.setIfInBounds_toArray, List.set_cons_zero, List.set_cons_succ]
  refine heldg_read 92 (.bool true) rfl (by as_aux_lemma => kernel_rfl) (by as_aux_lemma => kernel_rfl) (by as_aux_lemma => kernel_rfl) (fun _ _ _ _ h => h) (by rfl) hS7 (fun w hSw => ?_) ?_
  · clear hSw; go_simp
  try simp only [Act.put, List.setIfInBounds_toArray, List.set_cons_zero, List.set_cons_succ]
  refine heldg_read 93 (.string ⟨#[97, 32, 32, 98, 10, 99, 32]⟩) rfl (by as_aux_lemma => kernel_rfl) (by as_aux_lemma => kernel_rfl) (by as_aux_lemma => kernel_rfl) (fun _ _ _ _ h => h) (by rfl) hS7 (fun w hSw => ?_) ?_
  · clear hSw; go_simp
  try simp only [Act.put, List.setIfInBounds_toArray, List.set_cons_zero, List.set_cons_succ]
  refine heldg_one 94 rfl (by as_aux_lemma => kernel_rfl) (by rfl) (fun K hK => ?_)
  go_simp
  (with_reducible refine (KS.out _).mono ?_)
  rintro e wq8 ⟨rfl, hb⟩
  have hS8 : Aw9 wq8 ga gb gc gd ge gq gh ∧ Below w.heap.size w wq8 := ⟨hS7.1.keep hb, hS7.2.trans (hb.mono hS7.2.size)⟩
  clear hb hS7
  refine hK.out _ _ hS8 (fun _ => ?_)
  clear hK K
  try simp only [Act.put, List.setIfInBounds_toArray, List.set_cons_zero, List.set_cons_succ]
  refine heldg_read 95 (.bool true) rfl (by as_aux_lemma => kernel_rfl) (by as_aux_lemma => kernel_rfl) (by as_aux_lemma => kernel_rfl) (fun _ _ _ _ h => h) (by rfl) hS8 (fun w hSw => ?_) ?_
  · clear hSw; go_simp
  try simp only [Act.put, List.setIfInBounds_toArray, List.set_cons_zero, List.set_cons_succ]
  refine heldg_read 96 (.bool true) rfl (by as_aux_lemma => kernel_rfl) (by as_aux_lemma => kernel_rfl) (by as_aux_lemma => kernel_rfl) (fun _ _ _ _ h => h) (by rfl) hS8 (fun w hSw => ?_) ?_
  · clear hSw; go_simp
  try simp only [Act.put, List.setIfInBounds_toArray, List.set_cons_zero, List.set_cons_succ]
  refine heldg_read 97 (.bool true) rfl (by as_aux_lemma => kernel_rfl) (by as_aux_lemma => kernel_rfl) (by as_aux_lemma => kernel_rfl) (fun _ _ _ _ h => h) (by rfl) hS8 (fun w hSw => ?_) ?_
  · clear hSw; go_simp
  try simp only [Act.put, List.setIfInBounds_toArray, List.set_cons_zero]
  refine wpAnyH_done (by as_aux_lemma => kernel_rfl) ?_ _
  go_wp2_with fail
  go_ret
  exact ⟨rfl, hS8.2⟩
end Go.Proofs.Ytgfiiohglgbdiaa
