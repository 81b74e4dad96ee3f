/-
  The law MutateBack: of any program whose May and Apply answer as is asked, and its walk.
-/
import Derived.Test.YtmodegkpfdlccaaMutMovedW
namespace Go.Proofs.Ytmodegkpfdlccaa
open Go.RowKit

/-- a change back, as it begins -/
def exU (k key : Int) : RC := ⟨k, key, 0, 0, noNode⟩
theorem build_u (k key : Int) (W : World) : (Instr.build 34 #[(0, .int .u8 k), (1, .int .i64 key)]).run Try.prog W = .ok (changeV (exU k key)) W := by kernel_rfl
theorem ok_u {k key : Int} (h : 0 ≤ k ∧ k < 256) (hk : -9223372036854775808 ≤ key ∧ key ≤ 9223372036854775807) : (exU k key).ok :=
  ⟨h, hk, by show -9223372036854775808 ≤ (0 : Int) ∧ (0 : Int) ≤ 9223372036854775807; omega, by show -9223372036854775808 ≤ (0 : Int) ∧ (0 : Int) ≤ 9223372036854775807; omega, noNode_ok⟩
theorem changeZ_sizes (c : RC) (h : c.ok) : c.cells.toArray.size = 55 ∧ ∀ v ∈ c.cells.toArray.toList, v.oneCell' = true := ⟨by simp [h.len], by simpa using RC.cells_one c⟩

theorem Box55.free {W : World} {b : Nat} {X : Array Value} (h : Box55 W b X) (k : Nat) : W.frozen? ⟨b, k, none⟩ = false := by
  obtain ⟨-, h⟩ := h
  simp [World.frozen?, h]
theorem Box55.put {W : World} {b : Nat} {X : Array Value} (h : Box55 W b X) (k : Nat) (v : Value) : Box55 (W.setCell ⟨b, k, none⟩ v) b (X.setIfInBounds k v) := by
  obtain ⟨h1, h⟩ := h
  refine ⟨by simpa [World.setCell] using h1, ?_⟩
  simp [World.setCell, Array.getElem?_modify, h]
/-- a move back, as it grows -/
def exV (key pk : Int) (j : Nat) : RC := ⟨3, key, pk, j, noNode⟩
theorem exV_up (key pk : Int) : (exU 3 key).cells.toArray.setIfInBounds 2 (.int .i64 pk) = (exV key pk 0).cells.toArray := by
  simp [exU, exV, RC.cells]
theorem exV_next (key pk : Int) (j : Nat) : (exV key pk j).cells.toArray.setIfInBounds 3 (.int .i64 ((j : Int) + 1)) = (exV key pk (j + 1)).cells.toArray := by
  simp [exV, RC.cells]
theorem ok_v {key pk : Int} {j : Nat} (hk : -9223372036854775808 ≤ key ∧ key ≤ 9223372036854775807) (hp : -9223372036854775808 ≤ pk ∧ pk ≤ 9223372036854775807) (hj : j ≤ 9223372036854775807) : (exV key pk j).ok :=
  ⟨by show (0 : Int) ≤ 3 ∧ (3 : Int) < 256; omega, hk, hp, by show -9223372036854775808 ≤ (j : Int) ∧ (j : Int) ≤ 9223372036854775807; omega, noNode_ok⟩
/-- where a tree that was moved stood -/
theorem mov_kid {Sty : List Lit → Prop} {N M : Nat → RN} {n m : Nat} {x y : Int} {c : RC} (hk : c.kind = 3) (h : applyN Sty N n x c = .doc m y M) :
    ∃ a v t : Nat, findN N n c.key = some a ∧ 0 < a ∧ a < n ∧ v < a ∧ parOf (dps N) a = v ∧ (kidsOf (dps N) n v)[t]? = some a ∧ y = x := by
  obtain ⟨h1, h2, h3⟩ := apply_doc h
  rcases done_of h2 with ⟨k, -⟩ | ⟨a, e, rfl, ⟨k, -⟩ | ⟨-, a0, rfl, u, p, gp, -⟩ | ⟨k, -⟩⟩
  · omega
  · omega
  · obtain ⟨an, -⟩ := find_some e
    obtain ⟨v, mv⟩ := mov_of h1.shape.steps a0 an gp
    have kn := mv.was.kids_new
    have mk : m - sizeN N m a + sizeN N m a = m := by have := mv.an; omega
    rw [put_back_same, mk] at kn
    refine ⟨a, v, (kidsAhead (dps (gapped N a (sizeN N m a))) v a).length, e, a0, an, mv.was.up, mv.par, ?_, rfl⟩
    rw [kn, List.getElem?_append_right (Nat.le_refl _), Nat.sub_self]
    rfl
  · omega

/-- a change whose node is to be written -/
def Half (W : World) (b : Nat) (l : List Value) : Prop := ∃ Y : List Value, Y.length = 51 ∧ Box55 W b (l ++ Y).toArray
theorem Half.below {W W' : World} {b : Nat} {l : List Value} (h : Half W b l) (hb : Below W.heap.size W W') : Half W' b l := let ⟨Y, h1, h2⟩ := h; ⟨Y, h1, h2.below hb⟩
theorem Half.drew {W : World} {b : Nat} {l : List Value} (h : Half W b l) : Half W.drew b l := h
theorem below_setRow (w : World) (b : Nat) (Z : Array Value) : Below b w (w.setRow b Z) := by
  refine ⟨rfl, rfl, rfl, by simp [World.setRow], fun k hk => ?_⟩
  unfold World.setRow
  simp [Array.getElem?_modify]
  omega
theorem step_load_node {w : World} {ops : Array Oper} {o : Oper} {a : Act} {K : Act → World → Prop} {Q : Exit → Act → World → Prop} {E : Prop} (hgd : o.guard = none) (x : Operand) (ho : o.op = .load 32 x)
    (b off : Nat) (hx : a.eval x = .pointer (some ⟨b, off, none⟩)) (cs : List Value) (hc : w.rangeAt b off cs) (hi : (Try.prog.info? 32).map (·.size) = some cs.length) (h : K (a.put o.dst (.agg cs.toArray)) w) :
    if Region.wanted o (yielded ops a.tmps) = true then Oper.wp Try.prog o a w K Q else E := by
  have hw : Region.wanted o (yielded ops a.tmps) = true := by simp [Region.wanted, hgd]
  rw [if_pos hw]
  exact wp_load_mid 32 x ho b off hx cs _ hc Try.underlying32 rfl hi h
theorem step_store_node {w : World} {ops : Array Oper} {o : Oper} {a : Act} {K : Act → World → Prop} {Q : Exit → Act → World → Prop} {E : Prop} (hgd : o.guard = none) (x y : Operand) (ho : o.op = .store 32 x y)
    (b : Nat) (l : List Value) (hl : l.length = 4) (hx : a.eval x = .pointer (some ⟨b, 4, none⟩)) (Y : List Value) (hy : a.eval y = .agg Y.toArray) (hY : Y.length = 51) (h1 : ∀ v ∈ Y, v.oneCell' = true) (hB : Half w b l)
    (h : ∀ W', Box55 W' b (l ++ Y).toArray → Below b w W' → K (a.put o.dst undef) W') :
    if Region.wanted o (yielded ops a.tmps) = true then Oper.wp Try.prog o a w K Q else E := by
  have hw : Region.wanted o (yielded ops a.tmps) = true := by simp [Region.wanted, hgd]
  rw [if_pos hw]
  obtain ⟨Z, hZ, hb, hB⟩ := hB
  have hst := run_storeCells_at Try.prog b 4 34 Y 0 (l ++ Z).toArray w hB (by simp [hl, hZ, hY]) h1
  have e1 : (l ++ Z).take (4 + 0) = l := by rw [show 4 + 0 = l.length by omega]; exact List.take_left
  have e2 : (l ++ Z).drop (4 + 0 + Y.length) = [] := List.drop_of_length_le (by simp [hl, hZ, hY])
  simp only [e1, e2, List.append_nil] at hst
  cases hq : Try.prog.info? 32 with
  | none => have := node_isize; simp [hq] at this
  | some i =>
    have hs : Y.length = i.size := by have := node_isize; simp [hq] at this; omega
    have hr : (Instr.storeAt 32 (.pointer (some ⟨b, 4, none⟩)) (.agg Y.toArray)).run Try.prog w = .ok () (w.setRow b (l ++ Y).toArray) := by
      simp only [Instr.storeAt, Instr.sureAddr, Sem.run_bind, Sem.run_pure, Result.andThen_ok]
      simp [storeVar, sizeOf, typeInfo, hq, Value.cells, hs, hst]
    unfold Oper.wp execOp
    simp only [ho, hx, hy, Sem.run_bind, hr, Result.andThen_ok, Sem.run_pure]
    refine h _ ⟨by simpa [World.setRow] using hb, ?_⟩ (below_setRow w b _)
    simp [World.setRow, Array.getElem?_modify, hB]
/-- a node that was changed -/
theorem oth_kid {Sty : List Lit → Prop} {N M : Nat → RN} {n m : Nat} {x y : Int} {c : RC} (h1 : c.kind ≠ 1) (h2 : c.kind ≠ 2) (h3 : c.kind ≠ 3) (h : applyN Sty N n x c = .doc m y M) :
    ∃ a : Nat, findN N n c.key = some a ∧ a < n ∧ (c.kind = 4 ∨ c.kind = 5) ∧ y = x := by
  obtain ⟨-, d, -⟩ := apply_doc h
  rcases done_of d with ⟨k, -⟩ | ⟨a, e, rfl, ⟨k, -⟩ | ⟨k, -⟩ | ⟨k, -⟩⟩
  · exact absurd k h1
  · exact absurd k h2
  · exact absurd k h3
  · exact ⟨a, e, (find_some e).1, k, rfl⟩

set_option maxRecDepth 100000 in
set_option maxHeartbeats 4000000 in
theorem back7 {Sty : List Lit → Prop} (st : Sty noStyle) (nq : ¬ Sty oddStyle) (hA : ApplyOK7 Sty 10) (hM : MayOK7 Sty 11) (A : Option Addr) (n c : Nat) (x : Int) (N : Nat → RN) (g : RC) (w : World) (hD : DocIn w A n c x N) (hg : g.ok) :
    Calls Try.prog 5 #[docV A n c x, changeV g] w fun e w' => e = .returned (.bool true) ∧ Below w.heap.size w w' := by
  have KA := Lib.hid hA
  have KW := Lib.hid (fun W => awake7_any st nq hA hM W)
  have KG := Lib.hid (fun W (h : DocIn W A n c x N) => great7_any A n c x N g W h hg)
  have V := Lib.hid (newDoc_var hD)
  have HG := Lib.hid hg
  have hx := hD.2
  have hl : g.cells.toArray.size = 55 := by simp [hg.len]
  have k0 : g.cells.toArray[0]? = some (.int .u8 g.kind) := by simp [RC.cells]
  have k1 : g.cells.toArray[1]? = some (.int .i64 g.key) := by simp [RC.cells]
  obtain ⟨R, hR⟩ : ∃ R, R = applyN Sty N n x g := ⟨_, rfl⟩
  have HR := Lib.hid hR
  obtain ⟨kd, hkd⟩ : ∃ kd, kd = g.kind := ⟨_, rfl⟩
  have HK := Lib.hid hkd
  obtain ⟨key, hkey⟩ : ∃ key, key = g.key := ⟨_, rfl⟩
  have HKey := Lib.hid hkey
  have gk := hg.kind
  have gy := hg.key
  rw [← hkd] at k0 gk
  rw [← hkey] at k1 gy
  have KA1 := Lib.hid (fun W (h : DocIn W A n c x N) => hA A n c x N g W h hg)
  rw [← hR] at KA1
  clear hD hg hA hM hkd hkey hR
  unfold docV changeV at *
  obtain ⟨X, hX⟩ : ∃ X, X = g.cells.toArray := ⟨_, rfl⟩
  rw [← hX] at k0 k1 hl KG KA1 ⊢
  clear hX
  have hW : Below (newDoc w A n c x).heap.size (newDoc w A n c x) ((newDoc w A n c x).alloc (.cells X 34)) := (Below.refl _ _).alloc (Nat.le_refl _) _
  have B := Lib.hid (Box55.new (newDoc w A n c x) X)
  have V := Lib.hid (V.out.next hW)
  have BW := Lib.hid ((newDoc_below w A n c x).trans (hW.mono (newDoc_below w A n c x).size))
  have hq : (newDoc w A n c x).heap.size = w.heap.size + 1 := by simp [newDoc]
  rw [hq] at B
  clear hW hq
  unfold newDoc at V B BW
  go_enter Try.func5, Try.ntmps5
  go_wp2_with fail
  refine (KW.out _).mono ?_
  rintro e w1 ⟨rfl, hb⟩
  replace V := Lib.hid (V.out.next hb)
  replace B := Lib.hid (B.out.below hb)
  replace BW := Lib.hid (BW.out.trans (hb.mono BW.out.size))
  clear hb
  obtain ⟨-, c0, c1, -⟩ := V.out
  go_wp2_with (refine wpList_load_change (o := ⟨some 15, _, _, _, _, _⟩) rfl _ rfl _ rfl _ B.out hl ?_)
  clear c0 c1
  refine (KG.out _ V.out.doc).mono ?_
  rintro e w2 ⟨q, rfl, hq, hb⟩
  replace V := Lib.hid (V.out.next hb)
  replace B := Lib.hid (B.out.below hb)
  replace BW := Lib.hid (BW.out.trans (hb.mono BW.out.size))
  clear hb
  cases q with
  | true =>
    go_wp2_with fail
    go_ret
    exact ⟨rfl, BW.out⟩
  | false =>
    obtain ⟨hn, -, -⟩ := hq rfl
    clear hq
    obtain ⟨-, c0, c1, -⟩ := V.out
    go_wp2_with (refine wpList_load_change (o := ⟨some 19, _, _, _, _, _⟩) rfl _ rfl _ rfl _ B.out hl ?_)
    clear c0 c1
    refine (KA1.out _ V.out.doc).mono ?_
    rintro e w3 ⟨ha, hb⟩
    cases R with
    | no f =>
      obtain rfl := ha
      have hf := apply_no0 HR.out.symm
      have hn' := hb.trans ((newDoc_below w3 none 0 0 0).mono hb.size)
      replace BW := Lib.hid (BW.out.trans (hn'.mono BW.out.size))
      clear hb hn'
      have hf' : (f != 0) = true := by simp at hf; simp [hf]
      unfold docV
      unfold newDoc at BW
      go_wp2_with fail
      go_ret
      exact ⟨rfl, BW.out⟩
    | doc m y M =>
      obtain ⟨BB, d, rfl, dM, -⟩ := ha
      have hn' := hb.trans ((newDoc_below w3 BB m d y).mono hb.size)
      have D : Hid (Duo w.heap.size A n c x N w3.heap.size BB m d y M w (newDoc w3 BB m d y)) := Lib.hid ⟨BW.out.trans (hn'.mono BW.out.size), V.out.next hn', newDoc_var dM⟩
      replace B := Lib.hid (B.out.below hn')
      clear hb hn' dM V BW KG KW KA1
      have b0 := B.out.cell k0
      have b1 := B.out.cell k1
      unfold docV
      unfold newDoc at D b0 b1 B
      obtain ⟨-, c0, c1, a0, a1⟩ := duo_S D.out
      by_cases h2 : kd = 2
      · subst h2
        go_wp2_with fail
        go_ret
        exact ⟨rfl, D.out.below⟩
      · have h2' : (kd == 2) = false := by simp [h2]
        go_upto_region 8 with fail
        generalize w3.alloc (.cells #[.slice BB m d, .int .i64 y] 24) = wd at *
        have U0 := changeZ_sizes (exU kd key) (ok_u gk gy)
        by_cases h1 : kd = 1
        · subst h1
          have EB := Lib.hid (back_ins (c := g) (g := exU 2 x) (HK.out.symm) HR.out.symm rfl rfl)
          have UK := Lib.hid (changeZ_sizes (exU 2 x) (ok_u (by omega) hx))
          have UL0 := Lib.hid U0
          have KA2 := Lib.hid (fun W (h : DocIn W BB m d y M) => KA.out BB m d y M (exU 2 x) W h (ok_u (by omega) hx))
          rw [EB.out] at KA2
          have BU := Lib.hid (fun W => build_u 1 key W)
          have BU2 := Lib.hid (fun W => build_u 2 x W)
          have HX := Lib.hid hx
          unfold docV changeV at *
          clear U0 EB KA HR HK HKey HG
          generalize (exU 1 key).cells.toArray = U at *
          generalize (exU 2 x).cells.toArray = U2 at *
          have hW1 : Below wd.heap.size wd (wd.alloc (.cells U 34)) := below_alloc (Below.refl _ _) _
          have hW2 : Below wd.heap.size wd (wd.alloc (.cells U2 34)) := below_alloc (Below.refl _ _) _
          have DU := Lib.hid (D.out.next hW1)
          have DZ := Lib.hid (D.out.next hW2)
          have UB := Lib.hid (Box55.new wd U2)
          have UL := Lib.hid UK.out
          obtain ⟨-, e0, e1, -, -⟩ := duo_S DU.out
          have b0' := (B.out.below hW1).cell k0
          have b1' := (B.out.below hW1).cell k1
          clear hW1 hW2
          go_upto_region 19 with (first
            | ((with_reducible change wpList _ _ _ (Oper.mk (some 34) (Op.build _ _) _ _ _ _ :: _) _ _); refine wpList_build_it rfl _ _ rfl _ (by intro W; simp only [List.map_toArray, List.map_cons, List.map_nil]; exact BU.out W) ?_)
            | ((with_reducible change wpList _ _ _ (Oper.mk (some 50) (Op.build _ _) _ _ _ _ :: _) _ _); refine wpList_build_it rfl _ _ rfl _ (by intro W; simp only [List.map_toArray, List.map_cons, List.map_nil]; exact BU2.out W) ?_)
            | ((with_reducible change wpList _ _ _ (Oper.mk (some 7) _ _ _ _ _ :: _) _ _); refine wpList_alloc_change rfl rfl ?_)
            | ((with_reducible change wpList _ _ _ (Oper.mk none (.store 34 _ (.tmp 34)) _ _ _ _ :: _) _ _); refine wpList_store_change rfl _ _ rfl U rfl rfl UL0.out.1 UL0.out.2 ?_)
            | ((with_reducible change wpList _ _ _ (Oper.mk none (.store 34 _ (.tmp 50)) _ _ _ _ :: _) _ _); refine wpList_store_new rfl 34 _ _ rfl U U2 rfl rfl (by rw [UL0.out.1, UK.out.1]) (by rw [UK.out.1]; exact change_size) UK.out.2 ?_)
            | fail)
          clear c0 c1 a0 a1 b0 b1 b0' b1' e0 e1
          clear D
          have D := Lib.hid DZ.out
          clear DZ
          obtain ⟨-, c0, c1, a0, a1⟩ := duo_S D.out
          go_wp2_with (refine wpList_load_change (o := ⟨some 86, _, _, _, _, _⟩) rfl _ rfl _ rfl _ UB.out UL.out.1 ?_)
          clear c0 c1 a0 a1
          refine (KA2.out _ D.out.v2.doc).mono ?_
          rintro e wt ⟨⟨B2, d2, rfl, dN, -⟩, hb⟩
          have hn2 := hb.trans ((newDoc_below wt B2 n d2 x).mono hb.size)
          have D1 := Lib.hid (D.out.next (hb.trans ((newDoc_below wt B2 n d2 y).mono hb.size)))
          have D2 := Lib.hid (D.out.next hn2)
          have NV := Lib.hid (newDoc_var (W := wt) (A := B2) (n := n) (c := d2) (x := x) (N := N) ⟨dN.1, HX.out⟩)
          clear hb hn2 dN
          unfold docV
          unfold newDoc at D1 D2 NV
          obtain ⟨-, c0, c1, a0, a1⟩ := duo_S D2.out
          obtain ⟨-, p0, p1, -, -⟩ := duo_S D1.out
          obtain ⟨-, n0, n1, -⟩ := NV.out
          go_wp2_with fail
          clear c0 c1 a0 a1 n0 n1 p0 p1
          have KS := Lib.hid (refSame5_any B2 n d2 x N A n c x N _ NV.out.doc D2.out.v1.doc)
          unfold docV at KS
          refine KS.out.mono ?_
          rintro e wq ⟨b, rfl, hbb, hb⟩
          obtain rfl : b = true := hbb.2 ⟨rfl, rfl, fun _ _ => rfl⟩
          replace D2 := Lib.hid (D2.out.next hb)
          clear hb hbb
          go_wp2_with fail
          go_ret
          exact ⟨rfl, D2.out.below⟩
        · by_cases h3 : kd = 3
          · subst h3
            obtain ⟨a, v, t0, fa, a0', an, va, pv, kt, yx⟩ := mov_kid (c := g) HK.out.symm HR.out.symm
            subst yx
            have hx' := hx
            have KF := Lib.hid (fun W (h : DocIn W A n c y N) => refFind_any A n c y N key W h _ (find_at (HKey.out ▸ fa)))
            have KU := Lib.hid (fun W (h : DocIn W A n c y N) => up_any A n c y N a W h (by omega) (by omega) (N v).key (by rw [up_of N an, keyUp_some pv]))
            have KP := Lib.hid (fun W (h : Duo w.heap.size A n c y N w3.heap.size BB m d y M w W) => refParent_any A n c y N a W h.v1.doc (by omega) (by omega) v (by rw [par_of N an, pv]))
            have KK := Lib.hid (fun W (h : Duo w.heap.size A n c y N w3.heap.size BB m d y M w W) => refKids_any A n c y N v W h.v1.doc (by omega) (by omega))
            rw [kids_of N (show v < n by omega)] at KK
            have pkb := (D.out.v1.doc.1.1.1 v (by omega)).key
            have EB := Lib.hid (fun (j : Nat) (hj : (kidsOf (dps N) n v)[j]? = some a) => (back_mov (c := g) (g := exV key (N v).key j) HK.out.symm HR.out.symm fa pv hj rfl HKey.out rfl rfl).1)
            generalize hL : kidsOf (dps N) n v = L at KK kt EB
            clear hL fa pv
            generalize (N v).key = pk at *
            have UK := Lib.hid (fun j => changeZ_sizes (exV key pk j))
            have UL0 := Lib.hid U0
            have BU := Lib.hid (fun W => build_u 3 key W)
            have HX := Lib.hid hx
            have PU := exV_up key pk
            have UO : Hid (∀ j : Nat, j ≤ 9223372036854775807 → (exV key pk j).ok) := Lib.hid (fun j hj => ok_v gy pkb hj)
            unfold docV changeV at *
            clear U0 HR HK HKey HG
            generalize (exU 3 key).cells.toArray = U at *
            have F : Hid (Below wd.heap.size wd (wd.alloc (.cells U 34))) := Lib.hid (below_alloc (Below.refl _ _) _)
            have UB := Lib.hid (Box55.new wd U)
            have D1 := Lib.hid (D.out.next F.out)
            have BX := Lib.hid (B.out.below F.out)
            obtain ⟨-, e0, e1, -, -⟩ := duo_S D1.out
            have b0' := BX.out.cell k0
            have b1' := BX.out.cell k1
            go_wp2_with (first
              | ((with_reducible change wpList _ _ _ (Oper.mk (some 34) (Op.build _ _) _ _ _ _ :: _) _ _); refine wpList_build_it rfl _ _ rfl _ (by intro W; simp only [List.map_toArray, List.map_cons, List.map_nil]; exact BU.out W) ?_)
              | ((with_reducible change wpList _ _ _ (Oper.mk (some 7) _ _ _ _ _ :: _) _ _); refine wpList_alloc_change rfl rfl ?_)
              | ((with_reducible change wpList _ _ _ (Oper.mk none (.store 34 _ (.tmp 34)) _ _ _ _ :: _) _ _); refine wpList_store_change rfl _ _ rfl U rfl rfl UL0.out.1 UL0.out.2 ?_)
              | fail)
            clear e0 e1 b0' b1' c0 c1 a0 a1 b0 b1
            refine (KF.out _ D1.out.v1.doc).mono ?_
            rintro e w4 ⟨rfl, hb⟩
            replace F := Lib.hid (F.out.trans (hb.mono F.out.size))
            replace UB := Lib.hid (UB.out.below hb)
            clear hb
            replace D1 := Lib.hid (D.out.next F.out)
            obtain ⟨-, e0, e1, -, -⟩ := duo_S D1.out
            go_wp2_with fail
            clear e0 e1
            refine (KU.out _ D1.out.v1.doc).mono ?_
            rintro e w5 ⟨rfl, hb⟩
            replace F := Lib.hid (F.out.trans (hb.mono F.out.size))
            replace UB := Lib.hid (UB.out.below hb)
            clear hb
            have u2 := (UB.out.put 2 (.int .i64 pk))
            rw [PU] at u2
            have U2 := Lib.hid u2
            clear u2
            have f2 := UB.out.free 2
            have q2 : ∃ z, w5.cell? ⟨wd.heap.size, 2, none⟩ = some z := ⟨_, UB.out.cell (k := 2) (v := U[2]'(by rw [UL0.out.1]; omega)) (Array.getElem?_eq_getElem _)⟩
            obtain ⟨z2, q2⟩ := q2
            replace F := Lib.hid (F.out.setCell (p := ⟨wd.heap.size, 2, none⟩) (Nat.le_refl _) (.int .i64 pk))
            replace D1 := Lib.hid (D.out.next F.out)
            go_upto_region 16 with fail
            clear f2 q2
            generalize w5.setCell ⟨wd.heap.size, 2, none⟩ (.int .i64 pk) = w6 at *
            go_region_held3 (fun W' => (Duo w.heap.size A n c y N w3.heap.size BB m d y M w W' ∧ Below w6.heap.size w6 W') ∧ W'.cell? ⟨w.heap.size, 0, none⟩ = some (.slice A n c) ∧ W'.cell? ⟨w.heap.size, 1, none⟩ = some (.int .i64 y))
              (first | (with_reducible exact ⟨⟨KB.out, KW.out⟩, KB.out.v1.c0, KB.out.v1.c1⟩) | (with_reducible exact ⟨⟨D1.out.drew, (Below.refl _ _).drew⟩, D1.out.drew.v1.c0, D1.out.drew.v1.c1⟩))
              (first
              | (go_at_call 16; (with_reducible refine (KP.out _ (And.left (And.left (by assumption)))).mono ?_); rintro e w7 ⟨rfl, hb⟩; have KB : Hid (Duo w.heap.size A n c y N w3.heap.size BB m d y M w w7) := Lib.hid (Duo.next (And.left (And.left (by assumption))) hb); have KW : Hid (Below w6.heap.size w6 w7) := Lib.hid (Below.trans (And.right (And.left (by assumption))) (hb.mono (Below.size (And.right (And.left (by assumption)))))); clear hb)
              | (go_at_call 15; (with_reducible refine (KK.out _ (And.left (And.left (by assumption)))).mono ?_); rintro e w7 ⟨BK, dK, rfl, hpl, hge, hb⟩; have KB : Hid (Duo w.heap.size A n c y N w3.heap.size BB m d y M w w7) := Lib.hid (Duo.next (And.left (And.left (by assumption))) hb); have KW : Hid (Below w6.heap.size w6 w7) := Lib.hid (Below.trans (And.right (And.left (by assumption))) (hb.mono (Below.size (And.right (And.left (by assumption)))))); have PL := Lib.hid hpl; have GE : Hid (∀ b off, BK = some ⟨b, off, none⟩ → w6.heap.size ≤ b) := Lib.hid (fun b off e => Nat.le_trans (Below.size (And.right (And.left (by assumption)))) (hge b off e)); clear hb hpl hge))
            have tL : t0 < L.length := by
              rcases Nat.lt_or_ge t0 L.length with h | h
              · exact h
              · rw [List.getElem?_eq_none h] at kt; cases kt
            have hLne : L ≠ [] := by intro h; rw [h] at tL; simp at tL
            obtain ⟨bK, oK, rfl, -, hcK⟩ := PL.out.2.2.2 hLne
            have HC := Lib.hid hcK
            have gK := GE.out bK oK rfl
            have lB : L.length < 9223372036854775808 := by have := PL.out.2.2.1; omega
            have qlt := U2.out.1
            have LL : Hid (∀ j, j ≤ t0 → ∃ q : Nat, L[j]? = some q) := Lib.hid (fun j hj => ⟨_, List.getElem?_eq_getElem (by omega)⟩)
            have KT := Lib.hid kt
            have F7 := Lib.hid (F.out.trans (KW.out.mono F.out.size))
            have U7 := Lib.hid (U2.out.below KW.out)
            clear hcK PL hLne GE kt KP KK KF KU BX UB U2 F
            generalize hlen : L.length = lenL at *
            clear hlen
            go_wp2_with fail
            go_loopg [] t0 (fun g1 wr => ∃ j : Nat, j ≤ t0 ∧ t0 - j ≤ g1 ∧ Hid (Box55 wr wd.heap.size (exV key pk j).cells.toArray) ∧ Hid (Below wd.heap.size wd wr) ∧ Hid (∀ (i q : Nat), L[i]? = some q → wr.cell? ⟨bK, oK + i, none⟩ = some (.int .i64 q)))
            case atStart => exact ⟨0, by omega, by omega, U7, F7, HC⟩
            case round =>
              obtain ⟨j, hj, hg1, UB, F, HC⟩ := hrel
              clear D1 KB KW U7 F7
              have t3 : wr.cell? ⟨wd.heap.size, 3, none⟩ = some (.int .i64 (j : Nat)) := UB.out.cell (k := 3) (by simp [exV, RC.cells])
              have f3 := UB.out.free 3
              have jl : (j : Int) < lenL := by omega
              have j0 : (0 : Int) ≤ j := by omega
              obtain ⟨q, hq⟩ := LL.out j hj
              have cq := HC.out j q hq
              have D1 := Lib.hid (D.out.next F.out)
              by_cases hqa : q = a
              · subst hqa
                have hne : ((q : Int) != q) = false := by simp
                have KA2 := Lib.hid (fun W (h : DocIn W BB m d y M) => KA.out BB m d y M (exV key pk j) W h (UO.out j (by omega)))
                rw [EB.out j hq] at KA2
                unfold docV changeV at KA2
                have UL : Hid ((exV key pk j).cells.toArray.size = 55 ∧ ∀ v ∈ (exV key pk j).cells.toArray.toList, v.oneCell' = true) := Lib.hid (UK.out j (UO.out j (by omega)))
                have DZ := Lib.hid D1.out
                clear D1 KA EB UK UO LL KT HC BU PU
                go_upto_region 19 with fail
                clear t3 f3 cq hq
                generalize (exV key pk j).cells.toArray = U3 at *
                clear D
                have D := Lib.hid DZ.out
                clear DZ
                obtain ⟨-, c0, c1, a0, a1⟩ := duo_S D.out
                go_wp2_with (refine wpList_load_change (o := ⟨some 86, _, _, _, _, _⟩) rfl _ rfl _ rfl _ UB.out UL.out.1 ?_)
                clear c0 c1 a0 a1
                refine (KA2.out _ D.out.v2.doc).mono ?_
                rintro e wt ⟨⟨B2, d2, rfl, dN, -⟩, hb⟩
                have hn2 := hb.trans ((newDoc_below wt B2 n d2 y).mono hb.size)
                have D1 := Lib.hid (D.out.next (hb.trans ((newDoc_below wt B2 n d2 y).mono hb.size)))
                have D2 := Lib.hid (D.out.next hn2)
                have NV := Lib.hid (newDoc_var (W := wt) (A := B2) (n := n) (c := d2) (x := y) (N := N) ⟨dN.1, HX.out⟩)
                clear hb hn2 dN
                unfold docV
                unfold newDoc at D1 D2 NV
                obtain ⟨-, c0, c1, a0, a1⟩ := duo_S D2.out
                obtain ⟨-, p0, p1, -, -⟩ := duo_S D1.out
                obtain ⟨-, n0, n1, -⟩ := NV.out
                go_wp2_with fail
                clear c0 c1 a0 a1 n0 n1 p0 p1
                have KS := Lib.hid (refSame5_any B2 n d2 y N A n c y N _ NV.out.doc D2.out.v1.doc)
                unfold docV at KS
                refine KS.out.mono ?_
                rintro e wq ⟨b, rfl, hbb, hb⟩
                obtain rfl : b = true := hbb.2 ⟨rfl, rfl, fun _ _ => rfl⟩
                replace D2 := Lib.hid (D2.out.next hb)
                clear hb hbb
                go_wp2_with fail
                go_ret
                exact ⟨rfl, D2.out.below⟩
              · have hne : ((q : Int) != a) = true := by simp; omega
                have jt : j ≠ t0 := by intro e; subst e; have := KT.out; rw [hq] at this; injection this; omega
                have wj : IntKind.i64.wrap ((j : Int) + 1) = (j : Int) + 1 := IntWalk.i64_in _ (by omega)
                have HQ := Lib.hid hqa
                clear hqa hq
                go_wp2_with fail
                go_roundg (t0 - (j + 1))
                case measure => omega
                case rel =>
                  refine ⟨j + 1, by omega, Nat.le_refl _, Lib.hid ?_, Lib.hid (F.out.setCell (p := ⟨wd.heap.size, 3, none⟩) (Nat.le_refl _) _), Lib.hid (fun i q hq => ?_)⟩
                  · have := UB.out.put 3 (.int .i64 ((j : Int) + 1))
                    rwa [exV_next] at this
                  · rw [World.cell?_setCell_other _ _ _ _ (fun e => by injection e; omega)]
                    exact HC.out i q hq
          · obtain ⟨a, fa, an, k45, yx⟩ := oth_kid (c := g) (by rw [← HK.out]; exact h1) (by rw [← HK.out]; exact h2) (by rw [← HK.out]; exact h3) HR.out.symm
            subst yx
            have EB := Lib.hid ((back_oth (c := g) (g := ⟨kd, key, 0, 0, N a⟩) k45 HR.out.symm fa HK.out HKey.out rfl).1)
            have h3' : (kd == 3) = false := by simp [h3]
            have h1' : (kd == 1) = false := by simp [h1]
            obtain ⟨bA, oA, rfl, -, -⟩ := D.out.v1.doc.1.1.2 (by omega)
            have okA := D.out.v1.doc.1.1.1 a an
            have KF := Lib.hid (fun W (h : Duo w.heap.size (some ⟨bA, oA, none⟩) n c y N w3.heap.size BB m d y M w W) => refFind_any (some ⟨bA, oA, none⟩) n c y N key W h.v1.doc _ (find_at (HKey.out ▸ fa)))
            have RG := Lib.hid (fun W (h : Duo w.heap.size (some ⟨bA, oA, none⟩) n c y N w3.heap.size BB m d y M w W) => (show W.rangeAt bA (oA + a * 51) (N a).cells from by
              obtain ⟨b', o', e', -, at'⟩ := h.v1.doc.1.1.2 (by omega)
              obtain ⟨rfl, rfl⟩ : bA = b' ∧ oA = o' := by
                simp only [Option.some.injEq, Addr.mk.injEq, and_true] at e'
                exact e'
              exact node_range okA (at' a an)))
            have KA2 := Lib.hid (fun W (h : DocIn W BB m d y M) => KA.out BB m d y M ⟨kd, key, 0, 0, N a⟩ W h ⟨gk, gy, by show -9223372036854775808 ≤ (0 : Int) ∧ (0 : Int) ≤ 9223372036854775807; omega, by show -9223372036854775808 ≤ (0 : Int) ∧ (0 : Int) ≤ 9223372036854775807; omega, okA⟩)
            rw [EB.out] at KA2
            have NL : Hid ((N a).cells.length = 51) := Lib.hid okA.len
            have LX : Hid ((Try.prog.info? 32).map (·.size) = some (N a).cells.length) := Lib.hid (by rw [okA.len]; exact node_isize)
            have ones := Lib.hid (N a).cells_one
            have UL0 := Lib.hid U0
            have BU := Lib.hid (fun W => build_u kd key W)
            have HX := Lib.hid hx
            have UH : Hid (∀ W b, Box55 W b (exU kd key).cells.toArray → Half W b ([.int .u8 kd, .int .i64 key, .int .i64 0, .int .i64 0] : List Value)) := Lib.hid (fun W b h => ⟨noNode.cells, noNode_ok.len, h⟩)
            have UE : (⟨kd, key, 0, 0, N a⟩ : RC).cells = ([.int .u8 kd, .int .i64 key, .int .i64 0, .int .i64 0] : List Value) ++ (N a).cells := rfl
            unfold docV changeV at *
            rw [UE] at KA2
            have UL : Hid ((([.int .u8 kd, .int .i64 key, .int .i64 0, .int .i64 0] : List Value) ++ (N a).cells).toArray.size = 55 ∧ True) := Lib.hid ⟨by simp [NL.out], trivial⟩
            obtain ⟨L4, hL4⟩ : ∃ l : List Value, l = ([.int .u8 kd, .int .i64 key, .int .i64 0, .int .i64 0] : List Value) := ⟨_, rfl⟩
            rw [← hL4] at KA2 UL UH
            have LN : Hid (L4.length = 4) := Lib.hid (by rw [hL4]; rfl)
            clear U0 HR HK HKey HG EB KA UE hL4 fa k45 okA
            generalize (N a).cells = NA at *
            generalize (exU kd key).cells.toArray = U at *
            have F : Hid (Below wd.heap.size wd (wd.alloc (.cells U 34))) := Lib.hid (below_alloc (Below.refl _ _) _)
            have H0 := Lib.hid (UH.out _ _ (Box55.new wd U))
            have D1 := Lib.hid (D.out.next F.out)
            have BX := Lib.hid (B.out.below F.out)
            have CK : Hid (∀ W', Below wd.heap.size wd W' → W'.cell? ⟨w.heap.size + 1, 1, none⟩ = some (.int .i64 key)) := Lib.hid (fun W' h => (B.out.below h).cell k1)
            obtain ⟨-, e0, e1, -, -⟩ := duo_S D1.out
            have b0' := BX.out.cell k0
            have b1' := BX.out.cell k1
            have anz : (a : Int) < n := by omega
            have a0z : (0 : Int) ≤ a := by omega
            go_upto_region 10 with (first
              | ((with_reducible change wpList _ _ _ (Oper.mk (some 34) (Op.build _ _) _ _ _ _ :: _) _ _); refine wpList_build_it rfl _ _ rfl _ (by intro W; simp only [List.map_toArray, List.map_cons, List.map_nil]; exact BU.out W) ?_)
              | ((with_reducible change wpList _ _ _ (Oper.mk (some 7) _ _ _ _ _ :: _) _ _); refine wpList_alloc_change rfl rfl ?_)
              | ((with_reducible change wpList _ _ _ (Oper.mk none (.store 34 _ (.tmp 34)) _ _ _ _ :: _) _ _); refine wpList_store_change rfl _ _ rfl U rfl rfl UL0.out.1 UL0.out.2 ?_)
              | fail)
            clear e0 e1 b0' b1' c0 c1 a0 a1 b0 b1
            refine wp_region_held_drew (S := (fun W' => ((Duo w.heap.size (some ⟨bA, oA, none⟩) n c y N w3.heap.size BB m d y M w W' ∧ Below wd.heap.size wd W') ∧ Half W' wd.heap.size L4) ∧ W'.cell? ⟨w.heap.size, 0, none⟩ = some (.slice (some ⟨bA, oA, none⟩) n c) ∧ W'.cell? ⟨w.heap.size, 1, none⟩ = some (.int .i64 y) ∧ W'.cell? ⟨w.heap.size + 1, 1, none⟩ = some (.int .i64 key))) (by kernel_rfl) ⟨⟨⟨D1.out.drew, F.out.drew⟩, H0.out.drew⟩, D1.out.drew.v1.c0, D1.out.drew.v1.c1, CK.out _ F.out.drew⟩ (fun hHeld => ?_)
            refine wpAnyH_take (i := 0) (oi := Oper.mk (some 37) _ _ _ _ _) (v := .pointer (some ⟨w.heap.size, 0, none⟩)) rfl (by kernel_rfl) (by kernel_rfl) (by kernel_rfl) (fun _ _ _ h => h) (Or.inl ⟨by rfl, ?_⟩) (by assumption) ?_
            · intro w hSw
              obtain ⟨⟨⟨hs0, hs1⟩, hs2⟩, s0, s1, s2⟩ := hSw
              clear hs0 hs1 hs2
              go_simp
            try simp only [Act.put, List.setIfInBounds_toArray, List.set_cons_zero, List.set_cons_succ]
            refine wpAnyH_take (i := 1) (oi := Oper.mk (some 38) _ _ _ _ _) (v := .slice (some ⟨bA, oA, none⟩) n c) rfl (by kernel_rfl) (by kernel_rfl) (by kernel_rfl) (fun _ _ _ h => h) (Or.inl ⟨by rfl, ?_⟩) (by assumption) ?_
            · intro w hSw
              obtain ⟨⟨⟨hs0, hs1⟩, hs2⟩, s0, s1, s2⟩ := hSw
              clear hs0 hs1 hs2
              go_simp
            try simp only [Act.put, List.setIfInBounds_toArray, List.set_cons_zero, List.set_cons_succ]
            refine wpAnyH_take (i := 2) (oi := Oper.mk (some 39) _ _ _ _ _) (v := .agg #[.slice (some ⟨bA, oA, none⟩) n c, .int .i64 y]) rfl (by kernel_rfl) (by kernel_rfl) (by kernel_rfl) (fun _ _ _ h => h) (Or.inl ⟨by rfl, ?_⟩) (by assumption) ?_
            · intro w hSw
              obtain ⟨⟨⟨hs0, hs1⟩, hs2⟩, s0, s1, s2⟩ := hSw
              clear hs0 hs1 hs2
              go_simp
            try simp only [Act.put, List.setIfInBounds_toArray, List.set_cons_zero, List.set_cons_succ]
            refine wpAnyH_take (i := 3) (oi := Oper.mk (some 40) _ _ _ _ _) (v := .pointer (some ⟨w.heap.size + 1, 1, none⟩)) rfl (by kernel_rfl) (by kernel_rfl) (by kernel_rfl) (fun _ _ _ h => h) (Or.inl ⟨by rfl, ?_⟩) (by assumption) ?_
            · intro w hSw
              obtain ⟨⟨⟨hs0, hs1⟩, hs2⟩, s0, s1, s2⟩ := hSw
              clear hs0 hs1 hs2
              go_simp
            try simp only [Act.put, List.setIfInBounds_toArray, List.set_cons_zero, List.set_cons_succ]
            refine wpAnyH_take (i := 4) (oi := Oper.mk (some 41) _ _ _ _ _) (v := .int .i64 key) rfl (by kernel_rfl) (by kernel_rfl) (by kernel_rfl) (fun _ _ _ h => h) (Or.inl ⟨by rfl, ?_⟩) (by assumption) ?_
            · intro w hSw
              obtain ⟨⟨⟨hs0, hs1⟩, hs2⟩, s0, s1, s2⟩ := hSw
              clear hs0 hs1 hs2
              go_simp
            try simp only [Act.put, List.setIfInBounds_toArray, List.set_cons_zero, List.set_cons_succ]
            refine wpAnyH_ready (rs := [5]) (by kernel_rfl) (by simp) ?_
            refine AllReadyH.cons (o := Oper.mk (some 42) _ _ _ _ _) rfl (fun K hK => ?_) ?_
            · go_simp
              (with_reducible refine (KF.out _ D1.out.drew).mono ?_)
              rintro e w7 ⟨rfl, hb⟩
              have KB : Hid (Duo w.heap.size (some ⟨bA, oA, none⟩) n c y N w3.heap.size BB m d y M w w7) := Lib.hid (Duo.next D1.out.drew hb)
              have KW : Hid (Below wd.heap.size wd w7) := Lib.hid (Below.trans F.out.drew (hb.mono F.out.drew.size))
              have KH : Hid (Half w7 wd.heap.size L4) := Lib.hid (Half.below H0.out.drew hb)
              clear hb
              refine hK.out _ _ ⟨⟨⟨KB.out, KW.out⟩, KH.out⟩, KB.out.v1.c0, KB.out.v1.c1, CK.out _ KW.out⟩ (fun hHeld => ?_)
              clear hK K
              try simp only [Act.put, List.setIfInBounds_toArray, List.set_cons_zero, List.set_cons_succ]
              refine wpAnyH_take (i := 6) (oi := Oper.mk (some 43) _ _ _ _ _) (v := .pointer (some ⟨bA, oA + a * 51, none⟩)) rfl (by kernel_rfl) (by kernel_rfl) (by kernel_rfl) (fun _ _ _ h => h) (Or.inl ⟨by rfl, ?_⟩) (by assumption) ?_
              · intro w hSw
                obtain ⟨⟨⟨hs0, hs1⟩, hs2⟩, s0, s1, s2⟩ := hSw
                clear hs0 hs1 hs2
                go_simp
              try simp only [Act.put, List.setIfInBounds_toArray, List.set_cons_zero, List.set_cons_succ]
              refine wpAnyH_take (i := 7) (oi := Oper.mk (some 44) _ _ _ _ _) (v := .agg NA.toArray) rfl (by kernel_rfl) (by kernel_rfl) (by kernel_rfl) (fun _ _ _ h => h) (yieldsIf_load_mid (by rfl) 32 _ rfl bA (oA + a * 51) rfl NA _ (fun W hS => RG.out W hS.1.1.1) Try.underlying32 rfl LX.out) (by assumption) ?_
              try simp only [Act.put, List.setIfInBounds_toArray, List.set_cons_zero, List.set_cons_succ]
              refine wpAnyH_take (i := 8) (oi := Oper.mk (some 45) _ _ _ _ _) (v := .pointer (some ⟨wd.heap.size, 4, none⟩)) rfl (by kernel_rfl) (by kernel_rfl) (by kernel_rfl) (fun _ _ _ h => h) (Or.inl ⟨by rfl, ?_⟩) (by assumption) ?_
              · intro w hSw
                obtain ⟨⟨⟨hs0, hs1⟩, hs2⟩, s0, s1, s2⟩ := hSw
                clear hs0 hs1 hs2
                go_simp
              try simp only [Act.put, List.setIfInBounds_toArray, List.set_cons_zero, List.set_cons_succ]
              refine wpAnyH_ready (rs := [9]) (by kernel_rfl) (by simp) ?_
              refine AllReadyH.cons (o := Oper.mk none _ _ _ _ _) rfl (fun K hK => ?_) ?_
              · refine step_store_node (by rfl) _ _ (by rfl) wd.heap.size L4 LN.out (by rfl) NA (by rfl) NL.out ones.out KH.out ?_
                intro w8 hbx hbl
                have UB := Lib.hid hbx
                have F8 : Hid (Below wd.heap.size wd w8) := Lib.hid (KW.out.trans hbl)
                have K8 : Hid (Duo w.heap.size (some ⟨bA, oA, none⟩) n c y N w3.heap.size BB m d y M w w8) := Lib.hid (D.out.next F8.out)
                have H8 : Hid (Half w8 wd.heap.size L4) := Lib.hid ⟨NA, NL.out, hbx⟩
                clear hbx hbl
                refine hK.out _ _ ⟨⟨⟨K8.out, F8.out⟩, H8.out⟩, K8.out.v1.c0, K8.out.v1.c1, CK.out _ F8.out⟩ (fun hHeld => ?_)
                clear hK K
                try simp only [Act.put]
                refine wpAnyH_done (by kernel_rfl) ?_ _
                have DZ := Lib.hid K8.out
                clear D1 KB KW KH F8 K8 H8 H0 F CK UH
                go_upto_region 19 with fail
                clear D
                have D := Lib.hid DZ.out
                clear DZ
                obtain ⟨-, c0, c1, a0, a1⟩ := duo_S D.out
                go_wp2_with (refine wpList_load_change (o := ⟨some 86, _, _, _, _, _⟩) rfl _ rfl _ rfl _ UB.out UL.out.1 ?_)
                clear c0 c1 a0 a1
                refine (KA2.out _ D.out.v2.doc).mono ?_
                rintro e wt ⟨⟨B2, d2, rfl, dN, -⟩, hb⟩
                have hn2 := hb.trans ((newDoc_below wt B2 n d2 y).mono hb.size)
                have D1 := Lib.hid (D.out.next (hb.trans ((newDoc_below wt B2 n d2 y).mono hb.size)))
                have D2 := Lib.hid (D.out.next hn2)
                have NV := Lib.hid (newDoc_var (W := wt) (A := B2) (n := n) (c := d2) (x := y) (N := N) ⟨dN.1, HX.out⟩)
                clear hb hn2 dN
                unfold docV
                unfold newDoc at D1 D2 NV
                obtain ⟨-, c0, c1, a0, a1⟩ := duo_S D2.out
                obtain ⟨-, p0, p1, -, -⟩ := duo_S D1.out
                obtain ⟨-, n0, n1, -⟩ := NV.out
                go_wp2_with fail
                clear c0 c1 a0 a1 n0 n1 p0 p1
                have KS := Lib.hid (refSame5_any B2 n d2 y N (some ⟨bA, oA, none⟩) n c y N _ NV.out.doc D2.out.v1.doc)
                unfold docV at KS
                refine KS.out.mono ?_
                rintro e wq ⟨b, rfl, hbb, hb⟩
                obtain rfl : b = true := hbb.2 ⟨rfl, rfl, fun _ _ => rfl⟩
                replace D2 := Lib.hid (D2.out.next hb)
                clear hb hbb
                go_wp2_with fail
                go_ret
                exact ⟨rfl, D2.out.below⟩
              exact AllReadyH.nil
            exact AllReadyH.nil
theorem walkMutateBack (a0 : Option Addr) (len0 cap0 : Nat) (x0 : Int) (z0 : Nat → RN) (z1 : RC) (w : World) (w0 : DocIn w a0 len0 cap0 x0 z0) (w1 : z1.ok) :
    Calls Try.prog 5 #[docV a0 len0 cap0 x0, changeV z1] w fun e w' => e = .returned (.bool true) ∧ Below w.heap.size w w' :=
  back7 sty_none not_odd7 apply_any mutMay_any a0 len0 cap0 x0 z0 z1 w w0 w1
end Go.Proofs.Ytmodegkpfdlccaa
