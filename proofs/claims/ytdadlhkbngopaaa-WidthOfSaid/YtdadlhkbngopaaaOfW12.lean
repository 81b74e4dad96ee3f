/-
  The law WidthOf: of any Of and Solve that answer as is asked.
-/
import Derived.Test.YtdadlhkbngopaaaOfMath12
import Derived.Test.YtdadlhkbngopaaaBlocks
import Derived.Test.YtdadlhkbngopaaaStyleArg
import Derived.Deep.Cut
namespace Go.Proofs.Ytdadlhkbngopaaa
open Go.RowKit

theorem one_bool12 (b : Bool) : ∀ v ∈ (Value.bool b).cells.toList, v.oneCell' = true := fun v hv => by simp [Value.cells] at hv; subst hv; rfl
theorem one_agg12 (k j : IntKind) (n m : Int) : ∀ v ∈ (Value.agg #[.int k n, .int j m]).cells.toList, v.oneCell' = true := fun v hv => by simp [Value.cells] at hv; rcases hv with rfl | rfl <;> rfl
theorem one_four12 : ∀ v ∈ (Value.agg #[.int .u8 0, .int .i64 0, .int .u8 0, .int .i64 0, .int .u8 0, .int .i64 0, .int .u8 0, .int .i64 0]).cells.toList, v.oneCell' = true := fun v hv => by
  exact List.all_eq_true.1 (show List.all (Value.agg #[.int .u8 0, .int .i64 0, .int .u8 0, .int .i64 0, .int .u8 0, .int .i64 0, .int .u8 0, .int .i64 0]).cells.toList (·.oneCell') = true from rfl) v hv
set_option maxRecDepth 100000 in
set_option maxHeartbeats 8000000 in
theorem of12 (hO : OfOK 10) (hS : SolveOK 12) (hA : AwakeOK12 16) (s : RS) (x : Int) (w : World) (hs : s.ok) (hx : Big x) :
    Calls Try.prog 9 #[styleV s, .int .i64 x] w fun e w' => e = .returned (.bool true) ∧ Below w.heap.size w w' := by
  have BL0 : Hid (Blocks w (w.alloc (.cells s.cells.toArray 27)) [(w.heap.size, s)]) := Lib.hid ((Blocks.nil w).grew (grew_alloc w _) s rfl)
  have SZ : Hid ((Try.prog.info? 27).map (·.size) = some s.cells.toArray.size) := Lib.hid style_size
  have KA := Lib.hid (fun W => hA W)
  have C1 := Lib.hid (fun W => hO s x W hs hx)
  have C2 := Lib.hid (fun W => hO (wid5 s) x W (wid_ok hs) hx)
  unfold styleV
  by_cases h1 : x < 0
  · clear C1 C2 hO hS hA hs hx
    generalize s.cells.toArray = X at *
    go_enter Try.func9, Try.ntmps9
    go_wp2_with (go_at_call 16; (with_reducible refine (KA.out _).mono ?_); rintro e w1 ⟨rfl, hb⟩; have B1 := Lib.hid (BL0.out.call hb).below; clear hb)
    go_ret
    exact ⟨rfl, B1.out⟩
  · by_cases h2 : 68719476736 < x
    · clear C1 C2 hO hS hA hs hx
      generalize s.cells.toArray = X at *
      go_enter Try.func9, Try.ntmps9
      go_wp2_with (go_at_call 16; (with_reducible refine (KA.out _).mono ?_); rintro e w1 ⟨rfl, hb⟩; have B1 := Lib.hid (BL0.out.call hb).below; clear hb)
      go_ret
      exact ⟨rfl, B1.out⟩
    · have hx2 : 0 ≤ x ∧ x ≤ 68719476736 := by omega
      have d1 : decide (x < 0) = false := decide_eq_false h1
      have d2 : decide (68719476736 < x) = false := decide_eq_false h2
      cases hm : mayB s with
      | false =>
        rw [of_bad hm] at C1
        clear C2 hO hS hA hs hx hx2 h1 h2 hm
        unfold askedV zeroA at C1
        dsimp only at C1
        go_enter Try.func9, Try.ntmps9
        go_upto_region 5 with (go_at_call 16; (with_reducible refine (KA.out _).mono ?_); rintro e w1 ⟨rfl, hb⟩; have BL1 := Lib.hid (BL0.out.call hb); clear hb)
        have BX1 := Lib.hid (BL1.out.box 0 rfl)
        clear d1 d2 KA BL0
        go_wp2_with (refine wpList_load_row (o := ⟨some 26, _, _, _, _, _⟩) rfl 27 _ rfl w.heap.size rfl _ s.cells.toArray _ _ BX1.out.2 Try.underlying27 rfl SZ.out ?_)
        refine (C1.out _).mono ?_
        rintro e w2 ⟨rfl, hb⟩
        have BL2 := Lib.hid (BL1.out.call hb)
        clear hb C1 BX1 BL1
        have B2 := Lib.hid BL2.out.below
        have B3 := Lib.hid (B2.out.alloc B2.out.size (.cells #[.bool false, .int .i64 0, .int .i64 0, .int .i64 0, .int .i64 0, .int .i64 0, .bool false, .bool false, .int .i64 0] 29))
        clear BL2 B2 SZ
        go_wp2_with fail
        go_ret
        exact ⟨by first | rfl | simp, B3.out⟩
      | true =>
        obtain ⟨o1, o2⟩ := of_good hs hm hx2
        have ow := of_wide hs hm hx2
        have ac := across_bd hm
        have sv := wide_solve hx2 ac
        rw [ow] at C2
        obtain ⟨R, hR⟩ : ∃ R, ofA s x = R := ⟨_, rfl⟩
        rw [hR] at C1 o1 o2
        obtain ⟨⟨is, width, least, most, left, right, al, ar, edges⟩, er⟩ := R
        dsimp only at o1 o2 C1 C2
        subst o1
        have OKA : Hid (∀ l m r e, solveA x ⟨is, width, least, most, left, right, al, ar, edges⟩ = (l, m, r, e) → (e = 0 ∧ Good12 x ⟨is, width, least, most, left, right, al, ar, edges⟩ ∧ FitT x ⟨is, width, least, most, left, right, al, ar, edges⟩ ∧ l = leftA x ⟨is, width, least, most, left, right, al, ar, edges⟩ ∧ m = wideA x ⟨is, width, least, most, left, right, al, ar, edges⟩ ∧ r = rightA x ⟨is, width, least, most, left, right, al, ar, edges⟩) ∨ (e = 10 ∧ l = 0 ∧ m = 0 ∧ r = 0)) := Lib.hid (fun l m r e h => by
          rcases solve_told h with h3 | ⟨h3, h4⟩
          · exact .inl h3
          · refine .inr ⟨?_, h4⟩
            rcases h3 with rfl | rfl
            · exfalso
              unfold solveA at h
              rw [if_neg o2] at h
              split at h
              · cases h
              · split at h <;> cases h
            · rfl)
        have oka := of_ok12 s x
        rw [hR] at oka
        dsimp only at oka
        obtain ⟨l, m, r, e, hst⟩ : ∃ l m r e, solveA x ⟨is, width, least, most, left, right, al, ar, edges⟩ = (l, m, r, e) := ⟨_, _, _, _, rfl⟩
        have KS := Lib.hid (fun W => solve_lets hS hx oka hst W)
        have TO := Lib.hid (OKA.out _ _ _ _ hst)
        have okw : (widA x (acrossV s)).ok := by
          have h := of_ok12 (wid5 s) x
          rw [ow] at h
          exact h
        have KT := Lib.hid (fun l' m' r' e' (h : solveA x (widA x (acrossV s)) = (l', m', r', e')) W => solve_lets hS hx okw h W)
        have SV := Lib.hid sv
        have AC := Lib.hid ac
        have HX := Lib.hid hx2
        unfold askedV at C1 C2 KS KT
        unfold widA at C2 KT SV
        dsimp only at C1 C2 KS KT
        clear OKA hst oka okw o2 ow hR sv ac hO hS hA hs hx hx2 h1 h2 hm
        generalize acrossV s = ac at C2 KT SV AC
        go_enter Try.func9, Try.ntmps9
        go_upto_region 5 with (go_at_call 16; (with_reducible refine (KA.out _).mono ?_); rintro e w1 ⟨rfl, hb⟩; have BL1 := Lib.hid (BL0.out.call hb); clear hb)
        have BX1 := Lib.hid (BL1.out.box 0 rfl)
        clear d1 d2 KA BL0
        go_wp2_with (refine wpList_load_row (o := ⟨some 26, _, _, _, _, _⟩) rfl 27 _ rfl w.heap.size rfl _ s.cells.toArray _ _ BX1.out.2 Try.underlying27 rfl SZ.out ?_)
        refine (C1.out _).mono ?_
        rintro e' w2 ⟨rfl, hb⟩
        have BL2 := Lib.hid (BL1.out.call hb)
        clear hb C1 BX1 BL1
        go_upto_region 6 with fail
        have A3 := Lib.hid (AskAt.new w2 ⟨is, width, least, most, left, right, al, ar, edges⟩)
        have BL3 := Lib.hid (BL2.out.call ((Below.refl _ w2).alloc (Nat.le_refl _) (.cells #[.bool is, .int .i64 width, .int .i64 least, .int .i64 most, .int .i64 left, .int .i64 right, .bool al, .bool ar, .int .i64 edges] 29)))
        unfold RA.cells at A3
        dsimp only at A3
        generalize w2.alloc (.cells #[.bool is, .int .i64 width, .int .i64 least, .int .i64 most, .int .i64 left, .int .i64 right, .bool al, .bool ar, .int .i64 edges] 29) = w3 at A3 BL3 ⊢
        generalize w2.heap.size = g at A3 ⊢
        clear BL2
        obtain ⟨y0, y1, y2, y3, y4, y5, y6, y7, y8⟩ := AskAt.cells (a := ⟨is, width, least, most, left, right, al, ar, edges⟩) A3.out
        dsimp only at y0 y1 y2 y3 y4 y5 y6 y7 y8
        go_upto_region 9 with (go_at_call 12; (with_reducible refine (KS.out _).mono ?_); rintro e' w4 ⟨rfl, hb⟩; have BL4 := Lib.hid (BL3.out.call hb); have A4 := Lib.hid (AskAt.keep A3.out hb); clear hb)
        clear y0 y1 y2 y3 y4 y5 y6 y7 y8 KS A3 BL3
        have y8 := (AskAt.cells (a := ⟨is, width, least, most, left, right, al, ar, edges⟩) A4.out).2.2.2.2.2.2.2.2
        dsimp only at y8
        go_cut [69] from 17 (fun p wx => p = .bool false ∧ wx = w4)
        case first =>
          as_aux_lemma =>
            rcases TO.out with ⟨he, G, F, hl, hm, hr⟩ | ⟨rfl, rfl, rfl, rfl⟩
            · subst he
              obtain ⟨f0, -⟩ := eq_facts G
              have t1 := F.1
              have t2 := F.2.1
              have t3 := F.2.2
              have t4 := G.edges
              have t5 := G.x
              unfold Fit at t1 t2 t3
              dsimp only at f0 t4
              rw [← hl, ← hm, ← hr] at f0
              rw [← hl] at t1
              rw [← hm] at t2
              rw [← hr] at t3
              clear TO F G KT SV C2 hl hm hr
              have b1 : IntKind.i64.wrap (l + edges) = l + edges := IntWalk.i64_in _ (by omega)
              have b2 : IntKind.i64.wrap (l + edges + m) = l + edges + m := IntWalk.i64_in _ (by omega)
              have b3 : IntKind.i64.wrap (l + edges + m + r) = x := by rw [f0]; exact IntWalk.i64_in _ (by omega)
              clear f0 t1 t2 t3 t4 t5
              go_wp2_with fail
              go_meet
              exact ⟨by first | rfl | simp, rfl⟩
            · clear TO KT SV C2
              go_wp2_with fail
              go_meet
              exact ⟨by first | rfl | simp, rfl⟩
        case rest =>
          obtain ⟨rfl, hw⟩ := hcut
          obtain rfl := hw.symm
          clear hw TO A4 y8
          go_upto_region 12 with (first | ((with_reducible change wpList _ _ _ (Oper.mk none (Op.store 4 _ _) _ _ _ _ :: _) _ _); refine wpList_store_part rfl 4 _ _ rfl w.heap.size 1 rfl (.bool true) rfl _ (BL4.out.box 0 rfl) (by kernel_rfl) (one_bool12 _) (by rw [(style_cellsz _).1]; decide) (wid1 s).cells.toArray (by rfl) ?_; intro ws1 hs; have BS1 := Lib.hid (BL4.out.wrote hs 0 rfl (wid1 s) rfl); clear hs) | ((with_reducible change wpList _ _ _ (Oper.mk none (Op.store 23 _ _) _ _ _ _ :: _) _ _); refine wpList_store_part rfl 23 _ _ rfl w.heap.size 2 rfl (.agg #[.int .u8 2, .int .i64 10000]) rfl _ (BS1.out.box 0 rfl) (by kernel_rfl) (one_agg12 _ _ _ _) (by rw [(style_cellsz _).1]; decide) (wid2 s).cells.toArray (by rfl) ?_; intro ws2 hs; have BS2 := Lib.hid (BS1.out.wrote hs 0 rfl (wid2 s) rfl); clear hs) | ((with_reducible change wpList _ _ _ (Oper.mk none (Op.store 23 _ _) _ _ _ _ :: _) _ _); refine wpList_store_part rfl 23 _ _ rfl w.heap.size 4 rfl (.agg #[.int .u8 0, .int .i64 0]) rfl _ (BS2.out.box 0 rfl) (by kernel_rfl) (one_agg12 _ _ _ _) (by rw [(style_cellsz _).1]; decide) (wid3 s).cells.toArray (by rfl) ?_; intro ws3 hs; have BS3 := Lib.hid (BS2.out.wrote hs 0 rfl (wid3 s) rfl); clear hs) | ((with_reducible change wpList _ _ _ (Oper.mk none (Op.store 23 _ _) _ _ _ _ :: _) _ _); refine wpList_store_part rfl 23 _ _ rfl w.heap.size 6 rfl (.agg #[.int .u8 0, .int .i64 0]) rfl _ (BS3.out.box 0 rfl) (by kernel_rfl) (one_agg12 _ _ _ _) (by rw [(style_cellsz _).1]; decide) (wid4 s).cells.toArray (by rfl) ?_; intro ws4 hs; have BS4 := Lib.hid (BS3.out.wrote hs 0 rfl (wid4 s) rfl); clear hs))
          go_upto_region 13 with (first | ((with_reducible change wpList _ _ _ (Oper.mk none (Op.store 24 _ _) _ _ _ _ :: _) _ _); refine wpList_store_part rfl 24 _ _ rfl w.heap.size 14 rfl (.agg #[.int .u8 0, .int .i64 0, .int .u8 0, .int .i64 0, .int .u8 0, .int .i64 0, .int .u8 0, .int .i64 0]) rfl _ (BS4.out.box 0 rfl) (by kernel_rfl) (one_four12) (by rw [(style_cellsz _).1]; decide) (wid5 s).cells.toArray (by rfl) ?_; intro ws5 hs; have BS5 := Lib.hid (BS4.out.wrote hs 0 rfl (wid5 s) rfl); clear hs))
          have BX5 := Lib.hid (BS5.out.box 0 rfl)
          have SZ5 : Hid ((Try.prog.info? 27).map (·.size) = some (wid5 s).cells.toArray.size) := Lib.hid style_size
          clear BL4 BS1 BS2 BS3 BS4
          go_wp2_with (refine wpList_load_row (o := ⟨some 80, _, _, _, _, _⟩) rfl 27 _ rfl w.heap.size rfl _ (wid5 s).cells.toArray _ _ BX5.out.2 Try.underlying27 rfl SZ5.out ?_)
          refine (C2.out _).mono ?_
          rintro e' w6 ⟨rfl, hb⟩
          have B6 := Lib.hid (BS5.out.call hb).below
          clear hb C2 BX5 BS5 SZ SZ5
          go_upto_region 14 with fail
          obtain ⟨wd, hwd⟩ : ∃ wd, (if x < ac then 0 else x - ac) = wd := ⟨_, rfl⟩
          rw [hwd] at KT SV ⊢
          have A7 := Lib.hid (AskAt.new w6 ⟨true, wd, 0, 1099511627776, 0, 0, true, true, ac⟩)
          have B7 := Lib.hid (B6.out.alloc B6.out.size (.cells #[.bool true, .int .i64 wd, .int .i64 0, .int .i64 1099511627776, .int .i64 0, .int .i64 0, .bool true, .bool true, .int .i64 ac] 29))
          unfold RA.cells at A7
          dsimp only at A7
          generalize w6.alloc (.cells #[.bool true, .int .i64 wd, .int .i64 0, .int .i64 1099511627776, .int .i64 0, .int .i64 0, .bool true, .bool true, .int .i64 ac] 29) = w7 at A7 B7 ⊢
          generalize w6.heap.size = g7 at A7 ⊢
          clear B6 hwd
          obtain ⟨y0, y1, y2, y3, y4, y5, y6, y7, y8⟩ := AskAt.cells (a := ⟨true, wd, 0, 1099511627776, 0, 0, true, true, ac⟩) A7.out
          dsimp only at y0 y1 y2 y3 y4 y5 y6 y7 y8
          have sv := SV.out
          have h4 := AC.out
          have h5 := HX.out
          by_cases c : x < ac
          · rw [if_pos c] at sv
            have KU := Lib.hid (KT.out _ _ _ _ sv)
            have c1 : ((x - ac) == 0) = false := by simp; omega
            have c2 : decide (x ≤ ac) = true := decide_eq_true (by omega)
            clear KT SV AC HX sv h4 h5 c
            generalize x - ac = d at c1 KU
            go_wp2_with (go_at_call 12; (with_reducible refine (KU.out _).mono ?_); rintro e' w8 ⟨rfl, hb⟩; have B8 : Hid (Below w.heap.size w w8) := Lib.hid (B7.out.trans (hb.mono B7.out.size)); obtain ⟨v0, v1, v2, v3, v4, v5, v6, v7, v8⟩ := AskAt.cells (a := ⟨true, wd, 0, 1099511627776, 0, 0, true, true, ac⟩) (AskAt.keep A7.out hb); dsimp only at v0 v1 v2 v3 v4 v5 v6 v7 v8; clear hb)
            go_ret
            exact ⟨by first | rfl | simp, B8.out⟩
          · rw [if_neg c] at sv
            have KU := Lib.hid (KT.out _ _ _ _ sv)
            have b1 : IntKind.i64.wrap (x - ac + ac) = x := by rw [Int.sub_add_cancel]; exact IntWalk.i64_in _ (by omega)
            clear KT SV AC HX sv h4 h5 c
            generalize x - ac = d at b1 KU
            go_wp2_with (go_at_call 12; (with_reducible refine (KU.out _).mono ?_); rintro e' w8 ⟨rfl, hb⟩; have B8 : Hid (Below w.heap.size w w8) := Lib.hid (B7.out.trans (hb.mono B7.out.size)); obtain ⟨v0, v1, v2, v3, v4, v5, v6, v7, v8⟩ := AskAt.cells (a := ⟨true, wd, 0, 1099511627776, 0, 0, true, true, ac⟩) (AskAt.keep A7.out hb); dsimp only at v0 v1 v2 v3 v4 v5 v6 v7 v8; clear hb)
            go_ret
            exact ⟨by first | rfl | simp, B8.out⟩
end Go.Proofs.Ytdadlhkbngopaaa
