/-
  The landed Place answers as is asked.
-/
import Derived.Test.YtnhbegdoedbpeaaPlaceNo11
namespace Go.Proofs.Ytnhbegdoedbpeaa
open Go.RowKit Go.Shelf

theorem own_base {w : World} {base base' : Nat} {T : TypeId} {k : Nat} {v : Value} {n : Nat} {cs : List Value} (h : w.ownsRow base T k v n cs) (hb : base' ≤ base) : w.ownsRow base' T k v n cs := by
  refine ⟨h.1, ?_⟩
  rcases h.2 with h | ⟨g, cap, cur, hv, hbg, rest⟩
  · exact .inl h
  · exact .inr ⟨g, cap, cur, hv, Nat.le_trans hb hbg, rest⟩
set_option maxRecDepth 100000 in
set_option maxHeartbeats 8000000 in
theorem place_yes (l : List Sp) (v : Value) (u d x : Int) (g : Nat) (w : World) (hv : SpIn w v l) (ok : Ok11 l u d x g) :
    Calls Try.prog 9 #[v, .int .i64 u, .int .i64 d, .int .i64 x, .int .u8 (g : Nat)] w (PlaceEnd l u d x g w) := by
  have HV := Lib.hid hv
  have hn := ok.len
  obtain ⟨PL, hPL⟩ : ∃ PL, placesT l u d x g l.length = PL := ⟨_, rfl⟩
  obtain ⟨H, hH⟩ : ∃ H, heightT l u d = H := ⟨_, rfl⟩
  obtain ⟨B, hB⟩ : ∃ B, baseT l u = B := ⟨_, rfl⟩
  obtain ⟨LD, hLD⟩ : ∃ LD, leadT l x g = LD := ⟨_, rfl⟩
  have PT := place_told ok
  rw [hH, hPL, hB] at PT
  have NO : Hid (¬ (Fit H ∧ ∀ y ∈ PL, Fit y.1 ∧ Fit y.2) → ∀ w', Below w.heap.size w w' → PlaceEnd l u d x g w (.returned (.tuple #[.slice none 0 0, .int .i64 0, .int .i64 0, .int .i64 10])) w') := Lib.hid (fun h w' hb => by
    have R := PT.1 h
    exact ⟨_, by rw [R]; rfl, by rw [R]; exact ownsP.nil _ _, hb⟩)
  have YES : Hid (Fit H ∧ (∀ y ∈ PL, Fit y.1 ∧ Fit y.2) → ∀ w' u', ownsP w' w.heap.size u' PL → Below w.heap.size w w' → PlaceEnd l u d x g w (.returned (.tuple #[u', .int .i64 H, .int .i64 B, .int .i64 0])) w') := Lib.hid (fun h w' u' ho hb => by
    have R := PT.2 h
    exact ⟨_, by rw [R]; rfl, by rw [R]; exact ho, hb⟩)
  have hal : ∀ i, i < l.length → sa l i ≤ 2 := ok.al
  have KA := Lib.hid (aligns_any l v w hv (by omega) true (decide_eq_true hal))
  have KL := Lib.hid (fun w' (hv' : SpIn w' v l) => lengths_any l v w' hv' (by omega) true (decide_eq_true (fun i hi => ⟨ok.w i hi, ok.up i hi, ok.dn i hi⟩)))
  have KF := Lib.hid (fun b W h0 h1 h2 => fits3_any b u d x W h0 h1 h2 true (decide_eq_true ⟨ok.u, ok.d, ok.width⟩))
  have KO := Lib.hid (fun w' (hv' : SpIn w' v l) => lineOf_any l v u d x g ok w' hv')
  have KW := Lib.hid (fun w' (hv' : SpIn w' v l) => widthOf_any l v w' hv' hn ok.w)
  have hsb := sumS_bound ok.w l.length (Nat.le_refl _)
  have hx := ok.width
  have KD := Lib.hid (fun W => lead_any (x - sumS l l.length) g W (by omega) ok.lines)
  have ws : IntKind.i64.wrap (x - sumS l l.length) = x - sumS l l.length := IntWalk.i64_in _ (by omega)
  have KP : Hid (∀ W, SpIn W v l → Calls Try.prog 20 #[.agg #[.int .i64 H, .int .i64 B], v, .int .i64 LD] W fun e w' => ∃ u', e = .returned u' ∧ ownsP w' W.heap.size u' PL ∧ Below W.heap.size W w') := Lib.hid (fun W hW => by
    have h1 := upS_in ok.u ok.up _ (Nat.le_refl _)
    have h2 := dnS_in ok.d ok.dn _ (Nat.le_refl _)
    have h3 := hS_in (lo := -1099511627776) (hi := 1099511627776) (u := upS l u l.length + dnS l d l.length) (by omega) ok.up ok.dn _ (Nat.le_refl _)
    refine (places_any l v H B LD W hW hn ok.al ok.w ok.up ok.dn (by rw [← hH]; exact h3) (by rw [← hB]; exact h1) (by rw [← hLD]; exact lead_bound ok)).mono ?_
    rintro e w' ⟨u', m, rfl, hm, hj, ho, hb⟩
    have e : m = PL := by
      rw [← hPL]
      apply List.ext_getElem?
      intro j
      by_cases hj' : j < l.length
      · rw [hj j hj', placesT_get l u d x g l.length hj']
        unfold placeT xT
        rw [hLD, hH, hB]
      · rw [List.getElem?_eq_none (by omega), List.getElem?_eq_none (by rw [placesT_len]; omega)]
    rw [e] at ho
    exact ⟨u', rfl, ho, hb⟩)
  rw [hH, hB] at KO
  rw [lead_is, hLD] at KD
  obtain ⟨p, hp⟩ : ∃ p, decide (∀ y ∈ PL, Fit y.1 ∧ Fit y.2) = p := ⟨_, rfl⟩
  obtain ⟨q, hq⟩ : ∃ q, decide (Fit H) = q := ⟨_, rfl⟩
  have PLN : Hid (PL.length ≤ 1000000) := Lib.hid (by rw [← hPL, placesT_len]; omega)
  have KS := Lib.hid (fun u' W h => arePlaces_any PL u' W h PLN.out p hp)
  have KG := Lib.hid (fun b W h0 => fits1_any b H W h0 q hq)
  have HP := Lib.hid hp
  have HQ := Lib.hid hq
  obtain ⟨A, c, rfl, -, -⟩ := hv
  obtain ⟨n, en⟩ : ∃ n, l.length = n := ⟨_, rfl⟩
  rw [en] at hn HV KA KL KO KW KP KD ws ⊢
  have hz : ¬ (2048 : Int) < n := by omega
  have hz3 : ¬ (2 : Int) < (g : Nat) := by have := ok.lines; omega
  generalize hs : sumS l n = S at KW KD ws
  obtain ⟨X, hX⟩ : ∃ X, x - S = X := ⟨_, rfl⟩
  replace ws := ws.trans hX
  rw [hX] at KD
  clear hX
  generalize hgy : ((g : Nat) : Int) = y at hz3 KD ⊢
  clear hgy hs hal hsb hx hPL hH hB hLD PT hp hq ok en
  go_enter Try.func9, Try.ntmps9
  go_upto_region 6 with (first
    | (go_at_call 16; (with_reducible refine KA.out.mono ?_); rintro e w1 ⟨rfl, hb⟩; have B1 := Lib.hid hb; clear hb)
    | (go_at_call 17; (with_reducible refine (KL.out _ (HV.out.keep B1.out)).mono ?_); rintro e w2 ⟨rfl, hb⟩; have B2 : Hid (Below w.heap.size w w2) := Lib.hid (B1.out.trans (hb.mono B1.out.size)); clear hb)
    | (go_at_call 18; refine (KF.out _ _ (by simp) (by simp) (by simp)).mono ?_; rintro e w3 ⟨rfl, hw3⟩; have B3 : Hid (Below w.heap.size w w3) := Lib.hid (by rw [← hw3]; exact B2.out.alloc B2.out.size _); clear hw3)
    | (go_at_call 19; (with_reducible refine (KO.out _ (HV.out.keep B3.out)).mono ?_); rintro e w4 ⟨rfl, hb⟩; have B4 : Hid (Below w.heap.size w w4) := Lib.hid (B3.out.trans (hb.mono B3.out.size)); clear hb))
  have X5 := Lib.hid (heap_alloc_new w4 (.cells #[.int .i64 H, .int .i64 B] 47))
  have B5 := Lib.hid (B4.out.alloc B4.out.size (.cells #[.int .i64 H, .int .i64 B] 47))
  generalize w4.alloc (.cells #[.int .i64 H, .int .i64 B] 47) = w5 at X5 B5 ⊢
  have BX := B4.out.size
  generalize w4.heap.size = t at X5 BX ⊢
  have LT : Hid (t < w5.heap.size) := Lib.hid (Array.getElem?_eq_some_iff.1 X5.out).1
  have SC : Hid (∀ W', Below w5.heap.size w5 W' → W'.cell? ⟨t, 0, none⟩ = some (.int .i64 H) ∧ W'.cell? ⟨t, 1, none⟩ = some (.int .i64 B)) := Lib.hid (fun W' hb => by
    have h0 := (hb.block t LT.out).trans X5.out
    exact ⟨by simp [World.cell?, h0], by simp [World.cell?, h0]⟩)
  have C5 := Lib.hid (SC.out _ (Below.refl _ _))
  have BD : Hid (Below w5.heap.size w5 w5.drew) := Lib.hid (Below.refl _ w5).drew
  have V5 := Lib.hid (fun W' (hb : Below w5.heap.size w5 W') => HV.out.keep (B5.out.trans (hb.mono B5.out.size)))
  clear KA KL KF KO B1 B2 B3 B4 X5
  go_region_held3 (fun W' => W'.cell? ⟨t, 0, none⟩ = some (.int .i64 H) ∧ W'.cell? ⟨t, 1, none⟩ = some (.int .i64 B))
    (first | exact C5.out | exact C6.out | exact C8.out)
    (first
    | (go_at_call 22; (with_reducible refine (KW.out _ (V5.out _ BD.out)).mono ?_); rintro e w6 ⟨rfl, hb⟩; have B6 : Hid (Below w5.heap.size w5 w6) := Lib.hid (BD.out.trans hb); have C6 := Lib.hid (SC.out _ B6.out); clear hb)
    | (go_at_call 21; (with_reducible refine (KD.out _).mono ?_); rintro e w7 ⟨rfl, rfl⟩)
    | (go_at_call 20; (with_reducible refine (KP.out _ (V5.out _ B6.out)).mono ?_); rintro e w8 ⟨u', rfl, ho, hb⟩; have B8 : Hid (Below w5.heap.size w5 w8) := Lib.hid (B6.out.trans (hb.mono B6.out.size)); have C8 := Lib.hid (SC.out _ B8.out); have O8 : Hid (ownsP w8 w6.heap.size u' PL) := Lib.hid ho; clear ho hb))
  rename_i hS
  clear hS
  have O9 : Hid (ownsP w8 w.heap.size u' PL) := Lib.hid (own_base O8.out (by have := B6.out.size; have := B5.out.size; omega))
  have B9 : Hid (Below w.heap.size w w8) := Lib.hid (B5.out.trans (B8.out.mono B5.out.size))
  obtain ⟨s0, s1⟩ := C8.out
  have L8 : Hid (t < w8.heap.size) := Lib.hid (by have := B8.out.size; have := LT.out; omega)
  have SE : Hid (∀ W', Below w8.heap.size w8 W' → W'.cell? ⟨t, 0, none⟩ = some (.int .i64 H) ∧ W'.cell? ⟨t, 1, none⟩ = some (.int .i64 B)) := Lib.hid (fun W' hb => SC.out W' (B8.out.trans (hb.mono B8.out.size)))
  clear C5 C6 C8 BD V5 KW KD KP SC O8 B6 B8 B5 LT
  cases p with
  | false =>
    go_wp2_with (go_at_call 23; (with_reducible refine (KS.out _ _ O9.out.pss).mono ?_); rintro e w9 ⟨rfl, hb⟩; have BE : Hid (Below w.heap.size w w9) := Lib.hid (B9.out.trans (hb.mono B9.out.size)); clear hb)
    ((try simp only [Exit.inBlock, Exit.then]); refine bodyPost_ret (results_tmp4 rfl _ _ _) rfl ?_)
    exact NO.out (fun h => of_decide_eq_false HP.out h.2) _ BE.out
  | true =>
    cases q with
    | false =>
      go_wp2_with (first
        | (go_at_call 23; (with_reducible refine (KS.out _ _ O9.out.pss).mono ?_); rintro e w9 ⟨rfl, hb⟩; have BE : Hid (Below w.heap.size w w9) := Lib.hid (B9.out.trans (hb.mono B9.out.size)); obtain ⟨t0, t1⟩ := SE.out _ hb; clear hb)
        | (go_at_call 18; refine (KG.out _ _ (by simp)).mono ?_; rintro e w3 ⟨rfl, hw3⟩; have BF : Hid (Below w.heap.size w w3) := Lib.hid (by rw [← hw3]; exact BE.out.alloc BE.out.size _); clear hw3))
      ((try simp only [Exit.inBlock, Exit.then]); refine bodyPost_ret (results_tmp4 rfl _ _ _) rfl ?_)
      exact NO.out (fun h => of_decide_eq_false HQ.out h.1) _ BF.out
    | true =>
      go_wp2_with (first
        | (go_at_call 23; (with_reducible refine (KS.out _ _ O9.out.pss).mono ?_); rintro e w9 ⟨rfl, hb⟩; have BE : Hid (Below w8.heap.size w8 w9) := Lib.hid hb; obtain ⟨t0, t1⟩ := SE.out _ hb; clear hb)
        | (go_at_call 18; refine (KG.out _ _ (by simp)).mono ?_; rintro e w3 ⟨rfl, hw3⟩; have BF : Hid (Below w8.heap.size w8 w3) := Lib.hid (by rw [← hw3]; exact BE.out.alloc BE.out.size _); obtain ⟨t2, t3⟩ := SE.out _ BF.out; clear hw3))
      go_quiet (fail)
      go_wp2_with fail
      ((try simp only [Exit.inBlock, Exit.then]); refine bodyPost_ret (results_tmp4 rfl _ _ _) rfl ?_)
      have BG := BF.out.trans (drewN_below w3 nq _)
      exact YES.out ⟨of_decide_eq_true HQ.out, of_decide_eq_true HP.out⟩ _ _ (O9.out.keep BG) (B9.out.trans (BG.mono B9.out.size))
theorem place_ok : PlaceOK 9 := by
  intro l v u d x g w hv hn hg
  by_cases ok : Ok11 l u d x g
  · exact place_yes l v u d x g w hv ok
  · exact place_no l v u d x g w hv hn ok
end Go.Proofs.Ytnhbegdoedbpeaa
