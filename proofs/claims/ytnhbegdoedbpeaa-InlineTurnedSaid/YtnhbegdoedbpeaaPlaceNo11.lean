/-
  The landed Place answers as is asked.
-/
import Derived.Test.YtnhbegdoedbpeaaPlaces11
import Derived.Test.YtnhbegdoedbpeaaRefSame11
import Derived.Deep.Cut
namespace Go.Proofs.Ytnhbegdoedbpeaa
open Go.RowKit Go.Shelf

theorem fit_not_far {x : Int} : Fit x ↔ ¬ Far x := ⟨fun h f => f h, fun h => Classical.not_not.1 h⟩
/-- what is told where nothing is wrong with what is handed in -/
theorem place_told {l : List Sp} {u d x : Int} {g : Nat} (ok : Ok11 l u d x g) :
    (¬ (Fit (heightT l u d) ∧ ∀ y ∈ placesT l u d x g l.length, Fit y.1 ∧ Fit y.2) → placeA l u d x g = ([], 0, 0, 10)) ∧
    (Fit (heightT l u d) ∧ (∀ y ∈ placesT l u d x g l.length, Fit y.1 ∧ Fit y.2) → placeA l u d x g = (placesT l u d x g l.length, heightT l u d, baseT l u, 0)) := by
  have h0 := asked_zero.2 ok
  have hb : ¬ Far (baseT l u) := by
    have := upS_in ok.u ok.up _ (Nat.le_refl _)
    unfold Far baseT
    omega
  have key : (Fit (heightT l u d) ∧ ∀ y ∈ placesT l u d x g l.length, Fit y.1 ∧ Fit y.2) ↔ ¬ ((Far (heightT l u d) ∨ Far (baseT l u)) ∨ ∃ i, i < l.length ∧ (Far (placeT l u d x g i).1 ∨ Far (placeT l u d x g i).2)) := by
    constructor
    · rintro ⟨h1, h2⟩ ((h | h) | ⟨i, hi, h⟩)
      · exact fit_not_far.1 h1 h
      · exact hb h
      · have h3 := h2 _ (List.mem_of_getElem? (placesT_get l u d x g l.length hi))
        rcases h with h | h
        · exact fit_not_far.1 h3.1 h
        · exact fit_not_far.1 h3.2 h
    · intro h
      refine ⟨fit_not_far.2 (fun f => h (.inl (.inl f))), fun y hy => ?_⟩
      obtain ⟨i, hi⟩ := List.getElem?_of_mem hy
      have hl := (List.getElem?_eq_some_iff.1 hi).1
      rw [placesT_len] at hl
      rw [placesT_get l u d x g l.length hl] at hi
      cases hi
      exact ⟨fit_not_far.2 (fun f => h (.inr ⟨i, hl, .inl f⟩)), fit_not_far.2 (fun f => h (.inr ⟨i, hl, .inr f⟩))⟩
  constructor
  · intro h
    unfold placeA
    rw [if_neg (fun c => c h0), if_pos (Classical.byContradiction fun c => h (key.2 c))]
  · intro h
    unfold placeA
    rw [if_neg (fun c => c h0), if_neg (key.1 h)]
theorem lead_is (l : List Sp) (x : Int) (g : Nat) : (if g = 0 then 0 else if g = 2 then (if x - sumS l l.length < 0 then 0 else x - sumS l l.length) / 2 else (if x - sumS l l.length < 0 then 0 else x - sumS l l.length)) = leadT l x g := rfl
theorem ok11_some {l : List Sp} {u d x : Int} {g : Nat} (h1 : ¬ 2048 < l.length) (h2 : ∀ i, i < l.length → sa l i ≤ 2) (h3 : ¬ 2 < g) (h4 : ∀ i, i < l.length → Fit (sw l i) ∧ Fit (su l i) ∧ Fit (sd l i)) (h5 : Fit u ∧ Fit d ∧ Fit x) : Ok11 l u d x g :=
  ⟨by omega, by omega, h5.1, h5.2.1, h5.2.2, h2, fun i hi => (h4 i hi).1, fun i hi => (h4 i hi).2.1, fun i hi => (h4 i hi).2.2⟩

set_option maxRecDepth 100000 in
set_option maxHeartbeats 4000000 in
/-- spots, a line, that are refused -/
theorem place_no (l : List Sp) (v : Value) (u d x : Int) (g : Nat) (w : World) (hv : SpIn w v l) (hn : l.length ≤ 1000000) (h : ¬ Ok11 l u d x g) :
    Calls Try.prog 9 #[v, .int .i64 u, .int .i64 d, .int .i64 x, .int .u8 (g : Nat)] w (PlaceEnd l u d x g w) := by
  have HV := Lib.hid hv
  obtain ⟨r, hr⟩ : ∃ r, askedA l u d x g = r := ⟨_, rfl⟩
  have h0 : r ≠ 0 := fun e => h (asked_zero.1 (hr.trans e))
  have NO : Hid (∀ (r' : Nat) w', r' = r → Below w.heap.size w w' → PlaceEnd l u d x g w (.returned (.tuple #[.slice none 0 0, .int .i64 0, .int .i64 0, .int .i64 (r' : Nat)])) w') := Lib.hid (fun r' w' e hb => by
    subst e
    have e : placeA l u d x g = ([], 0, 0, r') := by unfold placeA; rw [if_pos (by rw [hr]; exact h0), hr]
    exact ⟨_, by rw [e], by rw [e]; exact ownsP.nil _ _, hb⟩)
  have HR := Lib.hid hr
  have KA := Lib.hid (fun r hr => aligns_any l v w hv hn r hr)
  have KL := Lib.hid (fun w' (hv' : SpIn w' v l) r hr => lengths_any l v w' hv' hn r hr)
  obtain ⟨A, c, rfl, -, -⟩ := hv
  obtain ⟨n, en⟩ : ∃ n, l.length = n := ⟨_, rfl⟩
  have HN := Lib.hid en
  rw [en] at hn HV KA KL ⊢
  have B0 := Lib.hid (Below.refl w.heap.size w)
  have HH := Lib.hid h
  clear hr en h
  by_cases h1 : 2048 < n
  · have R : Hid (2 = r) := Lib.hid (by rw [← HR.out]; unfold askedA; rw [if_pos (by rw [HN.out]; exact .inl h1)])
    have hz : (2048 : Int) < n := by omega
    clear h1
    go_enter Try.func9, Try.ntmps9
    go_wp2_with fail
    ((try simp only [Exit.inBlock, Exit.then]); refine bodyPost_ret (results_tmp4 rfl _ _ _) rfl ?_)
    exact NO.out 2 _ R.out B0.out
  · have hz : ¬ (2048 : Int) < n := by omega
    by_cases h2 : ∀ i, i < n → sa l i ≤ 2
    · have K2 := Lib.hid (KA.out true (decide_eq_true h2))
      have H2 := Lib.hid h2
      clear KA h2
      by_cases h3 : 2 < g
      · have R : Hid (2 = r) := Lib.hid (by rw [← HR.out]; unfold askedA; rw [if_pos (.inr h3)])
        have hz3 : (2 : Int) < (g : Nat) := by omega
        generalize ((g : Nat) : Int) = y at hz3 ⊢
        clear h1 h3
        go_enter Try.func9, Try.ntmps9
        go_wp2_with (go_at_call 16; (with_reducible refine K2.out.mono ?_); rintro e w1 ⟨rfl, hb⟩; have B1 := Lib.hid hb; clear hb)
        ((try simp only [Exit.inBlock, Exit.then]); refine bodyPost_ret (results_tmp4 rfl _ _ _) rfl ?_)
        exact NO.out 2 _ R.out B1.out
      · have hz3 : ¬ (2 : Int) < (g : Nat) := by omega
        have R : Hid (10 = r) := Lib.hid (by
          have e : askedA l u d x g = 2 ∨ askedA l u d x g = 10 ∨ askedA l u d x g = 0 := by
            unfold askedA
            repeat' split
            all_goals simp
          rw [HR.out] at e
          have e2 : r ≠ 2 := fun e => by
            have h4 := HR.out
            rw [e] at h4
            unfold askedA at h4
            rw [if_neg (by rw [HN.out]; omega), if_neg (by rintro ⟨i, hi, h⟩; have := H2.out i (by have := HN.out; omega); omega)] at h4
            split at h4 <;> cases h4
          omega)
        generalize hgy : ((g : Nat) : Int) = y at hz3 ⊢
        clear hgy
        by_cases h4 : ∀ i, i < n → Fit (sw l i) ∧ Fit (su l i) ∧ Fit (sd l i)
        · have K4 := Lib.hid (fun w' hv' => KL.out w' hv' true (decide_eq_true h4))
          have h5 : ¬ (Fit u ∧ Fit d ∧ Fit x) := fun h5 => HH.out (ok11_some (by rw [HN.out]; exact h1) (by rw [HN.out]; exact H2.out) (by assumption) (by rw [HN.out]; exact h4) h5)
          have K5 := Lib.hid (fun b W h0 h1 h2 => fits3_any b u d x W h0 h1 h2 false (decide_eq_false h5))
          clear KL h4 h5 h1
          go_enter Try.func9, Try.ntmps9
          go_wp2_with (first
            | (go_at_call 16; (with_reducible refine K2.out.mono ?_); rintro e w1 ⟨rfl, hb⟩; have B1 := Lib.hid hb; clear hb)
            | (go_at_call 17; (with_reducible refine (K4.out _ (HV.out.keep B1.out)).mono ?_); rintro e w2 ⟨rfl, hb⟩; have B2 : Hid (Below w.heap.size w w2) := Lib.hid (B1.out.trans (hb.mono B1.out.size)); clear hb)
            | (go_at_call 18; refine (K5.out _ _ (by simp) (by simp) (by simp)).mono ?_; rintro e w' ⟨rfl, rfl⟩))
          ((try simp only [Exit.inBlock, Exit.then]); refine bodyPost_ret (results_tmp4 rfl _ _ _) rfl ?_)
          exact NO.out 10 _ R.out (B2.out.alloc B2.out.size _)
        · have K4 := Lib.hid (fun w' hv' => KL.out w' hv' false (decide_eq_false h4))
          clear KL h4 h1
          go_enter Try.func9, Try.ntmps9
          go_wp2_with (first
            | (go_at_call 16; (with_reducible refine K2.out.mono ?_); rintro e w1 ⟨rfl, hb⟩; have B1 := Lib.hid hb; clear hb)
            | (go_at_call 17; (with_reducible refine (K4.out _ (HV.out.keep B1.out)).mono ?_); rintro e w2 ⟨rfl, hb⟩; have B2 : Hid (Below w.heap.size w w2) := Lib.hid (B1.out.trans (hb.mono B1.out.size)); clear hb))
          ((try simp only [Exit.inBlock, Exit.then]); refine bodyPost_ret (results_tmp4 rfl _ _ _) rfl ?_)
          exact NO.out 10 _ R.out B2.out
    · have R : Hid (2 = r) := Lib.hid (by
        rw [← HR.out]
        unfold askedA
        by_cases hc : 2048 < l.length ∨ 2 < g
        · rw [if_pos hc]
        · rw [if_neg hc, if_pos (by
            rw [HN.out]
            exact Classical.byContradiction fun hc' => h2 fun i hi => Nat.le_of_not_lt fun h => hc' ⟨i, hi, h⟩)])
      have K2 := Lib.hid (KA.out false (decide_eq_false h2))
      clear h1 h2 KA
      go_enter Try.func9, Try.ntmps9
      go_wp2_with (go_at_call 16; (with_reducible refine K2.out.mono ?_); rintro e w1 ⟨rfl, hb⟩; have B1 := Lib.hid hb; clear hb)
      ((try simp only [Exit.inBlock, Exit.then]); refine bodyPost_ret (results_tmp4 rfl _ _ _) rfl ?_)
      exact NO.out 2 _ R.out B1.out
end Go.Proofs.Ytnhbegdoedbpeaa
