/-
  What the document asks of kids.
-/
import Derived.Test.YtidbfkbeploagaaRef14
import Derived.Deep.CutRange
namespace Go.Proofs.Ytidbfkbeploagaa
open Go.RowKit

theorem ask_long {l : List Kd} (h : 2048 < l.length) : askedE l = 2 := by unfold askedE; rw [if_pos h]
theorem ask_bad {l : List Kd} {k : Nat} (h : k < l.length) (hb : BadK (kAt l k)) : askedE l = 2 := by
  unfold askedE
  split
  · rfl
  · rw [if_pos ⟨kAt l k, by rw [kAt_get h]; exact List.getElem_mem h, hb⟩]
theorem ask_end {l : List Kd} (hl : ¬ 2048 < l.length) (hb : ∀ j, j < l.length → ¬ BadK (kAt l j)) {far : Bool} (hf : far = true ↔ ∃ j, j < l.length ∧ ¬ FitK (kAt l j)) : askedE l = if far = true then 10 else 0 := by
  unfold askedE
  rw [if_neg hl, if_neg (by
    rintro ⟨k, hk, c⟩
    obtain ⟨i, hi, rfl⟩ := List.getElem_of_mem hk
    rw [← kAt_get hi] at c
    exact hb i hi c)]
  have e : (∃ k ∈ l, ¬ FitK k) ↔ far = true := by
    rw [hf]
    constructor
    · rintro ⟨k, hk, c⟩
      obtain ⟨i, hi, rfl⟩ := List.getElem_of_mem hk
      exact ⟨i, hi, by rw [kAt_get hi]; exact c⟩
    · rintro ⟨i, hi, c⟩
      exact ⟨kAt l i, by rw [kAt_get hi]; exact List.getElem_mem hi, c⟩
  by_cases h : far = true
  · rw [if_pos (e.2 h), if_pos h]
  · rw [if_neg (fun c => h (e.1 c)), if_neg h]
theorem fitK_iff (k : Kd) : (∀ y ∈ [k.h, k.t.1, k.t.2, k.b.1, k.b.2], Fit y) ↔ FitK k := by
  unfold FitK
  simp
/-- the numbers of kids are ints -/
def BigK (l : List Kd) : Prop := ∀ i, i < l.length → ∀ y ∈ [(kAt l i).h, (kAt l i).t.1, (kAt l i).t.2, (kAt l i).b.1, (kAt l i).b.2], -9223372036854775808 ≤ y ∧ y ≤ 9223372036854775807
set_option maxRecDepth 100000 in
set_option maxHeartbeats 4000000 in
theorem refAsked14 (l : List Kd) (v : Value) (w : World) (hv : KdIn w v l) (hn : l.length ≤ 100000) (hbig : BigK l) : Calls Try.prog 17 #[v] w fun e w' => e = .returned (.int .i64 (askedE l)) ∧ Below w.heap.size w w' := by
  have HV := Lib.hid hv
  obtain ⟨A, c, rfl, -, -, -⟩ := hv
  obtain ⟨n, en⟩ : ∃ n, l.length = n := ⟨_, rfl⟩
  have HL := Lib.hid en
  rw [en] at HV hn ⊢
  have HG := Lib.hid hbig
  clear en hbig
  obtain ⟨r, hr⟩ : ∃ r, askedE l = r := ⟨_, rfl⟩
  rw [hr]
  have HR := Lib.hid hr
  clear hr
  by_cases h0 : 2048 < n
  · have hz : (2048 : Int) < n := by omega
    have R : Hid (r = 2) := Lib.hid (by rw [← HR.out]; exact ask_long (by have := HL.out; omega))
    go_enter Try.func17, Try.ntmps17
    go_wp2_with fail
    go_ret
    exact ⟨by rw [R.out]; rfl, Below.refl _ _⟩
  · have hz : ¬ (2048 : Int) < n := by omega
    go_enter Try.func17, Try.ntmps17
    go_wp2_with fail
    go_loopg [3, 4] n (fun g1 vf vi wr => ∃ (k : Nat) (far : Bool), vi = .int .i64 k ∧ vf = .bool far ∧ k ≤ n ∧ n - k ≤ g1 ∧ Hid (Below w.heap.size w wr) ∧ Hid (∀ j, j < k → ¬ BadK (kAt l j)) ∧ Hid (far = true ↔ ∃ j, j < k ∧ ¬ FitK (kAt l j)))
    case atStart => exact ⟨0, false, rfl, rfl, by omega, by omega, Lib.hid (Below.refl _ _), Lib.hid (fun j hj => absurd hj (by omega)), Lib.hid (by simp)⟩
    case round =>
      obtain ⟨k, far, rfl, rfl, hk, hg1, HB, HN, HF⟩ := hrel
      obtain ⟨wo, hwo⟩ : ∃ wo, wo = wr := ⟨_, rfl⟩
      subst hwo
      by_cases hlt : k < n
      · have hz1 : (k : Int) < n := by omega
        have hz0 : (0 : Int) ≤ k := by omega
        have wi : IntKind.i64.wrap ((k : Int) + 1) = (k : Int) + 1 := IntWalk.i64_in _ (by omega)
        obtain ⟨b, off, c1, e, hbl, -, hk6⟩ := HV.out.get (i := k) (by have := HL.out; omega)
        injection e with e1 e2 e3
        subst e1 e3
        clear e2
        have K6 : Hid (KdAt wo b (off + k * 6) (kAt l k)) := Lib.hid ((hk6 k (by have := HL.out; omega)).keep hbl HB.out)
        have RB : Hid (BadK (kAt l k) → r = 2) := Lib.hid (fun hb => by rw [← HR.out]; exact ask_bad (by have := HL.out; omega) hb)
        have FB : Hid (∀ y ∈ [(kAt l k).h, (kAt l k).t.1, (kAt l k).t.2, (kAt l k).b.1, (kAt l k).b.2], -9223372036854775808 ≤ y ∧ y ≤ 9223372036854775807) := Lib.hid (HG.out k (by have := HL.out; omega))
        have NX : Hid (¬ BadK (kAt l k) → ∀ j, j < k + 1 → ¬ BadK (kAt l j)) := Lib.hid (fun hb j hj => by
          rcases Nat.lt_or_ge j k with h | h
          · exact HN.out j h
          · obtain rfl : j = k := by omega
            exact hb)
        have FX : Hid (∀ f : Bool, (f = true ↔ far = true ∨ ¬ FitK (kAt l k)) → (f = true ↔ ∃ j, j < k + 1 ∧ ¬ FitK (kAt l j))) := Lib.hid (fun f hf => by
          rw [hf, HF.out]
          constructor
          · rintro (⟨j, hj, h⟩ | h)
            · exact ⟨j, by omega, h⟩
            · exact ⟨k, by omega, h⟩
          · rintro ⟨j, hj, h⟩
            rcases Nat.lt_or_ge j k with h' | h'
            · exact .inl ⟨j, h', h⟩
            · obtain rfl : j = k := by omega
              exact .inr h)
        clear hbl hk6 HN HF
        generalize kAt l k = x at K6 RB FB NX FX
        have FK := Lib.hid (fitK_iff x)
        obtain ⟨⟨tu, td⟩, ⟨bu, bd⟩, hh, thr⟩ := x
        unfold KdAt at K6
        dsimp only at K6 FB FK
        obtain ⟨a0, a1, a2, a3, a4, a5⟩ := K6.out
        go_upto_region 8 with fail
        clear a0 a1 a2 a3 a4 a5 K6
        have B5 : Hid (Below w.heap.size w (wo.alloc (.cells #[.int .i64 tu, .int .i64 td, .int .i64 bu, .int .i64 bd, .int .i64 hh, .bool thr] 35))) := Lib.hid (HB.out.alloc HB.out.size _)
        have K5 : Hid ((wo.alloc (.cells #[.int .i64 tu, .int .i64 td, .int .i64 bu, .int .i64 bd, .int .i64 hh, .bool thr] 35)).heap[wo.heap.size]? = some (.cells #[.int .i64 tu, .int .i64 td, .int .i64 bu, .int .i64 bd, .int .i64 hh, .bool thr] 35)) := Lib.hid (heap_alloc_new wo _)
        generalize wo.alloc (.cells #[.int .i64 tu, .int .i64 td, .int .i64 bu, .int .i64 bd, .int .i64 hh, .bool thr] 35) = w5 at B5 K5 ⊢
        generalize wo.heap.size = g at K5 ⊢
        have a0 : w5.cell? ⟨g, 0, none⟩ = some (.int .i64 tu) := by simp [World.cell?, K5.out]
        have a1 : w5.cell? ⟨g, 1, none⟩ = some (.int .i64 td) := by simp [World.cell?, K5.out]
        have a2 : w5.cell? ⟨g, 2, none⟩ = some (.int .i64 bu) := by simp [World.cell?, K5.out]
        have a3 : w5.cell? ⟨g, 3, none⟩ = some (.int .i64 bd) := by simp [World.cell?, K5.out]
        have a4 : w5.cell? ⟨g, 4, none⟩ = some (.int .i64 hh) := by simp [World.cell?, K5.out]
        have a5 : w5.cell? ⟨g, 5, none⟩ = some (.bool thr) := by simp [World.cell?, K5.out]
        clear K5
        obtain ⟨bad, hbad⟩ : ∃ b, decide (BadK ⟨(tu, td), (bu, bd), hh, thr⟩) = b := ⟨_, rfl⟩
        have BD := Lib.hid hbad
        unfold BadK at BD
        dsimp only at BD
        have BB := Lib.hid hbad
        clear hbad
        go_cut [54] from 9 to 74 (fun v wx => v = .bool bad ∧ wx = w5)
        case first =>
          by_cases h1 : hh < 0
          · have d1 : decide (hh < 0) = true := decide_eq_true h1
            have E0 : Hid (bad = true) := Lib.hid (by rw [← BD.out]; exact decide_eq_true (.inl h1))
            clear h1
            go_wp2_with fail
            go_meet
            exact ⟨by rw [E0.out], rfl⟩
          · have d1 : decide (hh < 0) = false := decide_eq_false h1
            by_cases h2 : thr = true ∧ hh ≠ 0
            · obtain ⟨rfl, h2⟩ := h2
              have d2 : (hh != 0) = true := by simp [h2]
              have E0 : Hid (bad = true) := Lib.hid (by rw [← BD.out]; exact decide_eq_true (.inr (.inl ⟨rfl, h2⟩)))
              clear h1 h2
              go_wp2_with fail
              go_meet
              exact ⟨by rw [E0.out], rfl⟩
            · have E2 : Hid (thr = false ∨ (hh != 0) = false) := Lib.hid (by
                cases thr with
                | false => exact .inl rfl
                | true =>
                  refine .inr ?_
                  have : hh = 0 := by
                    by_cases e : hh = 0
                    · exact e
                    · exact absurd ⟨rfl, e⟩ h2
                  simp [this])
              by_cases h3 : tu < 0
              · have d3 : decide (tu < 0) = true := decide_eq_true h3
                have E0 : Hid (bad = true) := Lib.hid (by rw [← BD.out]; exact decide_eq_true (.inr (.inr (.inl h3))))
                clear h1 h2 h3
                rcases E2.out with rfl | e2
                · go_wp2_with fail
                  go_meet
                  exact ⟨by rw [E0.out], rfl⟩
                · cases thr
                  all_goals
                    go_wp2_with fail
                    go_meet
                    exact ⟨by rw [E0.out], rfl⟩
              · have d3 : decide (tu < 0) = false := decide_eq_false h3
                by_cases h4 : 0 < td
                · have d4 : decide (0 < td) = true := decide_eq_true h4
                  have E0 : Hid (bad = true) := Lib.hid (by rw [← BD.out]; exact decide_eq_true (.inr (.inr (.inr (.inl h4)))))
                  clear h1 h2 h3 h4
                  rcases E2.out with rfl | e2
                  · go_wp2_with fail
                    go_meet
                    exact ⟨by rw [E0.out], rfl⟩
                  · cases thr
                    all_goals
                      go_wp2_with fail
                      go_meet
                      exact ⟨by rw [E0.out], rfl⟩
                · have d4 : decide (0 < td) = false := decide_eq_false h4
                  by_cases h5 : bu < 0
                  · have d5 : decide (bu < 0) = true := decide_eq_true h5
                    have E0 : Hid (bad = true) := Lib.hid (by rw [← BD.out]; exact decide_eq_true (.inr (.inr (.inr (.inr (.inl h5))))))
                    clear h1 h2 h3 h4 h5
                    rcases E2.out with rfl | e2
                    · go_wp2_with fail
                      go_meet
                      exact ⟨by rw [E0.out], rfl⟩
                    · cases thr
                      all_goals
                        go_wp2_with fail
                        go_meet
                        exact ⟨by rw [E0.out], rfl⟩
                  · have d5 : decide (bu < 0) = false := decide_eq_false h5
                    have E0 : Hid (bad = decide (0 < bd)) := Lib.hid (by
                      rw [← BD.out]
                      refine decide_eq_decide.2 ⟨fun h => ?_, fun h => .inr (.inr (.inr (.inr (.inr h))))⟩
                      rcases h with h | h | h | h | h | h
                      · exact absurd h h1
                      · exact absurd h h2
                      · exact absurd h h3
                      · exact absurd h h4
                      · exact absurd h h5
                      · exact h)
                    clear h1 h2 h3 h4 h5
                    rcases E2.out with rfl | e2
                    · go_wp2_with fail
                      go_meet
                      exact ⟨by rw [E0.out], rfl⟩
                    · cases thr
                      all_goals
                        go_wp2_with fail
                        go_meet
                        exact ⟨by rw [E0.out], rfl⟩
        case rest =>
          obtain ⟨rfl, hw⟩ := hcut
          obtain rfl := hw.symm
          clear hw BD
          cases bad with
          | true =>
            have R : Hid (r = 2) := Lib.hid (RB.out (of_decide_eq_true BB.out))
            clear BB RB FX NX FB FK
            go_wp2_with fail
            go_ret
            exact ⟨by rw [R.out]; rfl, B5.out⟩
          | false =>
            have NX := Lib.hid (NX.out (of_decide_eq_false BB.out))
            obtain ⟨f5, hf5⟩ : ∃ b, decide (∀ y ∈ [hh, tu, td, bu, bd], Fit y) = b := ⟨_, rfl⟩
            have I5 := Lib.hid (pk_new w5 3 [hh, tu, td, bu, bd] FB.out)
            have K5 := Lib.hid (all_any _ _ 5 _ _ I5.out (by simp) f5 ((pk_all [hh, tu, td, bu, bd]).trans hf5))
            have C5 : Hid (Below w.heap.size w (w5.alloc (.cells #[.int .i64 hh, .int .i64 tu, .int .i64 td, .int .i64 bu, .int .i64 bd] 3))) := Lib.hid (B5.out.alloc B5.out.size _)
            have HT := Lib.hid hf5
            clear BB RB FB I5 hf5
            cases far with
            | true =>
              have FX := Lib.hid (FX.out true (by simp))
              clear K5 C5 HT
              go_wp2_with fail
              go_roundg (n - (k + 1))
              case measure => omega
              case rel => exact ⟨k + 1, true, by go_num, rfl, by omega, Nat.le_refl _, B5, NX, Lib.hid (by have h := FX.out; simpa using h)⟩
            | false =>
              have FX := Lib.hid (FX.out (!f5) (by
                have h1 := FK.out
                have h2 := HT.out
                cases f5 with
                | true => simp only [Bool.not_true, Bool.false_eq_true, false_or]; exact ⟨(fun h => by cases h), fun h => absurd (h1.1 (of_decide_eq_true h2)) h⟩
                | false => simp only [Bool.not_false, Bool.false_eq_true, false_or, true_iff]; exact fun h => of_decide_eq_false h2 (h1.2 h)))
              clear FK HT
              go_wp2_with (go_at_call 19; refine K5.out.mono ?_; rintro e6 w6 ⟨rfl, hw'⟩; have B6 : Hid (Below w.heap.size w w6) := Lib.hid (by rw [← hw']; exact C5.out); clear hw')
              go_roundg (n - (k + 1))
              case measure => omega
              case rel => exact ⟨k + 1, !f5, by go_num, rfl, by omega, Nat.le_refl _, B6, NX, FX⟩
      · obtain rfl : k = n := by omega
        have hz1 : ¬ (k : Int) < k := by omega
        have R : Hid (r = if far = true then 10 else 0) := Lib.hid (by
          rw [← HR.out]
          have hl := HL.out
          exact ask_end (by omega) (fun j hj => HN.out j (by omega)) (by rw [hl]; exact HF.out))
        clear HN HF
        cases far with
        | true =>
          go_wp2_with fail
          go_ret
          exact ⟨by rw [R.out]; rfl, HB.out⟩
        | false =>
          go_wp2_with fail
          go_ret
          exact ⟨by rw [R.out]; rfl, HB.out⟩
end Go.Proofs.Ytidbfkbeploagaa
