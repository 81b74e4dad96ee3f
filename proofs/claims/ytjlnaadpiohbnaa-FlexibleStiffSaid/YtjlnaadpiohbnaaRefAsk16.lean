/-
  What the document asks of boxes (flexible).
-/
import Derived.Test.YtjlnaadpiohbnaaCells16
import Derived.Test.YtjlnaadpiohbnaaLists
import Derived.Deep.Cut
import Derived.Deep.CutRange
namespace Go.Proofs.Ytjlnaadpiohbnaa
open Go.RowKit

theorem askT_args {l : List It16} {gap room : Int} (h : 2048 < l.length ∨ gap < 0 ∨ room < -1) : askT l gap room = 2 := by unfold askT; rw [if_pos h]
theorem askT_bad {l : List It16} {gap room : Int} {k : Nat} (hk : k < l.length) (hb : BadT (itA l k)) : askT l gap room = 2 := by
  unfold askT
  split
  · rfl
  · rw [if_pos ⟨itA l k, by rw [itA_get hk]; exact List.getElem_mem hk, hb⟩]
theorem askT_end {l : List It16} {gap room : Int} (h : ¬ (2048 < l.length ∨ gap < 0 ∨ room < -1)) (hb : ∀ j, j < l.length → ¬ BadT (itA l j)) {far : Bool} (hf : far = true ↔ (¬ Fit gap ∨ ¬ Fit room) ∨ ∃ j, j < l.length ∧ ¬ FitT (itA l j)) : askT l gap room = if far = true then 10 else 0 := by
  unfold askT
  rw [if_neg h, if_neg (by
    rintro ⟨x, hx, c⟩
    obtain ⟨i, hi, rfl⟩ := List.getElem_of_mem hx
    rw [← itA_get hi] at c
    exact hb i hi c)]
  have e : ((¬ Fit gap ∨ ¬ Fit room) ∨ ∃ x ∈ l, ¬ FitT x) ↔ far = true := by
    rw [hf]
    constructor
    · rintro (h | ⟨x, hx, c⟩)
      · exact .inl h
      · obtain ⟨i, hi, rfl⟩ := List.getElem_of_mem hx
        exact .inr ⟨i, hi, by rw [itA_get hi]; exact c⟩
    · rintro (h | ⟨i, hi, c⟩)
      · exact .inl h
      · exact .inr ⟨itA l i, by rw [itA_get hi]; exact List.getElem_mem hi, c⟩
  by_cases h : far = true
  · rw [if_pos (e.2 h), if_pos h]
  · rw [if_neg (fun c => h (e.1 c)), if_neg h]
theorem fitT_iff (x : It16) : (∀ y ∈ [x.base, x.least, x.most, x.outer], Fit y) ↔ FitT x := by
  unfold FitT
  simp
set_option maxRecDepth 100000 in
set_option maxHeartbeats 8000000 in
theorem refAsked16 (l : List It16) (v : Value) (gap room : Int) (w : World) (hv : TmIn w v l) (hn : l.length ≤ 80000) (hbig : ∀ i, i < l.length → ∀ y ∈ [(itA l i).base, (itA l i).least, (itA l i).most, (itA l i).grow, (itA l i).shrink, (itA l i).outer], -9223372036854775808 ≤ y ∧ y ≤ 9223372036854775807) :
    Calls Try.prog 18 #[v, .int .i64 gap, .int .i64 room] w fun e w' => e = .returned (.int .i64 (askT l gap room)) ∧ Below w.heap.size w w' := by
  have HV := Lib.hid hv
  obtain ⟨A, c, rfl, -, -, -⟩ := hv
  obtain ⟨n, en⟩ : ∃ n, l.length = n := ⟨_, rfl⟩
  have HL := Lib.hid en
  rw [en] at HV hn ⊢
  have HG := Lib.hid hbig
  clear en hbig
  obtain ⟨r, hr⟩ : ∃ r, askT l gap room = r := ⟨_, rfl⟩
  rw [hr]
  have HR := Lib.hid hr
  clear hr
  by_cases h0 : 2048 < n
  · have hz : (2048 : Int) < n := by omega
    have R : Hid (r = 2) := Lib.hid (by rw [← HR.out]; exact askT_args (.inl (by have := HL.out; omega)))
    go_enter Try.func18, Try.ntmps18
    go_wp2_with fail
    go_ret
    exact ⟨by rw [R.out]; rfl, Below.refl _ _⟩
  have hz : (n : Int) ≤ 2048 := by omega
  have dz : decide ((2048 : Int) < n) = false := decide_eq_false (by omega)
  by_cases h1 : gap < 0
  · have d1 : decide (gap < 0) = true := decide_eq_true h1
    have R : Hid (r = 2) := Lib.hid (by rw [← HR.out]; exact askT_args (.inr (.inl h1)))
    clear h0
    go_enter Try.func18, Try.ntmps18
    go_wp2_with fail
    go_ret
    exact ⟨by rw [R.out]; rfl, Below.refl _ _⟩
  have d1 : decide (gap < 0) = false := decide_eq_false h1
  by_cases h2 : room < -1
  · have d2 : decide (room < -1) = true := decide_eq_true h2
    have R : Hid (r = 2) := Lib.hid (by rw [← HR.out]; exact askT_args (.inr (.inr h2)))
    clear h0 h1
    go_enter Try.func18, Try.ntmps18
    go_wp2_with fail
    go_ret
    exact ⟨by rw [R.out]; rfl, Below.refl _ _⟩
  have d2 : decide (room < -1) = false := decide_eq_false h2
  have HA : Hid (¬ (2048 < l.length ∨ gap < 0 ∨ room < -1)) := Lib.hid (by rw [HL.out]; omega)
  clear h0 h1 h2
  obtain ⟨fg, hfg⟩ : ∃ b, decide (Fit gap) = b := ⟨_, rfl⟩
  obtain ⟨fr, hfr⟩ : ∃ b, decide (Fit room) = b := ⟨_, rfl⟩
  have K1 := Lib.hid (refFits_any gap w fg hfg)
  have K2 := Lib.hid (refFits_any room w fr hfr)
  have F0 : Hid ((!fg || !fr) = true ↔ (¬ Fit gap ∨ ¬ Fit room)) := Lib.hid (by rw [← hfg, ← hfr]; simp)
  clear hfg hfr
  go_enter Try.func18, Try.ntmps18
  go_upto_region 3 with fail
  go_cut [7] from 10 (fun v wx => v = .bool (!fg || !fr) ∧ wx = w)
  case first =>
    cases fg with
    | true =>
      go_wp2_with (first
        | (go_at_call 34; (with_reducible refine K1.out.mono ?_); rintro e6 w6 ⟨rfl, hw'⟩; obtain rfl := hw')
        | (go_at_call 34; (with_reducible refine K2.out.mono ?_); rintro e6 w6 ⟨rfl, hw'⟩; obtain rfl := hw'))
      go_meet
      exact ⟨by first | rfl | simp, rfl⟩
    | false =>
      go_wp2_with (go_at_call 34; (with_reducible refine K1.out.mono ?_); rintro e6 w6 ⟨rfl, hw'⟩; obtain rfl := hw')
      go_meet
      exact ⟨by first | rfl | simp, rfl⟩
  case rest =>
  obtain ⟨rfl, hw⟩ := hcut
  obtain rfl := hw.symm
  clear hw K1 K2 d1 d2 dz
  obtain ⟨far0, hfar0⟩ : ∃ f, (!fg || !fr) = f := ⟨_, rfl⟩
  rw [hfar0] at F0
  simp only [hfar0]
  clear hfar0
  go_wp2_with fail
  go_loopg [7, 8] n (fun g1 vf vi wr => ∃ (k : Nat) (far : Bool), vi = .int .i64 k ∧ vf = .bool far ∧ k ≤ n ∧ n - k ≤ g1 ∧ Hid (Below w.heap.size w wr) ∧ Hid (∀ j, j < k → ¬ BadT (itA l j)) ∧ Hid (far = true ↔ (¬ Fit gap ∨ ¬ Fit room) ∨ ∃ j, j < k ∧ ¬ FitT (itA l j)))
  case atStart => exact ⟨0, far0, rfl, rfl, by omega, by omega, Lib.hid (Below.refl _ _), Lib.hid (fun j hj => absurd hj (by omega)), Lib.hid (by rw [F0.out]; simp)⟩
  case round =>
    obtain ⟨k, far, rfl, rfl, hk, hg1, HB, HN, HF⟩ := hrel
    obtain ⟨wo, hwo⟩ : ∃ wo, wo = wr := ⟨_, rfl⟩
    subst hwo
    by_cases hlt : k < n
    · have hz1 : (k : Int) < n := by omega
      have hz0 : (0 : Int) ≤ k := by omega
      have wi : IntKind.i64.wrap ((k : Int) + 1) = (k : Int) + 1 := IntWalk.i64_in _ (by omega)
      obtain ⟨b, off, c1, e, hbl, -, hk6⟩ := HV.out.get (i := k) (by have := HL.out; omega)
      injection e with e1 e2 e3
      subst e1 e3
      clear e2
      have K6 : TmAt wo b (off + k * 6) (itA l k) := (hk6 k (by have := HL.out; omega)).keep hbl HB.out
      have RB : Hid (BadT (itA l k) → r = 2) := Lib.hid (fun hb => by rw [← HR.out]; exact askT_bad (by have := HL.out; omega) hb)
      have FB : Hid (∀ y ∈ [(itA l k).base, (itA l k).least, (itA l k).most, (itA l k).outer], -9223372036854775808 ≤ y ∧ y ≤ 9223372036854775807) := Lib.hid (fun y hy => HG.out k (by have := HL.out; omega) y (by simp only [List.mem_cons, List.not_mem_nil, or_false] at hy ⊢; rcases hy with h | h | h | h <;> simp [h]))
      have NX : Hid (¬ BadT (itA l k) → ∀ j, j < k + 1 → ¬ BadT (itA l j)) := Lib.hid (fun hb j hj => by
        rcases Nat.lt_or_ge j k with h | h
        · exact HN.out j h
        · obtain rfl : j = k := by omega
          exact hb)
      have FX : Hid (∀ f : Bool, (f = true ↔ far = true ∨ ¬ FitT (itA l k)) → (f = true ↔ (¬ Fit gap ∨ ¬ Fit room) ∨ ∃ j, j < k + 1 ∧ ¬ FitT (itA l j))) := Lib.hid (fun f hf => by
        rw [hf, HF.out]
        constructor
        · rintro ((h | ⟨j, hj, h⟩) | h)
          · exact .inl h
          · exact .inr ⟨j, by omega, h⟩
          · exact .inr ⟨k, by omega, h⟩
        · rintro (h | ⟨j, hj, h⟩)
          · exact .inl (.inl h)
          · rcases Nat.lt_or_ge j k with h' | h'
            · exact .inl (.inr ⟨j, h', h⟩)
            · obtain rfl : j = k := by omega
              exact .inr h)
      clear hbl hk6 HN HF
      generalize itA l k = x at K6 RB FB NX FX
      have FK := Lib.hid (fitT_iff x)
      obtain ⟨x0, x1, x2, x3, x4, x5⟩ := x
      unfold TmAt at K6
      dsimp only at K6 FB FK
      obtain ⟨a0, a1, a2, a3, a4, a5⟩ := K6
      go_upto_region 8 with fail
      clear a0 a1 a2 a3 a4 a5
      have B5 : Hid (Below w.heap.size w (wo.alloc (.cells #[.int .i64 x0, .int .i64 x1, .int .i64 x2, .int .i64 x3, .int .i64 x4, .int .i64 x5] 32))) := Lib.hid (HB.out.alloc HB.out.size _)
      have K5 : Hid ((wo.alloc (.cells #[.int .i64 x0, .int .i64 x1, .int .i64 x2, .int .i64 x3, .int .i64 x4, .int .i64 x5] 32)).heap[wo.heap.size]? = some (.cells #[.int .i64 x0, .int .i64 x1, .int .i64 x2, .int .i64 x3, .int .i64 x4, .int .i64 x5] 32)) := Lib.hid (heap_alloc_new wo _)
      generalize wo.alloc (.cells #[.int .i64 x0, .int .i64 x1, .int .i64 x2, .int .i64 x3, .int .i64 x4, .int .i64 x5] 32) = w5 at B5 K5 ⊢
      generalize wo.heap.size = g at K5 ⊢
      have a0 : w5.cell? ⟨g, 0, none⟩ = some (.int .i64 x0) := by simp [World.cell?, K5.out]
      have a1 : w5.cell? ⟨g, 1, none⟩ = some (.int .i64 x1) := by simp [World.cell?, K5.out]
      have a2 : w5.cell? ⟨g, 2, none⟩ = some (.int .i64 x2) := by simp [World.cell?, K5.out]
      have a3 : w5.cell? ⟨g, 3, none⟩ = some (.int .i64 x3) := by simp [World.cell?, K5.out]
      have a4 : w5.cell? ⟨g, 4, none⟩ = some (.int .i64 x4) := by simp [World.cell?, K5.out]
      have a5 : w5.cell? ⟨g, 5, none⟩ = some (.int .i64 x5) := by simp [World.cell?, K5.out]
      clear K5
      obtain ⟨bad, hbad⟩ : ∃ b, decide (BadT ⟨x0, x1, x2, x3, x4, x5⟩) = b := ⟨_, rfl⟩
      have BD := Lib.hid hbad
      unfold BadT at BD
      dsimp only at BD
      have BB := Lib.hid hbad
      clear hbad HB HV HG
      go_cut [71] from 29 to 85 (fun v wx => v = .bool bad ∧ wx = w5)
      case first =>
        by_cases h0 : x0 < 0
        · have d0 : decide (x0 < 0) = true := decide_eq_true h0
          have E0 : Hid (bad = true) := Lib.hid (by rw [← BD.out]; exact decide_eq_true (.inl h0))
          clear h0
          go_wp2_with fail
          go_meet
          exact ⟨by rw [E0.out], rfl⟩
        have d0 : decide (x0 < 0) = false := decide_eq_false h0
        replace h0 : 0 ≤ x0 := by omega
        by_cases h1 : x1 < 0
        · have d1 : decide (x1 < 0) = true := decide_eq_true h1
          have E0 : Hid (bad = true) := Lib.hid (by rw [← BD.out]; exact decide_eq_true (.inr (.inl h1)))
          clear h1
          go_wp2_with fail
          go_meet
          exact ⟨by rw [E0.out], rfl⟩
        have d1 : decide (x1 < 0) = false := decide_eq_false h1
        replace h1 : 0 ≤ x1 := by omega
        by_cases h2 : x2 < 0
        · have d2 : decide (x2 < 0) = true := decide_eq_true h2
          have E0 : Hid (bad = true) := Lib.hid (by rw [← BD.out]; exact decide_eq_true (.inr (.inr (.inl h2))))
          clear h2
          go_wp2_with fail
          go_meet
          exact ⟨by rw [E0.out], rfl⟩
        have d2 : decide (x2 < 0) = false := decide_eq_false h2
        replace h2 : 0 ≤ x2 := by omega
        by_cases h3 : x3 < 0
        · have d3 : decide (x3 < 0) = true := decide_eq_true h3
          have E0 : Hid (bad = true) := Lib.hid (by rw [← BD.out]; exact decide_eq_true (.inr (.inr (.inr (.inl h3)))))
          clear h3
          go_wp2_with fail
          go_meet
          exact ⟨by rw [E0.out], rfl⟩
        have d3 : decide (x3 < 0) = false := decide_eq_false h3
        replace h3 : 0 ≤ x3 := by omega
        by_cases h4 : 1000 < x3
        · have d4 : decide (1000 < x3) = true := decide_eq_true h4
          have E0 : Hid (bad = true) := Lib.hid (by rw [← BD.out]; exact decide_eq_true (.inr (.inr (.inr (.inr (.inl h4))))))
          clear h4
          go_wp2_with fail
          go_meet
          exact ⟨by rw [E0.out], rfl⟩
        have d4 : decide (1000 < x3) = false := decide_eq_false h4
        replace h4 : x3 ≤ 1000 := by omega
        by_cases h5 : x4 < 0
        · have d5 : decide (x4 < 0) = true := decide_eq_true h5
          have E0 : Hid (bad = true) := Lib.hid (by rw [← BD.out]; exact decide_eq_true (.inr (.inr (.inr (.inr (.inr (.inl h5)))))))
          clear h5
          go_wp2_with fail
          go_meet
          exact ⟨by rw [E0.out], rfl⟩
        have d5 : decide (x4 < 0) = false := decide_eq_false h5
        replace h5 : 0 ≤ x4 := by omega
        by_cases h6 : 1000 < x4
        · have d6 : decide (1000 < x4) = true := decide_eq_true h6
          have E0 : Hid (bad = true) := Lib.hid (by rw [← BD.out]; exact decide_eq_true (.inr (.inr (.inr (.inr (.inr (.inr (h6))))))))
          clear h6
          go_wp2_with fail
          go_meet
          exact ⟨by rw [E0.out], rfl⟩
        have d6 : decide (1000 < x4) = false := decide_eq_false h6
        replace h6 : x4 ≤ 1000 := by omega
        have E0 : Hid (bad = false) := Lib.hid (by rw [← BD.out]; exact decide_eq_false (by omega))
        clear h0 h1 h2 h3 h4 h5 h6
        go_wp2_with fail
        go_meet
        exact ⟨by rw [E0.out], rfl⟩
      case rest =>
        obtain ⟨rfl, hw⟩ := hcut
        obtain rfl := hw.symm
        clear hw BD
        cases bad with
        | true =>
          have R : Hid (r = 2) := Lib.hid (RB.out (of_decide_eq_true BB.out))
          clear BB RB FX NX FB FK
          go_wp2_with fail
          go_ret
          exact ⟨by rw [R.out]; rfl, B5.out⟩
        | false =>
          have NX := Lib.hid (NX.out (of_decide_eq_false BB.out))
          obtain ⟨f5, hf5⟩ : ∃ b, decide (∀ y ∈ [x0, x1, x2, x5], Fit y) = b := ⟨_, rfl⟩
          have I5 := Lib.hid (pk_new w5 3 [x0, x1, x2, x5] FB.out)
          have K5 := Lib.hid (all_any _ _ 4 _ _ I5.out (by simp) f5 ((pk_all [x0, x1, x2, x5]).trans hf5))
          have C5 : Hid (Below w.heap.size w (w5.alloc (.cells #[.int .i64 x0, .int .i64 x1, .int .i64 x2, .int .i64 x5] 3))) := Lib.hid (B5.out.alloc B5.out.size _)
          have HT := Lib.hid hf5
          clear BB RB FB I5 hf5
          cases far with
          | true =>
            have FX := Lib.hid (FX.out true (by simp))
            clear K5 C5 HT
            go_wp2_with fail
            go_roundg (n - (k + 1))
            case measure => omega
            case rel => exact ⟨k + 1, true, by go_num, rfl, by omega, Nat.le_refl _, B5, NX, Lib.hid (by have h := FX.out; simpa using h)⟩
          | false =>
            have FX := Lib.hid (FX.out (!f5) (by
              have h1 := FK.out
              have h2 := HT.out
              cases f5 with
              | true => simp only [Bool.not_true, Bool.false_eq_true, false_or]; exact ⟨(fun h => by cases h), fun h => absurd (h1.1 (of_decide_eq_true h2)) h⟩
              | false => simp only [Bool.not_false, Bool.false_eq_true, false_or, true_iff]; exact fun h => of_decide_eq_false h2 (h1.2 h)))
            clear FK HT
            go_wp2_with (go_at_call 21; refine K5.out.mono ?_; rintro e6 w6 ⟨rfl, hw'⟩; have B6 : Hid (Below w.heap.size w w6) := Lib.hid (by rw [← hw']; exact C5.out); clear hw')
            go_roundg (n - (k + 1))
            case measure => omega
            case rel => exact ⟨k + 1, !f5, by go_num, rfl, by omega, Nat.le_refl _, B6, NX, FX⟩
    · obtain rfl : k = n := by omega
      have hz1 : ¬ (k : Int) < k := by omega
      have R : Hid (r = if far = true then 10 else 0) := Lib.hid (by
        rw [← HR.out]
        have hl := HL.out
        exact askT_end HA.out (fun j hj => HN.out j (by omega)) (by rw [hl]; exact HF.out))
      clear HN HF
      cases far with
      | true =>
        go_wp2_with fail
        go_ret
        exact ⟨by rw [R.out]; rfl, HB.out⟩
      | false =>
        go_wp2_with fail
        go_ret
        exact ⟨by rw [R.out]; rfl, HB.out⟩
end Go.Proofs.Ytjlnaadpiohbnaa
