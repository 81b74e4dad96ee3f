/-
  The laws' furniture: near; the document's Same.
-/
import Derived.Test.YtidbfkbeploagaaFurn14
import Derived.Deep.CutRange
namespace Go.Proofs.Ytidbfkbeploagaa
open Go.RowKit

set_option maxRecDepth 100000 in
set_option maxHeartbeats 8000000 in
theorem near_any (hM : MayOK13 38) (l : List Kd) (v : Value) (w : World) (hv : KdIn w v l) (hn : l.length ≤ 140737488351232) : Calls Try.prog 13 #[v] w fun e w' => e = .returned (.bool (decide (NearK l))) ∧ Below w.heap.size w w' := by
  have HV := Lib.hid hv
  have KS := Lib.hid (fun m W => small_any hM m W)
  clear hM
  obtain ⟨A, c, rfl, -, -, -⟩ := hv
  obtain ⟨n, en⟩ : ∃ n, l.length = n := ⟨_, rfl⟩
  have HL := Lib.hid en
  rw [en] at HV hn ⊢
  clear en
  obtain ⟨r, hr⟩ : ∃ r, decide (NearK l) = r := ⟨_, rfl⟩
  rw [hr]
  have HR := Lib.hid hr
  clear hr
  by_cases h0 : 200 < n
  · have hz : (200 : Int) < n := by omega
    have R : Hid (r = false) := Lib.hid (by rw [← HR.out]; exact decide_eq_false (fun h => by have := h.1; have := HL.out; omega))
    go_enter Try.func13, Try.ntmps13
    go_wp2_with fail
    go_ret
    exact ⟨by rw [R.out]; rfl, Below.refl _ _⟩
  · have hz : ¬ (200 : Int) < n := by omega
    go_enter Try.func13, Try.ntmps13
    go_wp2_with fail
    go_loopg [3] n (fun g1 vi wr => ∃ k : Nat, vi = .int .i64 k ∧ k ≤ n ∧ n - k ≤ g1 ∧ Hid (Below w.heap.size w wr) ∧ Hid (∀ j, j < k → NearAt (kAt l j)))
    case atStart => exact ⟨0, rfl, by omega, by omega, Lib.hid (Below.refl _ _), Lib.hid (fun j hj => absurd hj (by omega))⟩
    case round =>
      obtain ⟨k, rfl, hk, hg1, HB, HN⟩ := hrel
      obtain ⟨wo, hwo⟩ : ∃ wo, wo = wr := ⟨_, rfl⟩
      subst hwo
      by_cases hlt : k < n
      · have hz1 : (k : Int) < n := by omega
        have hz0 : (0 : Int) ≤ k := by omega
        have wi : IntKind.i64.wrap ((k : Int) + 1) = (k : Int) + 1 := IntWalk.i64_in _ (by omega)
        obtain ⟨b, off, c1, e, hbl, -, hk6⟩ := HV.out.get (i := k) (by have := HL.out; omega)
        injection e with e1 e2 e3
        subst e1 e3
        clear e2
        have K6 : Hid (KdAt wo b (off + k * 6) (kAt l k)) := Lib.hid ((hk6 k (by have := HL.out; omega)).keep hbl HB.out)
        have RB : Hid (¬ NearAt (kAt l k) → r = false) := Lib.hid (fun hb => by rw [← HR.out]; exact decide_eq_false (fun h => hb (h.2 k (by have := HL.out; omega))))
        have NX : Hid (NearAt (kAt l k) → ∀ j, j < k + 1 → NearAt (kAt l j)) := Lib.hid (fun hb j hj => by
          rcases Nat.lt_or_ge j k with h | h
          · exact HN.out j h
          · obtain rfl : j = k := by omega
            exact hb)
        clear hbl hk6 HN
        generalize kAt l k = x at K6 RB NX
        obtain ⟨⟨tu, td⟩, ⟨bu, bd⟩, hh, thr⟩ := x
        unfold KdAt at K6
        dsimp only at K6
        obtain ⟨a0, a1, a2, a3, a4, a5⟩ := K6.out
        go_upto_region 7 with fail
        clear a0 a1 a2 a3 a4 a5 K6
        have B5 : Hid (Below w.heap.size w (wo.alloc (.cells #[.int .i64 tu, .int .i64 td, .int .i64 bu, .int .i64 bd, .int .i64 hh, .bool thr] 35))) := Lib.hid (HB.out.alloc HB.out.size _)
        have K5 : Hid ((wo.alloc (.cells #[.int .i64 tu, .int .i64 td, .int .i64 bu, .int .i64 bd, .int .i64 hh, .bool thr] 35)).heap[wo.heap.size]? = some (.cells #[.int .i64 tu, .int .i64 td, .int .i64 bu, .int .i64 bd, .int .i64 hh, .bool thr] 35)) := Lib.hid (heap_alloc_new wo _)
        generalize wo.alloc (.cells #[.int .i64 tu, .int .i64 td, .int .i64 bu, .int .i64 bd, .int .i64 hh, .bool thr] 35) = w5 at B5 K5 ⊢
        generalize wo.heap.size = g at K5 ⊢
        have CS : Hid (∀ W, Below w5.heap.size w5 W → W.cell? ⟨g, 0, none⟩ = some (.int .i64 tu) ∧ W.cell? ⟨g, 1, none⟩ = some (.int .i64 td) ∧ W.cell? ⟨g, 2, none⟩ = some (.int .i64 bu) ∧ W.cell? ⟨g, 3, none⟩ = some (.int .i64 bd) ∧ W.cell? ⟨g, 4, none⟩ = some (.int .i64 hh) ∧ W.cell? ⟨g, 5, none⟩ = some (.bool thr)) := Lib.hid (fun W hW => by
          have hl : g < w5.heap.size := (Array.getElem?_eq_some_iff.1 K5.out).1
          have h' := (hW.block g hl).trans K5.out
          simp [World.cell?, h'])
        clear K5
        obtain ⟨a0, a1, a2, a3, a4, a5⟩ := CS.out w5 (Below.refl _ _)
        have S1 := Lib.hid (fun W => KS.out (tu, td) W)
        have S2 := Lib.hid (fun W => KS.out (bu, bd) W)
        unfold mgV at S1 S2
        dsimp only at S1 S2
        obtain ⟨bad, hbad⟩ : ∃ b, decide (¬ NearAt ⟨(tu, td), (bu, bd), hh, thr⟩) = b := ⟨_, rfl⟩
        have BD := Lib.hid hbad
        have BB := Lib.hid hbad
        unfold NearAt at BD
        dsimp only at BD
        clear hbad
        go_cut [46] from 8 to 46 (fun v wx => v = .bool bad ∧ Hid (Below w5.heap.size w5 wx))
        case first =>
          by_cases h1 : hh < 0
          · have d1 : decide (hh < 0) = true := decide_eq_true h1
            have E0 : Hid (bad = true) := Lib.hid (by rw [← BD.out]; exact decide_eq_true (fun h => by have := h.1; omega))
            clear h1
            go_wp2_with fail
            go_meet
            exact ⟨by rw [E0.out], Lib.hid (Below.refl _ _)⟩
          · have d1 : decide (hh < 0) = false := decide_eq_false h1
            by_cases h2 : 268435456 < hh
            · have d2 : decide (268435456 < hh) = true := decide_eq_true h2
              have E0 : Hid (bad = true) := Lib.hid (by rw [← BD.out]; exact decide_eq_true (fun h => by have := h.2.1; omega))
              clear h1 h2
              go_wp2_with fail
              go_meet
              exact ⟨by rw [E0.out], Lib.hid (Below.refl _ _)⟩
            · have d2 : decide (268435456 < hh) = false := decide_eq_false h2
              by_cases h3 : thr = true ∧ hh ≠ 0
              · obtain ⟨rfl, h3⟩ := h3
                have d3 : (hh != 0) = true := by simp [h3]
                have E0 : Hid (bad = true) := Lib.hid (by rw [← BD.out]; exact decide_eq_true (fun h => h.2.2.1 ⟨rfl, h3⟩))
                clear h1 h2 h3
                go_wp2_with fail
                go_meet
                exact ⟨by rw [E0.out], Lib.hid (Below.refl _ _)⟩
              · have E2 : Hid (thr = false ∨ (hh != 0) = false) := Lib.hid (by
                  cases thr with
                  | false => exact .inl rfl
                  | true =>
                    refine .inr ?_
                    have : hh = 0 := by
                      by_cases e : hh = 0
                      · exact e
                      · exact absurd ⟨rfl, e⟩ h3
                    simp [this])
                by_cases h4 : SmallM (tu, td)
                · rw [decide_eq_true h4] at S1
                  have E0 : Hid (bad = !(decide (SmallM (bu, bd)))) := Lib.hid (by
                    rw [← BD.out]
                    by_cases h5 : SmallM (bu, bd)
                    · rw [decide_eq_true h5]
                      exact decide_eq_false (fun h => h ⟨by omega, by omega, h3, h4, h5⟩)
                    · rw [decide_eq_false h5]
                      exact decide_eq_true (fun h => h5 h.2.2.2.2))
                  clear h1 h2 h3 h4
                  generalize decide (SmallM (bu, bd)) = s2 at S2 E0
                  rcases E2.out with rfl | e2
                  · go_wp2_with (first
                      | (go_at_call 30; (with_reducible refine (S1.out _).mono ?_); rintro e w6 ⟨rfl, hb⟩; have C6 := Lib.hid hb; obtain ⟨a0, a1, a2, a3, a4, a5⟩ := CS.out w6 hb; clear hb)
                      | (go_at_call 30; (with_reducible refine (S2.out _).mono ?_); rintro e w7 ⟨rfl, hb⟩; have C7 := Lib.hid (b_next C6.out hb); clear hb))
                    go_meet
                    exact ⟨by rw [E0.out], C7⟩
                  · cases thr
                    all_goals
                      go_wp2_with (first
                        | (go_at_call 30; (with_reducible refine (S1.out _).mono ?_); rintro e w6 ⟨rfl, hb⟩; have C6 := Lib.hid hb; obtain ⟨a0, a1, a2, a3, a4, a5⟩ := CS.out w6 hb; clear hb)
                        | (go_at_call 30; (with_reducible refine (S2.out _).mono ?_); rintro e w7 ⟨rfl, hb⟩; have C7 := Lib.hid (b_next C6.out hb); clear hb))
                      go_meet
                      exact ⟨by rw [E0.out], C7⟩
                · rw [decide_eq_false h4] at S1
                  have E0 : Hid (bad = true) := Lib.hid (by rw [← BD.out]; exact decide_eq_true (fun h => h4 h.2.2.2.1))
                  clear h1 h2 h3 h4
                  rcases E2.out with rfl | e2
                  · go_wp2_with (go_at_call 30; (with_reducible refine (S1.out _).mono ?_); rintro e w6 ⟨rfl, hb⟩; have C6 := Lib.hid hb; clear hb)
                    go_meet
                    exact ⟨by rw [E0.out], C6⟩
                  · cases thr
                    all_goals
                      go_wp2_with (go_at_call 30; (with_reducible refine (S1.out _).mono ?_); rintro e w6 ⟨rfl, hb⟩; have C6 := Lib.hid hb; clear hb)
                      go_meet
                      exact ⟨by rw [E0.out], C6⟩
        case rest =>
          obtain ⟨rfl, C8⟩ := hcut
          cases bad with
          | true =>
            have R : Hid (r = false) := Lib.hid (RB.out (of_decide_eq_true BB.out))
            clear BB RB NX BD S1 S2 KS
            go_wp2_with fail
            go_ret
            exact ⟨by rw [R.out]; rfl, b_next B5.out C8.out⟩
          | false =>
            have NX := Lib.hid (NX.out (Decidable.byContradiction (of_decide_eq_false BB.out)))
            clear BB RB BD S1 S2
            go_wp2_with fail
            go_roundg (n - (k + 1))
            case measure => omega
            case rel => exact ⟨k + 1, by go_num, by omega, Nat.le_refl _, Lib.hid (b_next B5.out C8.out), NX⟩
      · obtain rfl : k = n := by omega
        have hz1 : ¬ (k : Int) < k := by omega
        have R : Hid (r = true) := Lib.hid (by
          rw [← HR.out]
          have hl := HL.out
          exact decide_eq_true ⟨by omega, fun i hi => HN.out i (by omega)⟩)
        clear HN
        go_wp2_with fail
        go_ret
        exact ⟨by rw [R.out]; rfl, HB.out⟩
set_option maxRecDepth 100000 in
set_option maxHeartbeats 4000000 in
/-- two that are told alike are the same -/
theorem refSame14 (va vb : Value) (r : Sk) (w : World) {Ba Bb : Nat} (ha : ownsI14 w Ba va r.ats) (hb : ownsI14 w Bb vb r.ats) (hbd : ∀ y ∈ r.ats, -9223372036854775808 ≤ y ∧ y ≤ 9223372036854775807) (hn : r.ats.length ≤ 100000) :
    Calls Try.prog 11 #[skV va r, skV vb r] w fun e w' => e = .returned (.bool true) ∧ Below w.heap.size w w' := by
  obtain ⟨A, c, rfl, -, -, -⟩ := own_form ha
  obtain ⟨B, d, rfl, -, -, -⟩ := own_form hb
  have IA : Ints w A r.ats.length (pk r.ats) := Ints.of_own ha (fun i hi => pk_at _ i hi) (fun i hi => hbd _ (List.mem_of_getElem? (pk_at _ i hi)))
  have IB : Ints w B r.ats.length (pk r.ats) := Ints.of_own hb (fun i hi => pk_at _ i hi) (fun i hi => hbd _ (List.mem_of_getElem? (pk_at _ i hi)))
  have B2 : Hid (Below w.heap.size w ((w.alloc (.cells (skCells (.slice A r.ats.length c) r).toArray 27)).alloc (.cells (skCells (.slice B r.ats.length d) r).toArray 27))) := Lib.hid (((Below.refl _ w).alloc (Nat.le_refl _) _).alloc (by rw [World.size_alloc]; omega) _)
  have KS := Lib.hid (fun W (hW : Below w.heap.size w W) => same_yes A B r.ats.length c d (pk r.ats) W (IA.below hW) (IB.below hW) (by omega))
  have S1 := Lib.hid (SkAt.new w (.slice A r.ats.length c) r)
  have S2 := Lib.hid (SkAt.new (w.alloc (.cells (skCells (.slice A r.ats.length c) r).toArray 27)) (.slice B r.ats.length d) r)
  rw [World.size_alloc] at S2
  have S3 := Lib.hid (S1.out.keep ((Below.refl _ _).alloc (Nat.le_refl _) (.cells (skCells (.slice B r.ats.length d) r).toArray 27)))
  clear S1 IA IB ha hb hbd
  generalize r.ats.length = n at *
  obtain ⟨ats, h, ⟨t1, t2⟩, ⟨b1, b2⟩, thr⟩ := r
  unfold skV
  unfold skCells at S2 S3 B2
  dsimp only at S2 S3 B2 ⊢
  go_enter Try.func11, Try.ntmps11
  go_upto_region 1 with fail
  have S2 : Hid (SkAt _ _ (.slice B n d) ⟨ats, h, (t1, t2), (b1, b2), thr⟩) := S2
  have S3 : Hid (SkAt _ _ (.slice A n c) ⟨ats, h, (t1, t2), (b1, b2), thr⟩) := S3
  generalize (w.alloc (.cells #[.slice A n c, .int .i64 h, .int .i64 t1, .int .i64 t2, .int .i64 b1, .int .i64 b2, .bool thr] 27)).alloc (.cells #[.slice B n d, .int .i64 h, .int .i64 t1, .int .i64 t2, .int .i64 b1, .int .i64 b2, .bool thr] 27) = w2 at S2 S3 B2 ⊢
  obtain ⟨x0, -, -, -, -, -, -⟩ := S3.out.cells
  obtain ⟨y0, -, -, -, -, -, -⟩ := S2.out.cells
  have k0 : (h == h) = true := by simp
  have k1 : (t1 == t1) = true := by simp
  have k2 : (t2 == t2) = true := by simp
  have k3 : (b1 == b1) = true := by simp
  have k4 : (b2 == b2) = true := by simp
  have k5 : (thr == thr) = true := by simp
  go_wp2_with (go_at_call 27; (with_reducible refine (KS.out _ B2.out).mono ?_); rintro e w3 ⟨rfl, hd⟩; have hb := Drawn.below hd; have B3 := Lib.hid (b_next B2.out hb); obtain ⟨-, x1, x2, x3, x4, x5, x6⟩ := (S3.out.keep hb).cells; obtain ⟨-, y1, y2, y3, y4, y5, y6⟩ := (S2.out.keep hb).cells; dsimp only at x1 x2 x3 x4 x5 x6 y1 y2 y3 y4 y5 y6; clear hb hd)
  go_ret
  exact ⟨by first | rfl | simp, B3.out⟩
end Go.Proofs.Ytidbfkbeploagaa
