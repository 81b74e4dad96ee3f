/-
  The law LinesLong: of any Fill that answers as is asked, and of an awake that is true.
-/
import Derived.Test.YtpfeiiabplaghaaClusters10
import Derived.Test.YtpfeiiabplaghaaLinesAll
import Derived.Test.YtpfeiiabplaghaaLinesFill
import Derived.Deep.QuietTactic
import Derived.BigQuiet
namespace Go.Proofs.Ytpfeiiabplaghaa
open Go.RowKit

set_option maxRecDepth 100000 in
set_option maxHeartbeats 8000000 in
theorem long10 (hF : FillOK 11) (hA : AwakeOK10 15) (l : List It) (v : Value) (x : Int) (w : World) (hv : ItIn w v l)
    (hk : ∀ i, i < l.length → kd l i < 256 ∧ -9223372036854775808 ≤ wd l i ∧ wd l i ≤ 9223372036854775807) :
    Calls Try.prog 5 #[v, .int .i64 x] w fun e w' => e = .returned (.bool true) ∧ Below w.heap.size w w' := by
  have KA := Lib.hid (fun W => hA W)
  by_cases hg : great10 l x
  · have KG := Lib.hid (fun W (hW : ItIn W v l) => great_any10 l v x W hW true (decide_eq_true hg))
    have HV := Lib.hid hv
    obtain ⟨A, c, rfl, -, -⟩ := hv
    clear hg hk
    go_enter Try.func5, Try.ntmps5
    go_wp2_with (first
      | (go_at_call 15; (with_reducible refine (KA.out _).mono ?_); rintro e w1 ⟨rfl, hb⟩; have B1 := Lib.hid hb; have V1 := Lib.hid (HV.out.keep hb); clear hb)
      | (go_at_call 16; (with_reducible refine (KG.out _ V1.out).mono ?_); rintro e w2 ⟨rfl, hw⟩; subst hw))
    go_ret
    exact ⟨rfl, B1.out⟩
  · have KG := Lib.hid (fun W (hW : ItIn W v l) => great_any10 l v x W hW false (decide_eq_false hg))
    have KF := Lib.hid (fun W (hW : ItIn W v l) => fill_yes10 hF hg v W hW hk)
    have KC := Lib.hid (fun W u sub (h : ItIn W u sub) hn => clusters_any10 sub u W h hn)
    obtain ⟨g1, g2, g3, g4, g5⟩ := within_great hg
    have HG := Lib.hid g1
    have HWi := Lib.hid g2
    have FA := Lib.hid (fun y hy => fill_all (w := x) g1 _ (st_first l) y hy)
    have LL : Hid ((linesT l x).length ≤ l.length) := Lib.hid (by have := fill_len (l := l) x (behind l 0); unfold linesT; omega)
    obtain ⟨R, hR⟩ : ∃ R, linesT l x = R := ⟨_, rfl⟩
    rw [hR] at KF LL
    have FA2 : Hid (∀ y ∈ R, y.1 < l.length ∧ Ends l x y.1 y.2.1 ∧ y.2.2 = sumI l y.1 y.2.1) := Lib.hid (by
      rw [← hR]
      intro y hy
      have := FA.out y hy
      exact ⟨this.1, this.2.2.2.1, this.2.2.2.2⟩)
    have HV := Lib.hid hv
    obtain ⟨A, c, rfl, -, -⟩ := hv
    obtain ⟨n, en⟩ : ∃ n, l.length = n := ⟨_, rfl⟩
    have HN := Lib.hid en
    obtain ⟨m, em⟩ : ∃ m, R.length = m := ⟨_, rfl⟩
    have HM := Lib.hid em
    rw [en] at g3 HV KG KF FA2 ⊢
    rw [en, em] at LL
    have ml : m ≤ n := LL.out
    clear hR FA en em hg hk g1 g2 g5
    go_enter Try.func5, Try.ntmps5
    go_wp2_with (first
      | (go_at_call 15; (with_reducible refine (KA.out _).mono ?_); rintro e w1 ⟨rfl, hb⟩; have B1 := Lib.hid hb; have V1 := Lib.hid (HV.out.keep hb); clear hb)
      | (go_at_call 16; (with_reducible refine (KG.out _ V1.out).mono ?_); rintro e w2 ⟨rfl, hw⟩; subst hw)
      | (go_at_call 11; (with_reducible refine (KF.out _ V1.out).mono ?_); rintro e w3 ⟨out, rfl, hO, hB⟩; obtain ⟨C, d, eo, -, hC⟩ := hO.lns; rw [HM.out] at eo; subst eo; have O3 := Lib.hid hC; have B3 := Lib.hid (B1.out.trans (hB.mono B1.out.size)); have V3 := Lib.hid (V1.out.keep hB); clear hO hB hC))
    go_loopg [7] m (fun h1 vi wr => ∃ i : Nat, vi = .int .i64 i ∧ i ≤ m ∧ m - i ≤ h1 ∧ Hid (Below w3.heap.size w3 wr))
    case atStart => exact ⟨0, rfl, by omega, by omega, Lib.hid (Below.refl _ _)⟩
    case round =>
      obtain ⟨i, rfl, hi, hg1, hB⟩ := hrel
      obtain ⟨wo, hwo⟩ : ∃ wo, wo = wr := ⟨_, rfl⟩
      subst hwo
      by_cases hlt : i < m
      · have hz : (i : Int) < m := by omega
        have hz0 : (0 : Int) ≤ i := by omega
        have wi : IntKind.i64.wrap ((i : Int) + 1) = (i : Int) + 1 := IntWalk.i64_in _ (by omega)
        have hlp : i < R.length := by have := HM.out; omega
        obtain ⟨g, rfl, hgl, hat⟩ := O3.out (by intro e; rw [e] at hlp; simp at hlp)
        obtain ⟨x1, x2, x3, hp⟩ : ∃ p q r, R[i] = (p, q, r) := ⟨_, _, _, rfl⟩
        obtain ⟨c0, c1, c2⟩ := hat i (x1, x2, x3) (by rw [List.getElem?_eq_getElem hlp, hp])
        dsimp only at c0 c1 c2
        rw [← hB.out.cell (p := ⟨g, i * 3, none⟩) hgl] at c0
        rw [← hB.out.cell (p := ⟨g, i * 3 + 1, none⟩) hgl] at c1
        rw [← hB.out.cell (p := ⟨g, i * 3 + 2, none⟩) hgl] at c2
        obtain ⟨f1, f2, f3⟩ := FA2.out (x1, x2, x3) (by rw [← hp]; exact List.getElem_mem hlp)
        dsimp only at f1 f2 f3
        have EN := Lib.hid f2
        have SU := Lib.hid f3
        have e2 : x1 ≤ x2 := f2.lo
        have e3 : x2 ≤ n := by have := f2.hi; have := HN.out; omega
        have q1 : ¬ (x1 : Int) < 0 := by omega
        have q2 : ¬ (x2 : Int) < x1 := by omega
        have q3 : ¬ (n : Int) < x2 := by omega
        have q4 : (0 : Int) ≤ x1 := by omega
        have q5 : (x1 : Int) ≤ x2 := by omega
        have q6 : (x2 : Int) ≤ n := by omega
        have q7 : n ≤ c := by obtain ⟨_, _, e, h, _⟩ := HV.out; injection e with e1 e2 e3; have := HN.out; omega
        have q8 : (x2 : Int) ≤ c := by omega
        have x0 := g4
        have HX0 := Lib.hid (XAt.new wo x1 x2 x3)
        have hx0 := HX0.out.c0
        have hx1 := HX0.out.c1
        have hx2 := HX0.out.c2
        have HVz := Lib.hid (V3.out.keep (hB.out.trans (HX0.out.below.mono hB.out.size)))
        obtain ⟨b, off, c', e, -, -⟩ := HVz.out.get (i := x1) (by have := HN.out; omega)
        injection e with e4 e5 e6
        subst e4 e6
        clear e5
        clear hat hp f2 f3 hgl
        by_cases hE : x2 = x1
        · have q9 : ((x2 : Int) == x1) = true := by rw [hE]; exact beq_self_eq_true _
          have hw : ¬ x < x3 := by
            have := SU.out
            rw [hE, sum_self] at this
            omega
          clear hE
          go_wp2_with fail
          go_roundg (m - (i + 1))
          case measure => omega
          case rel => exact ⟨i + 1, by go_num, by omega, Nat.le_refl _, Lib.hid (hB.out.trans (HX0.out.below.mono hB.out.size))⟩
        · have q9 : ((x2 : Int) == x1) = false := beq_eq_false_iff_ne.2 (by omega)
          by_cases hL : x2 = n
          · have q10 : ((x2 : Int) == n) = true := by rw [hL]; exact beq_self_eq_true _
            by_cases hw : x < x3
            · obtain ⟨ef, e1c⟩ : x2 = clusterT l x1 ∧ clN (part l x1 x2) (part l x1 x2).length = 1 := by
                have hfar := EN.out.far (by omega)
                have hs := (EN.out.some (by omega)).1
                have hsum := SU.out
                rcases hfar with h | h
                · exact ⟨h, by rw [h]; exact one_cluster hs⟩
                · omega
              have KC2 := Lib.hid (KC.out _ _ _ (part_in HVz.out (show x1 ≤ x2 by omega) e3) (by rw [part_len (by omega) (by have := HN.out; omega)]; omega))
              rw [e1c] at KC2
              clear ef e1c
              clear hL hE
              go_wp2_with (first | (go_at_call 18; (with_reducible refine KC2.out.mono ?_); rintro e w5 ⟨rfl, hw5⟩; subst hw5))
              go_roundg (m - (i + 1))
              case measure => omega
              case rel => exact ⟨i + 1, by go_num, by omega, Nat.le_refl _, Lib.hid (hB.out.trans (HX0.out.below.mono hB.out.size))⟩
            · clear hL hE
              go_wp2_with fail
              go_roundg (m - (i + 1))
              case measure => omega
              case rel => exact ⟨i + 1, by go_num, by omega, Nat.le_refl _, Lib.hid (hB.out.trans (HX0.out.below.mono hB.out.size))⟩
          · have q10 : ((x2 : Int) == n) = false := beq_eq_false_iff_ne.2 (by omega)
            by_cases hw : x < x3
            · obtain ⟨ef, e1c⟩ : x2 = clusterT l x1 ∧ clN (part l x1 x2) (part l x1 x2).length = 1 := by
                have hfar := EN.out.far (by omega)
                have hs := (EN.out.some (by omega)).1
                have hsum := SU.out
                rcases hfar with h | h
                · exact ⟨h, by rw [h]; exact one_cluster hs⟩
                · omega
              have KC2 := Lib.hid (KC.out _ _ _ (part_in HVz.out (show x1 ≤ x2 by omega) e3) (by rw [part_len (by omega) (by have := HN.out; omega)]; omega))
              rw [e1c] at KC2
              clear ef e1c
              go_wp2_with (first | (go_at_call 18; (with_reducible refine KC2.out.mono ?_); rintro e w5 ⟨rfl, hw5⟩; subst hw5))
              go_quiet (fail)
              have HX1 := Lib.hid (HX0.out.keep (drewN_below _ nq _))
              clear hx0 hx1 hx2 c0 c1 c2 HX0 HVz q7
              generalize World.drewN _ nq = wa at HX1 ⊢
              go_wp2_with fail
              go_loopg [9, 10] n (fun h2 vn vt wr => ∃ j : Nat, vt = .int .i64 j ∧ vn = .int .i64 (sumI l x1 j) ∧ x2 ≤ j ∧ j ≤ n ∧ n - j ≤ h2 ∧ Hid (∀ k, x2 ≤ k → k < j → kd l k = 1) ∧ Hid (XAt wo wr x1 x2 x3))
              case atStart => exact ⟨x2, rfl, by rw [← SU.out], Nat.le_refl _, e3, Nat.sub_le _ _, Lib.hid (fun k h1 h2 => absurd h2 (by omega)), HX1⟩
              case round =>
                obtain ⟨j, rfl, rfl, hj1, hj2, hg2, hJ, hX⟩ := hrel
                clear HX1
                have HVy := Lib.hid (V3.out.keep (hB.out.trans (hX.out.below.mono hB.out.size)))
                have hx1 := hX.out.c1
                by_cases hjn : j < n
                · have z1 : (j : Int) < n := by omega
                  have z0 : (0 : Int) ≤ j := by omega
                  have zj : ((j : Int) == n) = false := beq_eq_false_iff_ne.2 (by omega)
                  have wj : IntKind.i64.wrap ((j : Int) + 1) = (j : Int) + 1 := IntWalk.i64_in _ (by omega)
                  obtain ⟨b2, off2, c2, e, a0, a1⟩ := HVy.out.get (i := j) (by have := HN.out; omega)
                  injection e with e4 e5 e6
                  injection e4 with e4
                  injection e4 with e4 e7
                  subst e4 e6 e7
                  clear e5
                  have SS := Lib.hid (sum_succ l x1 j)
                  have wss : IntKind.i64.wrap (sumI l x1 j + wd l j) = sumI l x1 j + wd l j := by
                    rw [← sum_succ]
                    have hw2 : Within l 1099511627776 := fun i hi => by have := HWi.out i hi; omega
                    exact IntWalk.i64_in _ (sum_64 hw2 x1 (j + 1) (by omega) (by omega))
                  by_cases k1 : kd l j = 1
                  · have p1 : (((kd l j : Nat) : Int) == 1) = true := by rw [k1]; rfl
                    have HJ2 := Lib.hid (show ∀ k, x2 ≤ k → k < j + 1 → kd l k = 1 from fun k h1 h2 => by
                      by_cases e : k = j
                      · rw [e]; exact k1
                      · exact hJ.out k h1 (by omega))
                    generalize ((kd l j : Nat) : Int) = y at a0 p1
                    generalize wd l j = z at a1 wss SS
                    generalize hss : sumI l x1 j = ss at wss SS
                    clear hss k1
                    go_wp2_with fail
                    go_roundg (n - (j + 1))
                    case measure => omega
                    case rel => exact ⟨j + 1, by go_num, by rw [SS.out], by omega, by omega, Nat.le_refl _, HJ2, hX⟩
                  · have p1 : (((kd l j : Nat) : Int) == 1) = false := beq_eq_false_iff_ne.2 (by omega)
                    have BE : Hid (behind l x2 = j) := Lib.hid (behind_of hj1 (fun k h1 h2 => hJ.out k h1 h2) k1)
                    by_cases k2 : kd l j = 2
                    · have p2 : (((kd l j : Nat) : Int) == 2) = true := by rw [k2]; rfl
                      generalize ((kd l j : Nat) : Int) = y at a0 p1 p2
                      clear k1 k2 wss
                      generalize sumI l x1 j = ss
                      go_wp2_with fail
                      go_roundg (m - (i + 1))
                      case measure => omega
                      case rel => exact ⟨i + 1, by go_num, by omega, Nat.le_refl _, Lib.hid (hB.out.trans (hX.out.below.mono hB.out.size))⟩
                    · have p2 : (((kd l j : Nat) : Int) == 2) = false := beq_eq_false_iff_ne.2 (by omega)
                      have hsol : Solid l j := by
                        rcases behind_kd HG.out x2 with h | h | h
                        · rw [BE.out] at h; exact h
                        · rw [BE.out] at h; exact absurd h.1 k2
                        · rw [BE.out] at h; have := HN.out; omega
                      have CF := Lib.hid (cluster_facts hsol)
                      have STP := Lib.hid (show x < sumI l x1 (clusterT l j) by
                        have := EN.out.stop (by omega) (by rw [BE.out]; exact hsol)
                        rwa [BE.out] at this)
                      have WB := Lib.hid (EN.out.some (by omega)).2.2
                      obtain ⟨T, hT⟩ : ∃ T, clusterT l j = T := ⟨_, rfl⟩
                      rw [hT] at CF STP
                      have tj : j + 1 ≤ T := CF.out.1
                      have tn : T ≤ n := by have := CF.out.2.1; have := HN.out; omega
                      obtain ⟨ky, hky⟩ : ∃ y, ((kd l j : Nat) : Int) = y := ⟨_, rfl⟩
                      rw [hky] at a0 p1 p2
                      obtain ⟨zz, hzz⟩ : ∃ z, wd l j = z := ⟨_, rfl⟩
                      rw [hzz] at a1 wss SS
                      obtain ⟨ss, hss⟩ : ∃ z, sumI l x1 j = z := ⟨_, rfl⟩
                      rw [hss] at wss SS ⊢
                      clear k1 k2 hsol hT hky hzz hss
                      go_wp2_with fail
                      clear a0 a1 wss p1 p2 hx1
                      go_loopg [9, 10] n (fun h3 vn vt wr => ∃ k : Nat, vt = .int .i64 k ∧ vn = .int .i64 (sumI l x1 k) ∧ j + 1 ≤ k ∧ k ≤ T ∧ n - k ≤ h3 ∧ Hid (XAt wo wr x1 x2 x3))
                      case atStart => exact ⟨j + 1, by go_num, by rw [SS.out], Nat.le_refl _, tj, Nat.sub_le _ _, hX⟩
                      case round =>
                        obtain ⟨k, rfl, rfl, hk1, hk2, hg3, hY⟩ := hrel
                        clear hX HVy
                        have HVx := Lib.hid (V3.out.keep (hB.out.trans (hY.out.below.mono hB.out.size)))
                        have hx1 := hY.out.c1
                        obtain ⟨k', hk'⟩ : ∃ k', k = k' + 1 := ⟨k - 1, by omega⟩
                        have wk' : IntKind.i64.wrap ((k : Int) - 1) = (k' : Int) := by rw [IntWalk.i64_in _ (by omega)]; omega
                        have u0 : (0 : Int) ≤ k' := by omega
                        have u1 : (k' : Int) < n := by omega
                        have v0 : (0 : Int) ≤ k := by omega
                        have wk : IntKind.i64.wrap ((k : Int) + 1) = (k : Int) + 1 := IntWalk.i64_in _ (by omega)
                        obtain ⟨b3, off3, c3, e, d0, -⟩ := HVx.out.get (i := k') (by have := HN.out; omega)
                        injection e with e4 e5 e6
                        injection e4 with e4
                        injection e4 with e4 e7
                        subst e4 e6 e7
                        clear e5
                        by_cases hkT : k < T
                        · have v1 : (k : Int) < n := by omega
                          obtain ⟨b3, off3, c3, e, a0, a1⟩ := HVx.out.get (i := k) (by have := HN.out; omega)
                          injection e with e4 e5 e6
                          injection e4 with e4
                          injection e4 with e4 e7
                          subst e4 e6 e7
                          clear e5
                          have Z := CF.out.2.2.2.2 k (by omega) hkT
                          rw [show k - 1 = k' by omega] at Z
                          have p1 : (((kd l k : Nat) : Int) == 0) = true := by rw [Z.2]; rfl
                          have p2 : (((kd l k' : Nat) : Int) == 0) = true := by rw [Z.1]; rfl
                          have SS2 := Lib.hid (sum_succ l x1 k)
                          have wss : IntKind.i64.wrap (sumI l x1 k + wd l k) = sumI l x1 k + wd l k := by
                            rw [← sum_succ]
                            have hw2 : Within l 1099511627776 := fun i hi => by have := HWi.out i hi; omega
                            exact IntWalk.i64_in _ (sum_64 hw2 x1 (k + 1) (by omega) (by omega))
                          generalize ((kd l k : Nat) : Int) = y at a0 p1
                          generalize ((kd l k' : Nat) : Int) = y' at d0 p2
                          generalize wd l k = z at a1 wss SS2
                          generalize hss : sumI l x1 k = ss2 at wss SS2
                          clear hss Z hk'
                          go_wp2_with fail
                          go_roundg (n - (k + 1))
                          case measure => omega
                          case rel => exact ⟨k + 1, by go_num, by rw [SS2.out], by omega, by omega, Nat.le_refl _, hY⟩
                        · obtain rfl : k = T := by omega
                          have STPz : ¬ sumI l x1 k ≤ x := by have := STP.out; omega
                          generalize sumI l x1 k = ss2 at STPz ⊢
                          have hz2 : (x2 : Int) < n := by omega
                          have hz20 : (0 : Int) ≤ x2 := by omega
                          obtain ⟨x2', hx2'⟩ : ∃ t, x2 = t + 1 := ⟨x2 - 1, by omega⟩
                          have wx2 : IntKind.i64.wrap ((x2 : Int) - 1) = (x2' : Int) := by rw [IntWalk.i64_in _ (by omega)]; omega
                          have r0 : (0 : Int) ≤ x2' := by omega
                          have r1 : (x2' : Int) < n := by omega
                          obtain ⟨b3, off3, c3, e, g0, -⟩ := HVx.out.get (i := x2) (by have := HN.out; omega)
                          injection e with e4 e5 e6
                          injection e4 with e4
                          injection e4 with e4 e7
                          subst e4 e6 e7
                          clear e5
                          obtain ⟨b3, off3, c3, e, h0, -⟩ := HVx.out.get (i := x2') (by have := HN.out; omega)
                          injection e with e4 e5 e6
                          injection e4 with e4
                          injection e4 with e4 e7
                          subst e4 e6 e7
                          clear e5
                          have WBz := WB.out
                          rw [show x2 - 1 = x2' by omega] at WBz
                          have CFz := CF.out.2.2.2.1
                          rw [show k - 1 = k' by omega] at CFz
                          obtain ⟨t1, ht1⟩ : ∃ b, (((kd l x2 : Nat) : Int) == 0) = b := ⟨_, rfl⟩
                          obtain ⟨t2, ht2⟩ : ∃ b, (((kd l x2' : Nat) : Int) == 0) = b := ⟨_, rfl⟩
                          have TT : t1 = true → t2 = false := fun h => by
                            rw [← ht2, beq_eq_false_iff_ne]
                            rw [← ht1, beq_iff_eq] at h
                            intro h2
                            exact WBz (by omega) (by omega)
                          by_cases hkn : k < n
                          · have v1 : (k : Int) < n := by omega
                            obtain ⟨b3, off3, c3, e, a0, -⟩ := HVx.out.get (i := k) (by have := HN.out; omega)
                            injection e with e4 e5 e6
                            injection e4 with e4
                            injection e4 with e4 e7
                            subst e4 e6 e7
                            clear e5
                            obtain ⟨t3, ht3⟩ : ∃ b, (((kd l k : Nat) : Int) == 0) = b := ⟨_, rfl⟩
                            obtain ⟨t4, ht4⟩ : ∃ b, (((kd l k' : Nat) : Int) == 0) = b := ⟨_, rfl⟩
                            have TT2 : t3 = true → t4 = false := fun h => by
                              rw [← ht4, beq_eq_false_iff_ne]
                              rw [← ht3, beq_iff_eq] at h
                              intro h2
                              exact CFz (by omega) (by omega)
                            generalize ((kd l k : Nat) : Int) = y1 at a0 ht3
                            generalize ((kd l k' : Nat) : Int) = y2 at d0 ht4
                            generalize ((kd l x2 : Nat) : Int) = y3 at g0 ht1
                            generalize ((kd l x2' : Nat) : Int) = y4 at h0 ht2
                            clear hk' hx2' WBz CFz
                            have HT1 := Lib.hid TT
                            have HT2 := Lib.hid TT2
                            clear TT TT2
                            cases t3 <;> cases t1
                            · go_wp2_with fail
                              go_roundg (m - (i + 1))
                              case measure => omega
                              case rel => exact ⟨i + 1, by go_num, by omega, Nat.le_refl _, Lib.hid (hB.out.trans (hY.out.below.mono hB.out.size))⟩
                            · obtain rfl := HT1.out rfl
                              go_wp2_with fail
                              go_roundg (m - (i + 1))
                              case measure => omega
                              case rel => exact ⟨i + 1, by go_num, by omega, Nat.le_refl _, Lib.hid (hB.out.trans (hY.out.below.mono hB.out.size))⟩
                            · obtain rfl := HT2.out rfl
                              go_wp2_with fail
                              go_roundg (m - (i + 1))
                              case measure => omega
                              case rel => exact ⟨i + 1, by go_num, by omega, Nat.le_refl _, Lib.hid (hB.out.trans (hY.out.below.mono hB.out.size))⟩
                            · obtain rfl := HT1.out rfl
                              obtain rfl := HT2.out rfl
                              go_wp2_with fail
                              go_roundg (m - (i + 1))
                              case measure => omega
                              case rel => exact ⟨i + 1, by go_num, by omega, Nat.le_refl _, Lib.hid (hB.out.trans (hY.out.below.mono hB.out.size))⟩
                          · have v1 : ¬ (k : Int) < n := by omega
                            generalize ((kd l x2 : Nat) : Int) = y3 at g0 ht1
                            generalize ((kd l x2' : Nat) : Int) = y4 at h0 ht2
                            clear hk' hx2' WBz CFz d0
                            have HT1 := Lib.hid TT
                            clear TT
                            cases t1
                            · go_wp2_with fail
                              go_roundg (m - (i + 1))
                              case measure => omega
                              case rel => exact ⟨i + 1, by go_num, by omega, Nat.le_refl _, Lib.hid (hB.out.trans (hY.out.below.mono hB.out.size))⟩
                            · obtain rfl := HT1.out rfl
                              go_wp2_with fail
                              go_roundg (m - (i + 1))
                              case measure => omega
                              case rel => exact ⟨i + 1, by go_num, by omega, Nat.le_refl _, Lib.hid (hB.out.trans (hY.out.below.mono hB.out.size))⟩
                · obtain rfl : j = n := by omega
                  have z1 : ¬ (j : Int) < j := by omega
                  have zj : ((j : Int) == j) = true := by simp
                  generalize sumI l x1 j = ss
                  go_wp2_with fail
                  go_roundg (m - (i + 1))
                  case measure => omega
                  case rel => exact ⟨i + 1, by go_num, by omega, Nat.le_refl _, Lib.hid (hB.out.trans (hX.out.below.mono hB.out.size))⟩
            · go_wp2_with fail
              go_quiet (fail)
              have HX1 := Lib.hid (HX0.out.keep (drewN_below _ nq _))
              clear hx0 hx1 hx2 c0 c1 c2 HX0 HVz q7
              generalize World.drewN _ nq = wa at HX1 ⊢
              go_wp2_with fail
              go_loopg [9, 10] n (fun h2 vn vt wr => ∃ j : Nat, vt = .int .i64 j ∧ vn = .int .i64 (sumI l x1 j) ∧ x2 ≤ j ∧ j ≤ n ∧ n - j ≤ h2 ∧ Hid (∀ k, x2 ≤ k → k < j → kd l k = 1) ∧ Hid (XAt wo wr x1 x2 x3))
              case atStart => exact ⟨x2, rfl, by rw [← SU.out], Nat.le_refl _, e3, Nat.sub_le _ _, Lib.hid (fun k h1 h2 => absurd h2 (by omega)), HX1⟩
              case round =>
                obtain ⟨j, rfl, rfl, hj1, hj2, hg2, hJ, hX⟩ := hrel
                clear HX1
                have HVy := Lib.hid (V3.out.keep (hB.out.trans (hX.out.below.mono hB.out.size)))
                have hx1 := hX.out.c1
                by_cases hjn : j < n
                · have z1 : (j : Int) < n := by omega
                  have z0 : (0 : Int) ≤ j := by omega
                  have zj : ((j : Int) == n) = false := beq_eq_false_iff_ne.2 (by omega)
                  have wj : IntKind.i64.wrap ((j : Int) + 1) = (j : Int) + 1 := IntWalk.i64_in _ (by omega)
                  obtain ⟨b2, off2, c2, e, a0, a1⟩ := HVy.out.get (i := j) (by have := HN.out; omega)
                  injection e with e4 e5 e6
                  injection e4 with e4
                  injection e4 with e4 e7
                  subst e4 e6 e7
                  clear e5
                  have SS := Lib.hid (sum_succ l x1 j)
                  have wss : IntKind.i64.wrap (sumI l x1 j + wd l j) = sumI l x1 j + wd l j := by
                    rw [← sum_succ]
                    have hw2 : Within l 1099511627776 := fun i hi => by have := HWi.out i hi; omega
                    exact IntWalk.i64_in _ (sum_64 hw2 x1 (j + 1) (by omega) (by omega))
                  by_cases k1 : kd l j = 1
                  · have p1 : (((kd l j : Nat) : Int) == 1) = true := by rw [k1]; rfl
                    have HJ2 := Lib.hid (show ∀ k, x2 ≤ k → k < j + 1 → kd l k = 1 from fun k h1 h2 => by
                      by_cases e : k = j
                      · rw [e]; exact k1
                      · exact hJ.out k h1 (by omega))
                    generalize ((kd l j : Nat) : Int) = y at a0 p1
                    generalize wd l j = z at a1 wss SS
                    generalize hss : sumI l x1 j = ss at wss SS
                    clear hss k1
                    go_wp2_with fail
                    go_roundg (n - (j + 1))
                    case measure => omega
                    case rel => exact ⟨j + 1, by go_num, by rw [SS.out], by omega, by omega, Nat.le_refl _, HJ2, hX⟩
                  · have p1 : (((kd l j : Nat) : Int) == 1) = false := beq_eq_false_iff_ne.2 (by omega)
                    have BE : Hid (behind l x2 = j) := Lib.hid (behind_of hj1 (fun k h1 h2 => hJ.out k h1 h2) k1)
                    by_cases k2 : kd l j = 2
                    · have p2 : (((kd l j : Nat) : Int) == 2) = true := by rw [k2]; rfl
                      generalize ((kd l j : Nat) : Int) = y at a0 p1 p2
                      clear k1 k2 wss
                      generalize sumI l x1 j = ss
                      go_wp2_with fail
                      go_roundg (m - (i + 1))
                      case measure => omega
                      case rel => exact ⟨i + 1, by go_num, by omega, Nat.le_refl _, Lib.hid (hB.out.trans (hX.out.below.mono hB.out.size))⟩
                    · have p2 : (((kd l j : Nat) : Int) == 2) = false := beq_eq_false_iff_ne.2 (by omega)
                      have hsol : Solid l j := by
                        rcases behind_kd HG.out x2 with h | h | h
                        · rw [BE.out] at h; exact h
                        · rw [BE.out] at h; exact absurd h.1 k2
                        · rw [BE.out] at h; have := HN.out; omega
                      have CF := Lib.hid (cluster_facts hsol)
                      have STP := Lib.hid (show x < sumI l x1 (clusterT l j) by
                        have := EN.out.stop (by omega) (by rw [BE.out]; exact hsol)
                        rwa [BE.out] at this)
                      have WB := Lib.hid (EN.out.some (by omega)).2.2
                      obtain ⟨T, hT⟩ : ∃ T, clusterT l j = T := ⟨_, rfl⟩
                      rw [hT] at CF STP
                      have tj : j + 1 ≤ T := CF.out.1
                      have tn : T ≤ n := by have := CF.out.2.1; have := HN.out; omega
                      obtain ⟨ky, hky⟩ : ∃ y, ((kd l j : Nat) : Int) = y := ⟨_, rfl⟩
                      rw [hky] at a0 p1 p2
                      obtain ⟨zz, hzz⟩ : ∃ z, wd l j = z := ⟨_, rfl⟩
                      rw [hzz] at a1 wss SS
                      obtain ⟨ss, hss⟩ : ∃ z, sumI l x1 j = z := ⟨_, rfl⟩
                      rw [hss] at wss SS ⊢
                      clear k1 k2 hsol hT hky hzz hss
                      go_wp2_with fail
                      clear a0 a1 wss p1 p2 hx1
                      go_loopg [9, 10] n (fun h3 vn vt wr => ∃ k : Nat, vt = .int .i64 k ∧ vn = .int .i64 (sumI l x1 k) ∧ j + 1 ≤ k ∧ k ≤ T ∧ n - k ≤ h3 ∧ Hid (XAt wo wr x1 x2 x3))
                      case atStart => exact ⟨j + 1, by go_num, by rw [SS.out], Nat.le_refl _, tj, Nat.sub_le _ _, hX⟩
                      case round =>
                        obtain ⟨k, rfl, rfl, hk1, hk2, hg3, hY⟩ := hrel
                        clear hX HVy
                        have HVx := Lib.hid (V3.out.keep (hB.out.trans (hY.out.below.mono hB.out.size)))
                        have hx1 := hY.out.c1
                        obtain ⟨k', hk'⟩ : ∃ k', k = k' + 1 := ⟨k - 1, by omega⟩
                        have wk' : IntKind.i64.wrap ((k : Int) - 1) = (k' : Int) := by rw [IntWalk.i64_in _ (by omega)]; omega
                        have u0 : (0 : Int) ≤ k' := by omega
                        have u1 : (k' : Int) < n := by omega
                        have v0 : (0 : Int) ≤ k := by omega
                        have wk : IntKind.i64.wrap ((k : Int) + 1) = (k : Int) + 1 := IntWalk.i64_in _ (by omega)
                        obtain ⟨b3, off3, c3, e, d0, -⟩ := HVx.out.get (i := k') (by have := HN.out; omega)
                        injection e with e4 e5 e6
                        injection e4 with e4
                        injection e4 with e4 e7
                        subst e4 e6 e7
                        clear e5
                        by_cases hkT : k < T
                        · have v1 : (k : Int) < n := by omega
                          obtain ⟨b3, off3, c3, e, a0, a1⟩ := HVx.out.get (i := k) (by have := HN.out; omega)
                          injection e with e4 e5 e6
                          injection e4 with e4
                          injection e4 with e4 e7
                          subst e4 e6 e7
                          clear e5
                          have Z := CF.out.2.2.2.2 k (by omega) hkT
                          rw [show k - 1 = k' by omega] at Z
                          have p1 : (((kd l k : Nat) : Int) == 0) = true := by rw [Z.2]; rfl
                          have p2 : (((kd l k' : Nat) : Int) == 0) = true := by rw [Z.1]; rfl
                          have SS2 := Lib.hid (sum_succ l x1 k)
                          have wss : IntKind.i64.wrap (sumI l x1 k + wd l k) = sumI l x1 k + wd l k := by
                            rw [← sum_succ]
                            have hw2 : Within l 1099511627776 := fun i hi => by have := HWi.out i hi; omega
                            exact IntWalk.i64_in _ (sum_64 hw2 x1 (k + 1) (by omega) (by omega))
                          generalize ((kd l k : Nat) : Int) = y at a0 p1
                          generalize ((kd l k' : Nat) : Int) = y' at d0 p2
                          generalize wd l k = z at a1 wss SS2
                          generalize hss : sumI l x1 k = ss2 at wss SS2
                          clear hss Z hk'
                          go_wp2_with fail
                          go_roundg (n - (k + 1))
                          case measure => omega
                          case rel => exact ⟨k + 1, by go_num, by rw [SS2.out], by omega, by omega, Nat.le_refl _, hY⟩
                        · obtain rfl : k = T := by omega
                          have STPz : ¬ sumI l x1 k ≤ x := by have := STP.out; omega
                          generalize sumI l x1 k = ss2 at STPz ⊢
                          have hz2 : (x2 : Int) < n := by omega
                          have hz20 : (0 : Int) ≤ x2 := by omega
                          obtain ⟨x2', hx2'⟩ : ∃ t, x2 = t + 1 := ⟨x2 - 1, by omega⟩
                          have wx2 : IntKind.i64.wrap ((x2 : Int) - 1) = (x2' : Int) := by rw [IntWalk.i64_in _ (by omega)]; omega
                          have r0 : (0 : Int) ≤ x2' := by omega
                          have r1 : (x2' : Int) < n := by omega
                          obtain ⟨b3, off3, c3, e, g0, -⟩ := HVx.out.get (i := x2) (by have := HN.out; omega)
                          injection e with e4 e5 e6
                          injection e4 with e4
                          injection e4 with e4 e7
                          subst e4 e6 e7
                          clear e5
                          obtain ⟨b3, off3, c3, e, h0, -⟩ := HVx.out.get (i := x2') (by have := HN.out; omega)
                          injection e with e4 e5 e6
                          injection e4 with e4
                          injection e4 with e4 e7
                          subst e4 e6 e7
                          clear e5
                          have WBz := WB.out
                          rw [show x2 - 1 = x2' by omega] at WBz
                          have CFz := CF.out.2.2.2.1
                          rw [show k - 1 = k' by omega] at CFz
                          obtain ⟨t1, ht1⟩ : ∃ b, (((kd l x2 : Nat) : Int) == 0) = b := ⟨_, rfl⟩
                          obtain ⟨t2, ht2⟩ : ∃ b, (((kd l x2' : Nat) : Int) == 0) = b := ⟨_, rfl⟩
                          have TT : t1 = true → t2 = false := fun h => by
                            rw [← ht2, beq_eq_false_iff_ne]
                            rw [← ht1, beq_iff_eq] at h
                            intro h2
                            exact WBz (by omega) (by omega)
                          by_cases hkn : k < n
                          · have v1 : (k : Int) < n := by omega
                            obtain ⟨b3, off3, c3, e, a0, -⟩ := HVx.out.get (i := k) (by have := HN.out; omega)
                            injection e with e4 e5 e6
                            injection e4 with e4
                            injection e4 with e4 e7
                            subst e4 e6 e7
                            clear e5
                            obtain ⟨t3, ht3⟩ : ∃ b, (((kd l k : Nat) : Int) == 0) = b := ⟨_, rfl⟩
                            obtain ⟨t4, ht4⟩ : ∃ b, (((kd l k' : Nat) : Int) == 0) = b := ⟨_, rfl⟩
                            have TT2 : t3 = true → t4 = false := fun h => by
                              rw [← ht4, beq_eq_false_iff_ne]
                              rw [← ht3, beq_iff_eq] at h
                              intro h2
                              exact CFz (by omega) (by omega)
                            generalize ((kd l k : Nat) : Int) = y1 at a0 ht3
                            generalize ((kd l k' : Nat) : Int) = y2 at d0 ht4
                            generalize ((kd l x2 : Nat) : Int) = y3 at g0 ht1
                            generalize ((kd l x2' : Nat) : Int) = y4 at h0 ht2
                            clear hk' hx2' WBz CFz
                            have HT1 := Lib.hid TT
                            have HT2 := Lib.hid TT2
                            clear TT TT2
                            cases t3 <;> cases t1
                            · go_wp2_with fail
                              go_roundg (m - (i + 1))
                              case measure => omega
                              case rel => exact ⟨i + 1, by go_num, by omega, Nat.le_refl _, Lib.hid (hB.out.trans (hY.out.below.mono hB.out.size))⟩
                            · obtain rfl := HT1.out rfl
                              go_wp2_with fail
                              go_roundg (m - (i + 1))
                              case measure => omega
                              case rel => exact ⟨i + 1, by go_num, by omega, Nat.le_refl _, Lib.hid (hB.out.trans (hY.out.below.mono hB.out.size))⟩
                            · obtain rfl := HT2.out rfl
                              go_wp2_with fail
                              go_roundg (m - (i + 1))
                              case measure => omega
                              case rel => exact ⟨i + 1, by go_num, by omega, Nat.le_refl _, Lib.hid (hB.out.trans (hY.out.below.mono hB.out.size))⟩
                            · obtain rfl := HT1.out rfl
                              obtain rfl := HT2.out rfl
                              go_wp2_with fail
                              go_roundg (m - (i + 1))
                              case measure => omega
                              case rel => exact ⟨i + 1, by go_num, by omega, Nat.le_refl _, Lib.hid (hB.out.trans (hY.out.below.mono hB.out.size))⟩
                          · have v1 : ¬ (k : Int) < n := by omega
                            generalize ((kd l x2 : Nat) : Int) = y3 at g0 ht1
                            generalize ((kd l x2' : Nat) : Int) = y4 at h0 ht2
                            clear hk' hx2' WBz CFz d0
                            have HT1 := Lib.hid TT
                            clear TT
                            cases t1
                            · go_wp2_with fail
                              go_roundg (m - (i + 1))
                              case measure => omega
                              case rel => exact ⟨i + 1, by go_num, by omega, Nat.le_refl _, Lib.hid (hB.out.trans (hY.out.below.mono hB.out.size))⟩
                            · obtain rfl := HT1.out rfl
                              go_wp2_with fail
                              go_roundg (m - (i + 1))
                              case measure => omega
                              case rel => exact ⟨i + 1, by go_num, by omega, Nat.le_refl _, Lib.hid (hB.out.trans (hY.out.below.mono hB.out.size))⟩
                · obtain rfl : j = n := by omega
                  have z1 : ¬ (j : Int) < j := by omega
                  have zj : ((j : Int) == j) = true := by simp
                  generalize sumI l x1 j = ss
                  go_wp2_with fail
                  go_roundg (m - (i + 1))
                  case measure => omega
                  case rel => exact ⟨i + 1, by go_num, by omega, Nat.le_refl _, Lib.hid (hB.out.trans (hX.out.below.mono hB.out.size))⟩
      · obtain rfl : i = m := by omega
        have hz : ¬ (i : Int) < i := by omega
        go_wp2_with fail
        go_ret
        exact ⟨rfl, B3.out.trans (hB.out.mono B3.out.size)⟩
/-- the law's walk, of items that came in -/
theorem long10_in (hF : FillOK 11) (hA : AwakeOK10 15) (a0 : Option Addr) (len0 cap0 : Nat) (z0 : List It) (a1 : Int) (w : World) (w0 : ItemsIn w a0 len0 cap0 z0) (_w1 : (Lit.int .i64 a1).wf = true) :
    Calls Try.prog 5 #[.slice a0 len0 cap0, .int .i64 a1] w fun e w' => e = .returned (.bool true) ∧ Below w.heap.size w w' := by
  obtain ⟨h1, rfl, h3, h4, h5⟩ := w0
  exact long10 hF hA z0 _ a1 w h1 h5
end Go.Proofs.Ytpfeiiabplaghaa
