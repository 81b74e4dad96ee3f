/-
  The law LinesAll: of any Fill that answers as is asked, and of an awake that is true.
-/
import Derived.Test.YtpfeiiabplaghaaGreat10
import Derived.Test.YtpfeiiabplaghaaOpenItems
namespace Go.Proofs.Ytpfeiiabplaghaa
open Go.RowKit

def AwakeOK10 (f : Nat) : Prop := ∀ w : World, Calls Try.prog f #[] w fun e w' => e = .returned (.bool true) ∧ Below w.heap.size w w'
theorem XAt.keep {w0 w w' : World} {a b n : Int} (h : XAt w0 w a b n) (hb : Below w.heap.size w w') : XAt w0 w' a b n :=
  ⟨h.below.trans (hb.mono (Nat.le_of_lt h.lt)), (hb.block _ h.lt).trans h.at_⟩
/-- Fill's answer of items such as are gone through -/
theorem fill_yes10 {f : Nat} (hF : FillOK f) {l : List It} {x : Int} (hg : ¬ great10 l x) (v : Value) (w : World) (hv : ItIn w v l) (hk : ∀ i, i < l.length → kd l i < 256 ∧ -9223372036854775808 ≤ wd l i ∧ wd l i ≤ 9223372036854775807) :
    Calls Try.prog f #[v, .int .i64 x] w fun e w' => ∃ u, e = .returned (.tuple #[u, .int .i64 0]) ∧ ownsL w' w.heap.size u (linesT l x) ∧ Below w.heap.size w w' := by
  obtain ⟨g1, g2, g3, g4, g5⟩ := within_great hg
  refine (hF l v x w hv (by omega) (by omega) hk).mono ?_
  rintro e w' ⟨u, h1, h2, h3⟩
  rw [fillA_yes g1 g2 (by omega) g4 g5] at h1 h2
  exact ⟨u, h1, h2, h3⟩
set_option maxRecDepth 100000 in
set_option maxHeartbeats 8000000 in
theorem all10 (hF : FillOK 11) (hA : AwakeOK10 15) (l : List It) (v : Value) (x : Int) (w : World) (hv : ItIn w v l)
    (hk : ∀ i, i < l.length → kd l i < 256 ∧ -9223372036854775808 ≤ wd l i ∧ wd l i ≤ 9223372036854775807) :
    Calls Try.prog 4 #[v, .int .i64 x] w fun e w' => e = .returned (.bool true) ∧ Below w.heap.size w w' := by
  have KA := Lib.hid (fun W => hA W)
  by_cases hg : great10 l x
  · have KG := Lib.hid (fun W (hW : ItIn W v l) => great_any10 l v x W hW true (decide_eq_true hg))
    have HV := Lib.hid hv
    obtain ⟨A, c, rfl, -, -⟩ := hv
    clear hg hk
    go_enter Try.func4, Try.ntmps4
    go_wp2_with (first
      | (go_at_call 15; (with_reducible refine (KA.out _).mono ?_); rintro e w1 ⟨rfl, hb⟩; have B1 := Lib.hid hb; have V1 := Lib.hid (HV.out.keep hb); clear hb)
      | (go_at_call 16; (with_reducible refine (KG.out _ V1.out).mono ?_); rintro e w2 ⟨rfl, hw⟩; subst hw))
    go_ret
    exact ⟨rfl, B1.out⟩
  · have KG := Lib.hid (fun W (hW : ItIn W v l) => great_any10 l v x W hW false (decide_eq_false hg))
    have KF := Lib.hid (fun W (hW : ItIn W v l) => fill_yes10 hF hg v W hW hk)
    have KS := Lib.hid (fun k z W b hb => solid_any10 k z W b hb)
    obtain ⟨g1, g2, g3, g4, g5⟩ := within_great hg
    have HG := Lib.hid g1
    have HWi := Lib.hid g2
    have FA := Lib.hid (fun y hy => fill_all (w := x) g1 _ (st_first l) y hy)
    have AL := Lib.hid (all_lines g1 x)
    have LL : Hid ((linesT l x).length ≤ l.length) := Lib.hid (by have := fill_len (l := l) x (behind l 0); unfold linesT; omega)
    obtain ⟨R, hR⟩ : ∃ R, linesT l x = R := ⟨_, rfl⟩
    rw [hR] at KF AL LL
    have FA2 : Hid (∀ y ∈ R, y.1 < l.length ∧ Ends l x y.1 y.2.1 ∧ y.2.2 = sumI l y.1 y.2.1) := Lib.hid (by
      rw [← hR]
      intro y hy
      have := FA.out y hy
      exact ⟨this.1, this.2.2.2.1, this.2.2.2.2⟩)
    have HV := Lib.hid hv
    obtain ⟨A, c, rfl, -, -⟩ := hv
    obtain ⟨n, en⟩ : ∃ n, l.length = n := ⟨_, rfl⟩
    have HN := Lib.hid en
    obtain ⟨m, em⟩ : ∃ m, R.length = m := ⟨_, rfl⟩
    have HM := Lib.hid em
    rw [en] at g3 HV KG KF FA2 ⊢
    rw [en, em] at LL
    have ml : m ≤ n := LL.out
    clear hR FA en em hg hk g1 g2 g4 g5
    go_enter Try.func4, Try.ntmps4
    go_wp2_with (first
      | (go_at_call 15; (with_reducible refine (KA.out _).mono ?_); rintro e w1 ⟨rfl, hb⟩; have B1 := Lib.hid hb; have V1 := Lib.hid (HV.out.keep hb); clear hb)
      | (go_at_call 16; (with_reducible refine (KG.out _ V1.out).mono ?_); rintro e w2 ⟨rfl, hw⟩; subst hw)
      | (go_at_call 11; (with_reducible refine (KF.out _ V1.out).mono ?_); rintro e w3 ⟨out, rfl, hO, hB⟩; obtain ⟨C, d, eo, -, hC⟩ := hO.lns; rw [HM.out] at eo; subst eo; have O3 := Lib.hid hC; have B3 := Lib.hid (B1.out.trans (hB.mono B1.out.size)); have V3 := Lib.hid (V1.out.keep hB); clear hO hB hC))
    go_loopg [7, 8] m (fun h1 va vi wr => ∃ i a : Nat, vi = .int .i64 i ∧ va = .int .i64 a ∧ i ≤ m ∧ m - i ≤ h1 ∧ a ≤ n ∧ Hid (AllIn l a (R.drop i)) ∧ Hid (Below w3.heap.size w3 wr))
    case atStart => exact ⟨0, 0, rfl, rfl, by omega, by omega, by omega, Lib.hid (by simpa using AL.out), Lib.hid (Below.refl _ _)⟩
    case round =>
      obtain ⟨i, a, rfl, rfl, hi, hg1, ha, hAL, hB⟩ := hrel
      obtain ⟨wo, hwo⟩ : ∃ wo, wo = wr := ⟨_, rfl⟩
      subst hwo
      clear AL
      by_cases hlt : i < m
      · have hz : (i : Int) < m := by omega
        have hz0 : (0 : Int) ≤ i := by omega
        have wi : IntKind.i64.wrap ((i : Int) + 1) = (i : Int) + 1 := IntWalk.i64_in _ (by omega)
        have hlp : i < R.length := by have := HM.out; omega
        obtain ⟨g, rfl, hgl, hat⟩ := O3.out (by intro e; rw [e] at hlp; simp at hlp)
        obtain ⟨x1, x2, x3, hp⟩ : ∃ p q r, R[i] = (p, q, r) := ⟨_, _, _, rfl⟩
        obtain ⟨c0, c1, c2⟩ := hat i (x1, x2, x3) (by rw [List.getElem?_eq_getElem hlp, hp])
        dsimp only at c0 c1 c2
        rw [← hB.out.cell (p := ⟨g, i * 3, none⟩) hgl] at c0
        rw [← hB.out.cell (p := ⟨g, i * 3 + 1, none⟩) hgl] at c1
        rw [← hB.out.cell (p := ⟨g, i * 3 + 2, none⟩) hgl] at c2
        obtain ⟨f1, f2, f3⟩ := FA2.out (x1, x2, x3) (by rw [← hp]; exact List.getElem_mem hlp)
        dsimp only at f1 f2 f3
        have EN := Lib.hid f2
        have SU := Lib.hid f3
        have A2 : Hid (a ≤ x1 ∧ (∀ j, a ≤ j → j < x1 → ¬ Solid l j) ∧ AllIn l x2 (R.drop (i + 1))) := Lib.hid (by
          have h := hAL.out
          rw [List.drop_eq_getElem_cons hlp, hp] at h
          cases h with
          | cons h1 h2 h3 => exact ⟨h1, h2, h3⟩)
        have e1 : a ≤ x1 := A2.out.1
        have e2 : x1 ≤ x2 := f2.lo
        have e3 : x2 ≤ n := by have := f2.hi; have := HN.out; omega
        have q1 : ¬ (x1 : Int) < a := by omega
        have q2 : ¬ (x2 : Int) < x1 := by omega
        have q3 : ¬ (n : Int) < x2 := by omega
        have q4 : ¬ (n : Int) ≤ x1 := by omega
        have HX0 := Lib.hid (XAt.new wo x1 x2 x3)
        have hx0 := HX0.out.c0
        have hx1 := HX0.out.c1
        clear hat hp f2 f3 hAL hgl
        go_wp2_with fail
        clear hx0 hx1 c0 c1 c2
        generalize wo.alloc (.cells #[.int .i64 (x1 : Nat), .int .i64 (x2 : Nat), .int .i64 x3] 34) = wa at HX0 ⊢
        go_loopg [7] x1 (fun h2 va wr => ∃ k : Nat, va = .int .i64 k ∧ a ≤ k ∧ k ≤ x1 ∧ x1 - k ≤ h2 ∧ Hid (XAt wo wr x1 x2 x3))
        case atStart => exact ⟨a, rfl, Nat.le_refl _, e1, Nat.sub_le _ _, HX0⟩
        case round =>
          obtain ⟨k, rfl, hk1, hk2, hg2, hX⟩ := hrel
          clear HX0
          have hx0 := hX.out.c0
          have HVz := Lib.hid (V3.out.keep (hB.out.trans (hX.out.below.mono hB.out.size)))
          by_cases hkx : k < x1
          · have hz1 : (k : Int) < x1 := by omega
            have hz2 : (0 : Int) ≤ k := by omega
            have hz3 : (k : Int) < n := by omega
            have wk : IntKind.i64.wrap ((k : Int) + 1) = (k : Int) + 1 := IntWalk.i64_in _ (by omega)
            obtain ⟨b, off, c', e, a0, a1⟩ := HVz.out.get (i := k) (by have := HN.out; omega)
            injection e with e4 e5 e6
            subst e4 e6
            clear e5
            have KSk := Lib.hid (fun W => KS.out (kd l k) (wd l k) W false (decide_eq_false (A2.out.2.1 k hk1 hkx)))
            go_wp2_with (go_at_call 17; (with_reducible refine (KSk.out _).mono ?_); rintro e w5 ⟨rfl, hb⟩; have HX5 := Lib.hid (hX.out.keep hb); clear hb)
            go_roundg (x1 - (k + 1))
            case measure => omega
            case rel => exact ⟨k + 1, by go_num, by omega, by omega, Nat.le_refl _, HX5⟩
          · obtain rfl : k = x1 := by omega
            have hz1 : ¬ (k : Int) < k := by omega
            have hz2 : (0 : Int) ≤ k := by omega
            have hz3 : (k : Int) < n := by omega
            have hx1 := hX.out.c1
            obtain ⟨b, off, c', e, a0, a1⟩ := HVz.out.get (i := k) (by have := HN.out; omega)
            injection e with e4 e5 e6
            subst e4 e6
            clear e5
            by_cases hem : x2 = k
            · have SU2 : Hid (x3 = 0) := Lib.hid (by rw [SU.out, hem, sum_self])
              rw [EN.out.none hem] at a0
              have hem2 := hem.symm
              subst hem2
              clear hem
              have HX6 := hX
              go_wp2_with fail
              go_loopg [7, 10] 0 (fun h3 va vn wr => ∃ z : Int, va = .int .i64 k ∧ vn = .int .i64 z ∧ z = 0 ∧ Hid (XAt wo wr k k x3))
              case atStart => exact ⟨0, rfl, rfl, rfl, HX6⟩
              case round =>
                obtain ⟨z, rfl, rfl, rfl, hY⟩ := hrel
                clear HX6
                have hx1 := hY.out.c1
                have hx2 := hY.out.c2
                rw [SU2.out] at hx2
                go_wp2_with fail
                go_roundg (m - (i + 1))
                case measure => omega
                case rel => exact ⟨i + 1, k, by go_num, rfl, by omega, Nat.le_refl _, e3, Lib.hid A2.out.2.2, Lib.hid (hB.out.trans (hY.out.below.mono hB.out.size))⟩
            · have q5 : ((x2 : Int) == (k : Int)) = false := beq_eq_false_iff_ne.2 (by omega)
              have q6 : (k : Int) < x2 := by omega
              obtain ⟨s1, s2, -⟩ := EN.out.some (by omega)
              have K1 := Lib.hid (fun W => KS.out (kd l k) (wd l k) W true (decide_eq_true s1))
              have K2 := Lib.hid (fun W => KS.out (kd l (x2 - 1)) (wd l (x2 - 1)) W true (decide_eq_true s2))
              obtain ⟨r, hr⟩ : ∃ r : Nat, x2 - 1 = r := ⟨_, rfl⟩
              have wr1 : IntKind.i64.wrap ((x2 : Int) - 1) = (r : Int) := by rw [IntWalk.i64_in _ (by omega)]; omega
              have hz4 : (r : Int) < n := by omega
              have hz5 : (0 : Int) ≤ r := by omega
              rw [hr] at K2
              have C2 : Hid (∀ W, ItIn W (.slice (some ⟨b, off, none⟩) n c) l → W.cell? ⟨b, off + r * 2, none⟩ = some (.int .u8 (kd l r : Nat)) ∧ W.cell? ⟨b, off + r * 2 + 1, none⟩ = some (.int .i64 (wd l r))) := Lib.hid (fun W hW => by
                obtain ⟨b', off', c', e, h1, h2⟩ := hW.get (i := r) (by have := HN.out; omega)
                injection e with e4
                injection e4 with e4
                injection e4 with e4 e7
                subst e4 e7
                exact ⟨h1, h2⟩)
              clear s1 s2
              go_wp2_with (first
                | (go_at_call 17; (with_reducible refine (K1.out _).mono ?_); rintro e w5 ⟨rfl, hb⟩; have HX5 := Lib.hid (hX.out.keep hb); have hy0 := HX5.out.c0; have hy1 := HX5.out.c1; have d := C2.out _ (HVz.out.keep hb); have d0 := d.1; have d1 := d.2; clear hb d)
                | (go_at_call 17; (with_reducible refine (K2.out _).mono ?_); rintro e w6 ⟨rfl, hb⟩; have HX6 := Lib.hid (HX5.out.keep hb); clear hb))
              clear HX5 hy0 hy1 d0 d1
              go_loopg [7, 10] x2 (fun h3 va vn wr => ∃ j : Nat, va = .int .i64 j ∧ vn = .int .i64 (sumI l k j) ∧ k ≤ j ∧ j ≤ x2 ∧ x2 - j ≤ h3 ∧ Hid (XAt wo wr k x2 x3))
              case atStart => exact ⟨k, rfl, by rw [sum_self], Nat.le_refl _, e2, Nat.sub_le _ _, HX6⟩
              case round =>
                obtain ⟨j, rfl, rfl, hj1, hj2, hg3, hY⟩ := hrel
                clear HX6
                have hx1 := hY.out.c1
                by_cases hjx : j < x2
                · have hz1 : (j : Int) < x2 := by omega
                  have hz2 : (0 : Int) ≤ j := by omega
                  have hz3 : (j : Int) < n := by omega
                  have wj : IntKind.i64.wrap ((j : Int) + 1) = (j : Int) + 1 := IntWalk.i64_in _ (by omega)
                  have HVy := Lib.hid (V3.out.keep (hB.out.trans (hY.out.below.mono hB.out.size)))
                  obtain ⟨b1, off1, c1, e, a2, a3⟩ := HVy.out.get (i := j) (by have := HN.out; omega)
                  injection e with e4 e5 e6
                  injection e4 with e4
                  injection e4 with e4 e7
                  subst e4 e6 e7
                  clear e5
                  have q7 : (((kd l j : Nat) : Int) == 2) = false := beq_eq_false_iff_ne.2 (by have := EN.out.hard j (by omega) hjx; omega)
                  have SS := Lib.hid (sum_succ l k j)
                  have wss : IntKind.i64.wrap (sumI l k j + wd l j) = sumI l k j + wd l j := by
                    rw [← sum_succ]
                    have hw2 : Within l 1099511627776 := fun i hi => by have := HWi.out i hi; omega
                    exact IntWalk.i64_in _ (sum_64 hw2 k (j + 1) (by omega) (by omega))
                  generalize ((kd l j : Nat) : Int) = y at a2 q7
                  generalize wd l j = z at a3 wss SS
                  generalize hss : sumI l k j = ss at wss SS
                  clear hss
                  go_wp2_with fail
                  go_roundg (x2 - (j + 1))
                  case measure => omega
                  case rel => exact ⟨j + 1, by go_num, by rw [SS.out], by omega, by omega, Nat.le_refl _, hY⟩
                · obtain rfl : j = x2 := by omega
                  have hz1 : ¬ (j : Int) < j := by omega
                  have hx2 := hY.out.c2
                  rw [← SU.out]
                  go_wp2_with fail
                  go_roundg (m - (i + 1))
                  case measure => omega
                  case rel => exact ⟨i + 1, j, by go_num, rfl, by omega, Nat.le_refl _, e3, Lib.hid A2.out.2.2, Lib.hid (hB.out.trans (hY.out.below.mono hB.out.size))⟩
      · obtain rfl : i = m := by omega
        have hz : ¬ (i : Int) < i := by omega
        have NS : Hid (∀ j, a ≤ j → ¬ Solid l j) := Lib.hid (by
          have h := hAL.out
          rw [List.drop_eq_nil_of_le (by have := HM.out; omega)] at h
          cases h with
          | nil h => exact h)
        clear hAL
        go_wp2_with fail
        go_loopg [7] n (fun h2 va wr => ∃ k : Nat, va = .int .i64 k ∧ a ≤ k ∧ k ≤ n ∧ n - k ≤ h2 ∧ Hid (Below w3.heap.size w3 wr))
        case atStart => exact ⟨a, rfl, Nat.le_refl _, ha, Nat.sub_le _ _, hB⟩
        case round =>
          obtain ⟨k, rfl, hk1, hk2, hg2, hB2⟩ := hrel
          clear hB
          by_cases hkx : k < n
          · have hz1 : (k : Int) < n := by omega
            have hz2 : (0 : Int) ≤ k := by omega
            have wk : IntKind.i64.wrap ((k : Int) + 1) = (k : Int) + 1 := IntWalk.i64_in _ (by omega)
            have HVz := Lib.hid (V3.out.keep hB2.out)
            obtain ⟨b, off, c', e, a0, a1⟩ := HVz.out.get (i := k) (by have := HN.out; omega)
            injection e with e4 e5 e6
            subst e4 e6
            clear e5
            have KSk := Lib.hid (fun W => KS.out (kd l k) (wd l k) W false (decide_eq_false (NS.out k hk1)))
            go_wp2_with (go_at_call 17; (with_reducible refine (KSk.out _).mono ?_); rintro e w5 ⟨rfl, hb⟩; have HX5 := Lib.hid (hB2.out.trans (hb.mono hB2.out.size)); clear hb)
            go_roundg (n - (k + 1))
            case measure => omega
            case rel => exact ⟨k + 1, by go_num, by omega, by omega, Nat.le_refl _, HX5⟩
          · obtain rfl : k = n := by omega
            have hz1 : ¬ (k : Int) < k := by omega
            go_wp2_with fail
            go_ret
            exact ⟨rfl, B3.out.trans (hB2.out.mono B3.out.size)⟩
/-- the law's walk, of items that came in -/
theorem all10_in (hF : FillOK 11) (hA : AwakeOK10 15) (a0 : Option Addr) (len0 cap0 : Nat) (z0 : List It) (a1 : Int) (w : World) (w0 : ItemsIn w a0 len0 cap0 z0) (_w1 : (Lit.int .i64 a1).wf = true) :
    Calls Try.prog 4 #[.slice a0 len0 cap0, .int .i64 a1] w fun e w' => e = .returned (.bool true) ∧ Below w.heap.size w w' := by
  obtain ⟨h1, rfl, h3, h4, h5⟩ := w0
  exact all10 hF hA z0 _ a1 w h1 h5
end Go.Proofs.Ytpfeiiabplaghaa
