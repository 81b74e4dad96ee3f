/-
  The law BlockStacks: of any Stack that answers as is asked.
-/
import Derived.Test.YtidbfkbeploagaaNear14
import Derived.Test.YtidbfkbeploagaaRefStack14
namespace Go.Proofs.Ytidbfkbeploagaa
open Go.RowKit

theorem stack_len (l : List Kd) (above below : Bool) : (stackA l above below).1.ats.length ≤ l.length := by
  unfold stackA
  split
  · simp [skZ]
  · split
    · unfold toldS endS
      split <;> (dsimp only; rw [atsS_len]; exact Nat.le_refl _)
    · simp [skZ]
theorem stack_big (l : List Kd) (above below : Bool) : ∀ y ∈ (stackA l above below).1.ats, -9223372036854775808 ≤ y ∧ y ≤ 9223372036854775807 := by
  intro y hy
  unfold stackA at hy
  split at hy
  · simp [skZ] at hy
  · next h =>
    split at hy
    · have h0 : askedE l = 0 := by
        by_cases e : askedE l = 0
        · exact e
        · exact absurd e h
      obtain ⟨h1, h2⟩ := askedE_ok h0
      have e : (toldS l above below).ats = atsS (startS above) l := by unfold toldS endS; split <;> rfl
      dsimp only at hy
      rw [e] at hy
      have := ats_bd h2 h1 above y hy
      omega
    · simp [skZ] at hy
set_option maxRecDepth 100000 in
set_option maxHeartbeats 8000000 in
theorem stacks14 (hS : StackOK 10) (A : Option Addr) (n c : Nat) (l : List Kd) (above below : Bool) (w : World) (hv : KdIn w (.slice A n c) l) (hl : l.length = n) (hbig : BigK l) :
    Calls Try.prog 3 #[.slice A n c, .bool above, .bool below] w fun e w' => e = .returned (.bool true) ∧ Below w.heap.size w w' := by
  have HV := Lib.hid hv
  have HL := Lib.hid hl
  by_cases h21 : 2100 < n
  · have hz : (2100 : Int) < n := by omega
    clear hl hv
    go_enter Try.func3, Try.ntmps3
    go_wp2_with fail
    go_ret
    exact ⟨rfl, Below.refl _ w⟩
  · have hz : ¬ (2100 : Int) < n := by omega
    have hn : n ≤ 2100 := by omega
    have KR := Lib.hid (fun v W (hW : KdIn W v l) => refStack14 l v above below W hW (by omega) hbig)
    have KB := Lib.hid (fun v W (hW : KdIn W v l) => hS l v above below W hW (by omega) hbig)
    have RB := Lib.hid (stack_big l above below)
    have RL : Hid ((stackA l above below).1.ats.length ≤ 2100) := Lib.hid (by have := stack_len l above below; omega)
    obtain ⟨R, hR⟩ : ∃ R, stackA l above below = R := ⟨_, rfl⟩
    rw [hR] at KR KB RB RL
    obtain ⟨⟨ats, h, ⟨t1, t2⟩, ⟨b1, b2⟩, thr⟩, f⟩ := R
    unfold skV at KR KB
    dsimp only at KR KB RB RL
    clear hv hbig hS hl hR
    go_enter Try.func3, Try.ntmps3
    go_upto_region 5 with ((with_reducible change wpList _ _ _ (Oper.mk (some 20) _ _ _ _ _ :: _) _ _); refine wpList_append_kids rfl _ _ rfl w.heap.size (.slice none 0 0) [] rfl (ownsK.nil _ _) l (.slice A n c) rfl HV.out (by have := HL.out; simp only [List.length_nil]; omega) (Nat.le_refl _) ?_; intro mine w1 hO hB _; obtain ⟨A1, c1, e1, -, -, -⟩ := own_form hO; rw [List.nil_append, HL.out] at e1; have O1 : Hid (KdIn w1 mine l) := Lib.hid hO.kids; have B1 := Lib.hid hB; clear hO hB; subst e1)
    have V1 := Lib.hid (HV.out.keep B1.out)
    go_upto_region 6 with (go_at_call 9; (with_reducible refine (KR.out _ _ V1.out).mono ?_); rintro e w2 ⟨vB, rfl, hO, hb⟩; obtain ⟨A2, n2, c2, rfl⟩ : ∃ A n c, vB = Value.slice A n c := (by obtain ⟨A9, c9, e9, -, -, -⟩ := own_form hO; exact ⟨_, _, _, e9⟩); have OB := Lib.hid hO; have B2 := Lib.hid (b_next B1.out hb); have V2 := Lib.hid (V1.out.keep hb); have O2 := Lib.hid (O1.out.keep hb); clear hO hb)
    have W3 := Lib.hid (SkAt.new w2 (.slice A2 n2 c2) ⟨ats, h, (t1, t2), (b1, b2), thr⟩)
    have C3 : Hid (Below w2.heap.size w2 (w2.alloc (.cells (skCells (.slice A2 n2 c2) ⟨ats, h, (t1, t2), (b1, b2), thr⟩).toArray 27))) := Lib.hid ((Below.refl _ _).alloc (Nat.le_refl _) _)
    have B3 := Lib.hid (b_next B2.out C3.out)
    have V3 := Lib.hid (V2.out.keep C3.out)
    have O3 := Lib.hid (O2.out.keep C3.out)
    have D3 := Lib.hid (OB.out.keep C3.out)
    clear KR V1 O1 B1 V2 O2 B2 OB C3
    have KS := Lib.hid (fun va W (h1 : ownsI14 W w1.heap.size (.slice A2 n2 c2) ats) Ba (h2 : ownsI14 W Ba va ats) => refSame14 va (.slice A2 n2 c2) ⟨ats, h, (t1, t2), (b1, b2), thr⟩ W h2 h1 RB.out (by show ats.length ≤ 100000; have := RL.out; omega))
    unfold skV at KS
    unfold skCells at W3 B3 V3 O3 D3
    dsimp only at KS W3 B3 V3 O3 D3
    have W3 : Hid (SkAt _ _ (.slice A2 n2 c2) ⟨ats, h, (t1, t2), (b1, b2), thr⟩) := W3
    generalize w2.alloc (.cells #[.slice A2 n2 c2, .int .i64 h, .int .i64 t1, .int .i64 t2, .int .i64 b1, .int .i64 b2, .bool thr] 27) = w3 at W3 B3 V3 O3 D3 ⊢
    generalize w2.heap.size = g at W3 ⊢
    have ff : (f == f) = true := by simp
    have fn : ((f : Int) != f) = (!true) := by simp
    go_wp2_with fail
    go_loopg [10] 2 (fun g1 vt wr => ∃ k : Nat, vt = .int .i64 k ∧ k ≤ 2 ∧ 2 - k ≤ g1 ∧ Hid (Below w3.heap.size w3 wr))
    case atStart => exact ⟨0, rfl, by omega, by omega, Lib.hid (Below.refl _ _)⟩
    case round =>
      obtain ⟨k, rfl, hk, hg1, HB⟩ := hrel
      obtain ⟨wo, hwo⟩ : ∃ wo, wo = wr := ⟨_, rfl⟩
      subst hwo
      by_cases hlt : k < 2
      · have hz1 : (k : Int) < 2 := by omega
        have wi : IntKind.i64.wrap ((k : Int) + 1) = (k : Int) + 1 := IntWalk.i64_in _ (by omega)
        go_upto_region 10 with (go_at_call 10; (with_reducible refine (KB.out _ _ (O3.out.keep HB.out)).mono ?_); rintro e w6 ⟨vA, rfl, hO, hb⟩; obtain ⟨A6, n6, c6, rfl⟩ : ∃ A n c, vA = Value.slice A n c := (by obtain ⟨A9, c9, e9, -, -, -⟩ := own_form hO; exact ⟨_, _, _, e9⟩); have O6 := Lib.hid hO; have B6 := Lib.hid hb; clear hO hb)
        have W7 := Lib.hid (SkAt.new w6 (.slice A6 n6 c6) ⟨ats, h, (t1, t2), (b1, b2), thr⟩)
        have C7 : Hid (Below w6.heap.size w6 (w6.alloc (.cells (skCells (.slice A6 n6 c6) ⟨ats, h, (t1, t2), (b1, b2), thr⟩).toArray 27))) := Lib.hid ((Below.refl _ _).alloc (Nat.le_refl _) _)
        have B7 := Lib.hid (B6.out.trans (C7.out.mono B6.out.size))
        have O7 := Lib.hid (O6.out.keep C7.out)
        have G7 : Hid (∀ gg, (Value.slice A6 n6 c6).ownBlock = some gg → gg < w6.heap.size) := Lib.hid (fun gg hg => by
          rcases O6.out.2 with ⟨e, -⟩ | ⟨g', cap, cur, e, -, hw, -⟩
          · rw [e] at hg; cases hg
          · rw [e] at hg
            obtain rfl : g' = gg := by simpa [Value.ownBlock] using hg
            exact (Array.getElem?_eq_some_iff.1 hw).1)
        have F7 : Hid (n6 = ats.length) := Lib.hid (by
          obtain ⟨A9, c9, e9, -, -, -⟩ := own_form O6.out
          injection e9)
        have N7 : Hid (A6 = none → n6 = 0) := Lib.hid (fun e => by
          obtain ⟨A9, c9, e9, -, -, h0⟩ := own_form O6.out
          injection e9 with x1 x2 x3
          rw [x2]
          exact (h0 (x1 ▸ e)).1)
        clear C7 B6 O6
        unfold skCells at W7 B7 O7
        dsimp only at W7 B7 O7
        have W7 : Hid (SkAt _ _ (.slice A6 n6 c6) ⟨ats, h, (t1, t2), (b1, b2), thr⟩) := W7
        generalize w6.alloc (.cells #[.slice A6 n6 c6, .int .i64 h, .int .i64 t1, .int .i64 t2, .int .i64 b1, .int .i64 b2, .bool thr] 27) = w7 at W7 B7 O7 ⊢
        have Z7 := Lib.hid (HB.out.trans (B7.out.mono HB.out.size))
        generalize w6.heap.size = g2 at W7 G7 ⊢
        obtain ⟨x0, x1, x2, x3, x4, x5, x6⟩ := W7.out.cells
        obtain ⟨y0, y1, y2, y3, y4, y5, y6⟩ := (W3.out.keep Z7.out).cells
        dsimp only at x1 x2 x3 x4 x5 x6 y1 y2 y3 y4 y5 y6
        go_upto_region 12 with (go_at_call 11; (with_reducible refine (KS.out _ _ (D3.out.keep Z7.out) _ O7.out).mono ?_); rintro e w8 ⟨rfl, hb⟩; have B8 := Lib.hid hb; clear hb)
        clear x0 x1 x2 x3 x4 x5 x6 y0 y1 y2 y3 y4 y5 y6
        have Z8 := Lib.hid (b_next Z7.out B8.out)
        have W8 := Lib.hid (W7.out.keep B8.out)
        have O8 := Lib.hid (O7.out.keep B8.out)
        have Y8 := Lib.hid (B7.out.trans (B8.out.mono B7.out.size))
        clear W7 O7 B7 Z7 B8
        go_wp2_with fail
        go_loopg [13] n (fun g2' vi wr => ∃ i : Nat, vi = .int .i64 i ∧ i ≤ n ∧ n - i ≤ g2' ∧ Hid (Below w8.heap.size w8 wr))
        case atStart => exact ⟨0, rfl, by omega, by omega, Lib.hid (Below.refl _ _)⟩
        case round =>
          obtain ⟨i, rfl, hi, hg2, HB2⟩ := hrel
          obtain ⟨w9, hw9⟩ : ∃ w9, w9 = wr := ⟨_, rfl⟩
          subst hw9
          by_cases hli : i < n
          · have hy1 : (i : Int) < n := by omega
            have hy0 : (0 : Int) ≤ i := by omega
            have wj : IntKind.i64.wrap ((i : Int) + 1) = (i : Int) + 1 := IntWalk.i64_in _ (by omega)
            obtain ⟨bm, offm, cm, e, -, -, hm⟩ := ((O3.out.keep Z8.out).keep HB2.out).get (i := i) (by have := HL.out; omega)
            injection e with e1 e2 e3
            subst e1 e3
            clear e2
            obtain ⟨bl, offl, cl, e, -, -, hl⟩ := ((V3.out.keep Z8.out).keep HB2.out).get (i := i) (by have := HL.out; omega)
            injection e with e1 e2 e3
            subst e1 e3
            clear e2
            have hm := hm i (by have := HL.out; omega)
            have hl := hl i (by have := HL.out; omega)
            generalize kAt l i = x at hm hl
            obtain ⟨⟨tu, td⟩, ⟨bu, bd⟩, hh, th⟩ := x
            unfold KdAt at hm hl
            dsimp only at hm hl
            obtain ⟨m0, m1, m2, m3, m4, m5⟩ := hm
            obtain ⟨l0, l1, l2, l3, l4, l5⟩ := hl
            have k0 : (tu == tu) = true := by simp
            have k1 : (td == td) = true := by simp
            have k2 : (bu == bu) = true := by simp
            have k3 : (bd == bd) = true := by simp
            have k4 : (hh == hh) = true := by simp
            have k5 : (th == th) = true := by simp
            go_wp2_with fail
            go_quiet (fail)
            have B9 : Hid (Below w8.heap.size w8 (w9.drewN nq)) := Lib.hid (b_next HB2.out (drewN_below w9 nq w9.heap.size))
            go_wp2_with fail
            go_roundg (n - (i + 1))
            case measure => omega
            case rel => exact ⟨i + 1, by go_num, by omega, Nat.le_refl _, B9⟩
          · have hy1 : ¬ (i : Int) < n := by omega
            have O9 := Lib.hid (O8.out.keep HB2.out)
            have W9 := Lib.hid (W8.out.keep HB2.out)
            have Y9 := Lib.hid (Y8.out.trans (HB2.out.mono Y8.out.size))
            clear O8 W8 Y8
            go_wp2_with fail
            go_loopg [14] n6 (fun g3 vi wr => ∃ (j : Nat) (zs : List Int), vi = .int .i64 j ∧ j ≤ n6 ∧ n6 - j ≤ g3 ∧ Hid (zs.length = n6) ∧ Hid (ownsI14 wr wo.heap.size (.slice A6 n6 c6) zs) ∧ Hid (SkAt wr g2 (.slice A6 n6 c6) ⟨ats, h, (t1, t2), (b1, b2), thr⟩) ∧ Hid (Below wo.heap.size wo wr))
            case atStart => exact ⟨0, ats, rfl, by omega, by omega, Lib.hid F7.out.symm, O9, W9, Y9⟩
            case round =>
              obtain ⟨j, zs, rfl, hj, hg3, HZ, HO, HW, HY⟩ := hrel
              obtain ⟨w10, hw10⟩ : ∃ w10, w10 = wr := ⟨_, rfl⟩
              subst hw10
              obtain ⟨x0, -, -, -, -, -, -⟩ := HW.out.cells
              by_cases hlj : j < n6
              · have hy2 : (j : Int) < n6 := by omega
                have hy3 : (0 : Int) ≤ j := by omega
                have wj : IntKind.i64.wrap ((j : Int) + 1) = (j : Int) + 1 := IntWalk.i64_in _ (by have := F7.out; have := RL.out; omega)
                have HO' := HO.out
                unfold ownsI14 at HO'
                rw [HZ.out] at HO'
                obtain ⟨g9, c9, e9, hc1, hc2, hc3, hc4, hc5, hc6⟩ := own_at HO' (by omega)
                injection e9 with e1 e2 e3
                subst e1 e3
                clear e2
                have z9 := hc6 j
                obtain ⟨z, c9'⟩ : ∃ z, w10.cell? ⟨g9, j, none⟩ = some (.int .i64 z) := ⟨_, hc5 j _ (by rw [List.getElem?_map, List.getElem?_eq_getElem (by have := HZ.out; omega)]; rfl)⟩
                have hne : ¬ g9 = g2 := by have := G7.out g9 rfl; omega
                obtain ⟨s1, s2⟩ := own_set HO' j (.int .i64 (-5))
                have S1 : Hid (ownsI14 (w10.setCell ⟨g9, j, none⟩ (.int .i64 (-5))) wo.heap.size (.slice (some ⟨g9, 0, none⟩) n6 c6) (zs.set j (-5))) := Lib.hid (by
                  unfold ownsI14
                  rw [List.length_set, HZ.out, List.map_set]
                  exact s1)
                have S2 := Lib.hid (HY.out.trans s2)
                have S3 := Lib.hid (HW.out.off (j := j) (u := .int .i64 (-5)) hne)
                have SZ : Hid ((zs.set j (-5)).length = n6) := Lib.hid (by rw [List.length_set]; exact HZ.out)
                clear s1 s2 hc1 hc2 hc3 hc4 hc5 hc6 HO' HO HW HY HZ
                go_wp2_with fail
                go_roundg (n6 - (j + 1))
                case measure => omega
                case rel => exact ⟨j + 1, zs.set j (-5), by go_num, by omega, Nat.le_refl _, SZ, S1, S3, S2⟩
              · have hy2 : ¬ (j : Int) < n6 := by omega
                have ZZ := Lib.hid (HB.out.trans (HY.out.mono HB.out.size))
                clear HO HW HZ HY
                go_wp2_with fail
                go_roundg (2 - (k + 1))
                case measure => omega
                case rel => exact ⟨k + 1, by go_num, by omega, Nat.le_refl _, ZZ⟩
      · have hz1 : ¬ (k : Int) < 2 := by omega
        go_wp2_with fail
        go_ret
        exact ⟨rfl, b_next B3.out HB.out⟩
end Go.Proofs.Ytidbfkbeploagaa
