/-
  The law FlexlineStable: of any Order that answers as is asked.
-/
import Derived.Test.YtkakencndopgbaaOrdersW15
namespace Go.Proofs.Ytkakencndopgbaa
open Go.RowKit

set_option maxRecDepth 100000 in
set_option maxHeartbeats 8000000 in
theorem stable15 (hS : OrderOK 11) (hA : AwakeOK15 16) (A : Option Addr) (n c : Nat) (f : Nat → Int) (w : World) (hI : Ints w A n f) (hc : n ≤ c ∧ c ≤ 9223372036854775807) :
    Calls Try.prog 8 #[.slice A n c] w fun e w' => e = .returned (.bool true) ∧ Below w.heap.size w w' := by
  have KA := Lib.hid (fun W => hA W)
  have HI := Lib.hid hI
  have HC := Lib.hid hc
  clear hA
  by_cases h : 300 < n
  · have hz : (300 : Int) < n := by omega
    clear hS
    go_enter Try.func8, Try.ntmps8
    go_wp2_with (go_at_call 16; (with_reducible refine (KA.out _).mono ?_); rintro e w1 ⟨rfl, hb⟩; have B1 := Lib.hid hb; clear hb)
    go_ret
    exact ⟨rfl, B1.out⟩
  have hz : ¬ (300 : Int) < n := by omega
  have hzd : decide ((300 : Int) < n) = false := decide_eq_false hz
  have hn : n ≤ 300 := by omega
  obtain ⟨q, hq⟩ := ordZ_ex f n
  have KO := Lib.hid (fun W (hW : Ints W A n f) => hS A n c f q W hW (by omega) HC.out hq)
  have HQ := Lib.hid hq
  clear hS hq hI h
  obtain ⟨ib, hi, hz0, hz1, hz2⟩ := info_parts10 Try.infoB15
  have nn : ((n : Int) != n) = (!true) := by simp
  go_enter Try.func8, Try.ntmps8
  go_upto_region 6 with (first
    | (go_at_call 16; (with_reducible refine (KA.out _).mono ?_); rintro e w1 ⟨rfl, hb⟩; have B1 := Lib.hid hb; have I1 := Lib.hid (HI.out.below hb); clear hb)
    | (go_at_call 11; (with_reducible refine (KO.out _ I1.out).mono ?_); rintro e w2 ⟨v, rfl, hO, hb⟩; obtain ⟨A2, c2, ev, -, -, -⟩ := own_form hO; rw [firstQ_len] at ev; subst ev; have O2 := Lib.hid hO; have B2 := Lib.hid (b_next15 B1.out hb); have I2 := Lib.hid (I1.out.below hb); clear hO hb))
  clear hz
  obtain ⟨g, hg⟩ : ∃ g, w2.heap.size = g := ⟨_, rfl⟩
  go_upto_region 9 with ((with_reducible change wpList _ _ _ (Oper.mk (some 20) _ _ _ _ _ :: _) _ _); refine wpList_make_full _ rfl _ _ 40 rfl w2.heap.size 4 ib _ 1 Try.underlying40 hi hz0 hz1 .i64 .i64 n n n rfl rfl rfl rfl (by rw [hz2]; omega) (by unfold maxLen; omega) (Nat.le_refl _) ?_; intro w3 hown hgrow; have O3 := Lib.hid hown; have B3 := Lib.hid ((Below.refl w2.heap.size w2).grown hgrow (Nat.le_refl _) (fun k e => by cases e)); clear hown hgrow)
  have T3 : Hid (BoolsAt w3 g n (fun _ => false)) := Lib.hid (by rw [hg] at O3; exact made_bools O3.out (own_lt15 O3.out))
  have HG := Lib.hid hg
  rw [hg] at B3
  clear O3 I1 KA KO hg hi hz0 hz1 hz2 hzd
  go_wp2_with fail
  go_loopg [5] n (fun g1 vi wr => ∃ k : Nat, vi = .int .i64 k ∧ k ≤ n ∧ n - k ≤ g1 ∧ Hid (BoolsAt wr g n (toldQ q k)) ∧ Hid (Below g w2 wr))
  case atStart => exact ⟨0, rfl, by omega, by omega, Lib.hid (T3.out.congr (fun i _ => (toldQ_zero q i).symm)), B3⟩
  case round =>
    obtain ⟨k, rfl, hk, hg1, HT, HB⟩ := hrel
    obtain ⟨wo, hwo⟩ : ∃ wo, wo = wr := ⟨_, rfl⟩
    subst hwo
    have HB' : Hid (Below w2.heap.size w2 wo) := Lib.hid (by rw [HG.out]; exact HB.out)
    by_cases hlt : k < n
    · have hz : (k : Int) < n := by omega
      have hz0 : (0 : Int) ≤ k := by omega
      have wi : IntKind.i64.wrap ((k : Int) + 1) = (k : Int) + 1 := IntWalk.i64_in _ (by omega)
      have TQ := Lib.hid (toldQ_succ q k)
      have hql := HQ.out.lt hlt
      obtain ⟨gr, c9, e, -, -, -, -, hcell, -⟩ := (O2.out.keep HB'.out).at_ (by intro e; have := firstQ_len q n; rw [e] at this; simp at this; omega)
      rw [firstQ_len] at e
      injection e with e1 e2 e3
      subst e1 e3
      clear e2
      obtain ⟨b, off, eA, -, -⟩ := (I2.out.below HB'.out).at_ hlt
      subst eA
      have CT : Hid (∀ W, Below g w2 W → (∀ i, i < n → W.cell? ⟨gr, i, none⟩ = some (.int .i64 (q i : Nat))) ∧ ∀ i, i < n → W.cell? ⟨b, off + i, none⟩ = some (.int .i64 (f i))) := Lib.hid (fun W hW => by
        have hW' : Below w2.heap.size w2 W := by rw [HG.out]; exact hW
        refine ⟨fun i hi => ?_, fun i hi => ?_⟩
        · obtain ⟨g9, c9, e, -, -, -, -, hc9, -⟩ := (O2.out.keep hW').at_ (by intro e; have := firstQ_len q n; rw [e] at this; simp at this; omega)
          injection e with e1
          injection e1 with e1
          injection e1 with e1
          subst e1
          exact hc9 i _ (firstQ_get q hi)
        · obtain ⟨b', off', e, -, c0⟩ := (I2.out.below hW').at_ hi
          injection e with e
          injection e with e1 e2
          subst e1 e2
          exact c0)
      clear hcell
      have c0 := (CT.out wo HB.out).1 k hlt
      have un : toldQ q k (q k) = false := by
        cases e : toldQ q k (q k)
        · rfl
        · obtain ⟨m, hm, e⟩ := toldQ_iff.1 e
          have := HQ.out.inj (by omega) hlt e
          omega
      have t0 := HT.out.cell (q k) hql
      rw [un] at t0
      have f0 := HT.out.fro (q k) hql
      have TS := Lib.hid (HT.out.set hql true)
      have RI := Lib.hid (fun (h : 0 < k) => HQ.out.rise (show k - 1 < k by omega) hlt)
      have C5 : Hid (∀ W, Below g w2 W → W.cell? ⟨gr, k, none⟩ = some (.int .i64 (q k : Nat)) ∧ W.cell? ⟨gr, k - 1, none⟩ = some (.int .i64 (q (k - 1) : Nat)) ∧ W.cell? ⟨b, off + q k, none⟩ = some (.int .i64 (f (q k))) ∧ W.cell? ⟨b, off + q (k - 1), none⟩ = some (.int .i64 (f (q (k - 1))))) := Lib.hid (fun W hW => ⟨(CT.out W hW).1 k hlt, (CT.out W hW).1 (k - 1) (by omega), (CT.out W hW).2 _ hql, (CT.out W hW).2 _ (HQ.out.lt (by omega))⟩)
      have hzl : q (k - 1) < n := HQ.out.lt (by omega)
      have BS : Hid (Below g w2 (wo.setCell ⟨g, q k, none⟩ (.bool true))) := Lib.hid (HB.out.setCell (Nat.le_refl _) _)
      generalize f (q k) = fy at C5 RI
      generalize f (q (k - 1)) = fz at C5 RI
      generalize q k = y at c0 t0 f0 TS TQ C5 RI BS hql
      generalize q (k - 1) = z at C5 RI hzl
      have y0 : (0 : Int) ≤ y := by omega
      have y1 : (y : Int) < n := by omega
      have y2 : decide ((y : Int) < 0) = false := decide_eq_false (by omega)
      have y3 : decide ((n : Int) ≤ y) = false := decide_eq_false (by omega)
      have y4 : ¬ (y : Int) < 0 := by omega
      have z0 : (0 : Int) ≤ z := by omega
      have z1 : (z : Int) < n := by omega
      clear CT un
      go_upto_region 15 with fail
      clear c0 t0 f0 y2 y3 y4
      generalize wo.setCell ⟨g, y, none⟩ (.bool true) = w5 at TS BS ⊢
      have T5 := TS
      have B5 := BS
      obtain ⟨c1, c2', c3, c4⟩ := C5.out w5 BS.out
      by_cases hk0 : 0 < k
      · have d0 : decide ((0 : Int) < k) = true := decide_eq_true (by omega)
        have d0' : (0 : Int) < k := by omega
        have wm : IntKind.i64.wrap ((k : Int) - 1) = ((k - 1 : Nat) : Int) := by rw [IntWalk.i64_in _ (by omega)]; omega
        have m0 : (0 : Int) ≤ ((k - 1 : Nat) : Int) := by omega
        have m1 : ((k - 1 : Nat) : Int) < n := by omega
        generalize hkm : k - 1 = km at wm m0 m1 c2'
        rcases RI.out hk0 with r | ⟨r1, r2⟩
        · have d1 : decide (fy < fz) = false := decide_eq_false (by omega)
          have d2 : (fz == fy) = false := by simp; omega
          clear r RI C5
          go_wp2_with fail
          go_quiet (fail)
          have B6 : Hid (Below g w2 (w5.drewN nq)) := Lib.hid (B5.out.trans (drewN_below w5 nq g))
          have T6 : Hid (BoolsAt (w5.drewN nq) g n (toldQ q (k + 1))) := Lib.hid ((T5.out.keepB (drewN_below w5 nq w5.heap.size) T5.out.lt).congr (fun i _ => by
            rw [TQ.out]
            by_cases e : i = y
            · rw [if_pos e]; simp [e]
            · rw [if_neg e]; simp [e]))
          go_wp2_with fail
          go_roundg (n - (k + 1))
          case measure => omega
          case rel => exact ⟨k + 1, by go_num, by omega, Nat.le_refl _, T6, B6⟩
        · subst r1
          have d1 : decide (fz < fz) = false := decide_eq_false (by omega)
          have d2 : (fz == fz) = true := by simp
          have d3 : decide ((y : Int) < z) = false := decide_eq_false (by omega)
          clear RI C5
          go_wp2_with fail
          go_quiet (fail)
          have B6 : Hid (Below g w2 (w5.drewN nq)) := Lib.hid (B5.out.trans (drewN_below w5 nq g))
          have T6 : Hid (BoolsAt (w5.drewN nq) g n (toldQ q (k + 1))) := Lib.hid ((T5.out.keepB (drewN_below w5 nq w5.heap.size) T5.out.lt).congr (fun i _ => by
            rw [TQ.out]
            by_cases e : i = y
            · rw [if_pos e]; simp [e]
            · rw [if_neg e]; simp [e]))
          go_wp2_with fail
          go_roundg (n - (k + 1))
          case measure => omega
          case rel => exact ⟨k + 1, by go_num, by omega, Nat.le_refl _, T6, B6⟩
      · have d0 : decide ((0 : Int) < k) = false := decide_eq_false (by omega)
        clear RI C5 c1 c2' c3 c4
        go_wp2_with fail
        go_quiet (fail)
        have B6 : Hid (Below g w2 (w5.drewN nq)) := Lib.hid (B5.out.trans (drewN_below w5 nq g))
        have T6 : Hid (BoolsAt (w5.drewN nq) g n (toldQ q (k + 1))) := Lib.hid ((T5.out.keepB (drewN_below w5 nq w5.heap.size) T5.out.lt).congr (fun i _ => by
          rw [TQ.out]
          by_cases e : i = y
          · rw [if_pos e]; simp [e]
          · rw [if_neg e]; simp [e]))
        go_wp2_with fail
        go_roundg (n - (k + 1))
        case measure => omega
        case rel => exact ⟨k + 1, by go_num, by omega, Nat.le_refl _, T6, B6⟩
    · obtain rfl : k = n := by omega
      have hz : ¬ (k : Int) < k := by omega
      have BF := Lib.hid (b_next15 B2.out HB'.out)
      go_wp2_with fail
      go_ret
      exact ⟨rfl, BF.out⟩
end Go.Proofs.Ytkakencndopgbaa
