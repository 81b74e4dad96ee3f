/-
  The law FixedGiven, of a total from 0 on.
-/
import Derived.Test.YtcipphmijdibjaaGivenFair
namespace Go.Proofs.Ytcipphmijdibjaa
open Go.RowKit

set_option maxRecDepth 100000 in
set_option maxHeartbeats 40000000 in
theorem givenPos (t : Int) (A : Option Addr) (n c : Nat) (z : List Int) (w : World) (_ht : (Lit.int .i64 t).wf = true) (h : RowIn w A n c z) (hx0 : ¬ len t < 0) :
    Calls Try.prog 8 #[.int .i64 t, .slice A n c] w fun e w' => e = .returned (.bool true) ∧ Below w.heap.size w w' := by
  clear _ht
  have hbn := h.bd
  have HI := Lib.hid h.ints
  generalize (fun i => z.getD i 0) = f at HI
  clear h
  by_cases hbig : 200 < n
  · go_enter Try.func8, Try.ntmps8
    go_wp2_with fail
    refine (awake_any _).mono ?_
    rintro e w1 ⟨rfl, hb⟩
    have B := Lib.hid hb
    clear hb
    go_wp2_with fail
    go_ret
    exact ⟨rfl, B.out⟩
  · obtain ⟨x, hx⟩ : ∃ x, len t = x := ⟨_, rfl⟩
    have fx := len_fit t
    rw [hx] at fx hx0
    have X0 := Lib.hid hx
    have FX := Lib.hid fx
    clear hx
    obtain ⟨x1, x2⟩ := fx
    go_enter Try.func8, Try.ntmps8
    go_wp2_with fail
    refine (awake_any _).mono ?_
    rintro e w1 ⟨rfl, hb⟩
    have B1 := Lib.hid hb
    have I1 := Lib.hid (HI.out.below hb)
    clear hb HI
    go_wp2_with fail
    refine (len_any t _ x X0.out).mono ?_
    rintro e w2 ⟨rfl, rfl⟩
    go_wp2
    go_loopg [5, 6] n (fun g1 vs vi wr => ∃ (k : Nat) (b : Bool), vi = .int .i64 k ∧ vs = .bool b ∧ k ≤ n ∧ n - k ≤ g1 ∧ Hid (∀ j, j < k → IsW (f j)) ∧ Hid (b = true ↔ ∃ j, j < k ∧ 0 < f j) ∧ Hid (wr = w1))
    case atStart => exact ⟨0, false, rfl, rfl, by omega, by omega, Lib.hid (fun j hj => absurd hj (by omega)), Lib.hid (by simp), rfl⟩
    case round =>
      obtain ⟨k, b, rfl, rfl, hk, hg1, HW, HS, HR⟩ := hrel
      obtain rfl := HR.out
      clear HR
      by_cases hlt : k < n
      · obtain ⟨bl, off, rfl, hbl, hc⟩ := I1.out.at_ hlt
        clear hbl
        by_cases hw : IsW (f k)
        · have HW2 : Hid (∀ j, j < k + 1 → IsW (f j)) := Lib.hid (fun j hj => by
            by_cases e : j = k
            · rw [e]; exact hw
            · exact HW.out j (by omega))
          have HS2 : Hid ((b || decide (0 < f k)) = true ↔ ∃ j, j < k + 1 ∧ 0 < f j) := Lib.hid (by
            rw [Bool.or_eq_true, HS.out, decide_eq_true_eq]
            constructor
            · rintro (⟨j, hj, hp⟩ | hp)
              · exact ⟨j, by omega, hp⟩
              · exact ⟨k, by omega, hp⟩
            · rintro ⟨j, hj, hp⟩
              by_cases e : j = k
              · exact .inr (e ▸ hp)
              · exact .inl ⟨j, by omega, hp⟩)
          unfold IsW at hw
          obtain ⟨hw1, hw2⟩ := hw
          generalize f k = y at hc hw1 hw2 HS2
          have n1 : ¬ y < 0 := by omega
          have n2 : ¬ 1125899906842624 < y := by omega
          clear HW HS
          cases b
          · by_cases hy : 0 < y
            all_goals
              go_wp2
              go_roundg (n - (k + 1))
              case measure => omega
              case rel => exact ⟨k + 1, _, by go_num, rfl, by omega, Nat.le_refl _, HW2, by first | (rw [show decide (0 < y) = true by simpa using hy] at HS2; exact HS2) | (rw [show decide (0 < y) = false by simp; omega] at HS2; exact HS2), rfl⟩
          · go_wp2
            go_roundg (n - (k + 1))
            case measure => omega
            case rel => exact ⟨k + 1, _, by go_num, rfl, by omega, Nat.le_refl _, HW2, HS2, rfl⟩
        · unfold IsW at hw
          generalize f k = y at hc hw
          clear HW HS
          by_cases hy : y < 0
          · clear hw
            go_wp2
            go_ret
            exact ⟨rfl, B1.out⟩
          · have hy2 : 1125899906842624 < y := by omega
            clear hw
            go_wp2
            go_ret
            exact ⟨rfl, B1.out⟩
      · obtain rfl : n = k := by omega
        obtain ⟨v, hv⟩ : ∃ v : Nat → Nat, ∀ i, i < n → (v i : Int) = f i := ⟨fun i => (f i).toNat, fun i hi => by have := (HW.out i hi).1; show ((f i).toNat : Int) = f i; omega⟩
        have V := Lib.hid hv
        have VB : Hid (∀ i, i < n → v i ≤ 1125899906842624) := Lib.hid (fun i hi => by have := hv i hi; have := (HW.out i hi).2; omega)
        have I2 : Hid (Ints wr A n (fun i => (v i : Int))) := Lib.hid (I1.out.congr (fun i hi => (hv i hi).symm))
        have SB : Hid (b = true ↔ sumN v n ≠ 0) := Lib.hid (by
          rw [HS.out]
          constructor
          · rintro ⟨j, hj, hp⟩ hz
            have := le_sumN v hj
            have := hv j hj
            omega
          · intro hz
            apply Classical.byContradiction
            intro hno
            have z0 : ∀ i, i < n → v i ≤ 0 := fun i hi => by
              rcases Nat.eq_zero_or_pos (v i) with e | e
              · omega
              · exact (hno ⟨i, hi, by have := hv i hi; omega⟩).elim
            have := sumN_le v z0
            omega)
        clear hv HW HS
        go_wp2_with fail
        refine (share_yes x n c A v _ FX.out (by omega) VB.out I2.out (.inr div_any)).mono ?_
        rintro e w3 ⟨g, X, rfl, hw, hb, hg, hX⟩
        have FA := Lib.hid (hX.fair FX.out (by omega))
        have W3 := Lib.hid hw
        have I3 := Lib.hid (I2.out.below hb)
        have B3 := Lib.hid (B1.out.trans (hb.mono B1.out.size))
        clear hw hb hg hX B1 I1 I2 V VB
        go_wp2
        go_loopg [9, 10] n (fun g1 vs vi wr => ∃ i : Nat, vi = .int .i64 i ∧ vs = .int .i64 (sumZ X i) ∧ i ≤ n ∧ n - i ≤ g1 ∧ Hid (Drawn w3 wr))
        case atStart => exact ⟨0, rfl, rfl, by omega, by omega, Lib.hid ⟨0, rfl⟩⟩
        case round =>
          obtain ⟨i, rfl, rfl, hin, hg1, HR⟩ := hrel
          obtain ⟨q0, rfl⟩ := HR.out
          clear HR
          by_cases hlt : i < n
          · have hltz : (i : Int) < n := by omega
            obtain ⟨bl, off, rfl, -, hcells⟩ := I3.out.2 (by omega)
            have HC : Hid (∀ k, k < n → w3.cell? ⟨bl, off + k, none⟩ = some (.int .i64 (v k : Int))) := Lib.hid hcells
            clear hcells
            have c1 := HC.out i hlt
            have c2 := (W3.out.cell i).trans (cellsOf_get hlt)
            have sb := sumZ_bd FA.out.bd i hin
            have xb := FA.out.bd i hlt
            have xs := FA.out.side i hlt
            have SS : Hid (sumZ X (i + 1) = sumZ X i + X i) := Lib.hid rfl
            have XN : Hid (v i = 0 → X i = 0) := Lib.hid (FA.out.none_ i hlt)
            generalize hwi : v i = wi at c1 XN
            have WI := Lib.hid hwi
            generalize hxi : X i = xi at c2 xb xs SS XN
            have XI := Lib.hid hxi
            clear hwi hxi
            generalize sumZ X i = s at sb SS ⊢
            have xneg : ¬ xi < 0 ∨ x < 0 := by omega
            have xpos : ¬ 0 < xi ∨ ¬ x < 0 := by omega
            have w0 : ¬ (wi : Int) = 0 ∨ ¬ xi ≠ 0 := by
              by_cases e : wi = 0
              · have := XN.out e; omega
              · omega
            clear xs XN
            by_cases hw0 : wi = 0
            all_goals
              first
                | (have q1 : ((wi : Int) == 0) = true := by (simp; omega)
                   have q2 : (xi != 0) = false := by (simp; omega))
                | (have q1 : ((wi : Int) == 0) = false := by (simp; omega))
              first
                | (have q3 : (0 : Int) ≤ x := by omega
                   have q4 : ¬ xi < 0 := by omega)
                | (have q3 : ¬ (0 : Int) ≤ x := by omega
                   have q4 : ¬ 0 < xi := by omega)
            all_goals
              clear xneg xpos w0 hw0
              go_wp2
              go_loopg [11] i (fun g2 vk wz => ∃ k : Nat, vk = .int .i64 k ∧ k ≤ i ∧ i - k ≤ g2 ∧ Hid (Drawn w3 wz))
              case atStart => exact ⟨0, rfl, by omega, by omega, Lib.hid ⟨q0, rfl⟩⟩
              case round =>
                obtain ⟨k, rfl, hki, hg2, HR⟩ := hrel
                obtain ⟨q1, rfl⟩ := HR.out
                clear HR
                by_cases hlt2 : k < i
                · have hlt2z : (k : Int) < i := by omega
                  have d1 := HC.out k (by omega)
                  have d2 := (W3.out.cell k).trans (cellsOf_get (show k < n by omega))
                  have yb := FA.out.bd k (by omega)
                  have r1 := FA.out.gt i k hlt (by omega)
                  have r2 := FA.out.gt k i (by omega) hlt
                  have r3 := FA.out.eq i k hlt2 hlt
                  rw [WI.out, XI.out] at r1 r2 r3
                  generalize v k = wk at d1 r1 r2 r3
                  generalize X k = xk at d2 yb r1 r2 r3
                  have z1 : (0 : Int) ≤ k := by omega
                  have z2 : (k : Int) < n := by omega
                  have z3 : (0 : Int) ≤ i := by omega
                  have v1 : IntKind.i64.wrap xk = xk := IntWalk.i64_in _ (by omega)
                  have v2 : IntKind.i64.wrap xi = xi := IntWalk.i64_in _ (by omega)
                  have v3 : IntKind.i64.wrap (-xk) = -xk := IntWalk.i64_in _ (by omega)
                  have v4 : IntKind.i64.wrap (-xi) = -xi := IntWalk.i64_in _ (by omega)
                  have v5 : IntKind.i64.wrap (xk - xi) = xk - xi := IntWalk.i64_in _ (by omega)
                  have v6 : IntKind.i64.wrap (xi - xk) = xi - xk := IntWalk.i64_in _ (by omega)
                  have F : Hid (
                    (wi < wk ∧ (0 ≤ x → xi ≤ xk) ∧ (x < 0 → xk ≤ xi)) ∨
                    (wi = wk ∧ (0 ≤ x → xi ≤ xk ∧ xk ≤ xi + 1) ∧ (x < 0 → xk ≤ xi ∧ xi ≤ xk + 1)) ∨
                    (wk < wi ∧ (0 ≤ x → xk ≤ xi) ∧ (x < 0 → xi ≤ xk))) := Lib.hid (by
                    rcases Nat.lt_trichotomy wi wk with hc | hc | hc
                    · exact .inl ⟨hc, r1 hc⟩
                    · exact .inr (.inl ⟨hc, r3 hc⟩)
                    · exact .inr (.inr ⟨hc, r2 hc⟩))
                  clear r1 r2 r3
                  have sp : 0 ≤ x → Hid (∀ W : World, Calls Try.prog 30 #[.int .i64 x] W fun e w' => e = .returned (.int .i64 1) ∧ w' = W) := fun hh => Lib.hid (fun W => sign_pos x (by omega) W)
                  have sn : x < 0 → Hid (∀ W : World, Calls Try.prog 30 #[.int .i64 x] W fun e w' => e = .returned (.int .i64 (-1)) ∧ w' = W) := fun hh => Lib.hid (fun W => sign_neg x hh W)
                  have SP := Lib.hid sp
                  have SN := Lib.hid sn
                  clear sp sn
                  rcases F.out with ⟨hc, f1, f2⟩ | ⟨hc, f1, f2⟩ | ⟨hc, f1, f2⟩
                  all_goals
                    clear F
                    first
                      | (have e1 : decide ((wi : Int) < wk) = true := by (rw [decide_eq_true_eq]; omega))
                      | (have e1 : decide ((wi : Int) < wk) = false := by (rw [decide_eq_false_iff_not]; omega))
                    first
                      | (have e2 : ((wk : Int) == wi) = true := by (simp; omega))
                      | (have e2 : ((wk : Int) == wi) = false := by (simp; omega))
                    first
                      | (have e3 : decide ((wk : Int) < wi) = true := by (rw [decide_eq_true_eq]; omega))
                      | (have e3 : decide ((wk : Int) < wi) = false := by (rw [decide_eq_false_iff_not]; omega))
                  all_goals
                    first
                      | (have k1 : decide (wi < wk) = true := by (rw [decide_eq_true_eq]; omega))
                      | (have k1 : decide (wi < wk) = false := by (rw [decide_eq_false_iff_not]; omega))
                    first
                      | (have k2 : (wk == wi) = true := by (simp; omega))
                      | (have k2 : (wk == wi) = false := by (simp; omega))
                    first
                      | (have k3 : decide (wk < wi) = true := by (rw [decide_eq_true_eq]; omega))
                      | (have k3 : decide (wk < wi) = false := by (rw [decide_eq_false_iff_not]; omega))
                    first
                      | (have k4 : decide (wk = wi) = true := by (rw [decide_eq_true_eq]; omega))
                      | (have k4 : decide (wk = wi) = false := by (rw [decide_eq_false_iff_not]; omega))
                  all_goals
                    first
                      | (have sx : 0 ≤ x := by omega
                         have S := SP.out sx
                         have g1 := f1 sx
                         first
                           | (have t1 : decide (xk < xi) = false := by (rw [decide_eq_false_iff_not]; omega))
                           | (have t1 : True := trivial)
                         first
                           | (have t2 : decide (xi < xk) = false := by (rw [decide_eq_false_iff_not]; omega))
                           | (have t2 : True := trivial)
                         first
                           | (have t3 : decide (1 < xk - xi) = false := by (rw [decide_eq_false_iff_not]; omega))
                           | (have t3 : True := trivial)
                         first
                           | (have t4 : decide (xk - xi < 0) = false := by (rw [decide_eq_false_iff_not]; omega))
                           | (have t4 : True := trivial))
                      | (have sx : x < 0 := by omega
                         have S := SN.out sx
                         have g1 := f2 sx
                         first
                           | (have t1 : decide (-xk < -xi) = false := by (rw [decide_eq_false_iff_not]; omega))
                           | (have t1 : True := trivial)
                         first
                           | (have t2 : decide (-xi < -xk) = false := by (rw [decide_eq_false_iff_not]; omega))
                           | (have t2 : True := trivial)
                         first
                           | (have t3 : decide (1 < xi - xk) = false := by (rw [decide_eq_false_iff_not]; omega))
                           | (have t3 : True := trivial)
                         first
                           | (have t4 : decide (xi - xk < 0) = false := by (rw [decide_eq_false_iff_not]; omega))
                           | (have t4 : True := trivial)
                         first
                           | (have t5 : decide (xi < xk) = false := by (rw [decide_eq_false_iff_not]; omega))
                           | (have t5 : True := trivial)
                         first
                           | (have t6 : decide (xk < xi) = false := by (rw [decide_eq_false_iff_not]; omega))
                           | (have t6 : True := trivial))
                  all_goals clear SP SN f1 f2
                  all_goals
                    as_aux_lemma =>
                      go_wp2_with fail
                      refine wp_region_quiet_lit (by kernel_rfl) (lexB_of .any _ givenTbl (by kernel_rfl) (by kernel_rfl) givenRows) ?_
                      repeat (go_big_quiet_step ((first | (go_at_call 30; exact quiet_join (S.out _)))))
                      refine wpQuiet_nil ?_
                      intro w9 hw9
                      obtain ⟨nq, hw9⟩ := hw9
                      subst hw9
                      go_wp2
                      go_roundg (i - (k + 1))
                      case measure => omega
                      case rel => exact ⟨k + 1, by go_num, by omega, Nat.le_refl _, Lib.hid ⟨_, rfl⟩⟩
                · obtain rfl : i = k := by omega
                  go_wp2
                  go_roundg (n - (i + 1))
                  case measure => omega
                  case rel => exact ⟨i + 1, by go_num, by rw [SS.out], by omega, Nat.le_refl _, Lib.hid ⟨q1, rfl⟩⟩
          · obtain rfl : n = i := by omega
            have FS := FA.out.sum
            have sb := sumZ_bd FA.out.bd n (Nat.le_refl _)
            cases b
            · have s0 : sumN v n = 0 := by
                apply Classical.byContradiction
                intro hh
                exact absurd (SB.out.2 hh) (by simp)
              rw [if_pos s0] at FS
              have q : (sumZ X n == 0) = true := by simp [FS]
              clear FS s0
              generalize sumZ X n = s at q sb ⊢
              go_wp2
              go_ret
              exact ⟨rfl, below_drewN B3.out _⟩
            · rw [if_neg (SB.out.1 rfl)] at FS
              have q : (sumZ X n == x) = true := by simp [FS]
              clear FS
              generalize sumZ X n = s at q sb ⊢
              go_wp2
              go_ret
              exact ⟨rfl, below_drewN B3.out _⟩
end Go.Proofs.Ytcipphmijdibjaa
