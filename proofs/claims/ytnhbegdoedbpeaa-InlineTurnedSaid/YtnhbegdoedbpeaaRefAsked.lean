/-
  The document's over and asked over spots.
-/
import Derived.Test.YtnhbegdoedbpeaaSpots
import Derived.Test.YtnhbegdoedbpeaaFit10
import Derived.Deep.QuietTactic
import Derived.BigQuiet
import Derived.Laws.Rows
namespace Go.Proofs.Ytnhbegdoedbpeaa
open Go.RowKit

theorem fit_far (x : Int) : decide (Fit x) = !decide (Far x) := by
  by_cases h : Fit x
  · have h' : ¬ Far x := fun f => f h
    simp [h, h']
  · have h' : Far x := h
    simp [h, h']
theorem refOver_any (x : Int) (w : World) (b : Bool) (hb : decide (Far x) = b) :
    Calls Try.prog 15 #[.int .i64 x] w fun e w' => e = .returned (.bool b) ∧ w = w' := by
  have K := Lib.hid (refFits_any x w (!b) (by rw [fit_far, hb]))
  clear hb
  go_enter Try.func15, Try.ntmps15
  go_wp2_with (go_at_call 24; (with_reducible refine K.out.mono ?_); rintro e w' ⟨rfl, rfl⟩)
  go_ret
  exact ⟨by simp, rfl⟩
set_option maxRecDepth 100000 in
set_option maxHeartbeats 4000000 in
theorem refAsked_any (l : List Sp) (v : Value) (u d x : Int) (g : Nat) (hg : g < 256) (w : World) (hv : SpIn w v l) (hn : l.length ≤ 1000000) :
    Calls Try.prog 13 #[v, .int .i64 u, .int .i64 d, .int .i64 x, .int .u8 (g : Nat)] w fun e w' => e = .returned (.int .i64 (askedA l u d x g : Nat)) ∧ w' = w := by
  have HV := Lib.hid hv
  obtain ⟨A, c, rfl, -, -⟩ := hv
  obtain ⟨r, hr⟩ : ∃ r, askedA l u d x g = r := ⟨_, rfl⟩
  rw [hr]
  by_cases h1 : 2048 < l.length ∨ 2 < g
  · have R : Hid (r = 2) := Lib.hid (by rw [← hr]; unfold askedA; rw [if_pos h1])
    obtain ⟨n, en⟩ : ∃ n, l.length = n := ⟨_, rfl⟩
    rw [en] at h1 hn HV ⊢
    clear en hr
    go_enter Try.func13, Try.ntmps13
    by_cases h2 : 2048 < n
    · have hz : (2048 : Int) < n := by omega
      clear h1
      go_wp2_with fail
      go_ret
      exact ⟨by rw [R.out]; rfl, rfl⟩
    · have hz : ¬ (2048 : Int) < n := by omega
      have g0 : (((g : Nat) : Int) != 0) = true := by simp; omega
      have g1 : (((g : Nat) : Int) != 1) = true := by simp; omega
      have g2 : (((g : Nat) : Int) != 2) = true := by simp; omega
      clear h1
      generalize ((g : Nat) : Int) = y at g0 g1 g2 ⊢
      go_wp2_with fail
      go_ret
      exact ⟨by rw [R.out]; rfl, rfl⟩
  · have F0 := Lib.hid h1
    obtain ⟨n, en⟩ : ∃ n, l.length = n := ⟨_, rfl⟩
    rw [en] at h1 hn HV ⊢
    have HN := Lib.hid en
    have HR := Lib.hid hr
    have hz : ¬ (2048 : Int) < n := by omega
    have KO := Lib.hid (fun y W b hb => refOver_any y W b hb)
    obtain ⟨b1, hb1⟩ : ∃ b, decide (Far u) = b := ⟨_, rfl⟩
    obtain ⟨b2, hb2⟩ : ∃ b, decide (Far d) = b := ⟨_, rfl⟩
    obtain ⟨b3, hb3⟩ : ∃ b, decide (Far x) = b := ⟨_, rfl⟩
    have K1 := Lib.hid (fun W => KO.out u W b1 hb1)
    have K2 := Lib.hid (fun W => KO.out d W b2 hb2)
    have K3 := Lib.hid (fun W => KO.out x W b3 hb3)
    have B0 : Hid ((b1 || (b2 || b3)) = true ↔ (Far u ∨ Far d ∨ Far x)) := Lib.hid (by
      rw [← hb1, ← hb2, ← hb3]
      simp)
    clear hb1 hb2 hb3 hr en
    have three : ∀ p q : Bool, p = true ∨ (p = false ∧ q = true) ∨ (p = false ∧ q = false) := by decide
    have hbs := three b1 b2
    have hgs : g = 0 ∨ g = 1 ∨ g = 2 := by omega
    go_enter Try.func13, Try.ntmps13
    rcases hgs with rfl | rfl | rfl
    all_goals (
      rcases hbs with rfl | ⟨rfl, rfl⟩ | ⟨rfl, rfl⟩
      all_goals (
        clear h1
        go_wp2_with (first
          | (go_at_call 15; (with_reducible refine (K1.out _).mono ?_); rintro e w' ⟨rfl, rfl⟩)
          | (go_at_call 15; (with_reducible refine (K2.out _).mono ?_); rintro e w' ⟨rfl, rfl⟩)
          | (go_at_call 15; (with_reducible refine (K3.out _).mono ?_); rintro e w' ⟨rfl, rfl⟩))
        clear K1 K2 K3
        go_loopg [11, 12] n (fun g1 vo vi wr => ∃ (k : Nat) (o : Bool), vi = .int .i64 k ∧ vo = .bool o ∧ k ≤ n ∧ n - k ≤ g1 ∧ Hid (o = true ↔ (Far u ∨ Far d ∨ Far x) ∨ ∃ j, j < k ∧ FarS (sp l j)) ∧ Hid (∀ j, j < k → sa l j ≤ 2) ∧ w = wr)
        case atStart => exact ⟨0, _, rfl, rfl, by omega, by omega, Lib.hid (by
          rw [show (∃ j, j < 0 ∧ FarS (sp l j)) ↔ False from ⟨fun ⟨j, h, _⟩ => absurd h (by omega), False.elim⟩, or_false]
          exact B0.out), Lib.hid (fun j hj => absurd hj (by omega)), rfl⟩
        case round =>
          obtain ⟨k, o, rfl, rfl, hk, hg1, hO, hK, rfl⟩ := hrel
          clear B0
          by_cases hlt : k < n
          · have hz : (k : Int) < n := by omega
            have hz0 : (0 : Int) ≤ k := by omega
            have wi : IntKind.i64.wrap ((k : Int) + 1) = (k : Int) + 1 := IntWalk.i64_in _ (by omega)
            obtain ⟨b, off, c', e, c0, c1, c2, c3⟩ := HV.out.get (i := k) (by have := HN.out; omega)
            injection e with e1 e2 e3
            subst e1 e3
            clear e2
            by_cases h3 : 2 < sa l k
            · have hx3 : (2 : Int) < (sa l k : Nat) := by omega
              have R : Hid (r = 2) := Lib.hid (by rw [← HR.out]; unfold askedA; rw [if_neg F0.out, if_pos ⟨k, by have := HN.out; omega, h3⟩])
              generalize ((sa l k : Nat) : Int) = y at c3 hx3
              clear h3 KO hO hK
              go_wp2_with fail
              go_ret
              exact ⟨by rw [R.out]; rfl, rfl⟩
            · have hx3 : ¬ (2 : Int) < (sa l k : Nat) := by omega
              have HK2 : Hid (∀ j, j < k + 1 → sa l j ≤ 2) := Lib.hid (fun j hj => by
                by_cases e : j = k
                · rw [e]; omega
                · exact hK.out j (by omega))
              obtain ⟨b1, hb1⟩ : ∃ b, decide (Far (sw l k)) = b := ⟨_, rfl⟩
              obtain ⟨b2, hb2⟩ : ∃ b, decide (Far (su l k)) = b := ⟨_, rfl⟩
              obtain ⟨b3, hb3⟩ : ∃ b, decide (Far (sd l k)) = b := ⟨_, rfl⟩
              have HO2 : Hid ((o || (b1 || (b2 || b3))) = true ↔ (Far u ∨ Far d ∨ Far x) ∨ ∃ j, j < k + 1 ∧ FarS (sp l j)) := Lib.hid (by
                have hk : (b1 || (b2 || b3)) = true ↔ FarS (sp l k) := by
                  rw [← hb1, ← hb2, ← hb3, Bool.or_eq_true, Bool.or_eq_true, decide_eq_true_iff, decide_eq_true_iff, decide_eq_true_iff]
                  exact Iff.rfl
                rw [Bool.or_eq_true, hO.out, hk]
                constructor
                · rintro ((h | ⟨j, hj, h⟩) | h)
                  · exact .inl h
                  · exact .inr ⟨j, by omega, h⟩
                  · exact .inr ⟨k, by omega, h⟩
                · rintro (h | ⟨j, hj, h⟩)
                  · exact .inl (.inl h)
                  · by_cases e : j = k
                    · subst e
                      exact .inr h
                    · exact .inl (.inr ⟨j, by omega, h⟩))
              have K1 := Lib.hid (fun W => KO.out (sw l k) W b1 hb1)
              have K2 := Lib.hid (fun W => KO.out (su l k) W b2 hb2)
              have K3 := Lib.hid (fun W => KO.out (sd l k) W b3 hb3)
              generalize ((sa l k : Nat) : Int) = y at c3 hx3
              clear hb1 hb2 hb3
              generalize sw l k = z1 at c0 K1
              generalize su l k = z2 at c1 K2
              generalize sd l k = z3 at c2 K3
              clear h3 hO hK KO
              have hos : o = true ∨ (o = false ∧ b1 = true) ∨ (o = false ∧ b1 = false ∧ b2 = true) ∨ (o = false ∧ b1 = false ∧ b2 = false) := by
                rcases three b1 b2 with h | h | h <;> cases o <;> simp [h]
              rcases hos with rfl | ⟨rfl, rfl⟩ | ⟨rfl, rfl, rfl⟩ | ⟨rfl, rfl, rfl⟩
              all_goals (
                go_wp2_with (first
                  | (go_at_call 15; (with_reducible refine (K1.out _).mono ?_); rintro e w' ⟨rfl, rfl⟩)
                  | (go_at_call 15; (with_reducible refine (K2.out _).mono ?_); rintro e w' ⟨rfl, rfl⟩)
                  | (go_at_call 15; (with_reducible refine (K3.out _).mono ?_); rintro e w' ⟨rfl, rfl⟩))
                go_roundg (n - (k + 1))
                case measure => omega
                case rel => exact ⟨k + 1, _, by go_num, rfl, by omega, Nat.le_refl _, HO2, HK2, rfl⟩)
          · obtain rfl : k = n := by omega
            have hz : ¬ (k : Int) < k := by omega
            have KG := Lib.hid (show ¬ (∃ i, i < l.length ∧ 2 < sa l i) from fun ⟨i, hi, h⟩ => by have := hK.out i (by have := HN.out; omega); omega)
            clear KO
            cases o with
            | true =>
              have R : Hid (r = 10) := Lib.hid (by
                rw [← HR.out]
                unfold askedA
                rw [if_neg F0.out, if_neg KG.out, if_pos (by rw [HN.out]; exact hO.out.1 rfl)])
              go_wp2_with fail
              go_ret
              exact ⟨by rw [R.out]; rfl, rfl⟩
            | false =>
              have R : Hid (r = 0) := Lib.hid (by
                rw [← HR.out]
                unfold askedA
                rw [if_neg F0.out, if_neg KG.out, if_neg (by rw [HN.out]; exact fun h => absurd (hO.out.2 h) (by decide))])
              go_wp2_with fail
              go_ret
              exact ⟨by rw [R.out]; rfl, rfl⟩))
end Go.Proofs.Ytnhbegdoedbpeaa
