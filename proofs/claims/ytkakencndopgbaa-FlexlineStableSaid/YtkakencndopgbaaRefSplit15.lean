/-
  The document's Split, and Same over lines. What is asked of Split.
-/
import Derived.Test.YtkakencndopgbaaRows15
import Derived.Test.YtkakencndopgbaaLong15
import Derived.Deep.Cut
import Derived.Deep.QuietTactic
import Derived.BigQuiet
namespace Go.Proofs.Ytkakencndopgbaa
open Go.RowKit

def castL (l : List (Nat × Nat)) : List Mg := l.map (fun x => ((x.1 : Int), (x.2 : Int)))
theorem castL_len (l : List (Nat × Nat)) : (castL l).length = l.length := by simp [castL]
/-- what is asked of a Split -/
def SplitOK (F : Nat) : Prop := ∀ (A : Option Addr) (n c : Nat) (f : Nat → Int) (gap room : Int) (wrap : Bool) (w : World), Ints w A n f → n ≤ 100000 → n ≤ c ∧ c ≤ 9223372036854775807 → Calls Try.prog F #[.slice A n c, .int .i64 gap, .int .i64 room, .bool wrap] w fun e w' =>
  ∃ v, e = .returned (.tuple #[v, .int .i64 (splitE f n gap room)]) ∧ ownsL15 w' w.heap.size v (castL (splitL f n gap room wrap)) ∧ Below w.heap.size w w'
theorem new_line (W : World) (T : TypeId) (a b : Int) : LnIn15 (W.alloc (.cells #[.int .i64 a, .int .i64 b] T)) (.slice (some ⟨W.heap.size, 0, none⟩) 1 1) [(a, b)] := lns_new15 [(a, b)] (by simp) T
theorem longF_part (f : Nat → Int) (gap : Int) {i j : Nat} (h : i < j) : gap * (((j - i : Nat) : Int) - 1) + sumQ (fun k => f (i + k)) (j - i) = longF f gap i j := by
  unfold longF
  rw [sumF_sumQ, show ((j - i : Nat) : Int) = (j : Int) - i by omega]
set_option maxRecDepth 100000 in
set_option maxHeartbeats 8000000 in
theorem refSplit15 : SplitOK 13 := by
  intro A n c f gap room wrap w h hn hc
  have H := Lib.hid h
  clear h
  by_cases h1 : 2048 < n ∨ gap < 0 ∨ room < -1
  · have E : splitE f n gap room = 2 := by unfold splitE; rw [if_pos h1]
    have E2 : splitL f n gap room wrap = [] := by unfold splitL; rw [if_neg (by rw [E]; decide)]
    rw [E, E2]
    by_cases a1 : 2048 < n
    · have hz : (2048 : Int) < n := by omega
      go_enter Try.func13, Try.ntmps13
      go_wp2_with fail
      go_ret2
      exact ⟨_, rfl, ownsL15.nil _ _, Below.refl _ _⟩
    · have hz : decide ((2048 : Int) < n) = false := decide_eq_false (by omega)
      have hz' : ¬ (2048 : Int) < n := by omega
      by_cases a2 : gap < 0
      · go_enter Try.func13, Try.ntmps13
        go_wp2_with fail
        go_ret2
        exact ⟨_, rfl, ownsL15.nil _ _, Below.refl _ _⟩
      · have a3 : room < -1 := by omega
        go_enter Try.func13, Try.ntmps13
        go_wp2_with fail
        go_ret2
        exact ⟨_, rfl, ownsL15.nil _ _, Below.refl _ _⟩
  · obtain ⟨b1, hb1⟩ : ∃ b, allFit f n = b := ⟨_, rfl⟩
    obtain ⟨b2, hb2⟩ : ∃ b, decide (Fit gap) = b := ⟨_, rfl⟩
    obtain ⟨b3, hb3⟩ : ∃ b, decide (Fit room) = b := ⟨_, rfl⟩
    have K1 := Lib.hid (fun W (hW : Ints W A n f) => all_any A n c f W hW (by omega) b1 hb1)
    have K2 := Lib.hid (fun W => refFits_any gap W b2 hb2)
    have K3 := Lib.hid (fun W => refFits_any room W b3 hb3)
    have n1 : ¬ (2048 : Int) < n := by omega
    have n2 : ¬ gap < 0 := by omega
    have n3 : ¬ room < -1 := by omega
    by_cases hall : b1 = true ∧ b2 = true ∧ b3 = true
    case neg =>
      have E : splitE f n gap room = 10 := by
        unfold splitE
        rw [if_neg h1, if_pos]
        by_cases c1 : b1 = true
        · by_cases c2 : b2 = true
          · have c3 : b3 = false := by
              cases b3
              · rfl
              · exact absurd ⟨c1, c2, rfl⟩ hall
            rw [c3] at hb3
            exact .inr (.inr (of_decide_eq_false hb3))
          · have c2 : b2 = false := by simpa using c2
            rw [c2] at hb2
            exact .inr (.inl (of_decide_eq_false hb2))
        · have c1 : b1 = false := by simpa using c1
          exact .inl (by rw [hb1, c1])
      have E2 : splitL f n gap room wrap = [] := by unfold splitL; rw [if_neg (by rw [E]; decide)]
      rw [E, E2]
      have three : ∀ p q r : Bool, ¬ (p = true ∧ q = true ∧ r = true) → p = false ∨ (p = true ∧ q = false) ∨ (p = true ∧ q = true ∧ r = false) := by decide
      have hc := three b1 b2 b3 hall
      clear E E2 hb1 hb2 hb3 hall three h1
      rcases hc with rfl | ⟨rfl, rfl⟩ | ⟨rfl, rfl, rfl⟩
      all_goals (
        go_enter Try.func13, Try.ntmps13
        go_wp2_with (first
          | (go_at_call 22; (with_reducible refine (K1.out _ H.out).mono ?_); rintro e w' ⟨rfl, rfl⟩)
          | (go_at_call 23; (with_reducible refine (K2.out _).mono ?_); rintro e w' ⟨rfl, rfl⟩; clear K2)
          | (go_at_call 23; (with_reducible refine (K3.out _).mono ?_); rintro e w' ⟨rfl, rfl⟩))
        go_ret2
        exact ⟨_, rfl, ownsL15.nil _ _, Below.refl _ _⟩)
    obtain ⟨rfl, rfl, rfl⟩ := hall
    have fg : Fit gap := of_decide_eq_true hb2
    have fr : Fit room := of_decide_eq_true hb3
    have fa : ∀ i, i < n → Fit (f i) := of_decide_eq_true hb1
    have E : splitE f n gap room = 0 := by
      unfold splitE
      rw [if_neg h1, if_neg]
      rintro (c | c | c)
      · rw [hb1] at c; cases c
      · exact c fg
      · exact c fr
    have E2 : splitL f n gap room wrap = linesA f gap room wrap n 0 := by unfold splitL; rw [if_pos E]
    rw [E, E2]
    have FA : Hid (∀ i, i < n → -1099511627776 ≤ f i ∧ f i ≤ 1099511627776) := Lib.hid (fun i hi => by have := fa i hi; unfold Fit at this; omega)
    have FG : Hid (0 ≤ gap ∧ gap ≤ 1099511627776) := Lib.hid (by unfold Fit at fg; omega)
    have hn2 : n ≤ 2048 := by omega
    clear E E2 hb1 hb2 hb3 h1 fa fg fr
    go_enter Try.func13, Try.ntmps13
    go_wp2_with (first
      | (go_at_call 22; (with_reducible refine (K1.out _ H.out).mono ?_); rintro e w' ⟨rfl, rfl⟩)
      | (go_at_call 23; (with_reducible refine (K2.out _).mono ?_); rintro e w' ⟨rfl, rfl⟩; clear K2)
      | (go_at_call 23; (with_reducible refine (K3.out _).mono ?_); rintro e w' ⟨rfl, rfl⟩))
    clear K1 K3 n1 n2 n3
    go_loopg [10, 11] n (fun g1 vo vf wr => ∃ (k : Nat) (pre : List (Nat × Nat)), vf = .int .i64 k ∧ k ≤ n ∧ n - k ≤ g1 ∧ Hid (pre ++ linesA f gap room wrap n k = linesA f gap room wrap n 0) ∧ Hid (pre.length ≤ k) ∧ Hid (ownsL15 wr w.heap.size vo (castL pre)) ∧ Hid (Below w.heap.size w wr))
    case atStart => exact ⟨0, [], rfl, by omega, by omega, Lib.hid rfl, Lib.hid (Nat.le_refl _), Lib.hid (ownsL15.nil _ _), Lib.hid (Below.refl _ _)⟩
    case round =>
      obtain ⟨k, pre, rfl, hk, hg1, HP, HPL, HO, HB⟩ := hrel
      obtain ⟨wo, hwo⟩ : ∃ wo, wo = wr := ⟨_, rfl⟩
      subst hwo
      obtain ⟨Ao, co, eo, -, -, -⟩ := own_form HO.out
      obtain ⟨no, hno⟩ : ∃ m, (castL pre).length = m := ⟨_, rfl⟩
      have HNO : Hid (no ≤ k) := Lib.hid (by rw [← hno, castL_len]; exact HPL.out)
      rw [hno] at eo
      subst eo
      have HI := Lib.hid (H.out.below HB.out)
      by_cases hlt : k < n
      · have hz : (k : Int) < n := by omega
        have wi : IntKind.i64.wrap ((k : Int) + 1) = ((k + 1 : Nat) : Int) := by rw [IntWalk.i64_in _ (by omega)]; rfl
        obtain ⟨b, off, rfl, -, -⟩ := HI.out.at_ hlt
        go_upto_region 9 with fail
        clear wi
        generalize hm : k + 1 = m0
        have ST0 : Hid (stopA f gap room wrap n k (k + 1) = stopA f gap room wrap n k m0) := Lib.hid (by rw [hm])
        go_loopg [12] n (fun g2 vt wr => ∃ j : Nat, vt = .int .i64 j ∧ k < j ∧ j ≤ n ∧ n - j ≤ g2 ∧ Hid (stopA f gap room wrap n k (k + 1) = stopA f gap room wrap n k j) ∧ wo = wr)
        case atStart => exact ⟨m0, by go_num, by omega, by omega, by omega, ST0, rfl⟩
        case round =>
          obtain ⟨j, rfl, hkj, hjn, hg2, HST, rfl⟩ := hrel
          clear ST0
          have wj : IntKind.i64.wrap ((j : Int) + 1) = ((j + 1 : Nat) : Int) := by rw [IntWalk.i64_in _ (by omega)]; rfl
          have hz0 : (0 : Int) ≤ j := by omega
          have AL1 : Hid ((castL pre).length + 1 ≤ 100000) := Lib.hid (by rw [castL_len]; have := HPL.out; omega)
          by_cases hjl : j < n
          · have hzj : (j : Int) < n := by omega
            have SN : Hid (goOn f gap room wrap k j → Hid (stopA f gap room wrap n k (k + 1) = stopA f gap room wrap n k (j + 1))) := Lib.hid (fun hg => Lib.hid (by rw [HST.out, stopA_go hjl hg]))
            cases wrap with
            | false =>
              have GO : goOn f gap room false k j := .inl rfl
              go_wp2_with fail
              go_roundg (n - (j + 1))
              case measure => omega
              case rel => exact ⟨j + 1, by go_num, by omega, by omega, Nat.le_refl _, SN.out GO, rfl⟩
            | true =>
              by_cases hr : room = -1
              · subst hr
                have GO : goOn f gap (-1) true k j := .inr (.inl rfl)
                go_wp2_with fail
                go_roundg (n - (j + 1))
                case measure => omega
                case rel => exact ⟨j + 1, by go_num, by omega, by omega, Nat.le_refl _, SN.out GO, rfl⟩
              · have hr1 : (room == -1) = false := by simp [hr]
                have hr2 : decide (room = -1) = false := decide_eq_false hr
                have KL := Lib.hid (refLong15 (some ⟨b, off + k, none⟩) (j + 1 - k) (c - k) (fun x => f (k + x)) gap wo (HI.out.part (by omega) (by omega)) (by omega) FG.out (fun i hi => FA.out _ (by omega)) (longF f gap k (j + 1)) (longF_part f gap (by omega)))
                have sl1 : ((j + 1 : Nat) : Int) ≤ c := by omega
                have sl2 : (k : Int) ≤ ((j + 1 : Nat) : Int) := by omega
                have sl3 : (0 : Int) ≤ ((j + 1 : Nat) : Int) := by omega
                have hck : (c - k = 0) = False := by simp; omega
                by_cases hlf : longF f gap k (j + 1) ≤ room
                · have GO : goOn f gap room true k j := .inr (.inr hlf)
                  obtain ⟨lf, hlfe⟩ : ∃ lf, longF f gap k (j + 1) = lf := ⟨_, rfl⟩
                  rw [hlfe] at KL hlf
                  clear hlfe
                  go_wp2_with (go_at_call 24; (with_reducible refine KL.out.mono ?_); rintro e w' ⟨rfl, rfl⟩)
                  go_roundg (n - (j + 1))
                  case measure => omega
                  case rel => exact ⟨j + 1, by go_num, by omega, by omega, Nat.le_refl _, SN.out GO, rfl⟩
                · have SJ : Hid (stopA f gap room true n k j = j) := Lib.hid (stopA_no (by
                    rintro (t | t | t)
                    · cases t
                    · exact hr t
                    · exact hlf t))
                  obtain ⟨lf, hlfe⟩ : ∃ lf, longF f gap k (j + 1) = lf := ⟨_, rfl⟩
                  rw [hlfe] at KL hlf
                  have hlf2 : decide (lf ≤ room) = false := decide_eq_false hlf
                  clear hlfe hlf
                  go_upto_region 11 with (go_at_call 24; (with_reducible refine KL.out.mono ?_); rintro e w' ⟨rfl, rfl⟩)
                  go_upto_region 12 with ((with_reducible change wpList _ _ _ (Oper.mk (some 73) _ _ _ _ _ :: _) _ _); refine wpList_append_lns15 rfl _ _ rfl w.heap.size _ (castL pre) rfl (HO.out.keep ((Below.refl _ _).alloc (Nat.le_refl _) _)) [((k : Int), (j : Int))] _ 1 rfl ((new_line wo 34 k j).cells rfl) (fun e => by cases e) AL1.out (by rw [World.size_alloc]; have := HB.out.size; omega) ?_; intro v2 w2 hO hB _; have O2 := Lib.hid hO; have B2 := Lib.hid ((HB.out.alloc HB.out.size _).trans hB); clear hO hB)
                  have EC : Hid (castL pre ++ [((k : Int), (j : Int))] = castL (pre ++ [(k, j)])) := Lib.hid (by simp [castL])
                  rw [EC.out] at O2
                  have HP2 : Hid (pre ++ [(k, j)] ++ linesA f gap room true n j = linesA f gap room true n 0) := Lib.hid (by
                    rw [← HP.out, linesA_cons hlt, HST.out, SJ.out, List.append_assoc]
                    rfl)
                  go_wp2_with fail
                  go_roundg (n - j)
                  case measure => omega
                  case rel => exact ⟨j, pre ++ [(k, j)], rfl, by omega, Nat.le_refl _, HP2, Lib.hid (by rw [List.length_append]; have := HPL.out; show pre.length + 1 ≤ j; omega), O2, B2⟩
          · obtain rfl : j = n := by omega
            have hzj : decide ((j : Int) < j) = false := decide_eq_false (by omega)
            have hzj' : ¬ (j : Int) < j := by omega
            have SJ : Hid (stopA f gap room wrap j k j = j) := Lib.hid (stopA_end (Nat.le_refl _))
            go_upto_region 11 with fail
            go_upto_region 12 with ((with_reducible change wpList _ _ _ (Oper.mk (some 73) _ _ _ _ _ :: _) _ _); refine wpList_append_lns15 rfl _ _ rfl w.heap.size _ (castL pre) rfl (HO.out.keep ((Below.refl _ _).alloc (Nat.le_refl _) _)) [((k : Int), (j : Int))] _ 1 rfl ((new_line wo 34 k j).cells rfl) (fun e => by cases e) AL1.out (by rw [World.size_alloc]; have := HB.out.size; omega) ?_; intro v2 w2 hO hB _; have O2 := Lib.hid hO; have B2 := Lib.hid ((HB.out.alloc HB.out.size _).trans hB); clear hO hB)
            have EC : Hid (castL pre ++ [((k : Int), (j : Int))] = castL (pre ++ [(k, j)])) := Lib.hid (by simp [castL])
            rw [EC.out] at O2
            have HP2 : Hid (pre ++ [(k, j)] ++ linesA f gap room wrap j j = linesA f gap room wrap j 0) := Lib.hid (by
              rw [← HP.out, linesA_cons hlt, HST.out, SJ.out, List.append_assoc]
              rfl)
            go_wp2_with fail
            go_roundg (j - j)
            case measure => omega
            case rel => exact ⟨j, pre ++ [(k, j)], rfl, by omega, Nat.le_refl _, HP2, Lib.hid (by rw [List.length_append]; have := HPL.out; show pre.length + 1 ≤ j; omega), O2, B2⟩
      · obtain rfl : k = n := by omega
        have hz : ¬ (k : Int) < k := by omega
        have HF : Hid (pre = linesA f gap room wrap k 0) := Lib.hid (by rw [← HP.out, linesA_nil (Nat.le_refl _), List.append_nil])
        go_wp2_with fail
        go_ret2
        exact ⟨_, rfl, by rw [← HF.out]; exact HO.out, HB.out⟩
end Go.Proofs.Ytkakencndopgbaa
