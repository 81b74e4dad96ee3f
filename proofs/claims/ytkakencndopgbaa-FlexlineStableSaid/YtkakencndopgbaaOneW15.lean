/-
  The laws FlexlineOne, FlexlineWider: of any Split that answers as is asked.
-/
import Derived.Test.YtkakencndopgbaaGreat15
namespace Go.Proofs.Ytkakencndopgbaa
open Go.RowKit

theorem long_pre {f : Nat → Int} {gap : Int} (h0 : 0 ≤ gap) {n : Nat} (hf : ∀ i, i < n → 0 ≤ f i) {i j : Nat} (hi : i < j) : ∀ d, j + d ≤ n → longF f gap i j ≤ longF f gap i (j + d)
  | 0, _ => Int.le_refl _
  | d + 1, h => by
    have h1 := long_pre h0 hf hi d (by omega)
    have h2 := longF_step f gap (i := i) (j := j + d) (by omega)
    have h3 := hf (j + d) (by omega)
    rw [show j + (d + 1) = j + d + 1 by omega, h2]
    omega
theorem long_nn {f : Nat → Int} {gap : Int} (h0 : 0 ≤ gap) {n : Nat} (hf : ∀ i, i < n → 0 ≤ f i) (hn : 0 < n) : 0 ≤ longF f gap 0 n := by
  have h1 := long_pre h0 hf (i := 0) (j := 1) (by omega) (n - 1) (by omega)
  rw [show 1 + (n - 1) = n by omega] at h1
  have h2 := longF_one f gap 0
  have h3 := hf 0 hn
  rw [Nat.zero_add] at h2
  omega
/-- all in one line, whose room is as long as they are -/
theorem one_full {f : Nat → Int} {gap room : Int} (h0 : 0 ≤ gap) {n : Nat} (hf : ∀ i, i < n → 0 ≤ f i) (hr : 0 < n → longF f gap 0 n ≤ room) : (linesA f gap room true n 0).length = (linesA f gap room false n 0).length := by
  by_cases hn : 0 < n
  · rw [linesA_one hn (fun k _ _ => .inl rfl), linesA_one hn (fun k h1 h2 => .inr (.inr ?_))]
    have h1 := long_pre h0 hf (i := 0) (j := k + 1) (by omega) (n - (k + 1)) (by omega)
    rw [show k + 1 + (n - (k + 1)) = n by omega] at h1
    have := hr hn
    omega
  · rw [linesA_nil (by omega), linesA_nil (by omega)]
theorem one_len (f : Nat → Int) (gap room : Int) (n : Nat) (r2 : Int) : (linesA f gap room false n 0).length = (linesA f gap r2 false n 0).length := by
  by_cases hn : 0 < n
  · rw [linesA_one hn (fun k _ _ => .inl rfl), linesA_one hn (fun k _ _ => .inl rfl)]
  · rw [linesA_nil (by omega), linesA_nil (by omega)]
set_option maxRecDepth 100000 in
set_option maxHeartbeats 8000000 in
theorem one15 (hS : SplitOK 14) (hA : AwakeOK15 16) (A : Option Addr) (n c : Nat) (f : Nat → Int) (gap room : Int) (w : World) (hI : Ints w A n f) (hc : n ≤ c ∧ c ≤ 9223372036854775807) :
    Calls Try.prog 6 #[.slice A n c, .int .i64 gap, .int .i64 room] w fun e w' => e = .returned (.bool true) ∧ Below w.heap.size w w' := by
  have KA := Lib.hid (fun W => hA W)
  have HI := Lib.hid hI
  obtain ⟨bg, hbg⟩ : ∃ b, (!decide (NearL f n gap room)) = b := ⟨_, rfl⟩
  have KG := Lib.hid (fun W (hW : Ints W A n f) => great15 A n c f gap room W hW bg hbg)
  have HS0 := Lib.hid hS
  have HC := Lib.hid hc
  clear hI hA hS hc
  cases bg with
  | true =>
    go_enter Try.func6, Try.ntmps6
    go_wp2_with (first
      | (go_at_call 16; (with_reducible refine (KA.out _).mono ?_); rintro e w1 ⟨rfl, hb⟩; have B1 := Lib.hid hb; clear hb)
      | (go_at_call 17; (with_reducible refine (KG.out _ (HI.out.below B1.out)).mono ?_); rintro e w2 ⟨rfl, rfl⟩))
    go_ret
    exact ⟨rfl, B1.out⟩
  | false =>
  have NL : Hid (NearL f n gap room) := Lib.hid (by simpa using hbg)
  have hn3 : n ≤ 300 := NL.out.hn
  have KS := Lib.hid (fun W (hW : Ints W A n f) => HS0.out A n c f gap room false W hW (by omega) HC.out)
  rw [NL.out.ok] at KS
  have e0 : splitL f n gap room false = linesA f gap room false n 0 := by unfold splitL; rw [if_pos NL.out.ok]
  rw [e0] at KS
  clear e0 hbg
  have LB : Hid (∀ i, i < n → -1099511627776 ≤ f i ∧ f i ≤ 1099511627776) := Lib.hid (fun i hi => by have := NL.out.hf i hi; omega)
  have GB : Hid (0 ≤ gap ∧ gap ≤ 1099511627776) := Lib.hid (by have := NL.out.hgap; omega)
  obtain ⟨T, hT⟩ : ∃ T, gap * ((n : Int) - 1) + sumQ f n = T := ⟨_, rfl⟩
  have KL := Lib.hid (fun W (hW : Ints W A n f) => lawLong15 A n c f gap W hW (by omega) GB.out LB.out T hT)
  have TB : Hid (T ≤ 1099511627776) := Lib.hid (by
    have h1 := sumQ_bd15 (f := f) (c := 1073741824) n (fun j hj => NL.out.hf j hj)
    have h2 : gap * ((n : Int) - 1) ≤ 1073741824 * 300 := by
      have h3 := NL.out.hgap
      by_cases h0 : n = 0
      · subst h0; simp; omega
      · have a : gap * ((n : Int) - 1) ≤ 1073741824 * ((n : Int) - 1) := Int.mul_le_mul_of_nonneg_right h3.2 (by omega)
        omega
    omega)
  have TL : Hid (0 < n → longF f gap 0 n = T) := Lib.hid (fun h0 => by
    rw [← longF_part f gap h0, ← hT, Nat.sub_zero]
    congr 2
    funext k
    rw [Nat.zero_add])
  have KT : Hid (∀ room2, (0 < T ∧ room2 = T) ∨ (T ≤ 0 ∧ room2 = 0) → ∀ W, Ints W A n f → (∀ i, i < n → 0 ≤ f i) → Calls Try.prog 14 #[.slice A n c, .int .i64 gap, .int .i64 room2, .bool true] W fun e w' => ∃ v c2, e = .returned (.tuple #[.slice v (linesA f gap room false n 0).length c2, .int .i64 0]) ∧ Below W.heap.size W w') := Lib.hid (fun room2 hr W hW h0 => by
    have ok : splitE f n gap room2 = 0 := by
      unfold splitE
      have h2 := GB.out
      have h3 := TB.out
      rw [if_neg (by omega), if_neg]
      rintro (c | c | c)
      · have : allFit f n = true := decide_eq_true (fun i hi => by have := LB.out i hi; unfold Fit; omega)
        rw [this] at c; cases c
      · exact c (by unfold Fit; omega)
      · exact c (by unfold Fit; omega)
    refine (HS0.out A n c f gap room2 true W hW (by omega) HC.out).mono ?_
    rintro e w' ⟨v, rfl, hO, hb⟩
    rw [ok]
    have e1 : splitL f n gap room2 true = linesA f gap room2 true n 0 := by unfold splitL; rw [if_pos ok]
    rw [e1] at hO
    obtain ⟨A2, c2, ev, -, -, -⟩ := own_form hO
    have e2 := one_full (f := f) (gap := gap) (room := room2) (n := n) GB.out.1 h0 (fun hn => by rw [TL.out hn]; omega)
    rw [castL_len, e2, one_len f gap room2 n room] at ev
    subst ev
    exact ⟨A2, c2, rfl, hb⟩)
  have LL : Hid (linesA f gap room false n 0 = if 0 < n then [(0, n)] else []) := Lib.hid (by
    by_cases h0 : 0 < n
    · rw [if_pos h0]; exact linesA_one h0 (fun k _ _ => .inl rfl)
    · rw [if_neg h0]; exact linesA_nil (by omega))
  clear hT HS0 TL GB LB TB NL
  have fin : n = 0 ∨ n = 1 ∨ 2 ≤ n := by omega
  rcases fin with rfl | rfl | h2
  · rw [LL.out, if_neg (by omega)] at KS KT
    simp only [List.length_nil] at KT
    clear LL
    go_enter Try.func6, Try.ntmps6
    go_upto_region 6 with (first
      | (go_at_call 16; (with_reducible refine (KA.out _).mono ?_); rintro e w1 ⟨rfl, hb⟩; have B1 := Lib.hid hb; have I1 := Lib.hid (HI.out.below hb); clear hb)
      | (go_at_call 17; (with_reducible refine (KG.out _ I1.out).mono ?_); rintro e w2 ⟨rfl, rfl⟩)
      | (go_at_call 14; (with_reducible refine (KS.out _ I1.out).mono ?_); rintro e w2 ⟨v, rfl, hO, hb⟩; have O2 := Lib.hid hO; obtain ⟨A2, c2, ev, -, -, -⟩ := own_form O2.out; rw [show (castL []).length = 0 from rfl] at ev; subst ev; have B2 := Lib.hid (b_next15 B1.out hb); clear hO hb))
    have I2 := Lib.hid (HI.out.below B2.out)
    go_upto_region 8 with fail
    go_wp2_with fail
    go_loopg [9] (0) (fun g1 vi wr => ∃ k : Nat, vi = .int .i64 k ∧ k ≤ 0 ∧ 0 - k ≤ g1 ∧ Hid (∀ i, i < k → 0 ≤ f i) ∧ w2 = wr)
    case atStart => exact ⟨0, rfl, by omega, by omega, Lib.hid (fun i hi => absurd hi (by omega)), rfl⟩
    case round =>
      obtain ⟨k, rfl, hk, hg1, HF, rfl⟩ := hrel
      by_cases hlt : k < 0
      · exact absurd hlt (by omega)
      · obtain rfl : k = 0 := by omega
        have hz : (((0 : Nat) : Int) < ((0 : Nat) : Int)) = False := by simp
        have hz' : ¬ ((0 : Nat) : Int) < ((0 : Nat) : Int) := by omega
        by_cases hp : 0 < T
        · go_wp2_with (first
            | (go_at_call 18; (with_reducible refine (KL.out _ I2.out).mono ?_); rintro e w3 ⟨rfl, rfl⟩)
            | (go_at_call 14; (with_reducible refine (KT.out T (.inl ⟨hp, rfl⟩) _ I2.out HF.out).mono ?_); rintro e w3 ⟨v3, c3, rfl, hb⟩; have B3 := Lib.hid (b_next15 B2.out hb); clear hb))
          go_ret
          exact ⟨by first | rfl | simp, B3.out⟩
        · have hp' : (0 < T) = False := by simp only [hp]
          go_wp2_with (first
            | (go_at_call 18; (with_reducible refine (KL.out _ I2.out).mono ?_); rintro e w3 ⟨rfl, rfl⟩)
            | (go_at_call 14; (with_reducible refine (KT.out 0 (.inr ⟨by omega, rfl⟩) _ I2.out HF.out).mono ?_); rintro e w3 ⟨v3, c3, rfl, hb⟩; have B3 := Lib.hid (b_next15 B2.out hb); clear hb))
          go_ret
          exact ⟨by first | rfl | simp, B3.out⟩
  · rw [LL.out, if_pos (by omega)] at KS KT
    simp only [List.length_singleton] at KT
    clear LL
    go_enter Try.func6, Try.ntmps6
    go_upto_region 6 with (first
      | (go_at_call 16; (with_reducible refine (KA.out _).mono ?_); rintro e w1 ⟨rfl, hb⟩; have B1 := Lib.hid hb; have I1 := Lib.hid (HI.out.below hb); clear hb)
      | (go_at_call 17; (with_reducible refine (KG.out _ I1.out).mono ?_); rintro e w2 ⟨rfl, rfl⟩)
      | (go_at_call 14; (with_reducible refine (KS.out _ I1.out).mono ?_); rintro e w2 ⟨v, rfl, hO, hb⟩; have O2 := Lib.hid hO; obtain ⟨A2, c2, ev, -, -, -⟩ := own_form O2.out; rw [show (castL [(0, 1)]).length = 1 from rfl] at ev; subst ev; have B2 := Lib.hid (b_next15 B1.out hb); clear hO hb))
    have I2 := Lib.hid (HI.out.below B2.out)
    obtain ⟨g, c3, e, x0, x1⟩ := own_line O2.out (k := 0) (by simp)
    injection e with e1 e2 e3
    subst e1 e3
    clear e2
    simp only [List.getElem_cons_zero, Nat.zero_mul, Nat.zero_add, Int.cast_ofNat_Int] at x0 x1
    have nn : ((((1 : Nat) : Int)) != ((1 : Nat) : Int)) = (!true) := by simp
    have nn2 : (((1 : Nat) : Int) == (1 : Nat)) = true := by simp
    go_upto_region 8 with fail
    go_wp2_with fail
    go_loopg [9] (1) (fun g1 vi wr => ∃ k : Nat, vi = .int .i64 k ∧ k ≤ 1 ∧ 1 - k ≤ g1 ∧ Hid (∀ i, i < k → 0 ≤ f i) ∧ w2 = wr)
    case atStart => exact ⟨0, rfl, by omega, by omega, Lib.hid (fun i hi => absurd hi (by omega)), rfl⟩
    case round =>
      obtain ⟨k, rfl, hk, hg1, HF, rfl⟩ := hrel
      by_cases hlt : k < 1
      · have hz : (k : Int) < (1 : Nat) := by omega
        have hz0 : (0 : Int) ≤ k := by omega
        have wi : IntKind.i64.wrap ((k : Int) + 1) = (k : Int) + 1 := IntWalk.i64_in _ (by omega)
        obtain ⟨b, off, rfl, -, c0⟩ := I2.out.at_ hlt
        have FX : Hid (∀ x, f k = x → 0 ≤ x → ∀ i, i < k + 1 → 0 ≤ f i) := Lib.hid (fun x e hx i hi => by
          rcases Nat.lt_or_ge i k with h | h
          · exact HF.out i h
          · obtain rfl : i = k := by omega
            rw [e]; exact hx)
        generalize f k = x at c0 FX
        by_cases b1 : x < 0
        · go_wp2_with fail
          go_ret
          exact ⟨rfl, B2.out⟩
        · have FY := Lib.hid (FX.out x rfl (by omega))
          clear FX
          go_wp2_with fail
          go_roundg (1 - (k + 1))
          case measure => omega
          case rel => exact ⟨k + 1, by go_num, by omega, Nat.le_refl _, FY, rfl⟩
      · obtain rfl : k = 1 := by omega
        have hz : (((1 : Nat) : Int) < ((1 : Nat) : Int)) = False := by simp
        have hz' : ¬ ((1 : Nat) : Int) < ((1 : Nat) : Int) := by omega
        by_cases hp : 0 < T
        · go_wp2_with (first
            | (go_at_call 18; (with_reducible refine (KL.out _ I2.out).mono ?_); rintro e w3 ⟨rfl, rfl⟩)
            | (go_at_call 14; (with_reducible refine (KT.out T (.inl ⟨hp, rfl⟩) _ I2.out HF.out).mono ?_); rintro e w3 ⟨v3, c3, rfl, hb⟩; have B3 := Lib.hid (b_next15 B2.out hb); clear hb))
          go_ret
          exact ⟨by first | rfl | simp, B3.out⟩
        · have hp' : (0 < T) = False := by simp only [hp]
          go_wp2_with (first
            | (go_at_call 18; (with_reducible refine (KL.out _ I2.out).mono ?_); rintro e w3 ⟨rfl, rfl⟩)
            | (go_at_call 14; (with_reducible refine (KT.out 0 (.inr ⟨by omega, rfl⟩) _ I2.out HF.out).mono ?_); rintro e w3 ⟨v3, c3, rfl, hb⟩; have B3 := Lib.hid (b_next15 B2.out hb); clear hb))
          go_ret
          exact ⟨by first | rfl | simp, B3.out⟩
  · rw [LL.out, if_pos (by omega)] at KS KT
    simp only [List.length_singleton] at KT
    clear LL
    have h3 : (1 : Int) < n := by omega
    go_enter Try.func6, Try.ntmps6
    go_upto_region 6 with (first
      | (go_at_call 16; (with_reducible refine (KA.out _).mono ?_); rintro e w1 ⟨rfl, hb⟩; have B1 := Lib.hid hb; have I1 := Lib.hid (HI.out.below hb); clear hb)
      | (go_at_call 17; (with_reducible refine (KG.out _ I1.out).mono ?_); rintro e w2 ⟨rfl, rfl⟩)
      | (go_at_call 14; (with_reducible refine (KS.out _ I1.out).mono ?_); rintro e w2 ⟨v, rfl, hO, hb⟩; have O2 := Lib.hid hO; obtain ⟨A2, c2, ev, -, -, -⟩ := own_form O2.out; rw [show (castL [(0, n)]).length = 1 from rfl] at ev; subst ev; have B2 := Lib.hid (b_next15 B1.out hb); clear hO hb))
    have I2 := Lib.hid (HI.out.below B2.out)
    obtain ⟨g, c3, e, x0, x1⟩ := own_line O2.out (k := 0) (by simp)
    injection e with e1 e2 e3
    subst e1 e3
    clear e2
    simp only [List.getElem_cons_zero, Nat.zero_mul, Nat.zero_add, Int.cast_ofNat_Int] at x0 x1
    have nn : ((((n : Nat) : Int)) != ((n : Nat) : Int)) = (!true) := by simp
    have nn2 : (((n : Nat) : Int) == (n : Nat)) = true := by simp
    go_upto_region 8 with fail
    go_wp2_with fail
    go_loopg [9] (n) (fun g1 vi wr => ∃ k : Nat, vi = .int .i64 k ∧ k ≤ n ∧ n - k ≤ g1 ∧ Hid (∀ i, i < k → 0 ≤ f i) ∧ w2 = wr)
    case atStart => exact ⟨0, rfl, by omega, by omega, Lib.hid (fun i hi => absurd hi (by omega)), rfl⟩
    case round =>
      obtain ⟨k, rfl, hk, hg1, HF, rfl⟩ := hrel
      by_cases hlt : k < n
      · have hz : (k : Int) < (n : Nat) := by omega
        have hz0 : (0 : Int) ≤ k := by omega
        have wi : IntKind.i64.wrap ((k : Int) + 1) = (k : Int) + 1 := IntWalk.i64_in _ (by omega)
        obtain ⟨b, off, rfl, -, c0⟩ := I2.out.at_ hlt
        have FX : Hid (∀ x, f k = x → 0 ≤ x → ∀ i, i < k + 1 → 0 ≤ f i) := Lib.hid (fun x e hx i hi => by
          rcases Nat.lt_or_ge i k with h | h
          · exact HF.out i h
          · obtain rfl : i = k := by omega
            rw [e]; exact hx)
        generalize f k = x at c0 FX
        by_cases b1 : x < 0
        · go_wp2_with fail
          go_ret
          exact ⟨rfl, B2.out⟩
        · have FY := Lib.hid (FX.out x rfl (by omega))
          clear FX
          go_wp2_with fail
          go_roundg (n - (k + 1))
          case measure => omega
          case rel => exact ⟨k + 1, by go_num, by omega, Nat.le_refl _, FY, rfl⟩
      · obtain rfl : k = n := by omega
        have hz : (((k : Nat) : Int) < (k : Nat)) = False := by simp
        have hz' : ¬ ((k : Nat) : Int) < (k : Nat) := by omega
        by_cases hp : 0 < T
        · go_wp2_with (first
            | (go_at_call 18; (with_reducible refine (KL.out _ I2.out).mono ?_); rintro e w3 ⟨rfl, rfl⟩)
            | (go_at_call 14; (with_reducible refine (KT.out T (.inl ⟨hp, rfl⟩) _ I2.out HF.out).mono ?_); rintro e w3 ⟨v3, c3, rfl, hb⟩; have B3 := Lib.hid (b_next15 B2.out hb); clear hb))
          go_ret
          exact ⟨by first | rfl | simp, B3.out⟩
        · have hp' : (0 < T) = False := by simp only [hp]
          go_wp2_with (first
            | (go_at_call 18; (with_reducible refine (KL.out _ I2.out).mono ?_); rintro e w3 ⟨rfl, rfl⟩)
            | (go_at_call 14; (with_reducible refine (KT.out 0 (.inr ⟨by omega, rfl⟩) _ I2.out HF.out).mono ?_); rintro e w3 ⟨v3, c3, rfl, hb⟩; have B3 := Lib.hid (b_next15 B2.out hb); clear hb))
          go_ret
          exact ⟨by first | rfl | simp, B3.out⟩
end Go.Proofs.Ytkakencndopgbaa
