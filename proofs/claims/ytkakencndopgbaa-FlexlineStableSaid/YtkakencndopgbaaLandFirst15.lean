/-
  The landed flexline.first: how many boxes stand in the first line; and a room that no boxes fill.
-/
import Derived.Test.YtkakencndopgbaaGreat15
import Derived.Deep.LoopGhost
namespace Go.Proofs.Ytkakencndopgbaa
open Go.RowKit

theorem longF_bd {f : Nat → Int} {gap : Int} {i j : Nat} (hij : i < j) (hj : j ≤ 2048) (hg : 0 ≤ gap ∧ gap ≤ 1099511627776) (hf : ∀ k, i ≤ k → k < j → -1099511627776 ≤ f k ∧ f k ≤ 1099511627776) : -4503599627370496 ≤ longF f gap i j ∧ longF f gap i j ≤ 4503599627370496 := by
  have h1 := sumF_bd (f := f) (c := 1099511627776) i (j - i) (fun k a b => hf k a (by omega))
  unfold longF
  have h2 : 0 ≤ gap * ((j : Int) - i - 1) := Int.mul_nonneg hg.1 (by omega)
  have h3 : gap * ((j : Int) - i - 1) ≤ 1099511627776 * ((j : Int) - i - 1) := Int.mul_le_mul_of_nonneg_right hg.2 (by omega)
  omega
/-- a room in the place of none -/
def roomR (room : Int) (wrap : Bool) : Int := if wrap = false ∨ room = -1 then 9223372036854775807 else room
section
variable {f : Nat → Int} {gap room : Int} {wrap : Bool} {n : Nat}
theorem goOn_roomR (hn : n ≤ 2048) (hg : 0 ≤ gap ∧ gap ≤ 1099511627776) (hf : ∀ k, k < n → -1099511627776 ≤ f k ∧ f k ≤ 1099511627776) {i j : Nat} (hij : i ≤ j) (hj : j < n) :
    goOn f gap (roomR room wrap) true i j ↔ goOn f gap room wrap i j := by
  have hb := longF_bd (f := f) (gap := gap) (i := i) (j := j + 1) (by omega) (by omega) hg (fun k _ h => hf k (by omega))
  unfold goOn roomR
  by_cases h : wrap = false ∨ room = -1
  · rw [if_pos h]
    constructor
    · intro _
      rcases h with h | h
      · exact .inl h
      · exact .inr (.inl h)
    · intro _
      exact .inr (.inr (by omega))
  · rw [if_neg h]
    constructor
    · rintro (h1 | h1 | h1)
      · cases h1
      · exact .inr (.inl h1)
      · exact .inr (.inr h1)
    · rintro (h1 | h1 | h1)
      · exact absurd (.inl h1) h
      · exact absurd (.inr h1) h
      · exact .inr (.inr h1)
theorem stopA_roomR (hn : n ≤ 2048) (hg : 0 ≤ gap ∧ gap ≤ 1099511627776) (hf : ∀ k, k < n → -1099511627776 ≤ f k ∧ f k ≤ 1099511627776) {i j : Nat} (hij : i ≤ j) :
    stopA f gap (roomR room wrap) true n i j = stopA f gap room wrap n i j := by
  by_cases hj : j < n
  · by_cases h : goOn f gap room wrap i j
    · rw [stopA_go hj h, stopA_go hj ((goOn_roomR hn hg hf hij hj).2 h)]
      exact stopA_roomR hn hg hf (by omega)
    · rw [stopA_no h, stopA_no (fun h' => h ((goOn_roomR hn hg hf hij hj).1 h'))]
  · rw [stopA_end (by omega), stopA_end (by omega)]
termination_by n - j
theorem linesA_roomR (hn : n ≤ 2048) (hg : 0 ≤ gap ∧ gap ≤ 1099511627776) (hf : ∀ k, k < n → -1099511627776 ≤ f k ∧ f k ≤ 1099511627776) (i : Nat) :
    linesA f gap (roomR room wrap) true n i = linesA f gap room wrap n i := by
  by_cases h : i < n
  · rw [linesA_cons h, linesA_cons h, stopA_roomR hn hg hf (by omega)]
    have := stopA_ge f gap room wrap n i (i + 1)
    rw [linesA_roomR hn hg hf]
  · rw [linesA_nil (by omega), linesA_nil (by omega)]
termination_by n - i
decreasing_by have := stopA_ge f gap room wrap n i (i + 1); omega
/-- a line of a part of the boxes -/
theorem longF_shift (f : Nat → Int) (gap : Int) (k i j : Nat) : longF (fun x => f (k + x)) gap i j = longF f gap (k + i) (k + j) := by
  unfold longF
  have e : ∀ m, sumF (fun x => f (k + x)) i m = sumF f (k + i) m := by
    intro m
    induction m with
    | zero => rfl
    | succ m ih => rw [sumF, sumF, ih, Nat.add_assoc]
  rw [e, show k + j - (k + i) = j - i by omega, show ((k + j : Nat) : Int) - ((k + i : Nat) : Int) - 1 = (j : Int) - i - 1 by omega]
theorem stopA_shift (k i j : Nat) (hk : k ≤ n) : k + stopA (fun x => f (k + x)) gap room wrap (n - k) i j = stopA f gap room wrap n (k + i) (k + j) := by
  by_cases hj : j < n - k
  · have e : goOn (fun x => f (k + x)) gap room wrap i j ↔ goOn f gap room wrap (k + i) (k + j) := by
      unfold goOn
      rw [longF_shift, Nat.add_assoc]
    by_cases h : goOn f gap room wrap (k + i) (k + j)
    · rw [stopA_go hj (e.2 h), stopA_go (by omega) h]
      exact stopA_shift k i (j + 1) hk
    · rw [stopA_no h, stopA_no (fun h' => h (e.1 h'))]
  · rw [stopA_end (by omega), stopA_end (by omega)]
termination_by n - k - j
end
set_option maxRecDepth 100000 in
set_option maxHeartbeats 4000000 in
theorem first15_any (b off m c : Nat) (g : Nat → Int) (gap room : Int) (w : World) (h : Ints w (some ⟨b, off, none⟩) m g) (hm0 : 0 < m) (hm : m ≤ 2048) (hg : 0 ≤ gap ∧ gap ≤ 1099511627776) (hf : ∀ k, k < m → -1099511627776 ≤ g k ∧ g k ≤ 1099511627776) (hr : room ≠ -1)
    (s : Nat) (hs : stopA g gap room true m 0 1 = s) :
    Calls Try.prog 31 #[.slice (some ⟨b, off, none⟩) m c, .int .i64 gap, .int .i64 room] w fun e w' => e = .returned (.int .i64 (s : Nat)) ∧ w = w' := by
  have H := Lib.hid h
  have S := Lib.hid hs
  have HF := Lib.hid hf
  have HR := Lib.hid hr
  have HG := Lib.hid hg
  have LB := Lib.hid (fun k (h0 : 0 < k) (h1 : k ≤ m) => longF_bd (f := g) (gap := gap) (i := 0) (j := k) h0 (by omega) hg (fun x _ hx => hf x (by omega)))
  obtain ⟨b', off', e, -, c0⟩ := h.at_ hm0
  injection e with e
  injection e with e1 e2
  subst e1 e2
  rw [Nat.add_zero] at c0
  have L1 : Hid (longF g gap 0 1 = g 0) := Lib.hid (longF_one g gap 0)
  have hmz : (0 : Int) < m := by omega
  clear h hs hf hr hg
  generalize hx : g 0 = x0 at c0 L1
  go_enter Try.func31, Try.ntmps31
  go_wp2_with fail
  go_loopg [7, 8] m (fun g1 vl vk wr => ∃ k : Nat, vk = .int .i64 k ∧ vl = .int .i64 (longF g gap 0 k) ∧ 0 < k ∧ k ≤ m ∧ m - k ≤ g1 ∧ Hid (stopA g gap room true m 0 k = s) ∧ w = wr)
  case atStart => exact ⟨1, rfl, by rw [L1.out], by omega, hm0, by omega, S, rfl⟩
  case round =>
    obtain ⟨k, rfl, rfl, hk0, hk, hg1, HS, rfl⟩ := hrel
    clear c0 hx L1 S
    by_cases hlt : k < m
    · have hz : (k : Int) < m := by omega
      have hz0 : (0 : Int) ≤ k := by omega
      obtain ⟨b', off', e, -, c1⟩ := H.out.at_ hlt
      injection e with e
      injection e with e1 e2
      subst e1 e2
      have l0 := LB.out k hk0 (by omega)
      have l1 := LB.out (k + 1) (by omega) hlt
      have st := longF_step g gap (i := 0) (j := k) hk0
      have gb := HG.out
      have SG := Lib.hid (fun (hgo : longF g gap 0 (k + 1) ≤ room) => (stopA_go (wrap := true) hlt (.inr (.inr hgo))).symm.trans HS.out)
      have SN := Lib.hid (fun (hgo : ¬ longF g gap 0 (k + 1) ≤ room) => (stopA_no (n := m) (wrap := true) (show ¬ goOn g gap room true 0 k by rintro (t | t | t); cases t; exact HR.out t; exact hgo t)).symm.trans HS.out)
      have fb := HF.out k hlt
      generalize hlv : longF g gap 0 k = lv at st l0 ⊢
      generalize hlw : longF g gap 0 (k + 1) = lv2 at st l1 SG SN
      generalize hgk : g k = x at c1 st fb
      have w1 : IntKind.i64.wrap (gap + x) = gap + x := IntWalk.i64_in _ (by omega)
      have w2 : IntKind.i64.wrap (lv + (gap + x)) = lv2 := by rw [IntWalk.i64_in _ (by omega)]; omega
      have wk : IntKind.i64.wrap ((k : Int) + 1) = ((k + 1 : Nat) : Int) := by rw [IntWalk.i64_in _ (by omega)]; rfl
      have HLW := Lib.hid hlw
      clear hlv hlw hgk st l0 l1 fb gb
      by_cases hgo : lv2 ≤ room
      · have hd : decide (room < lv2) = false := decide_eq_false (by omega)
        have NX := Lib.hid (SG.out hgo)
        clear hgo SG SN
        go_wp2_with fail
        go_roundg (m - (k + 1))
        case measure => omega
        case rel => exact ⟨k + 1, by go_num, by rw [HLW.out], by omega, hlt, Nat.le_refl _, NX, rfl⟩
      · have hd : decide (room < lv2) = true := decide_eq_true (by omega)
        have NX := Lib.hid (SN.out hgo)
        clear hgo SG SN
        go_wp2_with fail
        go_ret
        exact ⟨by rw [← NX.out]; rfl, rfl⟩
    · obtain rfl : k = m := by omega
      have hz : decide ((k : Int) < k) = false := decide_eq_false (by omega)
      have NX : Hid (k = s) := Lib.hid ((stopA_end (f := g) (gap := gap) (room := room) (wrap := true) (i := 0) (Nat.le_refl k)).symm.trans HS.out)
      go_wp2_with fail
      go_ret
      exact ⟨by rw [← NX.out]; rfl, rfl⟩
end Go.Proofs.Ytkakencndopgbaa
