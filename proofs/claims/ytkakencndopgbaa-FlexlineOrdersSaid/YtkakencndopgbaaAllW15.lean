/-
  The law FlexlineAll: of any Split that answers as is asked.
-/
import Derived.Test.YtkakencndopgbaaGreat15
namespace Go.Proofs.Ytkakencndopgbaa
open Go.RowKit

set_option maxRecDepth 100000 in
set_option maxHeartbeats 8000000 in
theorem all15 (hS : SplitOK 14) (hA : AwakeOK15 16) (A : Option Addr) (n c : Nat) (f : Nat → Int) (gap room : Int) (w : World) (hI : Ints w A n f) (hc : n ≤ c ∧ c ≤ 9223372036854775807) :
    Calls Try.prog 5 #[.slice A n c, .int .i64 gap, .int .i64 room] w fun e w' => e = .returned (.bool true) ∧ Below w.heap.size w w' := by
  have KA := Lib.hid (fun W => hA W)
  have HI := Lib.hid hI
  have KG := Lib.hid (fun W (hW : Ints W A n f) b hb => great15 A n c f gap room W hW b hb)
  have HS0 := Lib.hid hS
  have HC := Lib.hid hc
  clear hI hA hS hc
  go_enter Try.func5, Try.ntmps5
  go_upto_region 3 with (go_at_call 16; (with_reducible refine (KA.out _).mono ?_); rintro e w1 ⟨rfl, hb⟩; have B1 := Lib.hid hb; clear hb)
  have I1 := Lib.hid (HI.out.below B1.out)
  obtain ⟨bg, hbg⟩ : ∃ b, (!decide (NearL f n gap room)) = b := ⟨_, rfl⟩
  have KG1 := Lib.hid (KG.out w1 I1.out bg hbg)
  clear KG KA
  cases bg with
  | true =>
    go_wp2_with (go_at_call 17; (with_reducible refine KG1.out.mono ?_); rintro e w2 ⟨rfl, rfl⟩)
    go_ret
    exact ⟨rfl, B1.out⟩
  | false =>
  have NL : Hid (NearL f n gap room) := Lib.hid (by simpa using hbg)
  have hn3 : n ≤ 300 := NL.out.hn
  have hrm := NL.out.hroom
  have KS := Lib.hid (HS0.out A n c f gap room true w1 I1.out (by omega) HC.out)
  rw [NL.out.ok] at KS
  have e0 : splitL f n gap room true = linesA f gap room true n 0 := by unfold splitL; rw [if_pos NL.out.ok]
  rw [e0] at KS
  have CH := Lib.hid (linesA_chain (f := f) (gap := gap) (room := room) (wrap := true) (Nat.zero_le n))
  have LI := Lib.hid (linesA_is (f := f) (gap := gap) (room := room) (wrap := true) (n := n) (i := 0))
  have ONE : Hid (room = -1 → (linesA f gap room true n 0).length ≤ 1) := Lib.hid (fun e => by
    by_cases h0 : 0 < n
    · rw [linesA_one h0 (fun k _ _ => .inr (.inl e))]; simp
    · rw [linesA_nil (by omega)]; simp)
  clear e0 HS0 hbg
  generalize linesA f gap room true n 0 = L at KS CH LI ONE
  have CE := Lib.hid (chain_end CH.out)
  obtain ⟨m, hm⟩ : ∃ m, L.length = m := ⟨_, rfl⟩
  have HM := Lib.hid hm
  rw [hm] at ONE CE
  have LB : Hid (∀ i, i < n → -1099511627776 ≤ f i ∧ f i ≤ 1099511627776) := Lib.hid (fun i hi => by have := NL.out.hf i hi; omega)
  have GB : Hid (0 ≤ gap ∧ gap ≤ 1099511627776) := Lib.hid (by have := NL.out.hgap; omega)
  go_upto_region 6 with (first
    | (go_at_call 17; (with_reducible refine KG1.out.mono ?_); rintro e w2 ⟨rfl, rfl⟩)
    | (go_at_call 14; (with_reducible refine KS.out.mono ?_); rintro e w2 ⟨v, rfl, hO, hb⟩; have O2 := Lib.hid hO; have B2 := Lib.hid (b_next15 B1.out hb); clear hO hb))
  obtain ⟨A2, c2, ev, -, -, -⟩ := own_form O2.out
  rw [castL_len, hm] at ev
  subst ev
  have I2 := Lib.hid (HI.out.below B2.out)
  clear I1 KS KG1 B1 hm HI
  have ML : Hid (m ≤ n) := Lib.hid (by have := chain_len CH.out HM.out; omega)
  go_wp2_with fail
  go_loopg [9, 10] m (fun g1 va vi wr => ∃ k : Nat, vi = .int .i64 k ∧ va = .int .i64 (prevTo 0 L k : Nat) ∧ k ≤ m ∧ m - k ≤ g1 ∧ Hid (Below w2.heap.size w2 wr))
  case atStart => exact ⟨0, rfl, rfl, by omega, by omega, Lib.hid (Below.refl _ _)⟩
  case round =>
    obtain ⟨k, rfl, rfl, hk, hg1, HB⟩ := hrel
    obtain ⟨wo, hwo⟩ : ∃ wo, wo = wr := ⟨_, rfl⟩
    subst hwo
    by_cases hlt : k < m
    · have hz : (k : Int) < m := by omega
      have hz0 : (0 : Int) ≤ k := by omega
      have wi : IntKind.i64.wrap ((k : Int) + 1) = (k : Int) + 1 := IntWalk.i64_in _ (by have := ML.out; omega)
      have hkl : k < L.length := by rw [HM.out]; exact hlt
      obtain ⟨g, c3, e, c0, c1⟩ := own_line (O2.out.keep HB.out) hkl
      rw [HM.out] at e
      injection e with e1 e2 e3
      subst e1 e3
      clear e2
      have E1 := Lib.hid (prevTo_at (i := 0) hkl)
      obtain ⟨a1, a2, a3⟩ := chain_at CH.out (List.getElem?_eq_getElem hkl)
      have WD := Lib.hid (LineIs.wide (LI.out _ (List.getElem_mem hkl)))
      rw [← a1]
      obtain ⟨⟨p, q⟩, hx⟩ : ∃ x, L[k] = x := ⟨_, rfl⟩
      rw [hx] at c0 c1 E1 a2 a3 WD ⊢
      dsimp only at c0 c1 E1 a2 a3 WD ⊢
      clear hx a1
      have W3 : Hid (Below wo.heap.size wo (wo.alloc (.cells #[.int .i64 p, .int .i64 q] 34))) := Lib.hid ((Below.refl _ _).alloc (Nat.le_refl _) _)
      have X3 : Hid ((wo.alloc (.cells #[.int .i64 p, .int .i64 q] 34)).heap[wo.heap.size]? = some (.cells #[.int .i64 p, .int .i64 q] 34)) := Lib.hid (heap_alloc_new wo _)
      go_upto_region 11 with fail
      clear c0 c1
      have I3 := Lib.hid ((I2.out.below HB.out).below W3.out)
      have B3 := Lib.hid (b_next15 HB.out W3.out)
      clear HB W3
      generalize wo.heap.size = g5 at X3 ⊢
      generalize wo.alloc (.cells #[.int .i64 p, .int .i64 q] 34) = w3 at X3 I3 B3 ⊢
      have x0 : w3.cell? ⟨g5, 0, none⟩ = some (.int .i64 p) := by have := X3.out; simp [World.cell?, this]
      have x1 : w3.cell? ⟨g5, 1, none⟩ = some (.int .i64 q) := by have := X3.out; simp [World.cell?, this]
      have pp : ((p : Int) != p) = (!true) := by simp
      have d1 : decide ((q : Int) ≤ p) = false := decide_eq_false (by omega)
      have d2 : decide ((n : Int) < q) = false := decide_eq_false (by omega)
      by_cases hr : room < 0
      · go_wp2_with fail
        go_roundg (m - (k + 1))
        case measure => omega
        case rel => exact ⟨k + 1, by go_num, by rw [E1.out], by omega, Nat.le_refl _, B3⟩
      · have hr1 : decide (room < 0) = false := decide_eq_false hr
        have hr2 : ¬ room < 0 := hr
        obtain ⟨-, -, y1, y2⟩ := WD.out (by omega)
        obtain ⟨b, off, eA, -, -⟩ := I3.out.at_ (show p < n by omega)
        subst eA
        have wq : IntKind.i64.wrap ((q : Int) - p) = (q : Int) - p := IntWalk.i64_in _ (by omega)
        have sl1 : (q : Int) ≤ c := by have := HC.out; omega
        have sl2 : (p : Int) ≤ q := by omega
        have hck : (c - p = 0) = False := by simp; have := HC.out; omega
        have K1 := Lib.hid (fun (h : p < q) => lawLong15 (some ⟨b, off + p, none⟩) (q - p) (c - p) (fun x => f (p + x)) gap w3 (I3.out.part (by omega) a3) (by omega) GB.out (fun i hi => LB.out _ (by omega)) (longF f gap p q) (longF_part f gap h))
        replace K1 := Lib.hid (K1.out a2)
        obtain ⟨l1, hl1⟩ : ∃ l1, longF f gap p q = l1 := ⟨_, rfl⟩
        rw [hl1] at K1 y1
        clear hl1
        go_upto_region 14 with fail
        by_cases hq : q < n
        · have d3 : decide ((q : Int) < n) = true := decide_eq_true (by omega)
          have d3' : (q : Int) < n := by omega
          have wq1 : IntKind.i64.wrap ((q : Int) + 1) = ((q + 1 : Nat) : Int) := by rw [IntWalk.i64_in _ (by omega)]; rfl
          have sl3 : ((q + 1 : Nat) : Int) ≤ c := by have := HC.out; omega
          have sl4 : (p : Int) ≤ ((q + 1 : Nat) : Int) := by omega
          have K2 := Lib.hid (lawLong15 (some ⟨b, off + p, none⟩) (q + 1 - p) (c - p) (fun x => f (p + x)) gap w3 (I3.out.part (by omega) (by omega)) (by omega) GB.out (fun i hi => LB.out _ (by omega)) (longF f gap p (q + 1)) (longF_part f gap (by omega)))
          have y3 := y2 hq
          obtain ⟨l2, hl2⟩ : ∃ l2, longF f gap p (q + 1) = l2 := ⟨_, rfl⟩
          rw [hl2] at K2 y3
          have d4 : decide (l2 ≤ room) = false := decide_eq_false (by omega)
          clear hl2 y2 hr hr2
          by_cases h1 : p + 1 < q
          · have d5 : decide ((1 : Int) < (q : Int) - p) = true := decide_eq_true (by omega)
            have d5' : (1 : Int) < (q : Int) - p := by omega
            have y4 := y1 h1
            have d6 : decide (room < l1) = false := decide_eq_false (by omega)
            go_wp2_with (first
              | (go_at_call 18; (with_reducible refine K1.out.mono ?_); rintro e w' ⟨rfl, rfl⟩)
              | (go_at_call 18; (with_reducible refine K2.out.mono ?_); rintro e w' ⟨rfl, rfl⟩))
            go_roundg (m - (k + 1))
            case measure => omega
            case rel => exact ⟨k + 1, by go_num, by rw [E1.out], by omega, Nat.le_refl _, B3⟩
          · have d5 : decide ((1 : Int) < (q : Int) - p) = false := decide_eq_false (by omega)
            go_wp2_with (go_at_call 18; (with_reducible refine K2.out.mono ?_); rintro e w' ⟨rfl, rfl⟩)
            go_roundg (m - (k + 1))
            case measure => omega
            case rel => exact ⟨k + 1, by go_num, by rw [E1.out], by omega, Nat.le_refl _, B3⟩
        · have d3 : decide ((q : Int) < n) = false := decide_eq_false (by omega)
          clear y2 hr hr2
          by_cases h1 : p + 1 < q
          · have d5 : decide ((1 : Int) < (q : Int) - p) = true := decide_eq_true (by omega)
            have d5' : (1 : Int) < (q : Int) - p := by omega
            have y4 := y1 h1
            have d6 : decide (room < l1) = false := decide_eq_false (by omega)
            go_wp2_with (go_at_call 18; (with_reducible refine K1.out.mono ?_); rintro e w' ⟨rfl, rfl⟩)
            go_roundg (m - (k + 1))
            case measure => omega
            case rel => exact ⟨k + 1, by go_num, by rw [E1.out], by omega, Nat.le_refl _, B3⟩
          · have d5 : decide ((1 : Int) < (q : Int) - p) = false := decide_eq_false (by omega)
            go_wp2_with fail
            go_roundg (m - (k + 1))
            case measure => omega
            case rel => exact ⟨k + 1, by go_num, by rw [E1.out], by omega, Nat.le_refl _, B3⟩
    · obtain rfl : k = m := by omega
      have hz : ¬ (k : Int) < k := by omega
      rw [CE.out]
      have nn : ((n : Int) == n) = true := by simp
      have BF := Lib.hid (b_next15 B2.out HB.out)
      by_cases hr : room < 0
      · have hr1 : decide ((0 : Int) ≤ room) = false := decide_eq_false (by omega)
        have o1 : decide ((k : Int) ≤ 1) = true := decide_eq_true (by have := ONE.out (by omega); omega)
        have o2 : (k : Int) ≤ 1 := by have := ONE.out (by omega); omega
        go_wp2_with fail
        go_ret
        exact ⟨by simp, BF.out⟩
      · have hr1 : decide ((0 : Int) ≤ room) = true := decide_eq_true (by omega)
        have hr2 : (0 : Int) ≤ room := by omega
        go_wp2_with fail
        go_ret
        exact ⟨by simp, BF.out⟩
end Go.Proofs.Ytkakencndopgbaa
