/-
  The law FlexlineWider: of any Split that answers as is asked.
-/
import Derived.Test.YtkakencndopgbaaGreat15
namespace Go.Proofs.Ytkakencndopgbaa
open Go.RowKit

/-- what a Split tells of boxes near 0 -/
theorem split_near {F : Nat} (hS : SplitOK F) {A : Option Addr} {n c : Nat} {f : Nat → Int} {gap room : Int} (hN : NearL f n gap room) (hc : n ≤ c ∧ c ≤ 9223372036854775807) (W : World) (hW : Ints W A n f) :
    Calls Try.prog F #[.slice A n c, .int .i64 gap, .int .i64 room, .bool true] W fun e w' => ∃ A2 c2, e = .returned (.tuple #[.slice A2 (linesA f gap room true n 0).length c2, .int .i64 0]) ∧ ownsL15 w' W.heap.size (.slice A2 (linesA f gap room true n 0).length c2) (castL (linesA f gap room true n 0)) ∧ Below W.heap.size W w' := by
  refine (hS A n c f gap room true W hW (by have := hN.hn; omega) hc).mono ?_
  rintro e w' ⟨v, rfl, hO, hb⟩
  rw [hN.ok]
  have e1 : splitL f n gap room true = linesA f gap room true n 0 := by unfold splitL; rw [if_pos hN.ok]
  rw [e1] at hO
  obtain ⟨A2, c2, ev, -, -, -⟩ := own_form hO
  rw [castL_len] at ev
  subst ev
  exact ⟨A2, c2, rfl, hO, hb⟩
set_option maxRecDepth 100000 in
set_option maxHeartbeats 8000000 in
theorem wider15 (hS : SplitOK 14) (hA : AwakeOK15 16) (A : Option Addr) (n c : Nat) (f : Nat → Int) (gap room more : Int) (w : World) (hI : Ints w A n f) (hc : n ≤ c ∧ c ≤ 9223372036854775807) :
    Calls Try.prog 7 #[.slice A n c, .int .i64 gap, .int .i64 room, .int .i64 more] w fun e w' => e = .returned (.bool true) ∧ Below w.heap.size w w' := by
  have KA := Lib.hid (fun W => hA W)
  have HI := Lib.hid hI
  obtain ⟨b1, hb1⟩ : ∃ b, (!decide (NearL f n gap room)) = b := ⟨_, rfl⟩
  obtain ⟨b2, hb2⟩ : ∃ b, (!decide (NearL f n gap more)) = b := ⟨_, rfl⟩
  have KG1 := Lib.hid (fun W (hW : Ints W A n f) => great15 A n c f gap room W hW b1 hb1)
  have KG2 := Lib.hid (fun W (hW : Ints W A n f) => great15 A n c f gap more W hW b2 hb2)
  have HS0 := Lib.hid hS
  have HC := Lib.hid hc
  clear hI hA hS hc
  by_cases hout : (b1 = true ∨ b2 = true) ∨ room < 0 ∨ more < room
  · have three : ∀ p q : Bool, p = true ∨ (p = false ∧ q = true) ∨ (p = false ∧ q = false) := by decide
    have h3 := three b1 b2
    clear hb1 hb2 three HS0
    rcases h3 with rfl | ⟨rfl, rfl⟩ | ⟨rfl, rfl⟩
    · go_enter Try.func7, Try.ntmps7
      go_wp2_with (first
        | (go_at_call 16; (with_reducible refine (KA.out _).mono ?_); rintro e w1 ⟨rfl, hb⟩; have B1 := Lib.hid hb; have I1 := Lib.hid (HI.out.below hb); clear hb)
        | (go_at_call 17; (with_reducible refine (KG1.out _ I1.out).mono ?_); rintro e w2 ⟨rfl, rfl⟩; clear KG1))
      go_ret
      exact ⟨rfl, B1.out⟩
    · go_enter Try.func7, Try.ntmps7
      go_wp2_with (first
        | (go_at_call 16; (with_reducible refine (KA.out _).mono ?_); rintro e w1 ⟨rfl, hb⟩; have B1 := Lib.hid hb; have I1 := Lib.hid (HI.out.below hb); clear hb)
        | (go_at_call 17; (with_reducible refine (KG1.out _ I1.out).mono ?_); rintro e w2 ⟨rfl, rfl⟩; clear KG1)
        | (go_at_call 17; (with_reducible refine (KG2.out _ I1.out).mono ?_); rintro e w2 ⟨rfl, rfl⟩))
      go_ret
      exact ⟨rfl, B1.out⟩
    · have h4 : room < 0 ∨ (¬ room < 0 ∧ more < room) := by
        rcases hout with h | h | h
        · simp at h
        · exact .inl h
        · by_cases h' : room < 0
          · exact .inl h'
          · exact .inr ⟨h', h⟩
      clear hout
      rcases h4 with h4 | ⟨h4, h5⟩
      all_goals (
        go_enter Try.func7, Try.ntmps7
        go_wp2_with (first
          | (go_at_call 16; (with_reducible refine (KA.out _).mono ?_); rintro e w1 ⟨rfl, hb⟩; have B1 := Lib.hid hb; have I1 := Lib.hid (HI.out.below hb); clear hb)
          | (go_at_call 17; (with_reducible refine (KG1.out _ I1.out).mono ?_); rintro e w2 ⟨rfl, rfl⟩; clear KG1)
          | (go_at_call 17; (with_reducible refine (KG2.out _ I1.out).mono ?_); rintro e w2 ⟨rfl, rfl⟩))
        go_ret
        exact ⟨rfl, B1.out⟩)
  obtain rfl : b1 = false := by cases b1 <;> simp_all
  obtain rfl : b2 = false := by cases b2 <;> simp_all
  have hr0 : ¬ room < 0 := fun h => hout (.inr (.inl h))
  have hr1 : ¬ more < room := fun h => hout (.inr (.inr h))
  have NL1 : Hid (NearL f n gap room) := Lib.hid (by simpa using hb1)
  have NL2 : Hid (NearL f n gap more) := Lib.hid (by simpa using hb2)
  have NL3 : Hid (NearL f n 0 room) := Lib.hid ⟨NL1.out.hn, by omega, NL1.out.hroom, NL1.out.hf⟩
  have hn3 : n ≤ 300 := NL1.out.hn
  have KS1 := Lib.hid (fun W hW => split_near HS0.out (A := A) NL1.out HC.out W hW)
  have KS2 := Lib.hid (fun W hW => split_near HS0.out (A := A) NL2.out HC.out W hW)
  have KS3 := Lib.hid (fun W hW => split_near HS0.out (A := A) NL3.out HC.out W hW)
  have MN : Hid ((∀ i, i < n → 0 ≤ f i) → ((linesA f gap more true n 0).length ≤ (linesA f gap room true n 0).length ∧ ∀ (k : Nat) (x y : Nat × Nat), (linesA f gap more true n 0)[k]? = some x → (linesA f gap room true n 0)[k]? = some y → y.2 ≤ x.2) ∧ (linesA f 0 room true n 0).length ≤ (linesA f gap room true n 0).length) := Lib.hid (fun h0 => by
    have g0 := NL1.out.hgap
    exact ⟨linesA_mono h0 g0.1 (Int.le_refl _) (by omega) (by omega) (Nat.le_refl _) (Nat.zero_le _), (linesA_mono h0 (Int.le_refl _) g0.1 (Int.le_refl _) (by omega) (Nat.le_refl _) (Nat.zero_le _)).1⟩)
  have LA : Hid ((linesA f gap room true n 0).length ≤ n) := Lib.hid (by have := linesA_len (f := f) (gap := gap) (room := room) (wrap := true) (n := n) 0; omega)
  have dr0 : decide (room < 0) = false := decide_eq_false hr0
  have dr1 : decide (more < room) = false := decide_eq_false hr1
  clear HS0 hb1 hb2 hout NL1 NL2 NL3
  generalize linesA f gap room true n 0 = La at KS1 MN LA
  generalize linesA f gap more true n 0 = Lb at KS2 MN
  generalize linesA f 0 room true n 0 = Lc at KS3 MN
  obtain ⟨ma, hma⟩ : ∃ m, La.length = m := ⟨_, rfl⟩
  obtain ⟨mb, hmb⟩ : ∃ m, Lb.length = m := ⟨_, rfl⟩
  obtain ⟨mc, hmc⟩ : ∃ m, Lc.length = m := ⟨_, rfl⟩
  rw [hma] at KS1 MN LA
  rw [hmb] at KS2 MN
  rw [hmc] at KS3 MN
  have HMA := Lib.hid hma
  have HMB := Lib.hid hmb
  clear hma hmb hmc
  go_enter Try.func7, Try.ntmps7
  go_upto_region 5 with (first
    | (go_at_call 16; (with_reducible refine (KA.out _).mono ?_); rintro e w1 ⟨rfl, hb⟩; have B1 := Lib.hid hb; have I1 := Lib.hid (HI.out.below hb); clear hb)
    | (go_at_call 17; (with_reducible refine (KG1.out _ I1.out).mono ?_); rintro e w2 ⟨rfl, rfl⟩; clear KG1)
    | (go_at_call 17; (with_reducible refine (KG2.out _ I1.out).mono ?_); rintro e w2 ⟨rfl, rfl⟩; clear KG2))
  clear hr0 hr1 KA
  go_wp2_with fail
  go_loopg [9] n (fun g1 vi wr => ∃ k : Nat, vi = .int .i64 k ∧ k ≤ n ∧ n - k ≤ g1 ∧ Hid (∀ i, i < k → 0 ≤ f i) ∧ w1 = wr)
  case atStart => exact ⟨0, rfl, by omega, by omega, Lib.hid (fun i hi => absurd hi (by omega)), rfl⟩
  case round =>
    obtain ⟨k, rfl, hk, hg1, HF, rfl⟩ := hrel
    by_cases hlt : k < n
    · have hz : (k : Int) < n := by omega
      have hz0 : (0 : Int) ≤ k := by omega
      have wi : IntKind.i64.wrap ((k : Int) + 1) = (k : Int) + 1 := IntWalk.i64_in _ (by omega)
      obtain ⟨b, off, rfl, -, c0⟩ := I1.out.at_ hlt
      have FX : Hid (∀ x, f k = x → 0 ≤ x → ∀ i, i < k + 1 → 0 ≤ f i) := Lib.hid (fun x e hx i hi => by
        rcases Nat.lt_or_ge i k with h | h
        · exact HF.out i h
        · obtain rfl : i = k := by omega
          rw [e]; exact hx)
      generalize f k = x at c0 FX
      by_cases b1 : x < 0
      · go_wp2_with fail
        go_ret
        exact ⟨rfl, B1.out⟩
      · have FY := Lib.hid (FX.out x rfl (by omega))
        clear FX
        go_wp2_with fail
        go_roundg (n - (k + 1))
        case measure => omega
        case rel => exact ⟨k + 1, by go_num, by omega, Nat.le_refl _, FY, rfl⟩
    · obtain rfl : k = n := by omega
      have hz : ¬ (k : Int) < k := by omega
      obtain ⟨⟨l1, l2⟩, l3⟩ := MN.out HF.out
      have L2 := Lib.hid l2
      have d1 : decide ((ma : Int) < mb) = false := decide_eq_false (by omega)
      have d2 : decide ((ma : Int) < mc) = false := decide_eq_false (by omega)
      clear MN HF l2
      go_upto_region 11 with (go_at_call 14; (with_reducible refine (KS1.out _ I1.out).mono ?_); rintro e w2 ⟨A2, c2, rfl, hO, hb⟩; have O2 := Lib.hid hO; have B2 := Lib.hid (b_next15 B1.out hb); have I2 := Lib.hid (I1.out.below hb); clear hO hb KS1)
      go_upto_region 12 with (go_at_call 14; (with_reducible refine (KS2.out _ I2.out).mono ?_); rintro e w3 ⟨A3, c3, rfl, hO, hb⟩; have O3 := Lib.hid hO; have P3 := Lib.hid (O2.out.keep hb); have B3 := Lib.hid (b_next15 B2.out hb); have I3 := Lib.hid (I2.out.below hb); clear hO hb KS2)
      go_upto_region 13 with (go_at_call 14; (with_reducible refine (KS3.out _ I3.out).mono ?_); rintro e w4 ⟨A4, c4, rfl, -, hb⟩; have O4 := Lib.hid (O3.out.keep hb); have P4 := Lib.hid (P3.out.keep hb); have B4 := Lib.hid (b_next15 B3.out hb); clear hb KS3)
      clear O2 B2 I2 O3 P3 B3 I3 hz
      have n1 : ¬ (ma : Int) < mb := by omega
      have n2 : ¬ (ma : Int) < mc := by omega
      go_upto_region 15 with fail
      clear n1 n2
      go_wp2_with fail
      go_loopg [16] mb (fun g2 vi wr => ∃ j : Nat, vi = .int .i64 j ∧ j ≤ mb ∧ mb - j ≤ g2 ∧ Hid (Below w4.heap.size w4 wr))
      case atStart => exact ⟨0, rfl, by omega, by omega, Lib.hid (Below.refl _ _)⟩
      case round =>
        obtain ⟨j, rfl, hj, hg2, HB⟩ := hrel
        obtain ⟨wo, hwo⟩ : ∃ wo, wo = wr := ⟨_, rfl⟩
        subst hwo
        by_cases hlt2 : j < mb
        · have hy : (j : Int) < mb := by omega
          have hya : (j : Int) < ma := by omega
          have hy0 : (0 : Int) ≤ j := by omega
          have wj : IntKind.i64.wrap ((j : Int) + 1) = (j : Int) + 1 := IntWalk.i64_in _ (by have := LA.out; omega)
          obtain ⟨ga, ca, ea, -, xa⟩ := own_line (P4.out.keep HB.out) (k := j) (by rw [HMA.out]; omega)
          rw [HMA.out] at ea
          injection ea with e1 e2 e3
          subst e1 e3
          clear e2
          obtain ⟨gb, cb, eb, -, xb⟩ := own_line (O4.out.keep HB.out) (k := j) (by rw [HMB.out]; omega)
          rw [HMB.out] at eb
          injection eb with e1 e2 e3
          subst e1 e3
          clear e2
          have y3 := L2.out j _ _ (List.getElem?_eq_getElem (by rw [HMB.out]; omega)) (List.getElem?_eq_getElem (by rw [HMA.out]; omega))
          generalize (La[j]'(by rw [HMA.out]; omega)).2 = ya at xa y3
          generalize (Lb[j]'(by rw [HMB.out]; omega)).2 = yb at xb y3
          have d3 : decide ((yb : Int) < ya) = false := decide_eq_false (by omega)
          go_wp2_with fail
          go_quiet (fail)
          have B5 : Hid (Below w4.heap.size w4 (wo.drewN nq)) := Lib.hid (b_next15 HB.out (drewN_below wo nq wo.heap.size))
          go_wp2_with fail
          go_roundg (mb - (j + 1))
          case measure => omega
          case rel => exact ⟨j + 1, by go_num, by omega, Nat.le_refl _, B5⟩
        · obtain rfl : j = mb := by omega
          have hy : ¬ (j : Int) < j := by omega
          have BF := Lib.hid (b_next15 B4.out HB.out)
          go_wp2_with fail
          go_ret
          exact ⟨rfl, BF.out⟩
end Go.Proofs.Ytkakencndopgbaa
