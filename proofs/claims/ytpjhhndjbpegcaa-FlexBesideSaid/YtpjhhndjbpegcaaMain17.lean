/-
  The document's Main.
-/
import Derived.Test.YtpjhhndjbpegcaaPlaces17
namespace Go.Proofs.Ytpjhhndjbpegcaa
open Go.RowKit

theorem bad_is {f : Nat → Int} {n : Nat} {gap room j z : Int} {back : Bool} (e : askM f n gap room j = z) (hz : z ≠ 0) : MainIs f n gap room j back [] z := by
  subst e
  exact .bad hz
theorem ask_two {f : Nat → Int} {n : Nat} {gap room j : Int} (h : 300 < n ∨ gap < 0 ∨ room < 0 ∨ 4 < j) : askM f n gap room j = 2 := by
  unfold askM
  rw [if_pos h]
theorem ask_ten {f : Nat → Int} {n : Nat} {gap room j : Int} (h : ¬ (300 < n ∨ gap < 0 ∨ room < 0 ∨ 4 < j)) (h2 : ¬ ((∀ i, i < n → Fit (f i)) ∧ Fit gap ∧ Fit room)) : askM f n gap room j = 10 := by
  unfold askM
  rw [if_neg h, if_pos h2]
theorem ask_left {f : Nat → Int} {n : Nat} {gap room j : Int} (h : ¬ (300 < n ∨ gap < 0 ∨ room < 0 ∨ 4 < j)) (h2 : (∀ i, i < n → Fit (f i)) ∧ Fit gap ∧ Fit room) : askM f n gap room j = if Fit (leftF f gap room n) then 0 else 10 := by
  unfold askM
  rw [if_neg h, if_neg (fun c => c h2)]
  by_cases c : Fit (leftF f gap room n)
  · rw [if_neg (fun d => d c), if_pos c]
  · rw [if_pos c, if_neg c]
theorem bnd17 {f : Nat → Int} {n : Nat} {gap : Int} (hf : ∀ i, i < n → Fit (f i)) (hg : 0 ≤ gap ∧ gap ≤ 1099511627776) : ∀ k, k ≤ n → (-((k : Int) * 1099511627776) ≤ sumB f k ∧ sumB f k ≤ (k : Int) * 1099511627776) ∧ (0 ≤ gapsZ gap k ∧ gapsZ gap k ≤ (k : Int) * 1099511627776)
  | 0, _ => by simp [sumB, gapsZ]
  | k + 1, hk => by
    have h := bnd17 hf hg k (by omega)
    have h2 := fit_of.1 (hf k (by omega))
    rw [sumB, gapsZ_succ]
    split <;> omega
theorem left_succ17 (f : Nat → Int) (gap room : Int) (k : Nat) : leftF f gap room (k + 1) = leftF f gap room k - f k - (if 0 < k then gap else 0) := by
  unfold leftF
  rw [sumB, gapsZ_succ]
  omega
theorem listG_succ17 (f : Nat → Int) (n : Nat) : listG f (n + 1) = listG f n ++ [f n] := by simp [listG, List.range_succ]
theorem own_mono17 {w : World} {B B' : Nat} {v : Value} {l : List Int} (h : ownsI15 w B v l) (hb : B' ≤ B) : ownsI17 w B' v l := by
  obtain ⟨h1, h2⟩ := h
  refine ⟨h1, ?_⟩
  rcases h2 with h2 | ⟨g, cap, cur, e, hg, h3⟩
  · exact .inl h2
  · exact .inr ⟨g, cap, cur, e, Nat.le_trans hb hg, h3⟩
set_option maxRecDepth 100000 in
set_option maxHeartbeats 8000000 in
theorem refMain17 : MainOK 11 := by
  intro A n c f gap room j back w hI hn hc hg hr hj
  have HI := Lib.hid hI
  have NL : Hid (∀ (W : World) B, ownsI17 W B (.slice none 0 0) []) := Lib.hid (fun W B => World.ownsRow_nil W B _ _)
  have BR := Lib.hid (Below.refl w.heap.size w)
  by_cases a1 : 300 < n
  · have d1 : decide ((300 : Int) < n) = true := decide_eq_true (by omega)
    have d1n : decide (300 < n) = true := decide_eq_true a1
    have PI : Hid (MainIs f n gap room j back [] 2) := Lib.hid (bad_is (ask_two (.inl a1)) (by decide))
    clear hI hn a1
    go_enter Try.func11, Try.ntmps11
    go_wp2_with fail
    go_ret2
    exact ⟨_, [], 2, rfl, PI.out, NL.out _ _, BR.out⟩
  have d1 : decide ((300 : Int) < n) = false := decide_eq_false (by omega)
  have d1n : decide (300 < n) = false := decide_eq_false a1
  by_cases a2 : gap < 0
  · have d2 : decide (gap < 0) = true := decide_eq_true a2
    have PI : Hid (MainIs f n gap room j back [] 2) := Lib.hid (bad_is (ask_two (.inr (.inl a2))) (by decide))
    clear hI hn a2 a1
    go_enter Try.func11, Try.ntmps11
    go_wp2_with fail
    go_ret2
    exact ⟨_, [], 2, rfl, PI.out, NL.out _ _, BR.out⟩
  have d2 : decide (gap < 0) = false := decide_eq_false a2
  by_cases a3 : room < 0
  · have d3 : decide (room < 0) = true := decide_eq_true a3
    have PI : Hid (MainIs f n gap room j back [] 2) := Lib.hid (bad_is (ask_two (.inr (.inr (.inl a3)))) (by decide))
    clear hI hn a2 a1 a3
    go_enter Try.func11, Try.ntmps11
    go_wp2_with fail
    go_ret2
    exact ⟨_, [], 2, rfl, PI.out, NL.out _ _, BR.out⟩
  have d3 : decide (room < 0) = false := decide_eq_false a3
  by_cases a4 : 4 < j
  · have d4 : decide (4 < j) = true := decide_eq_true a4
    have PI : Hid (MainIs f n gap room j back [] 2) := Lib.hid (bad_is (ask_two (.inr (.inr (.inr a4)))) (by decide))
    clear hI hn a2 a1 a3 a4
    go_enter Try.func11, Try.ntmps11
    go_wp2_with fail
    go_ret2
    exact ⟨_, [], 2, rfl, PI.out, NL.out _ _, BR.out⟩
  have d4 : decide (4 < j) = false := decide_eq_false a4
  have aN : ¬ (300 < n ∨ gap < 0 ∨ room < 0 ∨ 4 < j) := by omega
  by_cases b1 : ¬ (∀ i, i < n → Fit (f i))
  · have KA := Lib.hid (all_any A n c f w hI (by omega) false (by simpa [allFit] using b1))
    have PI : Hid (MainIs f n gap room j back [] 10) := Lib.hid (bad_is (ask_ten aN (fun h => b1 h.1)) (by decide))
    clear hI hn a2 a1 a3 a4 aN b1
    go_enter Try.func11, Try.ntmps11
    go_wp2_with (go_at_call 19; (with_reducible refine KA.out.mono ?_); rintro e w' ⟨rfl, rfl⟩)
    go_ret2
    exact ⟨_, [], 10, rfl, PI.out, NL.out _ _, BR.out⟩
  replace b1 := Classical.not_not.1 b1
  have KA := Lib.hid (all_any A n c f w hI (by omega) true (by simpa [allFit] using b1))
  have KG := Lib.hid (fun W => refFits_any gap W _ rfl)
  by_cases b2 : ¬ (Fit gap)
  · have PI : Hid (MainIs f n gap room j back [] 10) := Lib.hid (bad_is (ask_ten aN (fun h => b2 h.2.1)) (by decide))
    rw [decide_eq_false b2] at KG
    clear hI hn a2 a1 a3 a4 aN b1 b2
    go_enter Try.func11, Try.ntmps11
    go_wp2_with (first
      | (go_at_call 19; (with_reducible refine KA.out.mono ?_); rintro e w' ⟨rfl, rfl⟩)
      | (go_at_call 20; (with_reducible refine (KG.out _).mono ?_); rintro e w' ⟨rfl, rfl⟩))
    go_ret2
    exact ⟨_, [], 10, rfl, PI.out, NL.out _ _, BR.out⟩
  replace b2 := Classical.not_not.1 b2
  rw [decide_eq_true b2] at KG
  have KR := Lib.hid (fun W => refFits_any room W _ rfl)
  by_cases b3 : ¬ (Fit room)
  · have PI : Hid (MainIs f n gap room j back [] 10) := Lib.hid (bad_is (ask_ten aN (fun h => b3 h.2.2)) (by decide))
    rw [decide_eq_false b3] at KR
    clear hI hn a2 a1 a3 a4 aN b1 b2 b3
    go_enter Try.func11, Try.ntmps11
    go_wp2_with (first
      | (go_at_call 19; (with_reducible refine KA.out.mono ?_); rintro e w' ⟨rfl, rfl⟩)
      | (go_at_call 20; (with_reducible refine (KG.out _).mono ?_); rintro e w' ⟨rfl, rfl⟩; clear KG)
      | (go_at_call 20; (with_reducible refine (KR.out _).mono ?_); rintro e w' ⟨rfl, rfl⟩))
    go_ret2
    exact ⟨_, [], 10, rfl, PI.out, NL.out _ _, BR.out⟩
  replace b3 := Classical.not_not.1 b3
  rw [decide_eq_true b3] at KR
  have AL := Lib.hid (ask_left (j := j) aN ⟨b1, b2, b3⟩)
  have g2 := fit_of.1 b2
  have g3 := fit_of.1 b3
  have BND := Lib.hid (bnd17 b1 ⟨by omega, g2.2⟩)
  have FB := Lib.hid (fun i (hi : i < n) => fit_of.1 (b1 i hi))
  have LB : Hid (∀ k, k ≤ n → -2251799813685248 ≤ leftF f gap room k ∧ leftF f gap room k ≤ 2251799813685248) := Lib.hid (fun k hk => by
    have h := BND.out k hk
    unfold leftF
    omega)
  have hn3 : n ≤ 300 := by omega
  clear hI hn a1 a2 a3 a4 aN b1 b2 b3
  go_enter Try.func11, Try.ntmps11
  go_wp2_with (first
    | (go_at_call 19; (with_reducible refine KA.out.mono ?_); rintro e w' ⟨rfl, rfl⟩)
    | (go_at_call 20; (with_reducible refine (KG.out _).mono ?_); rintro e w' ⟨rfl, rfl⟩; clear KG)
    | (go_at_call 20; (with_reducible refine (KR.out _).mono ?_); rintro e w' ⟨rfl, rfl⟩))
  clear KA KR d1 d1n d2 d3 d4
  go_loopg [12, 13] n (fun g1 vl vi wr => ∃ k : Nat, vi = .int .i64 k ∧ vl = .int .i64 (leftF f gap room k) ∧ k ≤ n ∧ n - k ≤ g1 ∧ Hid (w = wr))
  case atStart => exact ⟨0, rfl, by simp [leftF, sumB, gapsZ], by omega, by omega, Lib.hid rfl⟩
  case round =>
    obtain ⟨k, rfl, rfl, hk, hg1, HW⟩ := hrel
    obtain rfl := HW.out
    clear HW
    by_cases hlt : k < n
    · have hz : (k : Int) < n := by omega
      have hz0 : (0 : Int) ≤ k := by omega
      have wi : IntKind.i64.wrap ((k : Int) + 1) = (k : Int) + 1 := IntWalk.i64_in _ (by omega)
      obtain ⟨bb, off, rfl, -, m0⟩ := HI.out.at_ hlt
      have l0 := LB.out k (by omega)
      have fb := FB.out k hlt
      have E := Lib.hid (left_succ17 f gap room k)
      generalize leftF f gap room k = s at l0 E ⊢
      generalize f k = y at m0 fb E
      have wa0 : IntKind.i64.wrap (s - y) = s - y := IntWalk.i64_in _ (by omega)
      obtain ⟨t, ht⟩ : ∃ t, s - y = t := ⟨_, rfl⟩
      have wa := wa0.trans ht
      rw [ht] at E
      have wb0 : IntKind.i64.wrap (t - gap) = t - gap := IntWalk.i64_in _ (by omega)
      obtain ⟨t2, ht2⟩ : ∃ t2, t - gap = t2 := ⟨_, rfl⟩
      have wb := wb0.trans ht2
      have E2 : Hid (leftF f gap room (k + 1) = if 0 < k then t2 else t) := Lib.hid (by rw [E.out, ← ht2]; split <;> omega)
      clear wa0 wb0 ht ht2 l0 fb E g2 g3
      by_cases h0 : 0 < k
      · have d1 : decide ((0 : Int) < k) = true := decide_eq_true (by omega)
        have E3 : Hid (leftF f gap room (k + 1) = t2) := Lib.hid (by rw [E2.out, if_pos h0])
        go_wp2_with fail
        go_roundg (n - (k + 1))
        case measure => omega
        case rel => exact ⟨k + 1, by go_num, by rw [E3.out], by omega, Nat.le_refl _, Lib.hid rfl⟩
      · have d1 : decide ((0 : Int) < k) = false := decide_eq_false (by omega)
        have E3 : Hid (leftF f gap room (k + 1) = t) := Lib.hid (by rw [E2.out, if_neg h0])
        go_wp2_with fail
        go_roundg (n - (k + 1))
        case measure => omega
        case rel => exact ⟨k + 1, by go_num, by rw [E3.out], by omega, Nat.le_refl _, Lib.hid rfl⟩
    · obtain rfl : k = n := by omega
      have hz : ¬ (k : Int) < k := by omega
      have KL := Lib.hid (fun W => refFits_any (leftF f gap room k) W _ rfl)
      by_cases fl : ¬ (Fit (leftF f gap room k))
      · rw [decide_eq_false fl] at KL
        have PI : Hid (MainIs f k gap room j back [] 10) := Lib.hid (bad_is (by rw [AL.out, if_neg fl]) (by decide))
        clear fl g2 g3
        go_wp2_with (go_at_call 20; (with_reducible refine (KL.out _).mono ?_); rintro e w' ⟨rfl, rfl⟩)
        go_ret2
        exact ⟨_, [], 10, rfl, PI.out, NL.out _ _, BR.out⟩
      replace fl := Classical.not_not.1 fl
      rw [decide_eq_true fl] at KL
      have AZ : Hid (askM f k gap room j = 0) := Lib.hid (by rw [AL.out, if_pos fl])
      by_cases hk0 : k = 0
      · have PI : Hid (MainIs f k gap room j back [] 0) := Lib.hid (.none AZ.out hk0)
        have e0 : ((k : Int) == 0) = true := by simp [hk0]
        clear fl g2 g3 hk0
        go_wp2_with (go_at_call 20; (with_reducible refine (KL.out _).mono ?_); rintro e w' ⟨rfl, rfl⟩)
        go_ret2
        exact ⟨_, [], 0, rfl, PI.out, NL.out _ _, BR.out⟩
      have e0 : ((k : Int) == 0) = false := by simp; omega
      have KP := Lib.hid (fun W => refPlaces17 k (leftF f gap room k) j W ⟨by omega, hn3⟩ fl hj)
      clear KL
      have XB : Hid (∀ E, Extra k (leftF f gap room k) j E → ∀ i, i ≤ k → (-1099511627776 ≤ sumB E i ∧ sumB E i ≤ 1099511627776) ∧ endP f gap E i = sumB f i + sumB E i + gapsZ gap i) := Lib.hid (fun E hE i hi => by
        have h := hE.facts
        have h2 := fit_of.1 fl
        refine ⟨?_, endP_sum f gap E i⟩
        by_cases c : 0 ≤ leftF f gap room k
        · have := h.up c i hi; omega
        · have := h.down (by omega) i hi; omega)
      have KL := Lib.hid (fun W => refFits_any (leftF f gap room k) W true (decide_eq_true fl))
      have HK : Hid (k ≠ 0) := Lib.hid hk0
      obtain ⟨lf, hlf⟩ : ∃ lf, leftF f gap room k = lf := ⟨_, rfl⟩
      have HLF := Lib.hid hlf
      rw [hlf] at KP KL XB ⊢
      clear fl hk0 hlf
      go_upto_region 17 with (first
        | (go_at_call 20; (with_reducible refine (KL.out _).mono ?_); rintro e w' ⟨rfl, rfl⟩)
        | (go_at_call 21; (with_reducible refine (KP.out _).mono ?_); rintro e w2 ⟨g, E, rfl, hW, -, hE, hb⟩; have W2 := Lib.hid hW; have EX := Lib.hid hE; have B2 := Lib.hid hb; clear hW hE hb KP))
      have LE := W2.out.lt
      have AB : Hid (∀ i, i < k → -9007199254740992 ≤ atF f gap room back E i ∧ atF f gap room back E i ≤ 9007199254740992) := Lib.hid (fun i hi => by
        have h1 := XB.out E EX.out (i + 1) (by omega)
        have h2 := BND.out (i + 1) (by omega)
        have h3 := FB.out i hi
        unfold atF
        rw [h1.2]
        split <;> omega)
      go_wp2_with fail
      go_loopg [15, 16, 17, 18] k (fun g1 vo ve vi va wr => ∃ i : Nat, vi = .int .i64 i ∧ ve = .int .i64 (endP f gap E i) ∧ i ≤ k ∧ k - i ≤ g1 ∧ Hid (ownsI15 wr w2.heap.size vo (listG (atF f gap room back E) i)) ∧ Hid (Below w2.heap.size w2 wr))
      case atStart => exact ⟨0, rfl, rfl, by omega, by omega, Lib.hid (ownsI15.nil _ _), Lib.hid (Below.refl _ _)⟩
      case round =>
        obtain ⟨i, rfl, rfl, hi, hg1', HO, HB⟩ := hrel
        obtain ⟨wo, hwo⟩ : ∃ wo, wo = wr := ⟨_, rfl⟩
        subst hwo
        obtain ⟨Ao, co, eo, -, -, -⟩ := own_form HO.out
        rw [listG_len] at eo
        subst eo
        by_cases hil : i < k
        · have hzi : (i : Int) < k := by omega
          have zi0 : (0 : Int) ≤ i := by omega
          have wi1 : IntKind.i64.wrap ((i : Int) + 1) = ((i + 1 : Nat) : Int) := by rw [IntWalk.i64_in _ (by omega)]; rfl
          obtain ⟨bb, off, rfl, -, m0⟩ := (HI.out.below (b_nx17 B2.out HB.out)).at_ hil
          have cE : wo.cell? ⟨g, i, none⟩ = some (.int .i64 (E i)) := by rw [(W2.out.below HB.out LE).cell]; exact cellsOf_get hil
          have x0 := XB.out E EX.out i (by omega)
          have x1 := XB.out E EX.out (i + 1) (by omega)
          have y0 := BND.out i (by omega)
          have y1 := BND.out (i + 1) (by omega)
          have z0 := FB.out i hil
          have eE : sumB E (i + 1) = sumB E i + E i := rfl
          have eP : endP f gap E (i + 1) = endP f gap E i + E i + (if 0 < i then gap else 0) + f i := rfl
          have AT : Hid (atF f gap room back E i = if back = true then room - endP f gap E (i + 1) else endP f gap E (i + 1) - f i) := Lib.hid rfl
          have LL : Hid ((listG (atF f gap room back E) i).length ≤ 90000) := Lib.hid (by rw [listG_len]; omega)
          have b0 : -9007199254740992 ≤ endP f gap E i ∧ endP f gap E i ≤ 9007199254740992 := by rw [x0.2]; omega
          have b1 : -9007199254740992 ≤ endP f gap E (i + 1) ∧ endP f gap E (i + 1) ≤ 9007199254740992 := by rw [x1.2]; omega
          have bE : -9007199254740992 ≤ E i ∧ E i ≤ 9007199254740992 := by omega
          clear x0 x1 y0 y1 eE
          generalize endP f gap E i = s at b0 eP ⊢
          obtain ⟨s2, hs2⟩ : ∃ s2, endP f gap E (i + 1) = s2 := ⟨_, rfl⟩
          have NX := Lib.hid hs2
          rw [hs2] at eP b1 AT
          clear hs2
          generalize E i = x at cE eP bE
          generalize f i = y at m0 eP z0 AT
          obtain ⟨t1, ht1⟩ : ∃ t1, s + x = t1 := ⟨_, rfl⟩
          have wa : IntKind.i64.wrap (s + x) = t1 := by rw [IntWalk.i64_in _ (by omega)]; exact ht1
          by_cases h0 : 0 < i
          · have dd : decide ((0 : Int) < i) = true := decide_eq_true (by omega)
            have ddn : decide (0 < i) = true := decide_eq_true h0
            rw [if_pos h0] at eP
            obtain ⟨t2, ht2⟩ : ∃ t2, t1 + gap = t2 := ⟨_, rfl⟩
            have wb : IntKind.i64.wrap (t1 + gap) = t2 := by rw [IntWalk.i64_in _ (by omega)]; exact ht2
            have wc : IntKind.i64.wrap (t2 + y) = s2 := by rw [IntWalk.i64_in _ (by omega)]; omega
            cases back with
            | true =>
              obtain ⟨r, hr'⟩ : ∃ r, room - s2 = r := ⟨_, rfl⟩
              have wd : IntKind.i64.wrap (room - s2) = r := by rw [IntWalk.i64_in _ (by omega)]; exact hr'
              have AT : Hid (atF f gap room true E i = r) := Lib.hid (by rw [AT.out, if_pos rfl]; exact hr')
              clear ht1 ht2 eP b0 b1 bE z0 hr' h0
              have SU : Hid (listG (atF f gap room true E) i ++ [r] = listG (atF f gap room true E) (i + 1)) := Lib.hid (by rw [listG_succ17, ← AT.out])
              go_wp2_with (at_builtin; go_loud (refine wpList_append_i15 rfl _ _ rfl w2.heap.size _ (listG (atF f gap room true E) i) rfl HO.out r _ rfl LL.out HB.out.size ?_; intro v9 w9 hO hB; have O9 := Lib.hid hO; have B9 := Lib.hid (HB.out.trans hB); clear hO hB))
              go_roundg (k - (i + 1))
              case measure => omega
              case rel => exact ⟨i + 1, by go_num, by rw [NX.out], by omega, Nat.le_refl _, Lib.hid (by rw [← SU.out]; exact O9.out), B9⟩
            | false =>
              have AT : Hid (atF f gap room false E i = t2) := Lib.hid (by rw [AT.out, if_neg (by decide)]; omega)
              clear ht1 ht2 eP b0 b1 bE z0 h0
              have SU : Hid (listG (atF f gap room false E) i ++ [t2] = listG (atF f gap room false E) (i + 1)) := Lib.hid (by rw [listG_succ17, ← AT.out])
              go_wp2_with (at_builtin; go_loud (refine wpList_append_i15 rfl _ _ rfl w2.heap.size _ (listG (atF f gap room false E) i) rfl HO.out t2 _ rfl LL.out HB.out.size ?_; intro v9 w9 hO hB; have O9 := Lib.hid hO; have B9 := Lib.hid (HB.out.trans hB); clear hO hB))
              go_roundg (k - (i + 1))
              case measure => omega
              case rel => exact ⟨i + 1, by go_num, by rw [NX.out], by omega, Nat.le_refl _, Lib.hid (by rw [← SU.out]; exact O9.out), B9⟩
          · have dd : decide ((0 : Int) < i) = false := decide_eq_false (by omega)
            have ddn : decide (0 < i) = false := decide_eq_false h0
            rw [if_neg h0] at eP
            have wc : IntKind.i64.wrap (t1 + y) = s2 := by rw [IntWalk.i64_in _ (by omega)]; omega
            cases back with
            | true =>
              obtain ⟨r, hr'⟩ : ∃ r, room - s2 = r := ⟨_, rfl⟩
              have wd : IntKind.i64.wrap (room - s2) = r := by rw [IntWalk.i64_in _ (by omega)]; exact hr'
              have AT : Hid (atF f gap room true E i = r) := Lib.hid (by rw [AT.out, if_pos rfl]; exact hr')
              clear ht1 eP b0 b1 bE z0 hr' h0
              have SU : Hid (listG (atF f gap room true E) i ++ [r] = listG (atF f gap room true E) (i + 1)) := Lib.hid (by rw [listG_succ17, ← AT.out])
              go_wp2_with (at_builtin; go_loud (refine wpList_append_i15 rfl _ _ rfl w2.heap.size _ (listG (atF f gap room true E) i) rfl HO.out r _ rfl LL.out HB.out.size ?_; intro v9 w9 hO hB; have O9 := Lib.hid hO; have B9 := Lib.hid (HB.out.trans hB); clear hO hB))
              go_roundg (k - (i + 1))
              case measure => omega
              case rel => exact ⟨i + 1, by go_num, by rw [NX.out], by omega, Nat.le_refl _, Lib.hid (by rw [← SU.out]; exact O9.out), B9⟩
            | false =>
              have AT : Hid (atF f gap room false E i = t1) := Lib.hid (by rw [AT.out, if_neg (by decide)]; omega)
              clear ht1 eP b0 b1 bE z0 h0
              have SU : Hid (listG (atF f gap room false E) i ++ [t1] = listG (atF f gap room false E) (i + 1)) := Lib.hid (by rw [listG_succ17, ← AT.out])
              go_wp2_with (at_builtin; go_loud (refine wpList_append_i15 rfl _ _ rfl w2.heap.size _ (listG (atF f gap room false E) i) rfl HO.out t1 _ rfl LL.out HB.out.size ?_; intro v9 w9 hO hB; have O9 := Lib.hid hO; have B9 := Lib.hid (HB.out.trans hB); clear hO hB))
              go_roundg (k - (i + 1))
              case measure => omega
              case rel => exact ⟨i + 1, by go_num, by rw [NX.out], by omega, Nat.le_refl _, Lib.hid (by rw [← SU.out]; exact O9.out), B9⟩
        · obtain rfl : i = k := by omega
          have hzi : decide ((i : Int) < i) = false := decide_eq_false (by omega)
          have IO : Hid (Ints wo Ao i (atF f gap room back E)) := Lib.hid (by
            have h := HO.out
            unfold ownsI15 at h
            rw [listG_len] at h
            exact Ints.of_own h (fun x hx => listG_get _ hx) (fun x hx => by have := AB.out x hx; omega))
          have BW := Lib.hid (b_nx17 B2.out HB.out)
          by_cases fa : ∀ x, x < i → Fit (atF f gap room back E x)
          · have KA := Lib.hid (all_any Ao i co (atF f gap room back E) wo IO.out (by omega) true (by simpa [allFit] using fa))
            have PI : Hid (MainIs f i gap room j back (listG (atF f gap room back E) i) 0) := Lib.hid (.ok E AZ.out HK.out (by rw [HLF.out]; exact EX.out) fa)
            have OO : Hid (ownsI17 wo w.heap.size (.slice Ao i co) (listG (atF f gap room back E) i)) := Lib.hid (own_mono17 HO.out B2.out.size)
            clear fa
            go_wp2_with (go_at_call 19; (with_reducible refine KA.out.mono ?_); rintro e w' ⟨rfl, rfl⟩)
            go_ret2
            exact ⟨_, _, 0, rfl, PI.out, OO.out, BW.out⟩
          · have KA := Lib.hid (all_any Ao i co (atF f gap room back E) wo IO.out (by omega) false (by simpa [allFit] using fa))
            have PI : Hid (MainIs f i gap room j back [] 10) := Lib.hid (.far E AZ.out HK.out (by rw [HLF.out]; exact EX.out) fa)
            clear fa
            go_wp2_with (go_at_call 19; (with_reducible refine KA.out.mono ?_); rintro e w' ⟨rfl, rfl⟩)
            go_ret2
            exact ⟨_, [], 10, rfl, PI.out, NL.out _ _, BW.out⟩
end Go.Proofs.Ytpjhhndjbpegcaa
