/-
  The landed inline: what is asked of spots and of places; how wide spots are together; the lead.
-/
import Derived.Test.YtnhbegdoedbpeaaSpots
import Derived.Test.YtnhbegdoedbpeaaFit10
import Derived.Deep.LoopGhost
import Derived.Deep.QuietTactic
import Derived.BigQuiet
import Derived.Laws.Rows
namespace Go.Proofs.Ytnhbegdoedbpeaa
open Go.RowKit

set_option maxHeartbeats 1000000 in
theorem fitsN_any (b n : Nat) (f : Nat → Int) (w : World) (hn : n ≤ 1000) (hc : ∀ i, i < n → w.cell? ⟨b, i, none⟩ = some (.int .i64 (f i))) (r : Bool) (hr : decide (∀ i, i < n → Fit (f i)) = r) :
    Calls Try.prog 18 #[.slice (some ⟨b, 0, none⟩) n n] w fun e w' => e = .returned (.bool r) ∧ w = w' := by
  have HR := Lib.hid hr
  have HC := Lib.hid hc
  clear hr hc
  go_enter Try.func18, Try.ntmps18
  go_wp2
  go_loop [7] (fun i => ∃ k : Nat, k ≤ n ∧ Hid (∀ j, j < k → Fit (f j)) ∧ i = .int .i64 k) (fun i => n - (intOf i).toNat)
  case atStart => exact ⟨0, Nat.zero_le _, Lib.hid (fun j h => absurd h (by omega)), rfl⟩
  case round =>
    obtain ⟨k, hk, hf, rfl⟩ := hrel
    by_cases hlt : k < n
    · have hz : (k : Int) < n := by omega
      have hz0 : (0 : Int) ≤ k := by omega
      have c0 := HC.out k hlt
      have KK : Hid (∀ y, f k = y → ¬ Fit y → r = false) := Lib.hid (fun y e h => by rw [← HR.out]; exact decide_eq_false (fun h' => h (by rw [← e]; exact h' k hlt)))
      have K2 : Hid (∀ y, f k = y → Fit y → ∀ j, j < k + 1 → Fit (f j)) := Lib.hid (fun y e h j hj => by
        by_cases e' : j = k
        · rw [e', e]; exact h
        · exact hf.out j (by omega))
      obtain ⟨x, hx⟩ : ∃ x, f k = x := ⟨_, rfl⟩
      rw [hx] at c0
      have EX := Lib.hid hx
      clear hx hf
      by_cases h1 : x < -1099511627776
      · have R : Hid (r = false) := Lib.hid (KK.out x EX.out (fun h => by unfold Fit at h; omega))
        clear KK K2
        go_wp2
        go_ret
        exact ⟨by rw [R.out]; rfl, rfl⟩
      · by_cases h2 : 1099511627776 < x
        · have R : Hid (r = false) := Lib.hid (KK.out x EX.out (fun h => by unfold Fit at h; omega))
          clear KK K2
          go_wp2
          go_ret
          exact ⟨by rw [R.out]; rfl, rfl⟩
        · have HF : Hid (∀ j, j < k + 1 → Fit (f j)) := Lib.hid (K2.out x EX.out (by unfold Fit; omega))
          clear KK K2
          go_wp2
          go_round
          case rel => exact ⟨k + 1, by omega, HF, by go_num⟩
          case measure => simp [intOf]; omega
    · obtain rfl : k = n := by omega
      have hz : ¬ (k : Int) < k := by omega
      have R : Hid (r = true) := Lib.hid (by rw [← HR.out]; exact decide_eq_true hf.out)
      clear hf
      go_wp2
      go_ret
      exact ⟨by rw [R.out]; rfl, rfl⟩
theorem fits1_any (b : Nat) (x : Int) (w : World) (h0 : w.cell? ⟨b, 0, none⟩ = some (.int .i64 x)) (r : Bool) (hr : decide (Fit x) = r) :
    Calls Try.prog 18 #[.slice (some ⟨b, 0, none⟩) 1 1] w fun e w' => e = .returned (.bool r) ∧ w = w' := by
  refine fitsN_any b 1 (fun _ => x) w (by omega) (fun i hi => by obtain rfl : i = 0 := by omega
                                                                 exact h0) r ?_
  rw [← hr]
  exact decide_eq_decide.2 ⟨fun h => h 0 (by omega), fun h i _ => h⟩
theorem fits2_any (b : Nat) (x y : Int) (w : World) (h0 : w.cell? ⟨b, 0, none⟩ = some (.int .i64 x)) (h1 : w.cell? ⟨b, 1, none⟩ = some (.int .i64 y)) (r : Bool) (hr : decide (Fit x ∧ Fit y) = r) :
    Calls Try.prog 18 #[.slice (some ⟨b, 0, none⟩) 2 2] w fun e w' => e = .returned (.bool r) ∧ w = w' := by
  refine fitsN_any b 2 (fun i => if i = 0 then x else y) w (by omega) (fun i hi => ?_) r ?_
  · have : i = 0 ∨ i = 1 := by omega
    rcases this with rfl | rfl
    · exact h0
    · exact h1
  · rw [← hr]
    exact decide_eq_decide.2 ⟨fun h => ⟨h 0 (by omega), h 1 (by omega)⟩, fun h i _ => by
      by_cases e : i = 0
      · rw [if_pos e]; exact h.1
      · rw [if_neg e]; exact h.2⟩
theorem fits3_any (b : Nat) (x y z : Int) (w : World) (h0 : w.cell? ⟨b, 0, none⟩ = some (.int .i64 x)) (h1 : w.cell? ⟨b, 1, none⟩ = some (.int .i64 y)) (h2 : w.cell? ⟨b, 2, none⟩ = some (.int .i64 z)) (r : Bool) (hr : decide (Fit x ∧ Fit y ∧ Fit z) = r) :
    Calls Try.prog 18 #[.slice (some ⟨b, 0, none⟩) 3 3] w fun e w' => e = .returned (.bool r) ∧ w = w' := by
  refine fitsN_any b 3 (fun i => if i = 0 then x else if i = 1 then y else z) w (by omega) (fun i hi => ?_) r ?_
  · have : i = 0 ∨ i = 1 ∨ i = 2 := by omega
    rcases this with rfl | rfl | rfl
    · exact h0
    · exact h1
    · exact h2
  · rw [← hr]
    exact decide_eq_decide.2 ⟨fun h => ⟨h 0 (by omega), h 1 (by omega), h 2 (by omega)⟩, fun h i _ => by
      by_cases e : i = 0
      · rw [if_pos e]; exact h.1
      · rw [if_neg e]
        by_cases e' : i = 1
        · rw [if_pos e']; exact h.2.1
        · rw [if_neg e']; exact h.2.2⟩

set_option maxRecDepth 100000 in
set_option maxHeartbeats 4000000 in
theorem aligns_any (l : List Sp) (v : Value) (w : World) (hv : SpIn w v l) (hn : l.length ≤ 1000000) (r : Bool) (hr : decide (∀ i, i < l.length → sa l i ≤ 2) = r) :
    Calls Try.prog 16 #[v] w fun e w' => e = .returned (.bool r) ∧ Below w.heap.size w w' := by
  have HV := Lib.hid hv
  obtain ⟨A, c, rfl, -, -⟩ := hv
  have HR := Lib.hid hr
  obtain ⟨n, en⟩ : ∃ n, l.length = n := ⟨_, rfl⟩
  have HN := Lib.hid en
  rw [en] at hn HV ⊢
  clear hr en
  go_enter Try.func16, Try.ntmps16
  go_wp2_with fail
  go_loopg [7] n (fun g1 vi wr => ∃ k : Nat, vi = .int .i64 k ∧ k ≤ n ∧ n - k ≤ g1 ∧ Hid (∀ i, i < k → sa l i ≤ 2) ∧ Hid (Below w.heap.size w wr))
  case atStart => exact ⟨0, rfl, by omega, by omega, Lib.hid (fun i hi => absurd hi (by omega)), Lib.hid (Below.refl _ _)⟩
  case round =>
    obtain ⟨k, rfl, hk, hg1, HK, HG⟩ := hrel
    by_cases hlt : k < n
    · have hz : (k : Int) < n := by omega
      have hz0 : (0 : Int) ≤ k := by omega
      have wi : IntKind.i64.wrap ((k : Int) + 1) = (k : Int) + 1 := IntWalk.i64_in _ (by omega)
      obtain ⟨b, off, c', e, c0, c1, c2, c3⟩ := (HV.out.keep HG.out).get (i := k) (by have := HN.out; omega)
      injection e with e1 e2 e3
      subst e1 e3
      clear e2
      have G2 := Lib.hid (HG.out.alloc HG.out.size (.cells #[.int .i64 (sw l k), .int .i64 (su l k), .int .i64 (sd l k), .int .u8 (sa l k : Nat)] 33))
      by_cases h : sa l k ≤ 2
      · have hx : ¬ (2 : Int) < (sa l k : Nat) := by omega
        have K2 : Hid (∀ i, i < k + 1 → sa l i ≤ 2) := Lib.hid (fun i hi => by
          by_cases e : i = k
          · rw [e]; exact h
          · exact HK.out i (by omega))
        generalize ((sa l k : Nat) : Int) = y at c3 hx G2
        clear h
        go_wp2_with fail
        go_roundg (n - (k + 1))
        case measure => omega
        case rel => exact ⟨k + 1, by go_num, by omega, Nat.le_refl _, K2, G2⟩
      · have hx : (2 : Int) < (sa l k : Nat) := by omega
        have R : Hid (r = false) := Lib.hid (by rw [← HR.out]; exact decide_eq_false (fun h' => h (h' k (by have := HN.out; omega))))
        generalize ((sa l k : Nat) : Int) = y at c3 hx G2
        clear h
        go_wp2_with fail
        go_ret
        exact ⟨by rw [R.out]; rfl, G2.out⟩
    · obtain rfl : k = n := by omega
      have hz : ¬ (k : Int) < k := by omega
      have R : Hid (r = true) := Lib.hid (by rw [← HR.out]; exact decide_eq_true (fun i hi => HK.out i (by have := HN.out; omega)))
      go_wp2_with fail
      go_ret
      exact ⟨by rw [R.out]; rfl, HG.out⟩

set_option maxRecDepth 100000 in
set_option maxHeartbeats 4000000 in
theorem lengths_any (l : List Sp) (v : Value) (w : World) (hv : SpIn w v l) (hn : l.length ≤ 1000000) (r : Bool) (hr : decide (∀ i, i < l.length → Fit (sw l i) ∧ Fit (su l i) ∧ Fit (sd l i)) = r) :
    Calls Try.prog 17 #[v] w fun e w' => e = .returned (.bool r) ∧ Below w.heap.size w w' := by
  have HV := Lib.hid hv
  obtain ⟨A, c, rfl, -, -⟩ := hv
  have HR := Lib.hid hr
  obtain ⟨n, en⟩ : ∃ n, l.length = n := ⟨_, rfl⟩
  have HN := Lib.hid en
  rw [en] at hn HV ⊢
  clear hr en
  go_enter Try.func17, Try.ntmps17
  go_wp2_with fail
  go_loopg [7] n (fun g1 vi wr => ∃ k : Nat, vi = .int .i64 k ∧ k ≤ n ∧ n - k ≤ g1 ∧ Hid (∀ i, i < k → Fit (sw l i) ∧ Fit (su l i) ∧ Fit (sd l i)) ∧ Hid (Below w.heap.size w wr))
  case atStart => exact ⟨0, rfl, by omega, by omega, Lib.hid (fun i hi => absurd hi (by omega)), Lib.hid (Below.refl _ _)⟩
  case round =>
    obtain ⟨k, rfl, hk, hg1, HK, HG⟩ := hrel
    by_cases hlt : k < n
    · have hz : (k : Int) < n := by omega
      have hz0 : (0 : Int) ≤ k := by omega
      have wi : IntKind.i64.wrap ((k : Int) + 1) = (k : Int) + 1 := IntWalk.i64_in _ (by omega)
      obtain ⟨b, off, c', e, c0, c1, c2, c3⟩ := (HV.out.keep HG.out).get (i := k) (by have := HN.out; omega)
      injection e with e1 e2 e3
      subst e1 e3
      clear e2
      have G1 := HG.out.alloc HG.out.size (.cells #[.int .i64 (sw l k), .int .i64 (su l k), .int .i64 (sd l k), .int .u8 (sa l k : Nat)] 33)
      have G2 := Lib.hid (G1.alloc G1.size (.cells #[.int .i64 (sw l k), .int .i64 (su l k), .int .i64 (sd l k)] 3))
      clear G1
      obtain ⟨f, hf⟩ : ∃ f, decide (Fit (sw l k) ∧ Fit (su l k) ∧ Fit (sd l k)) = f := ⟨_, rfl⟩
      have KF := Lib.hid (fun b W h0 h1 h2 => fits3_any b (sw l k) (su l k) (sd l k) W h0 h1 h2 f hf)
      have HF := Lib.hid hf
      generalize ((sa l k : Nat) : Int) = y at c3 G2
      clear hf
      cases f with
      | true =>
        have K2 : Hid (∀ i, i < k + 1 → Fit (sw l i) ∧ Fit (su l i) ∧ Fit (sd l i)) := Lib.hid (fun i hi => by
          by_cases e : i = k
          · rw [e]; exact of_decide_eq_true HF.out
          · exact HK.out i (by omega))
        clear HF
        generalize sw l k = x0 at c0 G2 KF
        generalize su l k = x1 at c1 G2 KF
        generalize sd l k = x2 at c2 G2 KF
        go_wp2_with (go_at_call 18; refine (KF.out _ _ (by simp) (by simp) (by simp)).mono ?_; rintro e w' ⟨rfl, rfl⟩)
        go_roundg (n - (k + 1))
        case measure => omega
        case rel => exact ⟨k + 1, by go_num, by omega, Nat.le_refl _, K2, G2⟩
      | false =>
        have R : Hid (r = false) := Lib.hid (by rw [← HR.out]; exact decide_eq_false (fun h' => of_decide_eq_false HF.out (h' k (by have := HN.out; omega))))
        clear HF
        generalize sw l k = x0 at c0 G2 KF
        generalize su l k = x1 at c1 G2 KF
        generalize sd l k = x2 at c2 G2 KF
        go_wp2_with (go_at_call 18; refine (KF.out _ _ (by simp) (by simp) (by simp)).mono ?_; rintro e w' ⟨rfl, rfl⟩)
        go_ret
        exact ⟨by rw [R.out]; rfl, G2.out⟩
    · obtain rfl : k = n := by omega
      have hz : ¬ (k : Int) < k := by omega
      have R : Hid (r = true) := Lib.hid (by rw [← HR.out]; exact decide_eq_true (fun i hi => HK.out i (by have := HN.out; omega)))
      go_wp2_with fail
      go_ret
      exact ⟨by rw [R.out]; rfl, HG.out⟩

set_option maxRecDepth 100000 in
set_option maxHeartbeats 4000000 in
theorem arePlaces_any (l : List Ps) (v : Value) (w : World) (hv : PsIn w v l) (hn : l.length ≤ 1000000) (r : Bool) (hr : decide (∀ x ∈ l, Fit x.1 ∧ Fit x.2) = r) :
    Calls Try.prog 23 #[v] w fun e w' => e = .returned (.bool r) ∧ Below w.heap.size w w' := by
  have HV := Lib.hid hv
  obtain ⟨A, c, rfl, -, -⟩ := hv
  have HR := Lib.hid hr
  obtain ⟨n, en⟩ : ∃ n, l.length = n := ⟨_, rfl⟩
  have HN := Lib.hid en
  rw [en] at hn HV ⊢
  clear hr en
  go_enter Try.func23, Try.ntmps23
  go_wp2_with fail
  go_loopg [7] n (fun g1 vi wr => ∃ k : Nat, vi = .int .i64 k ∧ k ≤ n ∧ n - k ≤ g1 ∧ Hid (∀ i x, i < k → l[i]? = some x → Fit x.1 ∧ Fit x.2) ∧ Hid (Below w.heap.size w wr))
  case atStart => exact ⟨0, rfl, by omega, by omega, Lib.hid (fun i x hi => absurd hi (by omega)), Lib.hid (Below.refl _ _)⟩
  case round =>
    obtain ⟨k, rfl, hk, hg1, HK, HG⟩ := hrel
    by_cases hlt : k < n
    · have hz : (k : Int) < n := by omega
      have hz0 : (0 : Int) ≤ k := by omega
      have wi : IntKind.i64.wrap ((k : Int) + 1) = (k : Int) + 1 := IntWalk.i64_in _ (by omega)
      have hlp : k < l.length := by have := HN.out; omega
      obtain ⟨A', c', e, -, hat⟩ := HV.out.keep HG.out
      injection e with e1 e2 e3
      subst e1 e3
      clear e2
      obtain ⟨b, rfl, -, hat⟩ := hat (by intro e; rw [e] at hlp; simp at hlp)
      obtain ⟨x, hx⟩ : ∃ x, l[k]? = some x := ⟨_, List.getElem?_eq_getElem hlp⟩
      obtain ⟨c0, c1⟩ := hat k _ hx
      have G1 := HG.out.alloc HG.out.size (.cells #[.int .i64 x.1, .int .i64 x.2] 35)
      have G2 := Lib.hid (G1.alloc G1.size (.cells #[.int .i64 x.1, .int .i64 x.2] 3))
      clear G1 hat
      obtain ⟨f, hf⟩ : ∃ f, decide (Fit x.1 ∧ Fit x.2) = f := ⟨_, rfl⟩
      have KF := Lib.hid (fun b W h0 h1 => fits2_any b x.1 x.2 W h0 h1 f hf)
      have HF := Lib.hid hf
      have HX := Lib.hid hx
      clear hf hx
      cases f with
      | true =>
        have K2 : Hid (∀ i x, i < k + 1 → l[i]? = some x → Fit x.1 ∧ Fit x.2) := Lib.hid (fun i y hi hy => by
          by_cases e : i = k
          · rw [e, HX.out] at hy
            cases hy
            exact of_decide_eq_true HF.out
          · exact HK.out i y (by omega) hy)
        clear HF HX
        generalize x.1 = x0 at c0 G2 KF
        generalize x.2 = x1 at c1 G2 KF
        go_wp2_with (go_at_call 18; refine (KF.out _ _ (by simp) (by simp)).mono ?_; rintro e w' ⟨rfl, rfl⟩)
        go_roundg (n - (k + 1))
        case measure => omega
        case rel => exact ⟨k + 1, by go_num, by omega, Nat.le_refl _, K2, G2⟩
      | false =>
        have R : Hid (r = false) := Lib.hid (by rw [← HR.out]; exact decide_eq_false (fun h' => of_decide_eq_false HF.out (h' x (List.mem_of_getElem? HX.out))))
        clear HF HX
        generalize x.1 = x0 at c0 G2 KF
        generalize x.2 = x1 at c1 G2 KF
        go_wp2_with (go_at_call 18; refine (KF.out _ _ (by simp) (by simp)).mono ?_; rintro e w' ⟨rfl, rfl⟩)
        go_ret
        exact ⟨by rw [R.out]; rfl, G2.out⟩
    · obtain rfl : k = n := by omega
      have hz : ¬ (k : Int) < k := by omega
      have R : Hid (r = true) := Lib.hid (by
        rw [← HR.out]
        refine decide_eq_true (fun x hx => ?_)
        obtain ⟨i, hi⟩ := List.getElem?_of_mem hx
        have hlt := (List.getElem?_eq_some_iff.1 hi).1
        exact HK.out i x (by have := HN.out; omega) hi)
      go_wp2_with fail
      go_ret
      exact ⟨by rw [R.out]; rfl, HG.out⟩

set_option maxRecDepth 100000 in
set_option maxHeartbeats 4000000 in
theorem widthOf_any (l : List Sp) (v : Value) (w : World) (hv : SpIn w v l) (hn : l.length ≤ 2048) (hw : ∀ i, i < l.length → -1099511627776 ≤ sw l i ∧ sw l i ≤ 1099511627776) :
    Calls Try.prog 22 #[v] w fun e w' => e = .returned (.int .i64 (sumS l l.length)) ∧ Below w.heap.size w w' := by
  have HV := Lib.hid hv
  obtain ⟨A, c, rfl, -, -⟩ := hv
  have SB : Hid (∀ k, k ≤ l.length → -2251799813685248 ≤ sumS l k ∧ sumS l k ≤ 2251799813685248) := Lib.hid (fun k hk => by
    have := sumS_bound hw k hk
    omega)
  obtain ⟨n, en⟩ : ∃ n, l.length = n := ⟨_, rfl⟩
  have HN := Lib.hid en
  rw [en] at hn HV SB ⊢
  clear hw en
  go_enter Try.func22, Try.ntmps22
  go_wp2_with fail
  go_loopg [3, 8] n (fun g1 vs vi wr => ∃ k : Nat, vi = .int .i64 k ∧ vs = .int .i64 (sumS l k) ∧ k ≤ n ∧ n - k ≤ g1 ∧ Hid (Below w.heap.size w wr))
  case atStart => exact ⟨0, rfl, rfl, by omega, by omega, Lib.hid (Below.refl _ _)⟩
  case round =>
    obtain ⟨k, rfl, rfl, hk, hg1, HG⟩ := hrel
    by_cases hlt : k < n
    · have hz : (k : Int) < n := by omega
      have hz0 : (0 : Int) ≤ k := by omega
      have wi : IntKind.i64.wrap ((k : Int) + 1) = (k : Int) + 1 := IntWalk.i64_in _ (by omega)
      obtain ⟨b, off, c', e, c0, c1, c2, c3⟩ := (HV.out.keep HG.out).get (i := k) (by have := HN.out; omega)
      injection e with e1 e2 e3
      subst e1 e3
      clear e2
      have G2 := Lib.hid (HG.out.alloc HG.out.size (.cells #[.int .i64 (sw l k), .int .i64 (su l k), .int .i64 (sd l k), .int .u8 (sa l k : Nat)] 33))
      have SB1 := SB.out (k + 1) (by omega)
      have ss := sumS_succ (l := l) (k := k) (by have := HN.out; omega)
      have ws : IntKind.i64.wrap (sumS l k + sw l k) = sumS l (k + 1) := by
        rw [← ss]
        exact IntWalk.i64_in _ (by omega)
      clear SB1 ss
      generalize ((sa l k : Nat) : Int) = y at c3 G2
      generalize sw l k = x0 at c0 G2 ws
      generalize su l k = x1 at c1 G2
      generalize sd l k = x2 at c2 G2
      go_wp2_with fail
      go_roundg (n - (k + 1))
      case measure => omega
      case rel => exact ⟨k + 1, by go_num, rfl, by omega, Nat.le_refl _, G2⟩
    · obtain rfl : k = n := by omega
      have hz : ¬ (k : Int) < k := by omega
      go_wp2_with fail
      go_ret
      exact ⟨rfl, HG.out⟩

set_option maxHeartbeats 1000000 in
theorem lead_any (t : Int) (g : Nat) (w : World) (h0 : -9007199254740992 ≤ t ∧ t ≤ 9007199254740992) (hg : g ≤ 2) :
    Calls Try.prog 21 #[.int .i64 t, .int .u8 (g : Nat)] w fun e w' => e = .returned (.int .i64 (if g = 0 then 0 else if g = 2 then (if t < 0 then 0 else t) / 2 else (if t < 0 then 0 else t))) ∧ w = w' := by
  obtain ⟨r, hr⟩ : ∃ r, (if g = 0 then 0 else if g = 2 then (if t < 0 then 0 else t) / 2 else (if t < 0 then 0 else t)) = r := ⟨_, rfl⟩
  rw [hr]
  have HR := Lib.hid hr
  clear hr
  have h3 : g = 0 ∨ g = 1 ∨ g = 2 := by omega
  by_cases ht : t < 0
  · have ht' : ¬ 0 ≤ t := by omega
    rcases h3 with rfl | rfl | rfl
    · have R : Hid (r = 0) := Lib.hid (by rw [← HR.out]; simp)
      go_enter Try.func21, Try.ntmps21
      go_wp2_with fail
      go_ret
      exact ⟨by rw [R.out]; rfl, rfl⟩
    · have R : Hid (r = 0) := Lib.hid (by rw [← HR.out]; simp [ht])
      go_enter Try.func21, Try.ntmps21
      go_wp2_with fail
      go_ret
      exact ⟨by rw [R.out]; rfl, rfl⟩
    · have R : Hid (r = 0) := Lib.hid (by rw [← HR.out]; simp [ht])
      go_enter Try.func21, Try.ntmps21
      go_wp2_with fail
      go_ret
      exact ⟨by rw [R.out]; rfl, rfl⟩
  · have ht' : 0 ≤ t := by omega
    rcases h3 with rfl | rfl | rfl
    · have R : Hid (r = 0) := Lib.hid (by rw [← HR.out]; simp)
      go_enter Try.func21, Try.ntmps21
      go_wp2_with fail
      go_ret
      exact ⟨by rw [R.out]; rfl, rfl⟩
    · have R : Hid (r = t) := Lib.hid (by rw [← HR.out]; simp [ht])
      go_enter Try.func21, Try.ntmps21
      go_wp2_with fail
      go_ret
      exact ⟨by rw [R.out]; rfl, rfl⟩
    · have R : Hid (r = t / 2) := Lib.hid (by rw [← HR.out]; simp [ht])
      have wq : IntKind.i64.wrap (t.tdiv 2) = t / 2 := by
        rw [Int.tdiv_eq_ediv_of_nonneg (by omega)]
        exact IntWalk.i64_in _ (by omega)
      go_enter Try.func21, Try.ntmps21
      go_wp2_with fail
      go_ret
      exact ⟨by rw [R.out]; rfl, rfl⟩

theorem tall_any (a b c k : Int) (w : World) (h : IntKind.i64.wrap (b + c) = b + c) :
    Calls Try.prog 25 #[.agg #[.int .i64 a, .int .i64 b, .int .i64 c, .int .u8 k]] w fun e w' => e = .returned (.int .i64 (b + c)) ∧ Below w.heap.size w w' := by
  go_enter Try.func25, Try.ntmps25
  go_wp2_with fail
  go_ret
  exact ⟨rfl, (Below.refl _ w).alloc (Nat.le_refl _) _⟩
end Go.Proofs.Ytnhbegdoedbpeaa
