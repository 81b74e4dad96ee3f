/-
  The document's places.
-/
import Derived.Test.YtpjhhndjbpegcaaFlex17
import Derived.Test.YtpjhhndjbpegcaaRefShare
import Derived.Test.YtpjhhndjbpegcaaRows15
namespace Go.Proofs.Ytpjhhndjbpegcaa
open Go.RowKit

theorem extra_zero {n : Nat} {left j : Int} (h1 : j ≠ 1) (h2 : j ≠ 2) (h3 : j = 3 → left ≤ 0 ∨ n ≤ 1) (h4 : j = 4 → left ≤ 0) : Extra n left j (fun _ => 0) :=
  ⟨fun h => absurd h h1, fun h => absurd h h2, fun h => ⟨fun _ _ _ => rfl, fun c => absurd (h3 h) c⟩, fun h => ⟨fun _ _ _ => rfl, fun c => absurd (h4 h) c⟩, fun _ _ _ _ _ _ => rfl⟩
theorem ones_ints {W : World} {B c m : Nat} {A : Option Addr} (h : ownsI15 W B (.slice A m c) (List.replicate m 1)) : Ints W A m (fun i => (((fun _ => 1 : Nat → Nat) i : Nat) : Int)) := by
  unfold ownsI15 at h
  rw [List.length_replicate] at h
  exact Ints.of_own h (fun i hi => by simp [hi]) (fun i hi => by show -9223372036854775808 ≤ (1 : Int) ∧ (1 : Int) ≤ 9223372036854775807; omega)
set_option maxRecDepth 100000 in
set_option maxHeartbeats 8000000 in
theorem refPlaces17 (n : Nat) (left j : Int) (w : World) (hn : 1 ≤ n ∧ n ≤ 300) (hl : Fit left) (hj : 0 ≤ j ∧ j ≤ 255) :
    Calls Try.prog 21 #[.int .i64 (n : Nat), .int .i64 left, .int .u8 j] w fun e w' => ∃ g E, e = .returned (.slice (some ⟨g, 0, none⟩) n n) ∧ Whole w' g 3 (cellsOf .i64 n E) ∧ w.heap.size ≤ g ∧ Extra n left j E ∧ Below w.heap.size w w' := by
  have hmk := make_ints n (by omega) w
  have fl := fit_of.1 hl
  obtain ⟨w1, hw1⟩ : ∃ W, W = w.alloc (.cells (cellsOf .i64 n (fun _ => 0)) 3) := ⟨_, rfl⟩
  have W0 : Hid (Whole w1 w.heap.size 3 (cellsOf .i64 n (fun _ => 0))) := Lib.hid (by rw [hw1]; exact Whole.new w _ _)
  have B1 : Hid (Below w.heap.size w w1) := Lib.hid (by rw [hw1]; exact (Below.refl _ w).alloc (Nat.le_refl _) _)
  have S1 : Hid (w1.heap.size = w.heap.size + 1) := Lib.hid (by rw [hw1, World.size_alloc])
  rw [← hw1] at hmk
  obtain ⟨g, hg⟩ : ∃ g, w.heap.size = g := ⟨_, rfl⟩
  have GE : Hid (w.heap.size ≤ g) := Lib.hid (by omega)
  have GL : Hid (g < w1.heap.size) := Lib.hid (by rw [S1.out]; omega)
  have hmk2 := hmk
  rw [hg] at W0 hmk2
  have W1 := W0
  have hz : ¬ (n : Int) = 0 := by omega
  have hze : ((n : Int) == 0) = false := by simp; omega
  clear hmk hw1
  have c0 : w1.cell? ⟨g, 0, none⟩ = some (.int .i64 0) := by rw [W1.out.cell 0]; exact cellsOf_get (by omega)
  have f0 : w1.frozen? ⟨g, 0, none⟩ = false := W1.out.frozen 0
  by_cases j1 : j = 1
  · subst j1
    have W2 : Hid (Whole (w1.setCell ⟨g, 0, none⟩ (.int .i64 left)) g 3 (cellsOf .i64 n (upd (fun _ => 0) 0 left))) := Lib.hid (by have h := W1.out.set_ 0 (.int .i64 left); rw [cellsOf_set] at h; exact h)
    have B2 : Hid (Below w.heap.size w (w1.setCell ⟨g, 0, none⟩ (.int .i64 left))) := Lib.hid (B1.out.setCell (p := ⟨g, 0, none⟩) GE.out _)
    have EX : Hid (Extra n left 1 (upd (fun _ => 0) 0 left)) := Lib.hid ⟨fun _ _ _ => rfl, fun h => absurd h (by decide), fun h => absurd h (by decide), fun h => absurd h (by decide), fun h => absurd rfl h⟩
    clear hl
    by_cases hle : left ≤ 0
    · have dl : decide (left ≤ 0) = true := decide_eq_true hle
      clear hle fl
      go_enter Try.func21, Try.ntmps21
      go_wp2_with fail
      go_ret
      exact ⟨g, _, rfl, W2.out, GE.out, EX.out, B2.out⟩
    · have dl : decide (left ≤ 0) = false := decide_eq_false hle
      clear hle fl
      go_enter Try.func21, Try.ntmps21
      go_wp2_with fail
      go_ret
      exact ⟨g, _, rfl, W2.out, GE.out, EX.out, B2.out⟩
  by_cases j2 : j = 2
  · subst j2
    have wq := half_quo left
    have hb : -2199023255552 ≤ halfZ left ∧ halfZ left ≤ 2199023255552 := by unfold halfZ; split <;> omega
    have EX : Hid (Extra n left 2 (upd (fun _ => 0) 0 (halfZ left))) := Lib.hid ⟨fun h => absurd h (by decide), fun _ _ _ => rfl, fun h => absurd h (by decide), fun h => absurd h (by decide), fun _ h => absurd rfl h⟩
    have ww : IntKind.i64.wrap (left.tdiv 2) = halfZ left := by rw [wq]; exact IntWalk.i64_in _ (by omega)
    generalize halfZ left = q at wq ww hb EX
    have W2 : Hid (Whole (w1.setCell ⟨g, 0, none⟩ (.int .i64 q)) g 3 (cellsOf .i64 n (upd (fun _ => 0) 0 q))) := Lib.hid (by have h := W1.out.set_ 0 (.int .i64 q); rw [cellsOf_set] at h; exact h)
    have B2 : Hid (Below w.heap.size w (w1.setCell ⟨g, 0, none⟩ (.int .i64 q))) := Lib.hid (B1.out.setCell (p := ⟨g, 0, none⟩) GE.out _)
    have we : IntKind.i64.wrap q = q := IntWalk.i64_in _ (by omega)
    clear hl hb j1
    by_cases hle : left ≤ 0
    · have dl : decide (left ≤ 0) = true := decide_eq_true hle
      clear hle fl
      go_enter Try.func21, Try.ntmps21
      go_wp2_with fail
      go_ret
      exact ⟨g, _, rfl, W2.out, GE.out, EX.out, B2.out⟩
    · have dl : decide (left ≤ 0) = false := decide_eq_false hle
      clear hle fl
      go_enter Try.func21, Try.ntmps21
      go_wp2_with fail
      go_ret
      exact ⟨g, _, rfl, W2.out, GE.out, EX.out, B2.out⟩
  have n1 : (j == 1) = false := by simp [j1]
  have n2 : (j == 2) = false := by simp [j2]
  clear c0 f0
  by_cases hle : left ≤ 0
  · have dl : decide (left ≤ 0) = true := decide_eq_true hle
    have ZX : Hid (Extra n left j (fun _ => 0)) := Lib.hid (extra_zero j1 j2 (fun _ => .inl hle) (fun _ => hle))
    clear hle fl hl j1 j2
    go_enter Try.func21, Try.ntmps21
    go_wp2_with fail
    go_ret
    exact ⟨g, _, rfl, W1.out, GE.out, ZX.out, B1.out⟩
  have dl : decide (left ≤ 0) = false := decide_eq_false hle
  have KS := Lib.hid (fun (m c : Nat) (A : Option Addr) W (hm : m ≤ 2048) (h : ownsI15 W w1.heap.size (.slice A m c) (List.replicate m 1)) => refShare_yes left m c A (fun _ => 1) W hl hm (fun _ _ => by omega) (ones_ints h))
  by_cases j3 : j = 3
  · subst j3
    by_cases hn1 : n ≤ 1
    · have dn : decide ((1 : Int) < n) = false := decide_eq_false (by omega)
      have dnn : decide (1 < n) = false := decide_eq_false (by omega)
      have ZX : Hid (Extra n left 3 (fun _ => 0)) := Lib.hid (extra_zero j1 j2 (fun _ => .inr hn1) (fun h => absurd h (by decide)))
      clear hle fl hl j1 j2 KS
      go_enter Try.func21, Try.ntmps21
      go_wp2_with fail
      go_ret
      exact ⟨g, _, rfl, W1.out, GE.out, ZX.out, B1.out⟩
    have dn : decide ((1 : Int) < n) = true := decide_eq_true (by omega)
    have dnn : decide (1 < n) = true := decide_eq_true (by omega)
    have EX : Hid (∀ X, ShareOf left (fun _ => 1) (n - 1) X → Extra n left 3 (fun i => if i < n then (if i = 0 then 0 else X (i - 1)) else 0)) := Lib.hid (fun X hX => ⟨fun h => absurd h (by decide), fun h => absurd h (by decide), fun _ => ⟨fun c => absurd c (by omega), fun _ => ⟨X, hX, fun i hi => if_pos hi⟩⟩, fun h => absurd h (by decide), fun _ _ h => absurd rfl h⟩)
    clear hle fl hl j1 j2
    go_enter Try.func21, Try.ntmps21
    go_wp2_with fail
    clear hmk2
    go_loopg [8, 9] n (fun g1 v8 v9 wr => ∃ k : Nat, v9 = .int .i64 k ∧ 1 ≤ k ∧ k ≤ n ∧ n - k ≤ g1 ∧ Hid (ownsI15 wr w1.heap.size v8 (List.replicate (k - 1) 1)) ∧ Hid (Below w1.heap.size w1 wr))
    case atStart => exact ⟨1, rfl, by omega, by omega, by omega, Lib.hid (ownsI15.nil _ _), Lib.hid (Below.refl _ _)⟩
    case round =>
      obtain ⟨k, rfl, hk1, hk, hg1, HO, HW⟩ := hrel
      obtain ⟨wo, hwo⟩ : ∃ wo, wo = wr := ⟨_, rfl⟩
      subst hwo
      obtain ⟨Ao, co, eo, -, -, -⟩ := own_form HO.out
      rw [List.length_replicate] at eo
      subst eo
      by_cases hlt : k < n
      · have hzk : (k : Int) < n := by omega
        have wk : IntKind.i64.wrap ((k : Int) + 1) = ((k + 1 : Nat) : Int) := by rw [IntWalk.i64_in _ (by omega)]; rfl
        have LL : Hid ((List.replicate (k - 1) (1 : Int)).length ≤ 90000) := Lib.hid (by rw [List.length_replicate]; omega)
        have RE : Hid (List.replicate (k - 1) (1 : Int) ++ [1] = List.replicate (k + 1 - 1) 1) := Lib.hid (by rw [show k + 1 - 1 = (k - 1) + 1 by omega, List.replicate_succ'])
        go_wp2_with (at_builtin; go_loud (refine wpList_append_i15 rfl _ _ rfl w1.heap.size _ (List.replicate (k - 1) 1) rfl HO.out 1 _ rfl LL.out HW.out.size ?_; intro v9 w9 hO hB; have O9 := Lib.hid hO; have B9 := Lib.hid (HW.out.trans hB); clear hO hB))
        go_roundg (n - (k + 1))
        case measure => omega
        case rel => exact ⟨k + 1, by go_num, by omega, hlt, Nat.le_refl _, Lib.hid (by rw [← RE.out]; exact O9.out), B9⟩
      · obtain rfl : k = n := by omega
        have hzk : decide ((k : Int) < k) = false := decide_eq_false (by omega)
        have KT := Lib.hid (KS.out (k - 1) co Ao wo (by omega) HO.out)
        go_upto_region 15 with (go_at_call 29; (with_reducible refine KT.out.mono ?_); rintro e w3 ⟨g2, X, rfl, hX, hb, hg2, hS⟩; have X3 := Lib.hid hX; have HX := Lib.hid hS; have B3 := Lib.hid (HW.out.trans (hb.mono HW.out.size)); have G2 : Hid (w1.heap.size ≤ g2) := Lib.hid (Nat.le_trans HW.out.size hg2); clear hb hX hS)
        have wz : ∀ i : Nat, 1 ≤ i → i < 1000 → IntKind.i64.wrap ((i : Int) - 1) = ((i - 1 : Nat) : Int) := fun i h1 h2 => by rw [IntWalk.i64_in _ (by omega)]; omega
        have XE := Lib.hid (EX.out X HX.out)
        have W3 : Hid (Whole w3 g 3 (cellsOf .i64 k (fun _ => 0))) := Lib.hid (W1.out.below B3.out GL.out)
        clear HO HW KT KS EX HX hzk
        go_wp2_with fail
        go_loopg [12] k (fun g1 v12 wr => ∃ i : Nat, v12 = .int .i64 i ∧ 1 ≤ i ∧ i ≤ k ∧ k - i ≤ g1 ∧ Hid (Whole wr g 3 (cellsOf .i64 k (fun y => if y < i then (if y = 0 then 0 else X (y - 1)) else 0))) ∧ Hid (Whole wr g2 3 (cellsOf .i64 (k - 1) X)) ∧ Hid (Below w.heap.size w wr))
        case atStart => exact ⟨1, rfl, by omega, by omega, by omega, Lib.hid (by
          rw [cellsOf_congr (g := fun _ => 0) (fun y hy => by
            by_cases c : y < 1
            · rw [if_pos c, if_pos (by omega)]
            · rw [if_neg c])]
          exact W3.out), X3, Lib.hid (b_nx17 B1.out B3.out)⟩
        case round =>
          obtain ⟨i, rfl, hi1, hi, hg2', HA, HB, HC⟩ := hrel
          obtain ⟨wi, hwi⟩ : ∃ wi, wi = wr := ⟨_, rfl⟩
          subst hwi
          by_cases hil : i < k
          · have hzi : (i : Int) < k := by omega
            have zi0 : (0 : Int) ≤ i := by omega
            have wi1 : IntKind.i64.wrap ((i : Int) + 1) = ((i + 1 : Nat) : Int) := by rw [IntWalk.i64_in _ (by omega)]; rfl
            have wim := wz i hi1 (by omega)
            have zm0 : (0 : Int) ≤ ((i - 1 : Nat) : Int) := by omega
            have zml : ((i - 1 : Nat) : Int) < ((k - 1 : Nat) : Int) := by omega
            have cx : wi.cell? ⟨g2, i - 1, none⟩ = some (.int .i64 (X (i - 1))) := by rw [HB.out.cell]; exact cellsOf_get (by omega)
            have co : wi.cell? ⟨g, i, none⟩ = some (.int .i64 0) := by rw [HA.out.cell, cellsOf_get hil, if_neg (Nat.lt_irrefl i)]
            have fo := HA.out.frozen i
            have NA : Hid (Whole (wi.setCell ⟨g, i, none⟩ (.int .i64 (X (i - 1)))) g 3 (cellsOf .i64 k (fun y => if y < i + 1 then (if y = 0 then 0 else X (y - 1)) else 0))) := Lib.hid (by
              have h := HA.out.set_ i (.int .i64 (X (i - 1)))
              rw [cellsOf_set] at h
              rw [cellsOf_congr (g := upd (fun y => if y < i then (if y = 0 then 0 else X (y - 1)) else 0) i (X (i - 1))) (fun y hy => by
                show (if y < i + 1 then (if y = 0 then 0 else X (y - 1)) else 0) = (if y = i then X (i - 1) else if y < i then (if y = 0 then 0 else X (y - 1)) else 0)
                by_cases c : y = i
                · subst c
                  rw [if_pos (Nat.lt_succ_self y), if_neg (by omega), if_pos rfl]
                · rw [if_neg c]
                  by_cases c2 : y < i
                  · rw [if_pos c2, if_pos (by omega)]
                  · rw [if_neg c2, if_neg (by omega)])]
              exact h)
            have NB : Hid (Whole (wi.setCell ⟨g, i, none⟩ (.int .i64 (X (i - 1)))) g2 3 (cellsOf .i64 (k - 1) X)) := Lib.hid (HB.out.far (by show g2 ≠ g; have := G2.out; have := GL.out; omega) _)
            have NC : Hid (Below w.heap.size w (wi.setCell ⟨g, i, none⟩ (.int .i64 (X (i - 1))))) := Lib.hid (HC.out.setCell (p := ⟨g, i, none⟩) GE.out _)
            generalize X (i - 1) = xv at cx NA NB NC
            clear HA HB HC
            go_wp2_with fail
            go_roundg (k - (i + 1))
            case measure => omega
            case rel => exact ⟨i + 1, by go_num, by omega, hil, Nat.le_refl _, NA, NB, NC⟩
          · obtain rfl : i = k := by omega
            have hzi : decide ((i : Int) < i) = false := decide_eq_false (by omega)
            go_wp2_with fail
            go_ret
            exact ⟨g, _, rfl, HA.out, GE.out, XE.out, HC.out⟩
  have n3 : (j == 3) = false := by simp [j3]
  by_cases j4 : j = 4
  · subst j4
    have EX : Hid (∀ X, ShareOf left (fun _ => 1) (n + 1) X → Extra n left 4 (fun i => if i < n then X i else 0)) := Lib.hid (fun X hX => ⟨fun h => absurd h (by decide), fun h => absurd h (by decide), fun h => absurd h (by decide), fun _ => ⟨fun c => absurd c hle, fun _ => ⟨X, hX, fun i hi => if_pos hi⟩⟩, fun _ _ _ h => absurd rfl h⟩)
    clear hle fl hl j1 j2 j3
    go_enter Try.func21, Try.ntmps21
    go_wp2_with fail
    clear hmk2
    go_loopg [8, 13] (n + 1) (fun g1 v8 v9 wr => ∃ k : Nat, v9 = .int .i64 k ∧ k ≤ n + 1 ∧ n + 1 - k ≤ g1 ∧ Hid (ownsI15 wr w1.heap.size v8 (List.replicate k 1)) ∧ Hid (Below w1.heap.size w1 wr))
    case atStart => exact ⟨0, rfl, by omega, by omega, Lib.hid (ownsI15.nil _ _), Lib.hid (Below.refl _ _)⟩
    case round =>
      obtain ⟨k, rfl, hk, hg1, HO, HW⟩ := hrel
      obtain ⟨wo, hwo⟩ : ∃ wo, wo = wr := ⟨_, rfl⟩
      subst hwo
      obtain ⟨Ao, co, eo, -, -, -⟩ := own_form HO.out
      rw [List.length_replicate] at eo
      subst eo
      by_cases hlt : k ≤ n
      · have hzk : decide ((k : Int) ≤ n) = true := decide_eq_true (by omega)
        have hzkn : decide (k ≤ n) = true := decide_eq_true hlt
        have wk : IntKind.i64.wrap ((k : Int) + 1) = ((k + 1 : Nat) : Int) := by rw [IntWalk.i64_in _ (by omega)]; rfl
        have LL : Hid ((List.replicate k (1 : Int)).length ≤ 90000) := Lib.hid (by rw [List.length_replicate]; omega)
        have RE : Hid (List.replicate k (1 : Int) ++ [1] = List.replicate (k + 1) 1) := Lib.hid (by rw [List.replicate_succ'])
        go_wp2_with (at_builtin; go_loud (refine wpList_append_i15 rfl _ _ rfl w1.heap.size _ (List.replicate k 1) rfl HO.out 1 _ rfl LL.out HW.out.size ?_; intro v9 w9 hO hB; have O9 := Lib.hid hO; have B9 := Lib.hid (HW.out.trans hB); clear hO hB))
        go_roundg (n + 1 - (k + 1))
        case measure => omega
        case rel => exact ⟨k + 1, by go_num, by omega, Nat.le_refl _, Lib.hid (by rw [← RE.out]; exact O9.out), B9⟩
      · obtain rfl : k = n + 1 := by omega
        have hzk : decide (((n + 1 : Nat) : Int) ≤ n) = false := decide_eq_false (by omega)
        have hzkn : decide (n + 1 ≤ n) = false := decide_eq_false (by omega)
        have KT := Lib.hid (KS.out (n + 1) co Ao wo (by omega) HO.out)
        go_upto_region 25 with (go_at_call 29; (with_reducible refine KT.out.mono ?_); rintro e w3 ⟨g2, X, rfl, hX, hb, hg2, hS⟩; have X3 := Lib.hid hX; have HX := Lib.hid hS; have B3 := Lib.hid (HW.out.trans (hb.mono HW.out.size)); have G2 : Hid (w1.heap.size ≤ g2) := Lib.hid (Nat.le_trans HW.out.size hg2); clear hb hX hS)
        have wz : ∀ i : Nat, 1 ≤ i → i < 1000 → IntKind.i64.wrap ((i : Int) - 1) = ((i - 1 : Nat) : Int) := fun i h1 h2 => by rw [IntWalk.i64_in _ (by omega)]; omega
        have XE := Lib.hid (EX.out X HX.out)
        have W3 : Hid (Whole w3 g 3 (cellsOf .i64 n (fun _ => 0))) := Lib.hid (W1.out.below B3.out GL.out)
        clear HO HW KT KS EX HX hzk hzkn wz
        go_wp2_with fail
        go_loopg [16] n (fun g1 v12 wr => ∃ i : Nat, v12 = .int .i64 i ∧ i ≤ n ∧ n - i ≤ g1 ∧ Hid (Whole wr g 3 (cellsOf .i64 n (fun y => if y < i then X y else 0))) ∧ Hid (Whole wr g2 3 (cellsOf .i64 (n + 1) X)) ∧ Hid (Below w.heap.size w wr))
        case atStart => exact ⟨0, rfl, by omega, by omega, Lib.hid (by
          rw [cellsOf_congr (g := fun _ => 0) (fun y hy => if_neg (Nat.not_lt_zero y))]
          exact W3.out), X3, Lib.hid (b_nx17 B1.out B3.out)⟩
        case round =>
          obtain ⟨i, rfl, hi, hg2', HA, HB, HC⟩ := hrel
          obtain ⟨wi, hwi⟩ : ∃ wi, wi = wr := ⟨_, rfl⟩
          subst hwi
          by_cases hil : i < n
          · have hzi : (i : Int) < n := by omega
            have zi0 : (0 : Int) ≤ i := by omega
            have wi1 : IntKind.i64.wrap ((i : Int) + 1) = ((i + 1 : Nat) : Int) := by rw [IntWalk.i64_in _ (by omega)]; rfl
            have zml : (i : Int) < ((n + 1 : Nat) : Int) := by omega
            have cx : wi.cell? ⟨g2, i, none⟩ = some (.int .i64 (X i)) := by rw [HB.out.cell]; exact cellsOf_get (by omega)
            have co : wi.cell? ⟨g, i, none⟩ = some (.int .i64 0) := by rw [HA.out.cell, cellsOf_get hil, if_neg (Nat.lt_irrefl i)]
            have fo := HA.out.frozen i
            have NA : Hid (Whole (wi.setCell ⟨g, i, none⟩ (.int .i64 (X i))) g 3 (cellsOf .i64 n (fun y => if y < i + 1 then X y else 0))) := Lib.hid (by
              have h := HA.out.set_ i (.int .i64 (X i))
              rw [cellsOf_set] at h
              rw [cellsOf_congr (g := upd (fun y => if y < i then X y else 0) i (X i)) (fun y hy => by
                show (if y < i + 1 then X y else 0) = (if y = i then X i else if y < i then X y else 0)
                by_cases c : y = i
                · subst c
                  rw [if_pos (Nat.lt_succ_self y), if_pos rfl]
                · rw [if_neg c]
                  by_cases c2 : y < i
                  · rw [if_pos c2, if_pos (by omega)]
                  · rw [if_neg c2, if_neg (by omega)])]
              exact h)
            have NB : Hid (Whole (wi.setCell ⟨g, i, none⟩ (.int .i64 (X i))) g2 3 (cellsOf .i64 (n + 1) X)) := Lib.hid (HB.out.far (by show g2 ≠ g; have := G2.out; have := GL.out; omega) _)
            have NC : Hid (Below w.heap.size w (wi.setCell ⟨g, i, none⟩ (.int .i64 (X i)))) := Lib.hid (HC.out.setCell (p := ⟨g, i, none⟩) GE.out _)
            generalize X i = xv at cx NA NB NC
            clear HA HB HC
            go_wp2_with fail
            go_roundg (n - (i + 1))
            case measure => omega
            case rel => exact ⟨i + 1, by go_num, hil, Nat.le_refl _, NA, NB, NC⟩
          · obtain rfl : i = n := by omega
            have hzi : decide ((i : Int) < i) = false := decide_eq_false (by omega)
            go_wp2_with fail
            go_ret
            exact ⟨g, _, rfl, HA.out, GE.out, XE.out, HC.out⟩
  have n4 : (j == 4) = false := by simp [j4]
  have ZX : Hid (Extra n left j (fun _ => 0)) := Lib.hid (extra_zero j1 j2 (fun h => absurd h j3) (fun h => absurd h j4))
  clear hle fl hl j1 j2 j3 j4 KS
  go_enter Try.func21, Try.ntmps21
  go_wp2_with fail
  go_ret
  exact ⟨g, _, rfl, W1.out, GE.out, ZX.out, B1.out⟩
end Go.Proofs.Ytpjhhndjbpegcaa
