/-
  What Fill of the landed code asks of its items; Widest.
-/
import Derived.Test.YtpfeiiabplaghaaCursor10
import Derived.Test.YtpfeiiabplaghaaSame10
namespace Go.Proofs.Ytpfeiiabplaghaa
open Go.RowKit Go.Shelf

set_option maxHeartbeats 1000000 in
theorem fits10_any (b : Nat) (x : Int) (w : World) (hc : w.cell? ⟨b, 0, none⟩ = some (.int .i64 x)) (r : Bool) (hr : decide (Fit x) = r) :
    Calls Try.prog 25 #[.slice (some ⟨b, 0, none⟩) 1 1] w fun e w' => e = .returned (.bool r) ∧ w = w' := by
  have HR := Lib.hid hr
  clear hr
  go_enter Try.func25, Try.ntmps25
  go_wp2
  go_loop [7] (fun i => ∃ k : Nat, k ≤ 1 ∧ (0 < k → Fit x) ∧ i = .int .i64 k) (fun i => 1 - (intOf i).toNat)
  case atStart => exact ⟨0, Nat.zero_le _, fun h => absurd h (by decide), rfl⟩
  case round =>
    obtain ⟨k, hk, hf, rfl⟩ := hrel
    by_cases h0 : k = 0
    · subst h0
      clear hf hk
      by_cases h1 : x < -1099511627776
      · have R : Hid (r = false) := Lib.hid (by rw [← HR.out]; exact decide_eq_false (fun h => by unfold Fit at h; omega))
        go_wp2
        go_ret
        exact ⟨by rw [R.out]; rfl, rfl⟩
      · by_cases h2 : 1099511627776 < x
        · have R : Hid (r = false) := Lib.hid (by rw [← HR.out]; exact decide_eq_false (fun h => by unfold Fit at h; omega))
          go_wp2
          go_ret
          exact ⟨by rw [R.out]; rfl, rfl⟩
        · have HF : Hid (Fit x) := Lib.hid (by unfold Fit; omega)
          go_wp2
          go_round
          case rel => exact ⟨1, by omega, fun _ => HF.out, by go_num⟩
          case measure => simp [intOf]
    · obtain rfl : k = 1 := by omega
      have R : Hid (r = true) := Lib.hid (by rw [← HR.out]; exact decide_eq_true (hf (by decide)))
      clear hf
      go_wp2
      go_ret
      exact ⟨by rw [R.out]; rfl, rfl⟩

set_option maxRecDepth 100000 in
set_option maxHeartbeats 4000000 in
theorem kinds10_any (l : List It) (v : Value) (w : World) (hv : ItIn w v l) (hn : l.length ≤ 100000) (r : Bool) (hr : decide (∀ i, i < l.length → kd l i ≤ 3) = r) :
    Calls Try.prog 23 #[v] w fun e w' => e = .returned (.bool r) ∧ w.grownBy w' none := by
  obtain ⟨A, c, rfl, hcc, hA⟩ := hv
  have HV : Hid (ItIn w (.slice A l.length c) l) := Lib.hid ⟨A, c, rfl, hcc, hA⟩
  have HR := Lib.hid hr
  obtain ⟨n, en⟩ : ∃ n, l.length = n := ⟨_, rfl⟩
  have HN := Lib.hid en
  rw [en] at hn ⊢
  clear hA hr hcc en
  go_enter Try.func23, Try.ntmps23
  go_wp2_with fail
  go_loopg [7] n (fun g1 vi wr => ∃ k : Nat, vi = .int .i64 k ∧ k ≤ n ∧ n - k ≤ g1 ∧ Hid (∀ i, i < k → kd l i ≤ 3) ∧ Hid (w.grownBy wr none))
  case atStart => exact ⟨0, rfl, by omega, by omega, Lib.hid (fun i hi => absurd hi (by omega)), Lib.hid ⟨rfl, rfl, rfl, Nat.le_refl _, fun _ _ _ => rfl⟩⟩
  case round =>
    obtain ⟨k, rfl, hk, hg1, HK, HG⟩ := hrel
    by_cases hlt : k < n
    · have hz : (k : Int) < n := by omega
      have hz0 : (0 : Int) ≤ k := by omega
      have wi : IntKind.i64.wrap ((k : Int) + 1) = (k : Int) + 1 := IntWalk.i64_in _ (by omega)
      obtain ⟨b, off, c', e, c0, c1⟩ := (HV.out.grown HG.out (fun _ _ _ _ e => by cases e)).get (i := k) (by have := HN.out; omega)
      injection e with e1 e2 e3
      subst e1 e3
      clear e2
      have G2 := Lib.hid (HG.out.trans (World.grownBy_alloc wr (.cells #[.int .u8 (kd l k : Nat), .int .i64 (wd l k)] 32) none))
      by_cases h : kd l k ≤ 3
      · have hx : ¬ (3 : Int) < (kd l k : Nat) := by omega
        have K2 : Hid (∀ i, i < k + 1 → kd l i ≤ 3) := Lib.hid (fun i hi => by
          by_cases e : i = k
          · rw [e]; exact h
          · exact HK.out i (by omega))
        generalize ((kd l k : Nat) : Int) = y at c0 hx G2
        clear h
        go_wp2_with fail
        go_roundg (n - (k + 1))
        case measure => omega
        case rel => exact ⟨k + 1, by go_num, by omega, Nat.le_refl _, K2, G2⟩
      · have hx : (3 : Int) < (kd l k : Nat) := by omega
        have R : Hid (r = false) := Lib.hid (by rw [← HR.out]; exact decide_eq_false (fun h' => h (h' k (by have := HN.out; omega))))
        generalize ((kd l k : Nat) : Int) = y at c0 hx G2
        clear h
        go_wp2_with fail
        go_ret
        exact ⟨by rw [R.out]; rfl, G2.out⟩
    · obtain rfl : k = n := by omega
      have hz : ¬ (k : Int) < k := by omega
      have R : Hid (r = true) := Lib.hid (by rw [← HR.out]; exact decide_eq_true (fun i hi => HK.out i (by have := HN.out; omega)))
      go_wp2_with fail
      go_ret
      exact ⟨by rw [R.out]; rfl, HG.out⟩

set_option maxRecDepth 100000 in
set_option maxHeartbeats 4000000 in
theorem lengths10_any (l : List It) (v : Value) (w : World) (hv : ItIn w v l) (hn : l.length ≤ 100000) (r : Bool) (hr : decide (∀ i, i < l.length → Fit (wd l i)) = r) :
    Calls Try.prog 24 #[v] w fun e w' => e = .returned (.bool r) ∧ w.grownBy w' none := by
  obtain ⟨A, c, rfl, hcc, hA⟩ := hv
  have HV : Hid (ItIn w (.slice A l.length c) l) := Lib.hid ⟨A, c, rfl, hcc, hA⟩
  have HR := Lib.hid hr
  obtain ⟨n, en⟩ : ∃ n, l.length = n := ⟨_, rfl⟩
  have HN := Lib.hid en
  rw [en] at hn ⊢
  clear hA hr hcc en
  go_enter Try.func24, Try.ntmps24
  go_wp2_with fail
  go_loopg [7] n (fun g1 vi wr => ∃ k : Nat, vi = .int .i64 k ∧ k ≤ n ∧ n - k ≤ g1 ∧ Hid (∀ i, i < k → Fit (wd l i)) ∧ Hid (w.grownBy wr none))
  case atStart => exact ⟨0, rfl, by omega, by omega, Lib.hid (fun i hi => absurd hi (by omega)), Lib.hid ⟨rfl, rfl, rfl, Nat.le_refl _, fun _ _ _ => rfl⟩⟩
  case round =>
    obtain ⟨k, rfl, hk, hg1, HK, HG⟩ := hrel
    by_cases hlt : k < n
    · have hz : (k : Int) < n := by omega
      have hz0 : (0 : Int) ≤ k := by omega
      have wi : IntKind.i64.wrap ((k : Int) + 1) = (k : Int) + 1 := IntWalk.i64_in _ (by omega)
      obtain ⟨b, off, c', e, c0, c1⟩ := (HV.out.grown HG.out (fun _ _ _ _ e => by cases e)).get (i := k) (by have := HN.out; omega)
      injection e with e1 e2 e3
      subst e1 e3
      clear e2
      have G2 := Lib.hid ((HG.out.trans (World.grownBy_alloc wr (.cells #[.int .u8 (kd l k : Nat), .int .i64 (wd l k)] 32) none)).trans (World.grownBy_alloc _ (.cells #[.int .i64 (wd l k)] 3) none))
      obtain ⟨x, hx⟩ : ∃ x, wd l k = x := ⟨_, rfl⟩
      obtain ⟨f, hf⟩ : ∃ f, decide (Fit x) = f := ⟨_, rfl⟩
      have KF := Lib.hid (fun b W hc => fits10_any b x W hc f hf)
      have HX := Lib.hid hx
      have HF := Lib.hid hf
      rw [hx] at c1 G2
      generalize ((kd l k : Nat) : Int) = y at c0 G2
      clear hx hf
      cases f with
      | true =>
        have K2 : Hid (∀ i, i < k + 1 → Fit (wd l i)) := Lib.hid (fun i hi => by
          by_cases e : i = k
          · rw [e, HX.out]; simpa using HF.out
          · exact HK.out i (by omega))
        go_wp2_with (go_at_call 25; refine (KF.out _ _ (by simp)).mono ?_; rintro e w' ⟨rfl, rfl⟩)
        go_roundg (n - (k + 1))
        case measure => omega
        case rel => exact ⟨k + 1, by go_num, by omega, Nat.le_refl _, K2, G2⟩
      | false =>
        have R : Hid (r = false) := Lib.hid (by rw [← HR.out]; exact decide_eq_false (fun h' => by
          have h1 := h' k (by have := HN.out; omega)
          rw [HX.out] at h1
          have h2 := HF.out
          simp only [decide_eq_false_iff_not] at h2
          exact h2 h1))
        go_wp2_with (go_at_call 25; refine (KF.out _ _ (by simp)).mono ?_; rintro e w' ⟨rfl, rfl⟩)
        go_ret
        exact ⟨by rw [R.out]; rfl, G2.out⟩
    · obtain rfl : k = n := by omega
      have hz : ¬ (k : Int) < k := by omega
      have R : Hid (r = true) := Lib.hid (by rw [← HR.out]; exact decide_eq_true (fun i hi => HK.out i (by have := HN.out; omega)))
      go_wp2_with fail
      go_ret
      exact ⟨by rw [R.out]; rfl, HG.out⟩

theorem LnIn.grown {W W' : World} {v : Value} {r : List Ln} (h : LnIn W v r) (hg : W.grownBy W' none) : LnIn W' v r := by
  obtain ⟨A, c, rfl, hc, hq⟩ := h
  refine ⟨A, c, rfl, hc, fun e => ?_⟩
  obtain ⟨b, h1, h2, h3⟩ := hq e
  have hb := hg.block b h2 (by simp)
  refine ⟨b, h1, Nat.lt_of_lt_of_le h2 hg.size, fun j x hx => ?_⟩
  rw [World.cell?_of_block (a := ⟨b, j * 3, none⟩) hb, World.cell?_of_block (a := ⟨b, j * 3 + 1, none⟩) hb, World.cell?_of_block (a := ⟨b, j * 3 + 2, none⟩) hb]
  exact h3 j x hx
set_option maxRecDepth 100000 in
set_option maxHeartbeats 4000000 in
theorem widest_ok : WidestOK 13 := by
  intro r v w hv hn
  obtain ⟨A, c, rfl, hcc, hA⟩ := hv
  have HA : Hid (LnIn w (.slice A r.length c) r) := Lib.hid ⟨A, c, rfl, hcc, hA⟩
  obtain ⟨n, en⟩ : ∃ n, r.length = n := ⟨_, rfl⟩
  rw [en] at hn
  have HN := Lib.hid en
  rw [en]
  clear en hA hcc
  go_enter Try.func13, Try.ntmps13
  go_wp2_with fail
  go_loopg [3, 8] n (fun g1 vs vi wr => ∃ k : Nat, vi = .int .i64 k ∧ vs = .int .i64 (widestT (r.take k)) ∧ k ≤ n ∧ n - k ≤ g1 ∧ Hid (w.grownBy wr none))
  case atStart => exact ⟨0, rfl, rfl, by omega, by omega, Lib.hid ⟨rfl, rfl, rfl, Nat.le_refl _, fun _ _ _ => rfl⟩⟩
  case round =>
    obtain ⟨k, rfl, rfl, hk, hg1, HG⟩ := hrel
    by_cases hlt : k < n
    · have hz : (k : Int) < n := by omega
      have hz0 : (0 : Int) ≤ k := by omega
      have wi : IntKind.i64.wrap ((k : Int) + 1) = (k : Int) + 1 := IntWalk.i64_in _ (by omega)
      have hlp : k < r.length := by have := HN.out; omega
      obtain ⟨A', c', e, -, hat⟩ := HA.out.grown HG.out
      injection e with e1 e2 e3
      subst e1 e3
      obtain ⟨g, rfl, -, hat⟩ := hat (by intro e; rw [e] at hlp; simp at hlp)
      obtain ⟨c0, c1, c2⟩ := hat k _ (List.getElem?_eq_getElem hlp)
      have TK : Hid (widestT (r.take (k + 1)) = if widestT (r.take k) < (r[k]).2.2 then (r[k]).2.2 else widestT (r.take k)) := Lib.hid (by
        rw [List.take_add_one, List.getElem?_eq_getElem hlp]
        exact widest_snoc _ _)
      clear e2
      generalize (r[k]).2.2 = x at c2 TK
      generalize (((r[k]).1 : Nat) : Int) = y1 at c0
      generalize (((r[k]).2.1 : Nat) : Int) = y2 at c1
      generalize hm : widestT (r.take k) = m at TK
      clear hm
      have G2 := Lib.hid (HG.out.trans (World.grownBy_alloc wr (.cells #[.int .i64 y1, .int .i64 y2, .int .i64 x] 34) none))
      clear hat
      by_cases h : m < x
      · have T2 := Lib.hid TK.out
        rw [if_pos h] at T2
        have h' : ¬ x ≤ m := by omega
        clear TK
        go_wp2_with fail
        go_roundg (n - (k + 1))
        case measure => omega
        case rel => exact ⟨k + 1, by go_num, by rw [T2.out], by omega, Nat.le_refl _, G2⟩
      · have T2 := Lib.hid TK.out
        rw [if_neg h] at T2
        have h' : x ≤ m := by omega
        clear TK
        go_wp2_with fail
        go_roundg (n - (k + 1))
        case measure => omega
        case rel => exact ⟨k + 1, by go_num, by rw [T2.out], by omega, Nat.le_refl _, G2⟩
    · obtain rfl : k = n := by omega
      have hz : ¬ (k : Int) < k := by omega
      have T2 : Hid (r.take k = r) := Lib.hid (by rw [← HN.out, List.take_length])
      rw [T2.out]
      go_wp2_with fail
      go_ret
      exact ⟨rfl, HG.out.os, HG.out.tape, HG.out.output, HG.out.size, fun j hj => HG.out.block j hj (by simp)⟩
end Go.Proofs.Ytpfeiiabplaghaa
