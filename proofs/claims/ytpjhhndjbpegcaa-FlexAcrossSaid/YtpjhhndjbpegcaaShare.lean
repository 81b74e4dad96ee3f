/-
  fixed.Share: the shares of a total, or ErrArg.
-/
import Derived.Test.YtpjhhndjbpegcaaGive
import Derived.Test.YtpjhhndjbpegcaaMul
namespace Go.Proofs.Ytpjhhndjbpegcaa
open Go.RowKit

def IsW (x : Int) : Prop := 0 ≤ x ∧ x ≤ 1125899906842624
theorem weights_yes (A : Option Addr) (n c : Nat) (f : Nat → Int) (w : World) (h : Ints w A n f) (hn : n ≤ 2048) (hf : ∀ i, i < n → IsW (f i)) :
    Calls Try.prog 33 #[.slice A n c] w fun e w' => e = .returned (.bool true) ∧ w = w' := by
  have H := Lib.hid h
  have F := Lib.hid hf
  clear h hf
  go_enter Try.func33, Try.ntmps33
  go_wp2
  go_loop [10] (fun i => ∃ k : Nat, k ≤ n ∧ i = .int .i64 k) (fun i => n - (intOf i).toNat)
  case atStart => exact ⟨0, Nat.zero_le _, rfl⟩
  case round =>
    obtain ⟨k, hk, rfl⟩ := hrel
    by_cases hlt : k < n
    · obtain ⟨b, off, rfl, hb, hc⟩ := H.out.at_ hlt
      obtain ⟨h1, h2⟩ := F.out k hlt
      generalize f k = x at hc h1 h2
      clear hb
      have h1' : ¬ x < 0 := by omega
      have h2' : ¬ 1125899906842624 < x := by omega
      go_wp2
      go_round
      case rel => exact ⟨k + 1, by omega, by go_num⟩
      case measure => simp [intOf]; omega
    · go_wp2
      go_ret
      exact ⟨rfl, rfl⟩
theorem weights_long (A : Option Addr) (n c : Nat) (w : World) (hn : 2048 < n) (hn2 : n ≤ 4611686018427387904) :
    Calls Try.prog 33 #[.slice A n c] w fun e w' => e = .returned (.bool false) ∧ w = w' := by
  go_enter Try.func33, Try.ntmps33
  go_wp2
  go_ret
  exact ⟨rfl, rfl⟩
theorem weights_no (A : Option Addr) (n c : Nat) (f : Nat → Int) (w : World) (h : Ints w A n f) (hn : n ≤ 2048) (j : Nat) (hj : j < n) (hf : ¬ IsW (f j)) :
    Calls Try.prog 33 #[.slice A n c] w fun e w' => e = .returned (.bool false) ∧ w = w' := by
  have H := Lib.hid h
  have F := Lib.hid hf
  clear h hf
  go_enter Try.func33, Try.ntmps33
  go_wp2
  go_loop [10] (fun i => ∃ k : Nat, k ≤ j ∧ i = .int .i64 k) (fun i => n - (intOf i).toNat)
  case atStart => exact ⟨0, Nat.zero_le _, rfl⟩
  case round =>
    obtain ⟨k, hk, rfl⟩ := hrel
    have hlt : k < n := by omega
    obtain ⟨b, off, rfl, hb, hc⟩ := H.out.at_ hlt
    by_cases hx : IsW (f k)
    · have hne : k ≠ j := fun e => F.out (e ▸ hx)
      obtain ⟨h1, h2⟩ := hx
      generalize f k = x at hc h1 h2
      clear hb
      have h1' : ¬ x < 0 := by omega
      have h2' : ¬ 1125899906842624 < x := by omega
      go_wp2
      go_round
      case rel => exact ⟨k + 1, by omega, by go_num⟩
      case measure => simp [intOf]; omega
    · unfold IsW at hx
      generalize f k = x at hc hx
      clear hb
      by_cases h1 : x < 0
      · clear hx
        go_wp2
        go_ret
        exact ⟨rfl, rfl⟩
      · have h2 : 1125899906842624 < x := by omega
        clear hx
        go_wp2
        go_ret
        exact ⟨rfl, rfl⟩

def ShareOf (t : Int) (v : Nat → Nat) (n : Nat) (X : Nat → Int) : Prop :=
  ∃ Y, Given t.natAbs v n Y ∧ ∀ i, i < n → X i = if t < 0 then - Y i else Y i
def SharePost (t : Int) (v : Nat → Nat) (n : Nat) (w : World) (e : Ending) (w' : World) : Prop :=
  ∃ g X, e = .returned (.tuple #[.slice (some ⟨g, 0, none⟩) n n, .int .i64 0]) ∧ Whole w' g 3 (cellsOf .i64 n X) ∧ Below w.heap.size w w' ∧ w.heap.size ≤ g ∧ ShareOf t v n X
theorem Given.bd {t : Nat} {v : Nat → Nat} {n : Nat} {X : Nat → Int} (h : Given t v n X) (ht : t ≤ 1099511627776) (hn : n ≤ 2048) : ∀ i, i < n → 0 ≤ X i ∧ X i ≤ 1099511629824 := by
  intro i hi
  rcases h with ⟨_, h⟩ | ⟨hs, q, ho, h⟩
  · rw [h i hi]; omega
  · rw [h i hi]
    have lle := left_le (t := t) hs
    have := bumped_bd (fun i => (base t v (sumN v n) i : Int)) q (c := 1099511627776) ho.2.1 (fun i hi => by
      have := base_le (t := t) hs (le_sumN v hi)
      show 0 ≤ ((base t v (sumN v n) i : Nat) : Int) ∧ ((base t v (sumN v n) i : Nat) : Int) ≤ 1099511627776
      omega) _ lle i hi
    omega
set_option maxHeartbeats 1000000 in
theorem share_yes (t : Int) (n c : Nat) (A : Option Addr) (v : Nat → Nat) (w : World) (ht : Fit t) (hn : n ≤ 2048) (hv : ∀ i, i < n → v i ≤ 1125899906842624) (h : Ints w A n (fun i => (v i : Int)))
    (hd : (∀ i, i < n → t.natAbs * v i < 18446744073709551616) ∨ DivOK) :
    Calls Try.prog 31 #[.int .i64 t, .slice A n c] w (SharePost t v n w) := by
  have H := Lib.hid h
  have D : Hid (allFit (fun _ => t) 1 = true) := Lib.hid (by simp [allFit, ht])
  obtain ⟨t1, t2⟩ := ht
  have I := Lib.hid (fun W => Ints.one W t (by omega))
  have HV := Lib.hid hv
  have HD := Lib.hid hd
  obtain ⟨u, hu⟩ : ∃ u, u = t.natAbs := ⟨_, rfl⟩
  have hu1 : u ≤ 1099511627776 := by omega
  have HU : Hid ((t.natAbs : Int) = (u : Int)) := Lib.hid (by rw [hu])
  have HU2 : Hid (u = t.natAbs) := Lib.hid hu
  clear h hv hd hu
  go_enter Try.func31, Try.ntmps31
  go_wp2_with fail
  refine (fits_any _ _ _ (fun _ => t) _ (I.out _ _) (by omega) true D.out).mono ?_
  rintro e w1 ⟨rfl, rfl⟩
  go_wp2_with fail
  have I1 := Lib.hid (H.out.alloc (.cells #[.int .i64 t] 3))
  have B1 : Hid (Below w.heap.size w (w.alloc (.cells #[.int .i64 t] 3))) := Lib.hid ((Below.refl _ _).alloc (Nat.le_refl _) _)
  refine (weights_yes A n c _ _ I1.out hn (fun i hi => ⟨by omega, by have := HV.out i hi; omega⟩)).mono ?_
  rintro e w1 ⟨rfl, rfl⟩
  go_wp2_with fail
  refine (size_any t (by omega) _ _ HU.out).mono ?_
  rintro e w1 ⟨rfl, rfl⟩
  go_wp2_with fail
  refine (give_any u n c A v _ hu1 hn HV.out I1.out (by rw [HU2.out]; exact HD.out)).mono ?_
  rintro e w1 ⟨g, Y, rfl, hw, hb, hg, hG⟩
  rw [HU2.out] at hG
  have G := Lib.hid hG
  have hbd := Lib.hid (hG.bd (by omega) hn)
  have W1 := Lib.hid hw
  have hg' : w.heap.size ≤ g := Nat.le_trans (by simp) hg
  have B2 := Lib.hid (B1.out.trans (hb.mono (by simp)))
  clear hw hb hG hg I1 B1
  by_cases hneg : t < 0
  · go_wp2
    go_loopg [25] n (fun g1 vi wr => ∃ k : Nat, vi = .int .i64 k ∧ k ≤ n ∧ n - k ≤ g1 ∧ Hid (Whole wr g 3 (cellsOf .i64 n (fun i => if i < k then - Y i else Y i))) ∧ Hid (Below w.heap.size w wr))
    case atStart => exact ⟨0, rfl, by omega, by omega, Lib.hid (by rw [cellsOf_congr (g := Y) (fun i _ => by simp)]; exact W1.out), B2⟩
    case round =>
      clear W1 B2
      obtain ⟨k, rfl, hk, hg1, W1, B2⟩ := hrel
      by_cases hlt : k < n
      · have hltz : (k : Int) < n := by omega
        have c1 := (W1.out.cell k).trans (cellsOf_get hlt)
        simp only [Nat.lt_irrefl, if_false] at c1
        have f1 := W1.out.frozen k
        have bb := hbd.out k hlt
        have S1 : Hid (Whole (wr.setCell ⟨g, k, none⟩ (.int .i64 (- Y k))) g 3 (cellsOf .i64 n (fun i => if i < k + 1 then - Y i else Y i))) := Lib.hid (by
          have h9 := W1.out.set_ k (.int .i64 (- Y k))
          rw [cellsOf_set] at h9
          rw [← cellsOf_congr (f := upd (fun i => if i < k then - Y i else Y i) k (- Y k)) (fun i _ => by
            unfold upd
            by_cases e : i = k
            · rw [if_pos e, if_pos (by omega), e]
            · rw [if_neg e]
              show (if i < k then - Y i else Y i) = _
              by_cases e' : i < k
              · rw [if_pos e', if_pos (by omega)]
              · rw [if_neg e', if_neg (by omega)])]
          exact h9)
        have S3 : Hid (∀ u, Below w.heap.size w (wr.setCell ⟨g, k, none⟩ u)) := Lib.hid (fun u => B2.out.setCell (p := ⟨g, k, none⟩) hg' u)
        clear W1 B2
        generalize Y k = y at c1 bb S1
        go_wp2
        go_roundg (n - (k + 1))
        case measure => omega
        case rel => exact ⟨k + 1, by go_num, by omega, Nat.le_refl _, S1, Lib.hid (S3.out _)⟩
      · obtain rfl : n = k := by omega
        have F : Hid (SharePost t v n w (.returned (.tuple #[.slice (some ⟨g, 0, none⟩) n n, .int .i64 0])) wr) := Lib.hid ⟨g, _, rfl, W1.out, B2.out, hg', Y, G.out, fun i hi => by show (if i < n then - Y i else Y i) = _; rw [if_pos hi, if_pos hneg]⟩
        clear W1 B2
        go_wp2
        go_ret2
        exact F.out
  · have F : Hid (SharePost t v n w (.returned (.tuple #[.slice (some ⟨g, 0, none⟩) n n, .int .i64 0])) w1) := Lib.hid ⟨g, _, rfl, W1.out, B2.out, hg', Y, G.out, fun i hi => by rw [if_neg hneg]⟩
    clear W1 B2
    go_wp2
    go_ret2
    exact F.out
/-- what the call refuses -/
theorem share_no (t : Int) (n c : Nat) (A : Option Addr) (f : Nat → Int) (w : World) (ht : Big t) (hn : n ≤ 4611686018427387904) (h : Ints w A n f) (hbad : ¬ (Fit t ∧ n ≤ 2048 ∧ ∀ i, i < n → IsW (f i))) :
    Calls Try.prog 31 #[.int .i64 t, .slice A n c] w fun e w' => e = .returned (.tuple #[.slice none 0 0, .int .i64 2]) ∧ Below w.heap.size w w' := by
  have H := Lib.hid h
  have I := Lib.hid (fun W => Ints.one W t ht)
  clear h
  by_cases hF : Fit t
  · have D : Hid (allFit (fun _ => t) 1 = true) := Lib.hid (by simp [allFit, hF])
    have W0 : Hid (∀ w', Ints w' A n f → Calls Try.prog 33 #[.slice A n c] w' fun e w'' => e = .returned (.bool false) ∧ w' = w'') := Lib.hid (fun w' hI => by
      by_cases hl : n ≤ 2048
      · have hx : ¬ ∀ i, i < n → IsW (f i) := fun hh => hbad ⟨hF, hl, hh⟩
        simp only [Classical.not_forall] at hx
        obtain ⟨j, hj, hx⟩ := hx
        exact weights_no A n c f w' hI hl j hj hx
      · exact weights_long A n c w' (by omega) hn)
    clear hF hbad ht
    go_enter Try.func31, Try.ntmps31
    go_wp2_with fail
    refine (fits_any _ _ _ (fun _ => t) _ (I.out _ _) (by omega) true D.out).mono ?_
    rintro e w1 ⟨rfl, rfl⟩
    go_wp2_with fail
    have I1 := Lib.hid (H.out.alloc (.cells #[.int .i64 t] 3))
    refine (W0.out _ I1.out).mono ?_
    rintro e w1 ⟨rfl, rfl⟩
    go_wp2_with fail
    go_ret2
    exact ⟨rfl, (Below.refl _ _).alloc (Nat.le_refl _) _⟩
  · have D : Hid (allFit (fun _ => t) 1 = false) := Lib.hid (by simp [allFit, hF])
    clear hF hbad ht
    go_enter Try.func31, Try.ntmps31
    go_wp2_with fail
    refine (fits_any _ _ _ (fun _ => t) _ (I.out _ _) (by omega) false D.out).mono ?_
    rintro e w1 ⟨rfl, rfl⟩
    go_wp2_with fail
    go_ret2
    exact ⟨rfl, (Below.refl _ _).alloc (Nat.le_refl _) _⟩
end Go.Proofs.Ytpjhhndjbpegcaa
