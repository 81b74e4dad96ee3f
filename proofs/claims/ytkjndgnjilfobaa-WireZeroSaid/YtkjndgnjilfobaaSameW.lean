/-
  The landed wire's same, isLong, Same; what it asks of the library for them.
-/
import Derived.Test.YtkjndgnjilfobaaRefSame4
import Derived.Test.YtkjndgnjilfobaaShelfB
import Derived.Deep.LoopGhost
import Derived.Test.YtkjndgnjilfobaaInts
namespace Go.Proofs.Ytkjndgnjilfobaa
open Go.RowKit

set_option maxHeartbeats 1000000 in
theorem lequal_any (A B : Option Addr) (n m c d : Nat) (f g : Nat → Nat) (w : World) (h : Longs w A n f) (h' : Longs w B m g) (hn : n ≤ 4611686018427387904) (hm : m ≤ 4611686018427387904) (r : Bool) (hr : r = true ↔ seg f 0 n = seg g 0 m) :
    Calls Try.prog 39 #[.slice A n c, .slice B m d] w fun e w' => e = .returned (.bool r) ∧ Drawn w w' := by
  have H := Lib.hid h
  have G := Lib.hid h'
  have R := Lib.hid hr
  clear h h' hr
  by_cases hnm : n = m
  · subst hnm
    go_enter Try.func39, Try.ntmps39
    go_wp2
    go_loopw [13] (fun i wr => ∃ k : Nat, k ≤ n ∧ (∀ j, j < k → f j = g j) ∧ i = .int .i64 k ∧ Drawn w wr) (fun i _ => n - (intOf i).toNat)
    case atStart => exact ⟨0, Nat.zero_le _, fun j hj => by omega, rfl, 0, rfl⟩
    case round =>
      obtain ⟨k, hk, hpre, rfl, hd⟩ := hrel
      have D := Lib.hid hd
      have P := Lib.hid hpre; clear hpre
      by_cases hlt : k < n
      · obtain ⟨q, rfl⟩ := hd
        obtain ⟨b, off, rfl, hb, hc⟩ := H.out.at_ hlt
        obtain ⟨b', off', rfl, hb', hc'⟩ := G.out.at_ hlt
        clear hb hb'
        have hlt' : (k : Int) < n := by omega
        have hk0 : (0 : Int) ≤ k := by omega
        by_cases he : f k = g k
        · rw [← he] at hc'
          have hx : ((f k : Int) != (f k : Int)) = false := by simp
          have P2 : Hid (∀ j, j < k + 1 → f j = g j) := Lib.hid (by
            intro j hj
            rcases Nat.lt_or_ge j k with h | h
            · exact P.out j h
            · obtain rfl : j = k := by omega
              exact he)
          clear he
          generalize f k = x at hc hc' hx
          go_wp2_with (fail)
          go_quiet (fail)
          go_wp2
          go_roundw
          case rel => exact ⟨k + 1, by omega, P2.out, by go_num, _, rfl⟩
          case measure => simp [intOf]; omega
        · have hx : ((f k : Int) != (g k : Int)) = true := by simp; omega
          have hr0 : r = false := by
            cases r
            · rfl
            · have := seg_inj (R.out.1 rfl) hlt
              simp only [Nat.zero_add] at this
              exact absurd this he
          subst hr0
          clear he
          generalize f k = x at hc hx
          generalize g k = y at hc' hx
          go_wp2_with (fail)
          go_quiet (fail)
          go_wp2
          go_ret
          exact ⟨rfl, Drawn.step ⟨q, rfl⟩ _⟩
      · obtain rfl : k = n := by omega
        have hr1 : r = true := R.out.2 (seg_congr fun i hi => by rw [Nat.zero_add]; exact P.out i hi)
        subst hr1
        go_wp2
        go_ret
        exact ⟨rfl, D.out⟩
  · have hr0 : r = false := by
      cases r
      · rfl
      · have := congrArg List.length (R.out.1 rfl)
        simp only [seg_len] at this
        exact absurd this hnm
    subst hr0
    have hx : ((n : Int) != (m : Int)) = true := by simp; omega
    go_enter Try.func39, Try.ntmps39
    go_wp2
    go_ret
    exact ⟨rfl, 0, rfl⟩

theorem bytes_in {w : World} {A : Option Addr} {n : Nat} {f : Nat → Nat} (h : Bytes w A n f) : Lib.BytesIn w A n (ints f n) := fun hn => by
  obtain ⟨b, off, rfl, _, hc⟩ := h.2 hn
  exact ⟨b, off, rfl, fun i hi => by rw [ints_get f n i hi]; exact hc i hi⟩
/-- bytes.Equal -/
theorem equal_any (A B : Option Addr) (n m c d : Nat) (f g : Nat → Nat) (w : World) (h : Bytes w A n f) (h' : Bytes w B m g) (r : Bool) (hr : r = true ↔ n = m ∧ ∀ i, i < n → f i = g i) :
    Calls Try.prog 38 #[.slice A n c, .slice B m d] w fun e w' => e = .returned (.bool r) ∧ w = w' := by
  have e : (Lib.bytesOf (ints f n) == Lib.bytesOf (ints g m)) = r := by
    have := bytesOf_ints f g n m (fun i hi => h.bd hi) (fun i hi => h'.bd hi)
    cases r
    · cases hb : (Lib.bytesOf (ints f n) == Lib.bytesOf (ints g m))
      · rfl
      · exact absurd (hr.2 (this.1 hb)) (by simp)
    · exact this.2 (hr.1 rfl)
  refine (Try.bytes_Equal_all A B n c m d (ints f n) (ints g m) w (ints_len f n) (ints_len g m) (bytes_in h) (bytes_in h')).mono ?_
  rintro _ _ ⟨rfl, rfl⟩
  rw [e]
  exact ⟨rfl, rfl⟩

theorem equal_seg (A B : Option Addr) (n m c d : Nat) (f g : Nat → Nat) (w : World) (h : Bytes w A n f) (h' : Bytes w B m g) (r : Bool) (hr : r = true ↔ seg f 0 n = seg g 0 m) :
    Calls Try.prog 38 #[.slice A n c, .slice B m d] w fun e w' => e = .returned (.bool r) ∧ w = w' :=
  equal_any A B n m c d f g w h h' r (hr.trans ⟨fun e => by
    have hl := congrArg List.length e
    rw [seg_len, seg_len] at hl
    subst hl
    exact ⟨rfl, fun i hi => by have := seg_inj e hi; simpa using this⟩, fun ⟨e, h⟩ => by
      subst e
      exact seg_congr fun i hi => by rw [Nat.zero_add]; exact h i hi⟩)

set_option maxRecDepth 100000 in
set_option maxHeartbeats 8000000 in
theorem same_one (u v : RV) (w : World) (hu : u.ok w) (hv : v.ok w) :
    Calls Try.prog 25 #[u.val, v.val] w fun e w' => e = .returned (.bool (decide (u.mean = v.mean))) ∧ Below w.heap.size w w' := by
  obtain ⟨-, -, ⟨ub, -, ub2, ub3⟩, ⟨ul, -, ul2, ul3⟩⟩ := hu
  obtain ⟨-, -, ⟨vb, -, vb2, vb3⟩, ⟨vl, -, vl2, vl3⟩⟩ := hv
  have ME := Lib.hid (mean_eq (u := u) (v := v))
  generalize hd : decide (u.mean = v.mean) = d
  have HD := Lib.hid hd
  clear hd
  obtain ⟨un, ui, uf, ubA, ubn, ubc, ubf, ulA, uln, ulc, ulf⟩ := u
  obtain ⟨vn, vi, vf, vbA, vbn, vbc, vbf, vlA, vln, vlc, vlf⟩ := v
  dsimp only at ub ub2 ub3 ul ul2 ul3 vb vb2 vb3 vl vl2 vl3 ME
  unfold RV.val
  dsimp only
  have BB : Hid (Below w.heap.size w ((w.alloc (.cells #[.int .u64 (un : Nat), .int .i64 ui, .bool uf, .slice ubA ubn ubc, .slice ulA uln ulc] 42)).alloc (.cells #[.int .u64 (vn : Nat), .int .i64 vi, .bool vf, .slice vbA vbn vbc, .slice vlA vln vlc] 42))) := Lib.hid (((Below.refl _ w).alloc (Nat.le_refl _) _).alloc (by simp) _)
  have UB := Lib.hid (ub.below BB.out)
  have VB := Lib.hid (vb.below BB.out)
  have UL := Lib.hid (ul.below BB.out)
  have VL := Lib.hid (vl.below BB.out)
  clear ub vb ul vl
  by_cases h1 : un = vn
  · subst h1
    have x1 : ((un : Int) == (un : Int)) = true := by simp
    by_cases h2 : ui = vi
    · subst h2
      have x2 : (ui == ui) = true := by simp
      by_cases h3 : uf = vf
      · subst h3
        have x3 : (uf == uf) = true := by simp
        by_cases h4 : seg ubf 0 ubn = seg vbf 0 vbn
        · have E4 := Lib.hid (equal_seg ubA vbA ubn vbn ubc vbc ubf vbf _ UB.out VB.out true (by simp [h4]))
          by_cases h5 : seg ulf 0 uln = seg vlf 0 vln
          · obtain rfl : d = true := by rw [← HD.out]; simp only [decide_eq_true_eq]; exact ME.out.2 ⟨rfl, rfl, rfl, h4, h5⟩
            have E5 := Lib.hid (lequal_any ulA vlA uln vln ulc vlc ulf vlf _ UL.out VL.out (by omega) (by omega) true (by simp [h5]))
            clear h4 h5 HD ME
            go_enter Try.func25, Try.ntmps25
            go_wp2_with (first | (go_at_call 38; refine E4.out.mono ?_; rintro e w2 ⟨rfl, rfl⟩) | (go_at_call 39; refine E5.out.mono ?_; rintro e w3 ⟨rfl, hd⟩; have B3 := Lib.hid (BB.out.trans (hd.below.mono BB.out.size)); clear hd))
            go_ret
            exact ⟨rfl, B3.out⟩
          · obtain rfl : d = false := by rw [← HD.out]; simp only [decide_eq_false_iff_not]; exact fun h => h5 (ME.out.1 h).2.2.2.2
            have E5 := Lib.hid (lequal_any ulA vlA uln vln ulc vlc ulf vlf _ UL.out VL.out (by omega) (by omega) false (by simp [h5]))
            clear h4 h5 HD ME
            go_enter Try.func25, Try.ntmps25
            go_wp2_with (first | (go_at_call 38; refine E4.out.mono ?_; rintro e w2 ⟨rfl, rfl⟩) | (go_at_call 39; refine E5.out.mono ?_; rintro e w3 ⟨rfl, hd⟩; have B3 := Lib.hid (BB.out.trans (hd.below.mono BB.out.size)); clear hd))
            go_ret
            exact ⟨rfl, B3.out⟩
        · obtain rfl : d = false := by rw [← HD.out]; simp only [decide_eq_false_iff_not]; exact fun h => h4 (ME.out.1 h).2.2.2.1
          have E4 := Lib.hid (equal_seg ubA vbA ubn vbn ubc vbc ubf vbf _ UB.out VB.out false (by simp [h4]))
          clear h4 HD ME
          go_enter Try.func25, Try.ntmps25
          go_wp2_with (first | (go_at_call 38; refine E4.out.mono ?_; rintro e w2 ⟨rfl, rfl⟩))
          go_ret
          exact ⟨rfl, BB.out⟩
      · have x3 : (uf == vf) = false := by simp [h3]
        obtain rfl : d = false := by rw [← HD.out]; simp only [decide_eq_false_iff_not]; exact fun h => h3 (ME.out.1 h).2.2.1
        clear h3 HD ME
        go_enter Try.func25, Try.ntmps25
        go_wp2_with fail
        go_ret
        exact ⟨rfl, BB.out⟩
    · have x2 : (ui == vi) = false := by simp [h2]
      obtain rfl : d = false := by rw [← HD.out]; simp only [decide_eq_false_iff_not]; exact fun h => h2 (ME.out.1 h).2.1
      clear h2 HD ME
      go_enter Try.func25, Try.ntmps25
      go_wp2_with fail
      go_ret
      exact ⟨rfl, BB.out⟩
  · have x1 : ((un : Int) == (vn : Int)) = false := by simp; omega
    obtain rfl : d = false := by rw [← HD.out]; simp only [decide_eq_false_iff_not]; exact fun h => h1 (ME.out.1 h).1
    clear h1 HD ME
    go_enter Try.func25, Try.ntmps25
    go_wp2_with fail
    go_ret
    exact ⟨rfl, BB.out⟩
end Go.Proofs.Ytkjndgnjilfobaa
