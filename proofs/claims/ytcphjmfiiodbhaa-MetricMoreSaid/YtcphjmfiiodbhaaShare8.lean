/-
  What metric.sharer's closure answers, and metric.Share.
-/
import Derived.Test.YtcphjmfiiodbhaaSharer
namespace Go.Proofs.Ytcphjmfiiodbhaa
open Go.RowKit

/-- does a row hold? -/
def hold (r : Int) : Nat → Bool
  | 0 => decide (4352 ≤ r ∧ r ≤ 2147483647)
  | 1 => decide (768 ≤ r ∧ r ≤ 879)
  | 2 => decide (r ∈ narrowL)
  | 3 => decide (-2147483648 ≤ r ∧ r ≤ 31)
  | 4 => decide (r ∈ broadL)
  | 5 => decide (65 ≤ r ∧ r ≤ 90)
  | _ => decide (-2147483648 ≤ r ∧ r ≤ 2147483647)
def rowShare : Nat → Int
  | 0 => 64
  | 1 => 0
  | 2 => 16
  | 3 => 0
  | 4 => 48
  | 5 => 40
  | _ => 32
theorem share_row {r : Int} (hr : -2147483648 ≤ r ∧ r ≤ 2147483647) {k : Nat} (hk : k ≤ 6) (hf : ∀ i, i < k → hold r i = false) (ht : hold r k = true) : shareR r = rowShare k := by
  have F : ∀ i, i < k → hold r i = false := hf
  unfold shareR
  by_cases h0 : 4352 ≤ r
  · rw [if_pos h0]
    have : k = 0 := by
      by_cases e : k = 0
      · exact e
      · have := F 0 (by omega)
        simp only [hold, decide_eq_false_iff_not] at this
        omega
    subst this
    rfl
  · rw [if_neg h0]
    by_cases h1 : 768 ≤ r ∧ r ≤ 879
    · rw [if_pos h1]
      have : k = 1 := by
        rcases (show k = 0 ∨ k = 1 ∨ 1 < k by omega) with rfl | e | e
        · simp only [hold, decide_eq_true_eq] at ht; omega
        · exact e
        · have := F 1 e
          simp only [hold, decide_eq_false_iff_not] at this
          exact absurd h1 this
      subst this
      rfl
    · rw [if_neg h1]
      by_cases h2 : r ∈ narrowL
      · rw [if_pos h2]
        have : k = 2 := by
          rcases (show k = 0 ∨ k = 1 ∨ k = 2 ∨ 2 < k by omega) with rfl | rfl | e | e
          · simp only [hold, decide_eq_true_eq] at ht; omega
          · simp only [hold, decide_eq_true_eq] at ht; exact absurd ht h1
          · exact e
          · have := F 2 e
            simp only [hold, decide_eq_false_iff_not] at this
            exact absurd h2 this
        subst this
        rfl
      · rw [if_neg h2]
        by_cases h3 : r < 32
        · rw [if_pos h3]
          have : k = 3 := by
            rcases (show k = 0 ∨ k = 1 ∨ k = 2 ∨ k = 3 ∨ 3 < k by omega) with rfl | rfl | rfl | e | e
            · simp only [hold, decide_eq_true_eq] at ht; omega
            · simp only [hold, decide_eq_true_eq] at ht; exact absurd ht h1
            · simp only [hold, decide_eq_true_eq] at ht; exact absurd ht h2
            · exact e
            · have := F 3 e
              simp only [hold, decide_eq_false_iff_not] at this
              omega
          subst this
          rfl
        · rw [if_neg h3]
          by_cases h4 : r ∈ broadL
          · rw [if_pos h4]
            have : k = 4 := by
              rcases (show k = 0 ∨ k = 1 ∨ k = 2 ∨ k = 3 ∨ k = 4 ∨ 4 < k by omega) with rfl | rfl | rfl | rfl | e | e
              · simp only [hold, decide_eq_true_eq] at ht; omega
              · simp only [hold, decide_eq_true_eq] at ht; exact absurd ht h1
              · simp only [hold, decide_eq_true_eq] at ht; exact absurd ht h2
              · simp only [hold, decide_eq_true_eq] at ht; omega
              · exact e
              · have := F 4 e
                simp only [hold, decide_eq_false_iff_not] at this
                exact absurd h4 this
            subst this
            rfl
          · rw [if_neg h4]
            by_cases h5 : 65 ≤ r ∧ r ≤ 90
            · rw [if_pos h5]
              have : k = 5 := by
                rcases (show k = 0 ∨ k = 1 ∨ k = 2 ∨ k = 3 ∨ k = 4 ∨ k = 5 ∨ k = 6 by omega) with rfl | rfl | rfl | rfl | rfl | e | rfl
                · simp only [hold, decide_eq_true_eq] at ht; omega
                · simp only [hold, decide_eq_true_eq] at ht; exact absurd ht h1
                · simp only [hold, decide_eq_true_eq] at ht; exact absurd ht h2
                · simp only [hold, decide_eq_true_eq] at ht; omega
                · simp only [hold, decide_eq_true_eq] at ht; exact absurd ht h4
                · exact e
                · have := F 5 (by omega)
                  simp only [hold, decide_eq_false_iff_not] at this
                  exact absurd h5 this
              subst this
              rfl
            · rw [if_neg h5]
              have : k = 6 := by
                rcases (show k = 0 ∨ k = 1 ∨ k = 2 ∨ k = 3 ∨ k = 4 ∨ k = 5 ∨ k = 6 by omega) with rfl | rfl | rfl | rfl | rfl | rfl | e
                · simp only [hold, decide_eq_true_eq] at ht; omega
                · simp only [hold, decide_eq_true_eq] at ht; exact absurd ht h1
                · simp only [hold, decide_eq_true_eq] at ht; exact absurd ht h2
                · simp only [hold, decide_eq_true_eq] at ht; omega
                · simp only [hold, decide_eq_true_eq] at ht; exact absurd ht h4
                · simp only [hold, decide_eq_true_eq] at ht; exact absurd ht h5
                · exact e
              subst this
              rfl
set_option maxRecDepth 100000 in
set_option maxHeartbeats 4000000 in
theorem share_of (H : Nat) (r : Int) (W : World) (h : Rows8 H W) (hr : -2147483648 ≤ r ∧ r ≤ 2147483647) (n : Int) (hn : shareR r = n) :
    Calls Try.prog 27 #[.int .i32 r, .pointer (some ⟨H + 13, 0, none⟩)] W fun e w' => e = .returned (.int .i64 n) ∧ ∃ q, w' = W.drewN q := by
  have R := Lib.hid h
  have HR := Lib.hid hr
  have SR : Hid (∀ k, k ≤ 6 → (∀ i, i < k → hold r i = false) → hold r k = true → rowShare k = n) := Lib.hid (fun k hk hf ht => by rw [← hn, share_row hr hk hf ht])
  have NO : Hid (¬ ∀ i, i < 7 → hold r i = false) := Lib.hid (fun h => by have := h 6 (by omega); simp only [hold, decide_eq_false_iff_not] at this; omega)
  have rows := h.rows
  clear h hr hn
  go_enter Try.func27, Try.ntmps27
  go_wp2
  go_loopg [4] 7 (fun g1 vi wr => ∃ k : Nat, ∃ q : Nat, vi = .int .i64 k ∧ k ≤ 7 ∧ 7 - k ≤ g1 ∧ wr = W.drewN q ∧ ∀ i, i < k → hold r i = false)
  case atStart => exact ⟨0, 0, rfl, by omega, by omega, rfl, fun i hi => absurd hi (by omega)⟩
  case round =>
    obtain ⟨k, q, rfl, hk, hg1, rfl, hf⟩ := hrel
    have F := Lib.hid hf
    clear hf
    have k7 : k < 7 := by
      by_cases e : k < 7
      · exact e
      · exact absurd (fun i hi => F.out i (by omega)) NO.out
    obtain ⟨b, hb⟩ : ∃ b, hold r k = b := ⟨_, rfl⟩
    have NX : Hid (b = false → ∀ i, i < k + 1 → hold r i = false) := Lib.hid (fun e i hi => by
      by_cases e2 : i = k
      · rw [e2, hb, e]
      · exact F.out i (by omega))
    have HB := Lib.hid hb
    clear hb
    rcases (show k = 0 ∨ k = 1 ∨ k = 2 ∨ k = 3 ∨ k = 4 ∨ k = 5 ∨ k = 6 by omega) with rfl | rfl | rfl | rfl | rfl | rfl | rfl
    · have fn := R.out.f0
      have sh := R.out.s0
      have K := Lib.hid (between_any H (H + 1) 4352 2147483647 r (W.drewN q) R.out.x0 R.out.x1 b HB.out)
      cases b with
      | true =>
        obtain rfl := SR.out 0 (by omega) F.out HB.out
        clear SR NX
        go_wp2_with (go_at_call 28; (with_reducible refine K.out.mono ?_); rintro e w' ⟨rfl, rfl⟩)
        go_ret
        exact ⟨rfl, _, rfl⟩
      | false =>
        go_wp2_with (go_at_call 28; (with_reducible refine K.out.mono ?_); rintro e w' ⟨rfl, rfl⟩)
        go_roundg (6 - 0)
        case measure => omega
        case rel => exact ⟨1, q, by go_num, by omega, by omega, rfl, NX.out trivial⟩
    · have fn := R.out.f1
      have sh := R.out.s1
      have K := Lib.hid (between_any (H + 2) (H + 3) 768 879 r (W.drewN q) R.out.x2 R.out.x3 b HB.out)
      cases b with
      | true =>
        obtain rfl := SR.out 1 (by omega) F.out HB.out
        clear SR NX
        go_wp2_with (go_at_call 28; (with_reducible refine K.out.mono ?_); rintro e w' ⟨rfl, rfl⟩)
        go_ret
        exact ⟨rfl, _, rfl⟩
      | false =>
        go_wp2_with (go_at_call 28; (with_reducible refine K.out.mono ?_); rintro e w' ⟨rfl, rfl⟩)
        go_roundg (6 - 1)
        case measure => omega
        case rel => exact ⟨2, q, by go_num, by omega, by omega, rfl, NX.out trivial⟩
    · have fn := R.out.f2
      have sh := R.out.s2
      have lt : r < 4352 := by have h0 := F.out 0 (by omega); have := HR.out; simp only [hold, decide_eq_false_iff_not] at h0; omega
      have K := Lib.hid (among_nb (H + 4) r (W.drewN q) R.out.x4 lt b HB.out)
      clear lt
      cases b with
      | true =>
        obtain rfl := SR.out 2 (by omega) F.out HB.out
        clear SR NX
        go_wp2_with (go_at_call 29; (with_reducible refine K.out.mono ?_); rintro e w' ⟨rfl, q2, rfl⟩)
        go_ret
        exact ⟨rfl, _, rfl⟩
      | false =>
        go_wp2_with (go_at_call 29; (with_reducible refine K.out.mono ?_); rintro e w' ⟨rfl, q2, rfl⟩)
        go_roundg (6 - 2)
        case measure => omega
        case rel => exact ⟨3, q + q2, by go_num, by omega, by omega, rfl, NX.out trivial⟩
    · have fn := R.out.f3
      have sh := R.out.s3
      have K := Lib.hid (between_any (H + 5) (H + 6) (-2147483648) 31 r (W.drewN q) R.out.x5 R.out.x6 b HB.out)
      cases b with
      | true =>
        obtain rfl := SR.out 3 (by omega) F.out HB.out
        clear SR NX
        go_wp2_with (go_at_call 28; (with_reducible refine K.out.mono ?_); rintro e w' ⟨rfl, rfl⟩)
        go_ret
        exact ⟨rfl, _, rfl⟩
      | false =>
        go_wp2_with (go_at_call 28; (with_reducible refine K.out.mono ?_); rintro e w' ⟨rfl, rfl⟩)
        go_roundg (6 - 3)
        case measure => omega
        case rel => exact ⟨4, q, by go_num, by omega, by omega, rfl, NX.out trivial⟩
    · have fn := R.out.f4
      have sh := R.out.s4
      have lt : r < 4352 := by have h0 := F.out 0 (by omega); have := HR.out; simp only [hold, decide_eq_false_iff_not] at h0; omega
      have K := Lib.hid (among_bb (H + 7) r (W.drewN q) R.out.x7 lt b HB.out)
      clear lt
      cases b with
      | true =>
        obtain rfl := SR.out 4 (by omega) F.out HB.out
        clear SR NX
        go_wp2_with (go_at_call 29; (with_reducible refine K.out.mono ?_); rintro e w' ⟨rfl, q2, rfl⟩)
        go_ret
        exact ⟨rfl, _, rfl⟩
      | false =>
        go_wp2_with (go_at_call 29; (with_reducible refine K.out.mono ?_); rintro e w' ⟨rfl, q2, rfl⟩)
        go_roundg (6 - 4)
        case measure => omega
        case rel => exact ⟨5, q + q2, by go_num, by omega, by omega, rfl, NX.out trivial⟩
    · have fn := R.out.f5
      have sh := R.out.s5
      have K := Lib.hid (between_any (H + 8) (H + 9) 65 90 r (W.drewN q) R.out.x8 R.out.x9 b HB.out)
      cases b with
      | true =>
        obtain rfl := SR.out 5 (by omega) F.out HB.out
        clear SR NX
        go_wp2_with (go_at_call 28; (with_reducible refine K.out.mono ?_); rintro e w' ⟨rfl, rfl⟩)
        go_ret
        exact ⟨rfl, _, rfl⟩
      | false =>
        go_wp2_with (go_at_call 28; (with_reducible refine K.out.mono ?_); rintro e w' ⟨rfl, rfl⟩)
        go_roundg (6 - 5)
        case measure => omega
        case rel => exact ⟨6, q, by go_num, by omega, by omega, rfl, NX.out trivial⟩
    · have fn := R.out.f6
      have sh := R.out.s6
      have K := Lib.hid (between_any (H + 10) (H + 11) (-2147483648) 2147483647 r (W.drewN q) R.out.x10 R.out.x11 b HB.out)
      cases b with
      | true =>
        obtain rfl := SR.out 6 (by omega) F.out HB.out
        clear SR NX
        go_wp2_with (go_at_call 28; (with_reducible refine K.out.mono ?_); rintro e w' ⟨rfl, rfl⟩)
        go_ret
        exact ⟨rfl, _, rfl⟩
      | false =>
        go_wp2_with (go_at_call 28; (with_reducible refine K.out.mono ?_); rintro e w' ⟨rfl, rfl⟩)
        go_roundg (6 - 6)
        case measure => omega
        case rel => exact ⟨7, q, by go_num, by omega, by omega, rfl, NX.out trivial⟩
theorem mshare_any (r : Int) (w : World) (hr : -2147483648 ≤ r ∧ r ≤ 2147483647) (n : Int) (hn : shareR r = n) :
    Calls Try.prog 13 #[.int .i32 r] w fun e w' => e = .returned (.int .i64 n) ∧ Below w.heap.size w w' := by
  go_enter Try.func13, Try.ntmps13
  go_wp2_with (go_at_call 21; (with_reducible refine (sharer_any _).mono ?_); rintro e w1 ⟨rfl, hb, hR⟩)
  have B := Lib.hid hb
  have K := Lib.hid (share_of w.heap.size r w1 hR hr n hn)
  clear hb hR hr hn
  go_wp2_with (go_at_call 27; (with_reducible refine K.out.mono ?_); rintro e w2 ⟨rfl, q, rfl⟩)
  go_ret
  exact ⟨rfl, below_drawnN B.out q⟩
end Go.Proofs.Ytcphjmfiiodbhaa
