/-
  words.first: the number whose word these bytes begin with.
-/
import Derived.Test.YtkjndgnjilfobaaSameBytes
import Derived.Test.YtkjndgnjilfobaaBitsMath
namespace Go.Proofs.Ytkjndgnjilfobaa
open Go.RowKit

/-- what Get and first answer -/
def encGot : Option (Nat × Nat) → Value
  | some (n, k) => .tuple #[.int .u64 (n : Nat), .int .i64 (k : Nat), .bool true]
  | none => .tuple #[.int .u64 0, .int .i64 0, .bool false]

theorem seg_split (f : Nat → Nat) {k len : Nat} (rest : List Nat) (h : k < len) : seg f 0 len ++ rest = seg f 0 k ++ f k :: (seg f (k + 1) (len - (k + 1)) ++ rest) := by
  obtain ⟨m, rfl⟩ : ∃ m, len = k + (m + 1) := ⟨len - k - 1, by omega⟩
  rw [seg_add, seg_cons, Nat.zero_add, show k + (m + 1) - (k + 1) = m by omega]
  simp
theorem val_succ (f : Nat → Nat) (k : Nat) : val (seg f 0 (k + 1)) = val (seg f 0 k) + 128 ^ k * (f k % 128) := by
  rw [seg_succ, val_append, seg_len, Nat.zero_add]; simp [val]
theorem seg_full {f : Nat → Nat} {k : Nat} (h1 : ∀ j, j < k → 128 ≤ f j) (h2 : ∀ j, j < k → f j < 256) : ∀ x ∈ seg f 0 k, 128 ≤ x ∧ x < 256 := by
  intro x hx
  obtain ⟨i, hi, rfl⟩ := seg_mem hx
  rw [Nat.zero_add]
  exact ⟨h1 i hi, h2 i hi⟩

set_option maxRecDepth 100000 in
set_option maxHeartbeats 2000000 in
theorem first_any (A : Option Addr) (len c : Nat) (f : Nat → Nat) (w : World) (h : Bytes w A len f) (hlen : len ≤ 10) (rest : List Nat) (hrest : len < 10 → rest = []) (r : Option (Nat × Nat)) (hr : Got (seg f 0 len ++ rest) r) :
    Calls Try.prog 67 #[.slice A len c] w fun e w' => e = .returned (encGot r) ∧ w = w' := by
  have H := Lib.hid h; have R := Lib.hid hr; have HR := Lib.hid hrest
  clear h hr hrest
  go_enter Try.func67, Try.ntmps67
  go_wp2
  go_loop [2, 11] (fun n i => ∃ k : Nat, k ≤ len ∧ (∀ j, j < k → 128 ≤ f j) ∧ n = .int .u64 (val (seg f 0 k) : Nat) ∧ i = .int .i64 (k : Nat)) (fun _ i => len - (intOf i).toNat)
  case atStart => exact ⟨0, Nat.zero_le _, fun j hj => by omega, rfl, rfl⟩
  case round =>
    obtain ⟨k, hk, hpre, rfl, rfl⟩ := hrel
    have P := Lib.hid hpre; clear hpre
    by_cases hlt : k < len
    · obtain ⟨b, off, rfl, hb, hc⟩ := H.out.at_ hlt
      have hx := H.out.bd hlt
      clear hb
      have hsp := seg_split f rest hlt
      have hful := seg_full P.out (fun j hj => H.out.bd (by omega : j < len))
      have hvl := val_lt (seg f 0 k)
      have hvs := val_succ f k
      rw [seg_len] at hvl
      rw [hsp] at R
      have hk9 : k ≤ 9 := by omega
      have H2 := Lib.hid hful; have HR2 := Lib.hid hsp
      clear hsp hful
      by_cases hfit : k ≤ 8 ∨ (k = 9 ∧ f k % 128 < 2)
      · have hW := shift_lies hfit
        have hB := shift_back (f k) k
        have hO := or_lies hvl hfit
        rw [← hvs] at hO
        have hwt : val (seg f 0 (k + 1)) < 18446744073709551616 := by
          rw [hvs]
          have h1 := shift_fits hfit
          have h2 : 2 ^ (k * 7) ≤ 2 ^ 63 := Nat.pow_le_pow_right (by omega) (by omega)
          rw [pow_seven] at hvl ⊢
          rcases hfit with h | ⟨rfl, h⟩
          · have h3 : 2 ^ (k * 7) ≤ 2 ^ 56 := Nat.pow_le_pow_right (by omega) (by omega)
            have h4 : 2 ^ (k * 7) * (f k % 128) ≤ 2 ^ 56 * 127 := Nat.mul_le_mul h3 (by omega)
            omega
          · omega
        have HV := Lib.hid hwt
        generalize f k % 128 * 2 ^ (k * 7) = y at hW hB hO
        by_cases h128 : 128 ≤ f k
        · have P2 : Hid (∀ j, j < k + 1 → 128 ≤ f j) := Lib.hid (by
            intro j hj
            rcases Nat.lt_or_ge j k with h | h
            · exact P.out j h
            · obtain rfl : j = k := by omega
              exact h128)
          clear hvs hwt hvl hfit R
          generalize val (seg f 0 k) = v at hO ⊢
          generalize hv' : val (seg f 0 (k + 1)) = v' at hO HV
          generalize f k = x at *
          have HV2 := Lib.hid hv'; clear hv'
          have h128' : (128 : Int) ≤ x := by omega
          go_wp2
          go_round
          case rel => exact ⟨k + 1, by omega, P2.out, by rw [HV2.out], by go_num⟩
          case measure => simp [intOf]; omega
        · by_cases h0 : f k = 0 ∧ 0 < k
          · have hr : none = r := (got_no_nought (r := seg f (k + 1) (len - (k + 1)) ++ rest) H2.out (by intro e; have := congrArg List.length e; rw [seg_len] at this; simp at this; omega)).uniq (h0.1 ▸ R.out)
            have HRR := Lib.hid hr
            obtain ⟨h0, hk0⟩ := h0
            have hk0' : (0 : Int) < k := by omega
            clear hvs hwt hvl hfit R hr HV HR2 H2
            generalize val (seg f 0 k) = v at hO ⊢
            generalize val (seg f 0 (k + 1)) = v' at hO
            generalize f k = x at *
            have hx0 : ((x : Int) == 0) = true := by simp; omega
            go_wp2
            go_ret3
            exact ⟨by rw [← HRR.out]; rfl, rfl⟩
          · have hr : some (val (seg f 0 (k + 1)), k + 1) = r := by
              have h := got_yes (r := seg f (k + 1) (len - (k + 1)) ++ rest) H2.out (by omega : f k < 128) (by
                rcases Nat.eq_zero_or_pos k with hk | hk
                · exact .inr (by rw [hk]; rfl)
                · exact .inl (fun e => h0 ⟨e, hk⟩)) (by have := seg_succ f 0 k; rw [Nat.zero_add] at this; rw [← this]; exact hwt)
              rw [seg_len, show seg f 0 k ++ [f k] = seg f 0 (k + 1) by rw [seg_succ, Nat.zero_add]] at h
              exact h.uniq R.out
            have HRR := Lib.hid hr
            have h0' : ((f k : Int) == 0) = true → ¬ (0 : Int) < k := fun e h => h0 ⟨by simp at e; omega, by omega⟩
            clear hvs hwt hvl hfit R hr HV HR2 H2
            generalize val (seg f 0 k) = v at hO ⊢
            generalize hv' : val (seg f 0 (k + 1)) = v' at hO HRR
            generalize f k = x at *
            clear hv'
            have h128' : (x : Int) < 128 := by omega
            by_cases hx0 : x = 0
            · have hx0' : ((x : Int) == 0) = true := by simp; omega
              have hk0 : ¬ (0 : Int) < k := h0' hx0'
              have hk1 : decide ((0 : Int) < k) = false := by simpa using hk0
              have hk2 : decide (0 < k) = false := by simp; omega
              clear h0' h0 hx0
              go_wp2
              go_ret3
              exact ⟨by rw [← HRR.out]; rfl, rfl⟩
            · have hx0' : ((x : Int) == 0) = false := by simp; omega
              clear h0' h0
              go_wp2
              go_ret3
              exact ⟨by rw [← HRR.out]; rfl, rfl⟩
      · have hk : k = 9 := by omega
        have hx2 : 2 ≤ f k % 128 := by omega
        have hr : none = r := (got_no_tenth (r := seg f (k + 1) (len - (k + 1)) ++ rest) H2.out (by rw [seg_len]; exact hk) hx2).uniq R.out
        have HRR := Lib.hid hr
        clear hvs hvl R hr HR2 H2
        generalize f k = x at *
        obtain ⟨y, hW, hB⟩ := shift_lost hx2 hk
        clear hk hfit
        generalize val (seg f 0 k) = v
        go_wp2
        go_ret3
        exact ⟨by rw [← HRR.out]; rfl, rfl⟩
    · obtain rfl : k = len := by omega
      have hr : none = r := by
        by_cases hk10 : k < 10
        · have e := HR.out hk10
          rw [e, List.append_nil] at R
          exact (got_no_short (fun x hx => by obtain ⟨i, hi, rfl⟩ := seg_mem hx; rw [Nat.zero_add]; exact P.out i hi)).uniq R.out
        · exact (got_no_long (fun x hx => by obtain ⟨i, hi, rfl⟩ := seg_mem hx; rw [Nat.zero_add]; exact P.out i hi) (by rw [seg_len]; omega)).uniq R.out
      have HRR := Lib.hid hr
      clear hr
      go_wp2
      go_ret3
      exact ⟨by rw [← HRR.out]; rfl, rfl⟩
end Go.Proofs.Ytkjndgnjilfobaa
