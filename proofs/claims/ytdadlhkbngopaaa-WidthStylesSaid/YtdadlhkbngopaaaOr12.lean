/-
  cmp.Or at errors: the first that isn't 0.
-/
import Derived.Test.YtdadlhkbngopaaaFits
namespace Go.Proofs.Ytdadlhkbngopaaa
open Go.RowKit

/-- the first number from a place on that isn't 0 -/
def orI (f : Nat → Int) : Nat → Nat → Int
  | 0, _ => 0
  | n + 1, i => if f i ≠ 0 then f i else orI f n (i + 1)
theorem or_any (A : Option Addr) (n c : Nat) (f : Nat → Int) (w : World) (h : Ints w A n f) (hn : n ≤ 4611686018427387904) (r : Int) (hr : orI f n 0 = r) :
    Calls Try.prog 21 #[.slice A n c] w fun e w' => e = .returned (.int .i64 r) ∧ w = w' := by
  have H := Lib.hid h
  have R := Lib.hid hr
  clear h hr
  go_enter Try.func21, Try.ntmps21
  go_wp2
  go_loop [8] (fun i => ∃ k : Nat, k ≤ n ∧ i = .int .i64 k ∧ Hid (orI f (n - k) k = r)) (fun i => n - (intOf i).toNat)
  case atStart => exact ⟨0, Nat.zero_le _, rfl, Lib.hid (by rw [Nat.sub_zero]; exact R.out)⟩
  case round =>
    obtain ⟨k, hk, rfl, HK⟩ := hrel
    by_cases hlt : k < n
    · obtain ⟨b, off, rfl, hb, hc⟩ := H.out.at_ hlt
      have HN : Hid ((if f k ≠ 0 then f k else orI f (n - (k + 1)) (k + 1)) = r) := Lib.hid (by
        have := HK.out
        rw [show n - k = n - (k + 1) + 1 by omega] at this
        exact this)
      obtain ⟨x, hx⟩ : ∃ x, f k = x := ⟨_, rfl⟩
      rw [hx] at HN hc
      clear hb hx HK
      by_cases h0 : x = 0
      · obtain rfl := h0
        have HM : Hid (orI f (n - (k + 1)) (k + 1) = r) := Lib.hid (by have := HN.out; rwa [if_neg (fun c => c rfl)] at this)
        clear HN
        go_wp2
        go_round
        case rel => exact ⟨k + 1, by omega, by go_num, HM⟩
        case measure => simp [intOf]; omega
      · have n1 : (x == 0) = false := by simp [h0]
        have n2 : (x != 0) = true := by simp [h0]
        have HM : Hid (x = r) := Lib.hid (by have := HN.out; rwa [if_pos h0] at this)
        clear HN h0
        go_wp2
        go_ret
        exact ⟨by rw [← HM.out]; rfl, rfl⟩
    · have HM : Hid (0 = r) := Lib.hid (by have := HK.out; rw [show n - k = 0 by omega] at this; exact this)
      clear HK
      go_wp2
      go_ret
      exact ⟨by rw [← HM.out]; rfl, rfl⟩
end Go.Proofs.Ytdadlhkbngopaaa
