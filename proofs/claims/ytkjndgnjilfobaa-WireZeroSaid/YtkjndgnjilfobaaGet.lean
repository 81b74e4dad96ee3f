/-
  words.Get: the number whose word stands at a place.
-/
import Derived.Test.YtkjndgnjilfobaaFirst2
import Derived.WalkLawsBesides
namespace Go.Proofs.Ytkjndgnjilfobaa
open Go.RowKit

set_option maxRecDepth 100000 in
set_option maxHeartbeats 1000000 in
theorem get_out (A : Option Addr) (len c : Nat) (a : Int) (w : World) (h0 : -9223372036854775808 ≤ a) (h1 : a ≤ 9223372036854775807) (ha : a < 0 ∨ (len : Int) ≤ a) :
    Calls Try.prog 50 #[.slice A len c, .int .i64 a] w fun e w' => e = .returned (encGot none) ∧ w = w' := by
  by_cases hn : a < 0
  · go_enter Try.func50, Try.ntmps50
    go_wp2
    go_ret3
    exact ⟨rfl, rfl⟩
  · have hl : (len : Int) ≤ a := by omega
    have hn' : decide (a < 0) = false := by simpa using hn
    have hl' : decide ((len : Int) ≤ a) = true := by simpa using hl
    go_enter Try.func50, Try.ntmps50
    go_wp2
    go_ret3
    exact ⟨rfl, rfl⟩

set_option maxRecDepth 100000 in
set_option maxHeartbeats 1000000 in
theorem get_in (A : Option Addr) (len c : Nat) (f : Nat → Nat) (p : Nat) (w : World) (h : Bytes w A len f) (hlen : len ≤ 4611686018427387904) (hc : len ≤ c) (hp : p < len) (r : Option (Nat × Nat)) (hr : Got (seg f p (len - p)) r) :
    Calls Try.prog 50 #[.slice A len c, .int .i64 (p : Nat)] w fun e w' => e = .returned (encGot r) ∧ w = w' := by
  obtain ⟨b, off, rfl, hb, hcell⟩ := h.at_ hp
  clear hb hcell
  have H := Lib.hid h; have R := Lib.hid hr
  clear h hr
  have hpl : (p : Int) < len := by omega
  have hp0 : (0 : Int) ≤ p := by omega
  by_cases hm : len ≤ p + 10
  · have hm' : (len : Int) ≤ p + 10 := by omega
    go_enter Try.func50, Try.ntmps50
    go_wp2_with fail
    refine (first_any (some ⟨b, off + p, none⟩) (len - p) (c - p) (fun i => f (p + i)) w (H.out.from_ (by omega)) (by omega) [] (fun _ => rfl) r (by rw [seg_shift, Nat.add_zero, List.append_nil]; exact R.out)).mono ?_
    rintro e w' ⟨rfl, rfl⟩
    rcases r with _ | ⟨n, k⟩
    · simp only [encGot]
      go_wp2
      go_ret3
      exact ⟨rfl, rfl⟩
    · simp only [encGot]
      go_wp2
      go_ret3
      exact ⟨rfl, rfl⟩
  · have hm' : (p : Int) + 10 < len := by omega
    go_enter Try.func50, Try.ntmps50
    go_wp2_with fail
    refine (first_any (some ⟨b, off + p, none⟩) 10 (c - p) (fun i => f (p + i)) w (H.out.from_ (by omega)) (by omega) (seg f (p + 10) (len - p - 10)) (fun h => by omega) r (by rw [seg_shift, Nat.add_zero, ← seg_add, show 10 + (len - p - 10) = len - p by omega]; exact R.out)).mono ?_
    rintro e w' ⟨rfl, rfl⟩
    rcases r with _ | ⟨n, k⟩
    · simp only [encGot]
      go_wp2
      go_ret3
      exact ⟨rfl, rfl⟩
    · simp only [encGot]
      go_wp2
      go_ret3
      exact ⟨rfl, rfl⟩
end Go.Proofs.Ytkjndgnjilfobaa
