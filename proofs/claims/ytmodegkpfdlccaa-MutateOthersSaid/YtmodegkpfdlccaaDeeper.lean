/-
  tree.isPlace, tree.isNextDeeper.
-/
import Derived.WalkKit
import Derived.IntWalk
import Derived.Test.YtmodegkpfdlccaaProg
namespace Go.Proofs.Ytmodegkpfdlccaa
open Go.RowKit

theorem ret_bool {a b : Bool} (h : a = b) : Ending.returned (.bool a) = .returned (.bool b) := by rw [h]

set_option maxRecDepth 100000 in
set_option maxHeartbeats 1000000 in
theorem isPlace_any (A : Option Addr) (n c : Nat) (a : Int) (w : World) :
    Calls Try.prog 87 #[.slice A n c, .int .i64 a] w fun e w' => e = .returned (.bool (decide (0 ≤ a ∧ a < n))) ∧ w = w' := by
  by_cases h0 : 0 ≤ a
  · have h0' : decide (0 ≤ a) = true := by simpa using h0
    by_cases h1 : a < n
    · go_enter Try.func87, Try.ntmps87
      go_wp2
      go_ret
      exact ⟨by simp [h0, h1], rfl⟩
    · have h1' : (n : Int) ≤ a := by omega
      go_enter Try.func87, Try.ntmps87
      go_wp2
      go_ret
      exact ⟨by simp [h1], rfl⟩
  · have h0' : decide (0 ≤ a) = false := by simpa using h0
    go_enter Try.func87, Try.ntmps87
    go_wp2
    go_ret
    exact ⟨by simp, rfl⟩

theorem deeper_eq (u l : Int) : (l == u + 1) = decide (u + 1 = l) := by
  rw [Bool.eq_iff_iff, beq_iff_eq, decide_eq_true_iff]; exact eq_comm

set_option maxRecDepth 100000 in
set_option maxHeartbeats 1000000 in
theorem isNextDeeper_any (u l : Int) (w : World) (hu : -9223372036854775808 ≤ u ∧ u ≤ 9223372036854775807) (hl : -9223372036854775808 ≤ l ∧ l ≤ 9223372036854775807) :
    Calls Try.prog 78 #[.int .i64 u, .int .i64 l] w fun e w' => e = .returned (.bool (decide (u + 1 = l))) ∧ w = w' := by
  obtain ⟨u1, u2⟩ := hu
  obtain ⟨l1, l2⟩ := hl
  by_cases h0 : u < l
  · have h0' : decide (u < l) = true := by simpa using h0
    have h3 : u + 1 ≤ 9223372036854775807 := by omega
    have h4 : -9223372036854775808 ≤ u + 1 := by omega
    go_enter Try.func78, Try.ntmps78
    go_wp2
    go_ret
    exact ⟨ret_bool (deeper_eq u l), rfl⟩
  · have h0' : decide (u < l) = false := by simpa using h0
    go_enter Try.func78, Try.ntmps78
    go_wp2
    go_ret
    exact ⟨ret_bool (decide_eq_false (by omega)).symm, rfl⟩
end Go.Proofs.Ytmodegkpfdlccaa
