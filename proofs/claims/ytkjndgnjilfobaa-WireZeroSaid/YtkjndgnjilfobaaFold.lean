/-
  Integers folded, and unfolded: by the program, and by the document.
-/
import Derived.Test.YtkjndgnjilfobaaRefPut
namespace Go.Proofs.Ytkjndgnjilfobaa
open Go.RowKit

theorem ret_int {k : IntKind} {a b : Int} (h : a = b) : Ending.returned (.int k a) = .returned (.int k b) := by rw [h]
def foldN (i : Int) : Nat := if 0 ≤ i then 2 * i.toNat else 2 * (-(i + 1)).toNat + 1
def unfoldI (n : Nat) : Int := if n % 2 = 0 then (n / 2 : Nat) else -((n / 2 : Nat) : Int) - 1
theorem foldN_pos {i : Int} (h : 0 ≤ i) : ((foldN i : Nat) : Int) = 2 * i := by unfold foldN; rw [if_pos h]; omega
theorem foldN_neg {i : Int} (h : i < 0) : ((foldN i : Nat) : Int) = 2 * (-(i + 1)) + 1 := by unfold foldN; rw [if_neg (by omega)]; omega
theorem unfoldI_even {n : Nat} (h : n % 2 = 0) : unfoldI n = (n : Int) / 2 := by unfold unfoldI; rw [if_pos h]; omega
theorem unfoldI_odd {n : Nat} (h : n % 2 = 1) : unfoldI n = -((n : Int) / 2) - 1 := by unfold unfoldI; rw [if_neg (by omega)]; omega
theorem unfold_fold (i : Int) : unfoldI (foldN i) = i := by unfold unfoldI foldN; split <;> split <;> omega
theorem fold_unfold (n : Nat) : foldN (unfoldI n) = n := by unfold unfoldI foldN; split <;> split <;> omega

section
variable (i : Int) (h0 : -9223372036854775808 ≤ i) (h1 : i ≤ 9223372036854775807) (w : World)
include h0 h1
set_option maxRecDepth 100000 in
theorem fold_any : Calls Try.prog 53 #[.int .i64 i] w fun e w' => e = .returned (.int .u64 (foldN i : Nat)) ∧ w = w' := by
  by_cases h : i < 0
  · have E := Lib.hid (foldN_neg h)
    go_enter Try.func53, Try.ntmps53
    go_wp2
    go_ret
    exact ⟨ret_int (by have := E.out; omega), rfl⟩
  · have h' : 0 ≤ i := by omega
    have E := Lib.hid (foldN_pos h')
    go_enter Try.func53, Try.ntmps53
    go_wp2
    go_ret
    exact ⟨ret_int (by have := E.out; omega), rfl⟩
set_option maxRecDepth 100000 in
theorem refFold_any : Calls Try.prog 42 #[.int .i64 i] w fun e w' => e = .returned (.int .u64 (foldN i : Nat)) ∧ w = w' := by
  by_cases h : i < 0
  · have E := Lib.hid (foldN_neg h)
    go_enter Try.func42, Try.ntmps42
    go_wp2
    go_ret
    exact ⟨ret_int (by have := E.out; omega), rfl⟩
  · have h' : 0 ≤ i := by omega
    have E := Lib.hid (foldN_pos h')
    go_enter Try.func42, Try.ntmps42
    go_wp2
    go_ret
    exact ⟨ret_int (by have := E.out; omega), rfl⟩
end
section
variable (n : Nat) (hn : n < 18446744073709551616) (w : World)
include hn
set_option maxRecDepth 100000 in
theorem unfold_any : Calls Try.prog 55 #[.int .u64 (n : Nat)] w fun e w' => e = .returned (.int .i64 (unfoldI n)) ∧ w = w' := by
  by_cases h : n % 2 = 0
  · have E := Lib.hid (unfoldI_even h)
    have D : (((n : Int) % 2) == 1) = false := by simp; omega
    clear h
    go_enter Try.func55, Try.ntmps55
    go_wp2
    go_ret
    exact ⟨ret_int (by have := E.out; omega), rfl⟩
  · have h' : n % 2 = 1 := by omega
    have E := Lib.hid (unfoldI_odd h')
    have D : (((n : Int) % 2) == 1) = true := by simp; omega
    clear h h'
    go_enter Try.func55, Try.ntmps55
    go_wp2
    go_ret
    exact ⟨ret_int (by have := E.out; omega), rfl⟩
set_option maxRecDepth 100000 in
theorem refUnfold_any : Calls Try.prog 45 #[.int .u64 (n : Nat)] w fun e w' => e = .returned (.int .i64 (unfoldI n)) ∧ w = w' := by
  by_cases h : n % 2 = 0
  · have E := Lib.hid (unfoldI_even h)
    have D : (((n : Int) % 2) == 0) = true := by simp; omega
    clear h
    go_enter Try.func45, Try.ntmps45
    go_wp2
    go_ret
    exact ⟨ret_int (by have := E.out; omega), rfl⟩
  · have h' : n % 2 = 1 := by omega
    have E := Lib.hid (unfoldI_odd h')
    have D : (((n : Int) % 2) == 0) = false := by simp; omega
    clear h h'
    go_enter Try.func45, Try.ntmps45
    go_wp2
    go_ret
    exact ⟨ret_int (by have := E.out; omega), rfl⟩
end
end Go.Proofs.Ytkjndgnjilfobaa
