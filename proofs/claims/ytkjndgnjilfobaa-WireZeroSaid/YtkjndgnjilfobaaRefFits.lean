/-
  The document's fits: has a value no field but its letter's?
-/
import Derived.Test.YtkjndgnjilfobaaRefSchema
namespace Go.Proofs.Ytkjndgnjilfobaa
open Go.RowKit

theorem seg_nil {f : Nat → Nat} {n : Nat} : seg f 0 n = [] ↔ n = 0 := by
  constructor
  · intro h
    have := congrArg List.length h
    rwa [seg_len] at this
  · rintro rfl; rfl
theorem fits_told (c : Nat) (v : RV) : decide (Fits c v.mean) = ((((v.n : Int) == 0) || ((c : Int) == 110)) && ((v.i == 0) || ((c : Int) == 105)) && (!v.f || ((c : Int) == 102)) && (((v.bn : Int) == 0) || ((c : Int) == 98)) && (((v.ln : Int) == 0) || ((c : Int) == 108))) := by
  have e : ∀ k : Nat, (((k : Nat) : Int) == 0) = decide (k = 0) := fun k => by
    by_cases h : k = 0
    · subst h; rfl
    · rw [decide_eq_false h]; simp; omega
  have e2 : ∀ (x : Nat) (y : Nat), ((x : Int) == (y : Int)) = decide (x = y) := fun x y => by
    by_cases h : x = y
    · subst h; simp
    · rw [decide_eq_false h]; simp; omega
  have h110 := e2 c 110
  have h105 := e2 c 105
  have h102 := e2 c 102
  have h98 := e2 c 98
  have h108 := e2 c 108
  simp only [Int.cast_ofNat_Int] at h110 h105 h102 h98 h108
  rw [h110, h105, h102, h98, h108, e, e, e]
  have e3 : (v.i == 0) = decide (v.i = 0) := rfl
  rw [e3]
  unfold Fits RV.mean
  dsimp only
  simp only [seg_nil, Bool.decide_and, Bool.decide_or]
  cases v.f <;> simp [Bool.and_assoc]

set_option maxRecDepth 100000 in
set_option maxHeartbeats 8000000 in
theorem refFits_any (c : Nat) (v : RV) (w : World) :
    Calls Try.prog 30 #[.int .u8 (c : Nat), v.val] w fun e w' => e = .returned (.bool (decide (Fits c v.mean))) ∧ Below w.heap.size w w' := by
  rw [fits_told]
  obtain ⟨vn, vi, vf, bA, bn, bc, bf, lA, ln, lc, lf⟩ := v
  unfold RV.val
  dsimp only
  go_enter Try.func30, Try.ntmps30
  go_wp2
  all_goals
    go_ret
    refine ⟨?_, (Below.refl _ w).alloc (Nat.le_refl _) _⟩
    simp [*]
end Go.Proofs.Ytkjndgnjilfobaa
