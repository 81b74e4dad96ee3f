/-
  The document's One, Join, Value, May of chapter 13.
-/
import Derived.Test.YtjnfbnngpcnffaaMargins
import Derived.Laws.Rows
import Derived.IntWalk
namespace Go.Proofs.Ytjnfbnngpcnffaa
open Go.RowKit

/-- what is asked of the landed calls -/
def OneOK (f : Nat) : Prop := ∀ (n : Int) (w : World), Calls Try.prog f #[.int .i64 n] w fun e w' => e = .returned (mgV (oneM n)) ∧ Below w.heap.size w w'
def MayOK13 (f : Nat) : Prop := ∀ (m : Mg) (w : World), Calls Try.prog f #[mgV m] w fun e w' => e = .returned (.bool (decide (MayM m))) ∧ Below w.heap.size w w'
def ValueOK (f : Nat) : Prop := ∀ (m : Mg) (w : World), Calls Try.prog f #[mgV m] w fun e w' => e = .returned (.int .i64 (valueM m)) ∧ Below w.heap.size w w'
def JoinOK (f : Nat) : Prop := ∀ (l : List Mg) (v : Value) (w : World), MgIn w v l → l.length ≤ 100000 → Calls Try.prog f #[v] w fun e w' => e = .returned (mgV (joinM l)) ∧ Below w.heap.size w w'

set_option maxRecDepth 100000 in
set_option maxHeartbeats 4000000 in
theorem refOne_any : OneOK 13 := by
  intro n w
  have D : Hid (Below w.heap.size w (w.alloc (.cells #[.int .i64 (oneM n).1, .int .i64 (oneM n).2] 24))) := Lib.hid ((Below.refl _ w).alloc (Nat.le_refl _) _)
  unfold mgV
  by_cases h : n > 0
  · have e : oneM n = (n, 0) := by unfold oneM; rw [if_pos h]
    have h1 : 0 < n := h
    rw [e] at D ⊢
    clear e h
    go_enter Try.func13, Try.ntmps13
    go_wp2_with fail
    refine bodyPost_ret (results_cell_row rfl _ _ w.heap.size _ _ _ _ rfl (heap_alloc_new w _) Try.underlying24 rfl (by kernel_rfl)) rfl ?_
    exact ⟨rfl, D.out⟩
  · have e : oneM n = (0, n) := by unfold oneM; rw [if_neg h]
    have h1 : ¬ 0 < n := h
    rw [e] at D ⊢
    clear e h
    go_enter Try.func13, Try.ntmps13
    go_wp2_with fail
    refine bodyPost_ret (results_cell_row rfl _ _ w.heap.size _ _ _ _ rfl (heap_alloc_new w _) Try.underlying24 rfl (by kernel_rfl)) rfl ?_
    exact ⟨rfl, D.out⟩
set_option maxRecDepth 100000 in
set_option maxHeartbeats 4000000 in
theorem refValue_any13 : ValueOK 15 := by
  intro m w
  have D : Hid (Below w.heap.size w (w.alloc (.cells #[.int .i64 m.1, .int .i64 m.2] 24))) := Lib.hid ((Below.refl _ w).alloc (Nat.le_refl _) _)
  unfold mgV
  obtain ⟨a, b⟩ := m
  dsimp only at D ⊢
  unfold valueM
  dsimp only
  obtain ⟨s, hs⟩ : ∃ s, IntKind.i64.wrap (a + b) = s := ⟨_, rfl⟩
  rw [hs]
  go_enter Try.func15, Try.ntmps15
  go_wp2_with fail
  go_ret
  exact ⟨rfl, D.out⟩
set_option maxRecDepth 100000 in
set_option maxHeartbeats 4000000 in
theorem refMay_any13 : MayOK13 11 := by
  intro m w
  have D : Hid (Below w.heap.size w (w.alloc (.cells #[.int .i64 m.1, .int .i64 m.2] 24))) := Lib.hid ((Below.refl _ w).alloc (Nat.le_refl _) _)
  unfold mgV
  obtain ⟨a, b⟩ := m
  dsimp only at D ⊢
  obtain ⟨r, hr⟩ : ∃ r, decide (MayM (a, b)) = r := ⟨_, rfl⟩
  rw [hr]
  have HR := Lib.hid hr
  clear hr
  unfold MayM at HR
  dsimp only at HR
  by_cases h1 : a < 0
  · have R : Hid (r = false) := Lib.hid (by rw [← HR.out]; exact decide_eq_false (by omega))
    have d1 : decide (a < 0) = true := decide_eq_true h1
    clear HR
    go_enter Try.func11, Try.ntmps11
    go_wp2_with fail
    go_ret
    exact ⟨by rw [R.out]; rfl, D.out⟩
  · have d1 : decide (a < 0) = false := decide_eq_false h1
    by_cases h2 : 1099511627776 < a
    · have d2 : decide (1099511627776 < a) = true := decide_eq_true h2
      have R : Hid (r = false) := Lib.hid (by rw [← HR.out]; exact decide_eq_false (by omega))
      clear HR
      go_enter Try.func11, Try.ntmps11
      go_wp2_with fail
      go_ret
      exact ⟨by rw [R.out]; rfl, D.out⟩
    · have d2 : decide (1099511627776 < a) = false := decide_eq_false h2
      by_cases h3 : b ≤ 0
      · have d3 : decide (b ≤ 0) = true := decide_eq_true h3
        have R : Hid (r = decide (-1099511627776 ≤ b)) := Lib.hid (by rw [← HR.out]; exact decide_eq_decide.2 ⟨fun h => h.2.2, fun h => ⟨by omega, h3, h⟩⟩)
        clear HR
        go_enter Try.func11, Try.ntmps11
        go_wp2_with fail
        go_ret
        exact ⟨by rw [R.out]; rfl, D.out⟩
      · have R : Hid (r = false) := Lib.hid (by rw [← HR.out]; exact decide_eq_false (by omega))
        have d3 : decide (b ≤ 0) = false := decide_eq_false h3
        clear HR
        go_enter Try.func11, Try.ntmps11
        go_wp2_with fail
        go_ret
        exact ⟨by rw [R.out]; rfl, D.out⟩
end Go.Proofs.Ytjnfbnngpcnffaa
