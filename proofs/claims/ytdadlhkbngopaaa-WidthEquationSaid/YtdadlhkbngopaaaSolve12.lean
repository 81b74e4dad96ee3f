/-
  The landed Fit, and Solve: what becomes of the margins, and the equation.
-/
import Derived.Test.YtdadlhkbngopaaaAskAt12
import Derived.BigQuiet
import Derived.Deep.QuietTactic
import Derived.Deep.Cut
namespace Go.Proofs.Ytdadlhkbngopaaa
open Go.RowKit

theorem fit_ok : FitOK 14 := by
  intro n m r w
  obtain ⟨y, hy⟩ : ∃ y, fitW n m r = y := ⟨_, rfl⟩
  rw [hy]
  have Y := Lib.hid hy
  clear hy
  by_cases h1 : r < n
  · by_cases h2 : m < n
    · have R : Hid (y = m) := Lib.hid (by rw [← Y.out]; unfold fitW; omega)
      go_enter Try.func14, Try.ntmps14
      go_wp2_with fail
      go_ret
      exact ⟨by rw [R.out]; rfl, Below.refl _ _⟩
    · have R : Hid (y = n) := Lib.hid (by rw [← Y.out]; unfold fitW; omega)
      go_enter Try.func14, Try.ntmps14
      go_wp2_with fail
      go_ret
      exact ⟨by rw [R.out]; rfl, Below.refl _ _⟩
  · by_cases h2 : m < r
    · have R : Hid (y = m) := Lib.hid (by rw [← Y.out]; unfold fitW; omega)
      go_enter Try.func14, Try.ntmps14
      go_wp2_with fail
      go_ret
      exact ⟨by rw [R.out]; rfl, Below.refl _ _⟩
    · have R : Hid (y = r) := Lib.hid (by rw [← Y.out]; unfold fitW; omega)
      go_enter Try.func14, Try.ntmps14
      go_wp2_with fail
      go_ret
      exact ⟨by rw [R.out]; rfl, Below.refl _ _⟩
/-- what becomes of the margins, where so much is left -/
def margA (l r : Int) (al ar : Bool) (f : Int) : Int × Int :=
  if f < 0 ∨ (al = false ∧ ar = false) then (l, r + f) else if al = true ∧ ar = true then (f / 2, f - f / 2) else if ar = true then (l, f) else (f, r)
theorem marg_same {x : Int} {a : RA} : margA (left0 a) (right0 a) a.al a.ar (freeA x a) = (leftA x a, rightA x a) := by
  unfold margA leftA rightA
  by_cases h : freeA x a < 0 ∨ (a.al = false ∧ a.ar = false)
  · rw [if_pos h, if_pos h, if_pos h]
  · rw [if_neg h, if_neg h, if_neg h]
    have h' : ¬ (a.al = false ∧ a.ar = false) := fun c => h (.inr c)
    cases h1 : a.al with
    | true =>
      cases h2 : a.ar with
      | true => rfl
      | false => rfl
    | false =>
      cases h2 : a.ar with
      | true => rfl
      | false => exact absurd ⟨h1, h2⟩ h'
theorem below_q12 {B : Nat} {a w : World} (h : Below B a w) (n : Nat) : Below B a (w.drewN n) := ⟨h.os, h.tape, h.output, h.size, h.block⟩
set_option maxRecDepth 100000 in
set_option maxHeartbeats 4000000 in
theorem margins_any (is : Bool) (width least most left right : Int) (al ar : Bool) (edges f : Int) (hr : -1099511627776 ≤ right ∧ right ≤ 1099511627776) (hf : -5497558138880 ≤ f ∧ f ≤ 5497558138880) (w : World) (l r : Int) (h : margA left right al ar f = (l, r)) :
    Calls Try.prog 46 #[.agg #[.bool is, .int .i64 width, .int .i64 least, .int .i64 most, .int .i64 left, .int .i64 right, .bool al, .bool ar, .int .i64 edges], .int .i64 f] w fun e w' => e = .returned (.tuple #[.int .i64 l, .int .i64 r]) ∧ Below w.heap.size w w' := by
  have B0 : Hid (Below w.heap.size w (w.alloc (.cells #[.bool is, .int .i64 width, .int .i64 least, .int .i64 most, .int .i64 left, .int .i64 right, .bool al, .bool ar, .int .i64 edges] 29))) := Lib.hid ((Below.refl _ w).alloc (Nat.le_refl _) _)
  unfold margA at h
  by_cases h1 : f < 0
  · rw [if_pos (.inl h1)] at h
    have e1 := congrArg Prod.fst h
    have e2 := congrArg Prod.snd h
    dsimp only at e1 e2
    have b1 : IntKind.i64.wrap (right + f) = r := by rw [← e2]; exact IntWalk.i64_in _ (by omega)
    subst e1
    clear h e2 hr hf
    go_enter Try.func46, Try.ntmps46
    go_upto_region 1 with fail
    go_quiet (fail)
    go_wp2_with fail
    go_ret2
    exact ⟨rfl, below_q12 B0.out _⟩
  · cases al with
    | false =>
      cases ar with
      | false =>
        rw [if_pos (.inr ⟨rfl, rfl⟩)] at h
        have e1 := congrArg Prod.fst h
        have e2 := congrArg Prod.snd h
        dsimp only at e1 e2
        have b1 : IntKind.i64.wrap (right + f) = r := by rw [← e2]; exact IntWalk.i64_in _ (by omega)
        subst e1
        clear h e2 hr hf
        go_enter Try.func46, Try.ntmps46
        go_upto_region 1 with fail
        go_quiet (fail)
        go_wp2_with fail
        go_ret2
        exact ⟨rfl, below_q12 B0.out _⟩
      | true =>
        rw [if_neg (by rintro (c | ⟨-, c⟩); exact h1 c; cases c), if_neg (by rintro ⟨c, -⟩; cases c), if_pos rfl] at h
        obtain ⟨rfl, rfl⟩ := Prod.mk.inj h
        clear h hr hf
        go_enter Try.func46, Try.ntmps46
        go_upto_region 1 with fail
        go_quiet (fail)
        go_wp2_with fail
        go_ret2
        exact ⟨rfl, below_q12 B0.out _⟩
    | true =>
      cases ar with
      | false =>
        rw [if_neg (by rintro (c | ⟨c, -⟩); exact h1 c; cases c), if_neg (by rintro ⟨-, c⟩; cases c), if_neg (by intro c; cases c)] at h
        obtain ⟨rfl, rfl⟩ := Prod.mk.inj h
        clear h hr hf
        go_enter Try.func46, Try.ntmps46
        go_upto_region 1 with fail
        go_quiet (fail)
        go_wp2_with fail
        go_ret2
        exact ⟨rfl, below_q12 B0.out _⟩
      | true =>
        rw [if_neg (by rintro (c | ⟨c, -⟩); exact h1 c; cases c), if_pos ⟨rfl, rfl⟩] at h
        have e1 := congrArg Prod.fst h
        have e2 := congrArg Prod.snd h
        dsimp only at e1 e2
        have b1 : IntKind.i64.wrap (f.tdiv 2) = l := by
          rw [Int.tdiv_eq_ediv_of_nonneg (by omega), ← e1]
          exact IntWalk.i64_in _ (by omega)
        have b2 : IntKind.i64.wrap (f - l) = r := by
          rw [← e1, ← e2]
          exact IntWalk.i64_in _ (by omega)
        clear h e1 e2 hr hf
        go_enter Try.func46, Try.ntmps46
        go_upto_region 1 with fail
        go_quiet (fail)
        go_wp2_with fail
        go_ret2
        exact ⟨rfl, below_q12 B0.out _⟩
end Go.Proofs.Ytdadlhkbngopaaa
