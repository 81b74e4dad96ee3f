/-
  How wide boxes are: what is asked for, and what it comes to: mathematics.
-/
import Derived.Test.YtdadlhkbngopaaaFits
import Derived.Test.YtdadlhkbngopaaaPairs
namespace Go.Proofs.Ytdadlhkbngopaaa
open Go.RowKit

/-- what is asked for -/
structure RA where
  is : Bool
  width : Int
  least : Int
  most : Int
  left : Int
  right : Int
  al : Bool
  ar : Bool
  edges : Int
def big (x : Int) : Prop := -9223372036854775808 ≤ x ∧ x ≤ 9223372036854775807
structure RA.ok (a : RA) : Prop where
  width : big a.width
  least : big a.least
  most : big a.most
  left : big a.left
  right : big a.right
  edges : big a.edges
def RA.cells (a : RA) : List Value := [.bool a.is, .int .i64 a.width, .int .i64 a.least, .int .i64 a.most, .int .i64 a.left, .int .i64 a.right, .bool a.al, .bool a.ar, .int .i64 a.edges]
def askedV (a : RA) : Value := .agg #[.bool a.is, .int .i64 a.width, .int .i64 a.least, .int .i64 a.most, .int .i64 a.left, .int .i64 a.right, .bool a.al, .bool a.ar, .int .i64 a.edges]
def askedNone : Value := askedV ⟨false, 0, 0, 0, 0, 0, false, false, 0⟩
/-- the margins, free ones as 0 -/
def left0 (a : RA) : Int := if a.al = true then 0 else a.left
def right0 (a : RA) : Int := if a.ar = true then 0 else a.right
/-- the width -/
def wide0 (x : Int) (a : RA) : Int := if a.is = true then a.width else x - left0 a - right0 a - a.edges
def wideA (x : Int) (a : RA) : Int := clampV (if wide0 x a < 0 then 0 else wide0 x a) a.least a.most
def freeA (x : Int) (a : RA) : Int := x - left0 a - a.edges - wideA x a - right0 a
def leftA (x : Int) (a : RA) : Int := if freeA x a < 0 ∨ (a.al = false ∧ a.ar = false) then left0 a else if a.al = true ∧ a.ar = true then freeA x a / 2 else if a.al = true then freeA x a else left0 a
def rightA (x : Int) (a : RA) : Int := if freeA x a < 0 ∨ (a.al = false ∧ a.ar = false) then right0 a + freeA x a else if a.al = true ∧ a.ar = true then freeA x a - freeA x a / 2 else if a.al = true then right0 a else freeA x a
def Bad (x : Int) (a : RA) : Prop := x < 0 ∨ a.least < 0 ∨ a.most < 0 ∨ a.edges < 0 ∨ (a.is = true ∧ a.width < 0)
instance (x : Int) (a : RA) : Decidable (Bad x a) := by unfold Bad; infer_instance
def FitA (x : Int) (a : RA) : Prop := Fit x ∧ Fit a.least ∧ Fit a.most ∧ Fit a.left ∧ Fit a.right ∧ Fit a.edges ∧ (a.is = true → Fit a.width)
instance (x : Int) (a : RA) : Decidable (FitA x a) := by unfold FitA; infer_instance
def FitT (x : Int) (a : RA) : Prop := Fit (leftA x a) ∧ Fit (wideA x a) ∧ Fit (rightA x a)
instance (x : Int) (a : RA) : Decidable (FitT x a) := by unfold FitT; infer_instance
/-- what Solve answers -/
def solveA (x : Int) (a : RA) : Int × Int × Int × Int :=
  if Bad x a then (0, 0, 0, 2) else if ¬ FitA x a then (0, 0, 0, 10) else if FitT x a then (leftA x a, wideA x a, rightA x a, 0) else (0, 0, 0, 10)
/-- what Fit answers -/
def fitW (narrow wide room : Int) : Int := min (max room narrow) wide
/-- numbers that are asked for and may be -/
structure Good12 (x : Int) (a : RA) : Prop where
  x : 0 ≤ x ∧ x ≤ 1099511627776
  least : 0 ≤ a.least ∧ a.least ≤ 1099511627776
  most : 0 ≤ a.most ∧ a.most ≤ 1099511627776
  edges : 0 ≤ a.edges ∧ a.edges ≤ 1099511627776
  left : -1099511627776 ≤ a.left ∧ a.left ≤ 1099511627776
  right : -1099511627776 ≤ a.right ∧ a.right ≤ 1099511627776
  width : a.is = true → 0 ≤ a.width ∧ a.width ≤ 1099511627776
theorem good_of {x : Int} {a : RA} (h1 : ¬ Bad x a) (h2 : FitA x a) : Good12 x a := by
  unfold Bad at h1
  obtain ⟨f0, f1, f2, f3, f4, f5, f6⟩ := h2
  unfold Fit at f0 f1 f2 f3 f4 f5
  have k : x ≥ 0 ∧ a.least ≥ 0 ∧ a.most ≥ 0 ∧ a.edges ≥ 0 := by omega
  refine ⟨by omega, by omega, by omega, by omega, by omega, by omega, fun h => ?_⟩
  have := f6 h
  unfold Fit at this
  have k2 : ¬ (a.is = true ∧ a.width < 0) := fun c => h1 (.inr (.inr (.inr (.inr c))))
  have k3 : ¬ a.width < 0 := fun c => k2 ⟨h, c⟩
  omega
theorem left0_in {x : Int} {a : RA} (h : Good12 x a) : -1099511627776 ≤ left0 a ∧ left0 a ≤ 1099511627776 := by
  have := h.left
  unfold left0
  split <;> omega
theorem right0_in {x : Int} {a : RA} (h : Good12 x a) : -1099511627776 ≤ right0 a ∧ right0 a ≤ 1099511627776 := by
  have := h.right
  unfold right0
  split <;> omega
theorem wide0_in {x : Int} {a : RA} (h : Good12 x a) : -4398046511104 ≤ wide0 x a ∧ wide0 x a ≤ 4398046511104 := by
  have h1 := left0_in h
  have h2 := right0_in h
  have h3 := h.x
  have h4 := h.edges
  unfold wide0
  split
  · next c => have := h.width c; omega
  · omega
theorem wideA_in {x : Int} {a : RA} (h : Good12 x a) : 0 ≤ wideA x a ∧ wideA x a ≤ 1099511627776 := by
  have h1 := h.least
  have h2 := h.most
  unfold wideA clampV
  split <;> omega
theorem freeA_in {x : Int} {a : RA} (h : Good12 x a) : -5497558138880 ≤ freeA x a ∧ freeA x a ≤ 5497558138880 := by
  have h1 := left0_in h
  have h2 := right0_in h
  have h3 := h.x
  have h4 := h.edges
  have h5 := wideA_in h
  unfold freeA
  omega
theorem solve_told {x : Int} {a : RA} {l w r e : Int} (h : solveA x a = (l, w, r, e)) : (e = 0 ∧ Good12 x a ∧ FitT x a ∧ l = leftA x a ∧ w = wideA x a ∧ r = rightA x a) ∨ ((e = 2 ∨ e = 10) ∧ l = 0 ∧ w = 0 ∧ r = 0) := by
  unfold solveA at h
  by_cases h1 : Bad x a
  · rw [if_pos h1] at h
    cases h
    exact .inr ⟨.inl rfl, rfl, rfl, rfl⟩
  · rw [if_neg h1] at h
    by_cases h2 : FitA x a
    · rw [if_neg (fun c => c h2)] at h
      by_cases h3 : FitT x a
      · rw [if_pos h3] at h
        cases h
        exact .inl ⟨rfl, good_of h1 h2, h3, rfl, rfl, rfl⟩
      · rw [if_neg h3] at h
        cases h
        exact .inr ⟨.inr rfl, rfl, rfl, rfl⟩
    · rw [if_pos h2] at h
      cases h
      exact .inr ⟨.inr rfl, rfl, rfl, rfl⟩
theorem solve_good {x : Int} {a : RA} (h : Good12 x a) (ht : FitT x a) : solveA x a = (leftA x a, wideA x a, rightA x a, 0) := by
  unfold solveA
  rw [if_neg, if_neg, if_pos ht]
  · refine fun c => c ⟨?_, ?_, ?_, ?_, ?_, ?_, fun hi => ?_⟩
    · have := h.x; unfold Fit; omega
    · have := h.least; unfold Fit; omega
    · have := h.most; unfold Fit; omega
    · have := h.left; unfold Fit; omega
    · have := h.right; unfold Fit; omega
    · have := h.edges; unfold Fit; omega
    · have := h.width hi; unfold Fit; omega
  · have h1 := h.x
    have h2 := h.least
    have h3 := h.most
    have h4 := h.edges
    rintro (c | c | c | c | ⟨c1, c2⟩)
    · omega
    · omega
    · omega
    · omega
    · have := h.width c1; omega
/-- what is asked of the landed Solve, and Fit -/
def SolveOK (f : Nat) : Prop := ∀ (x : Int) (a : RA) (w : World), big x → a.ok → Calls Try.prog f #[.int .i64 x, askedV a] w fun e w' => e = .returned (.tuple #[.int .i64 (solveA x a).1, .int .i64 (solveA x a).2.1, .int .i64 (solveA x a).2.2.1, .int .i64 (solveA x a).2.2.2]) ∧ Below w.heap.size w w'
def FitOK (f : Nat) : Prop := ∀ (n m r : Int) (w : World), Calls Try.prog f #[.int .i64 n, .int .i64 m, .int .i64 r] w fun e w' => e = .returned (.int .i64 (fitW n m r)) ∧ Below w.heap.size w w'
end Go.Proofs.Ytdadlhkbngopaaa
