/-
  Boxes that grow and shrink: the rounds, as the chapter says them. Mathematics.
-/
import Derived.Test.YtpjhhndjbpegcaaFlexM16
import Derived.Test.YtpjhhndjbpegcaaTurnMath
namespace Go.Proofs.Ytpjhhndjbpegcaa

/-- a box -/
structure It16 where
  base : Int
  least : Int
  most : Int
  grow : Int
  shrink : Int
  outer : Int
def itZ : It16 := ⟨0, 0, 0, 0, 0, 0⟩
def itA (l : List It16) (i : Nat) : It16 := l[i]?.getD itZ
def cI (x : It16) (y : Int) : Int := max (min y x.most) x.least
def firstI (x : It16) : Int := cI x x.base
theorem cI_cl (x : It16) : Cl (cI x) := cl_clamp x.least x.most
/-- how a box counts when something is given out -/
def wI (grow : Bool) (x : It16) : Int := if grow = true then x.grow else x.shrink * x.base
def left0 (l : List It16) (n : Nat) (R : Int) (out : Nat → Int) (S : Nat → Bool) : Int := R - sumB (fun i => if S i = true then out i else (itA l i).base) n
def leftG (grow : Bool) (y : Int) : Int := if (grow = true ∧ y < 0) ∨ (grow = false ∧ 0 < y) then 0 else y
def wsR (l : List It16) (grow : Bool) (S : Nat → Bool) (i : Nat) : Nat := if S i = true then 0 else (wI grow (itA l i)).toNat
def outR (l : List It16) (out : Nat → Int) (S : Nat → Bool) (X : Nat → Int) (i : Nat) : Int := if S i = true then out i else cI (itA l i) ((itA l i).base + X i)
def chR (l : List It16) (S : Nat → Bool) (X : Nat → Int) (i : Nat) : Int := if S i = true then 0 else cI (itA l i) ((itA l i).base + X i) - ((itA l i).base + X i)
def setR (l : List It16) (n : Nat) (S : Nat → Bool) (X : Nat → Int) (i : Nat) : Bool := S i || decide (sumB (chR l S X) n = 0 ∨ (0 < sumB (chR l S X) n ∧ 0 < chR l S X i) ∨ (sumB (chR l S X) n < 0 ∧ chR l S X i < 0))
/-- rounds, as long as somebody isn't settled; none: what is left is no length -/
inductive Runs (l : List It16) (n : Nat) (grow : Bool) (R : Int) : (Nat → Int) → (Nat → Bool) → Option (Nat → Int) → Prop
  | done (out : Nat → Int) (S : Nat → Bool) (h : ∀ i, i < n → S i = true) : Runs l n grow R out S (some out)
  | far (out : Nat → Int) (S : Nat → Bool) (h : ∃ i, i < n ∧ S i = false) (hf : ¬ Fit (left0 l n R out S)) : Runs l n grow R out S none
  | round (out : Nat → Int) (S : Nat → Bool) (X : Nat → Int) (r : Option (Nat → Int)) (h : ∃ i, i < n ∧ S i = false) (hf : Fit (left0 l n R out S)) (hX : ShareOf (leftG grow (left0 l n R out S)) (wsR l grow S) n X) (hr : Runs l n grow R (outR l out S X) (setR l n S X) r) : Runs l n grow R out S r
/-- how many aren't settled -/
def openN (S : Nat → Bool) : Nat → Nat
  | 0 => 0
  | n + 1 => openN S n + (if S n = true then 0 else 1)
theorem openN_le {S S' : Nat → Bool} : ∀ {n : Nat}, (∀ i, i < n → S i = true → S' i = true) → openN S' n ≤ openN S n
  | 0, _ => Nat.le_refl _
  | n + 1, h => by
    have h1 := openN_le (n := n) (fun i hi => h i (by omega))
    have h2 := h n (by omega)
    rw [openN, openN]
    cases e : S n with
    | true => rw [if_pos (h2 e), if_pos rfl]; omega
    | false => rw [if_neg (show ¬ (false = true) by simp)]; split <;> omega
theorem openN_lt {S S' : Nat → Bool} {i : Nat} (h1 : S i = false) (h2 : S' i = true) : ∀ {n : Nat}, i < n → (∀ i, i < n → S i = true → S' i = true) → openN S' n < openN S n
  | 0, hi, _ => absurd hi (by omega)
  | n + 1, hi, h => by
    rw [openN, openN]
    by_cases e : i = n
    · subst e
      have := openN_le (n := i) (fun j hj => h j (by omega))
      rw [h1, h2, if_pos rfl, if_neg (show ¬ (false = true) by simp)]
      omega
    · have h3 := openN_lt h1 h2 (n := n) (by omega) (fun j hj => h j (by omega))
      have h4 := h n (by omega)
      cases e : S n with
      | true => rw [if_pos (h4 e), if_pos rfl]; omega
      | false => rw [if_neg (show ¬ (false = true) by simp)]; split <;> omega
theorem setR_keep {l : List It16} {n : Nat} {S : Nat → Bool} {X : Nat → Int} : ∀ i, i < n → S i = true → setR l n S X i = true := fun i _ h => by unfold setR; rw [h]; rfl
/-- each round settles somebody -/
theorem setR_some {l : List It16} {n : Nat} {S : Nat → Bool} {X : Nat → Int} (h : ∃ i, i < n ∧ S i = false) : ∃ i, i < n ∧ S i = false ∧ setR l n S X i = true := by
  by_cases h0 : sumB (chR l S X) n = 0
  · obtain ⟨i, hi, hs⟩ := h
    exact ⟨i, hi, hs, by unfold setR; simp [h0]⟩
  · have key : ∀ i, i < n → chR l S X i ≠ 0 → (0 < sumB (chR l S X) n ∧ 0 < chR l S X i) ∨ (sumB (chR l S X) n < 0 ∧ chR l S X i < 0) → ∃ i, i < n ∧ S i = false ∧ setR l n S X i = true := fun i hi h1 h2 => by
      have e : S i = false := by
        cases e : S i
        · rfl
        · exact absurd (by unfold chR; rw [e]; rfl) h1
      exact ⟨i, hi, e, by unfold setR; simp [h2]⟩
    rcases Int.lt_or_lt_of_ne h0 with hs | hs
    · obtain ⟨i, hi, c⟩ := sumB_neg hs
      exact key i hi (by omega) (.inr ⟨hs, c⟩)
    · obtain ⟨i, hi, c⟩ := sumB_pos hs
      exact key i hi (by omega) (.inl ⟨hs, c⟩)
/-- shares: what is known of them -/
structure Shares (t : Int) (v : Nat → Nat) (n : Nat) (X : Nat → Int) : Prop where
  pos : 0 ≤ t → ∀ i, i < n → 0 ≤ X i
  neg : t ≤ 0 → ∀ i, i < n → X i ≤ 0
  zero : ∀ i, i < n → v i = 0 → X i = 0
  sum : 0 < sumN v n → sumB X n = t
theorem sumZ_B (f : Nat → Int) (n : Nat) : sumZ f n = sumB f n := by
  induction n with
  | zero => rfl
  | succ n ih => rw [sumZ, sumB, ih]
theorem given_nn {t : Nat} {v : Nat → Nat} {n : Nat} {Y : Nat → Int} (h : Given t v n Y) : ∀ i, i < n → 0 ≤ Y i := by
  intro i hi
  rcases h with ⟨_, h⟩ | ⟨h0, q, hq, h⟩
  · rw [h i hi]; omega
  · rw [h i hi]
    exact (bumped_bd (c := (t : Int)) _ q (fun k hk => hq.2.1 k hk) (fun i hi => ⟨by omega, by have := base_le (t := t) h0 (v := v) (i := i) (le_sumN v hi); omega⟩) _ (left_le h0) i hi).1
theorem ShareOf.facts {t : Int} {v : Nat → Nat} {n : Nat} {X : Nat → Int} (h : ShareOf t v n X) : Shares t v n X := by
  obtain ⟨Y, hY, hX⟩ := h
  have nn := given_nn hY
  refine ⟨fun ht i hi => ?_, fun ht i hi => ?_, fun i hi hv => ?_, fun hs => ?_⟩
  · rw [hX i hi, if_neg (by omega)]; exact nn i hi
  · by_cases h0 : t < 0
    · rw [hX i hi, if_pos h0]; have := nn i hi; omega
    · have : t = 0 := by omega
      rw [ShareOf.zero ⟨Y, hY, hX⟩ this i hi]; omega
  · have := hY.nothing hi hv
    rw [hX i hi, this]
    split <;> rfl
  · have e := hY.sum
    rw [if_neg (by omega)] at e
    rw [← sumZ_B]
    by_cases h0 : t < 0
    · rw [sumZ_congr (g := fun i => - Y i) (fun i hi => by rw [hX i hi, if_pos h0]), sumZ_neg, e]; omega
    · rw [sumZ_congr (g := Y) (fun i hi => by rw [hX i hi, if_neg h0]), e]; omega
end Go.Proofs.Ytpjhhndjbpegcaa
