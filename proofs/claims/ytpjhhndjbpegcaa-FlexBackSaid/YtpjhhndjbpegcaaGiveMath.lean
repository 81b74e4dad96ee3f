/-
  Plain words for a total that is given out to weights: nothing of the program.
-/
import Derived.Test.YtpjhhndjbpegcaaStableMath
namespace Go.Proofs.Ytpjhhndjbpegcaa

def sumN (v : Nat → Nat) : Nat → Nat
  | 0 => 0
  | k + 1 => sumN v k + v k
theorem sumN_le (v : Nat → Nat) {k c : Nat} (h : ∀ i, i < k → v i ≤ c) : sumN v k ≤ k * c := by
  induction k with
  | zero => simp [sumN]
  | succ k ih =>
    have := ih fun i hi => h i (by omega)
    have := h k (by omega)
    rw [sumN, Nat.succ_mul]; omega
theorem sumN_mono (v : Nat → Nat) {k n : Nat} (h : k ≤ n) : sumN v k ≤ sumN v n := by
  induction n with
  | zero => rw [show k = 0 by omega]; exact Nat.le_refl _
  | succ n ih =>
    by_cases e : k = n + 1
    · rw [e]; exact Nat.le_refl _
    · have := ih (by omega); rw [sumN]; omega
theorem le_sumN (v : Nat → Nat) {k n : Nat} (h : k < n) : v k ≤ sumN v n := by
  have := sumN_mono v (show k + 1 ≤ n from h)
  rw [sumN] at this; omega
def base (t : Nat) (v : Nat → Nat) (s : Nat) (i : Nat) : Nat := t * v i / s
def lost (t : Nat) (v : Nat → Nat) (s : Nat) (i : Nat) : Nat := t * v i % s
theorem base_lost (t : Nat) (v : Nat → Nat) (s k : Nat) : sumN (base t v s) k * s + sumN (lost t v s) k = t * sumN v k := by
  induction k with
  | zero => simp [sumN]
  | succ k ih =>
    rw [sumN, sumN, sumN, Nat.add_mul, Nat.mul_add, ← ih]
    have h : base t v s k * s + lost t v s k = t * v k := by
      unfold base lost
      rw [Nat.mul_comm]; exact Nat.div_add_mod _ _
    omega
theorem base_le {t s : Nat} {v : Nat → Nat} {i : Nat} (hs : 0 < s) (hv : v i ≤ s) : base t v s i ≤ t := by
  unfold base
  exact Nat.le_trans (Nat.div_le_div_right (Nat.mul_le_mul_left t hv)) (by rw [Nat.mul_div_cancel _ hs]; exact Nat.le_refl _)
theorem base_sum_le {t : Nat} {v : Nat → Nat} {n k : Nat} (hs : 0 < sumN v n) (hk : k ≤ n) : sumN (base t v (sumN v n)) k ≤ t := by
  have h := base_lost t v (sumN v n) k
  have h2 : t * sumN v k ≤ t * sumN v n := Nat.mul_le_mul_left t (sumN_mono v hk)
  refine Nat.le_of_mul_le_mul_right (c := sumN v n) ?_ hs
  omega
theorem left_le {t : Nat} {v : Nat → Nat} {n : Nat} (hs : 0 < sumN v n) : t - sumN (base t v (sumN v n)) n ≤ n := by
  have h := base_lost t v (sumN v n) n
  have h1 := base_sum_le (t := t) hs (Nat.le_refl n)
  have h2 : sumN (lost t v (sumN v n)) n ≤ n * sumN v n := sumN_le _ fun i _ => Nat.le_of_lt (Nat.mod_lt _ hs)
  refine Nat.le_of_mul_le_mul_right (c := sumN v n) ?_ hs
  rw [Nat.sub_mul]
  omega

/-- one more to each of the first k places of q -/
def bumped (X : Nat → Int) (q : Nat → Nat) : Nat → Nat → Int
  | 0 => X
  | k + 1 => fun i => if i = q k then bumped X q k (q k) + 1 else bumped X q k i
theorem bumped_bd (X : Nat → Int) (q : Nat → Nat) {c : Int} {n : Nat} (hq : ∀ k, k < n → q k < n) (h : ∀ i, i < n → 0 ≤ X i ∧ X i ≤ c) (k : Nat) (hk : k ≤ n) : ∀ i, i < n → 0 ≤ bumped X q k i ∧ bumped X q k i ≤ c + k := by
  induction k with
  | zero => intro i hi; have := h i hi; unfold bumped; omega
  | succ k ih =>
    intro i hi
    have a := ih (by omega) i hi
    have b := ih (by omega) (q k) (hq k (by omega))
    unfold bumped
    split <;> omega
/-- the shares of a total from 0 on -/
def Given (t : Nat) (v : Nat → Nat) (n : Nat) (X : Nat → Int) : Prop :=
  (sumN v n = 0 ∧ ∀ i, i < n → X i = 0) ∨
  (0 < sumN v n ∧ ∃ q, Ordered (fun i => (lost t v (sumN v n) i : Int)) q n ∧
    ∀ i, i < n → X i = bumped (fun i => (base t v (sumN v n) i : Int)) q (t - sumN (base t v (sumN v n)) n) i)
end Go.Proofs.Ytpjhhndjbpegcaa
