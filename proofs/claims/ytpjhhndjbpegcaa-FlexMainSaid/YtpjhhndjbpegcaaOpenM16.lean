/-
  The boxes that aren't settled yet, in order; shares among them alone are those among all, of which the others count nothing. Mathematics.
-/
import Derived.Test.YtpjhhndjbpegcaaSizesM16
import Derived.Test.YtpjhhndjbpegcaaChoice
namespace Go.Proofs.Ytpjhhndjbpegcaa

def opensL (S : Nat → Bool) : Nat → List Nat
  | 0 => []
  | n + 1 => opensL S n ++ (if S n = true then [] else [n])
theorem opensL_len (S : Nat → Bool) : ∀ n, (opensL S n).length = openN S n
  | 0 => rfl
  | n + 1 => by
    rw [opensL, openN, List.length_append, opensL_len S n]
    split <;> rfl
/-- the k-th of them -/
def opA (S : Nat → Bool) (n k : Nat) : Nat := (opensL S n)[k]?.getD 0
theorem openN_at (S : Nat → Bool) (n : Nat) : openN S n ≤ n := by
  induction n with
  | zero => exact Nat.le_refl _
  | succ n ih => rw [openN]; split <;> omega
theorem opA_old {S : Nat → Bool} {n k : Nat} (h : k < openN S n) : opA S (n + 1) k = opA S n k := by
  unfold opA
  rw [opensL, List.getElem?_append_left (by rw [opensL_len]; exact h)]
theorem opA_new {S : Nat → Bool} {n : Nat} (h : S n = false) : opA S (n + 1) (openN S n) = n := by
  unfold opA
  rw [opensL, List.getElem?_append_right (by rw [opensL_len]; exact Nat.le_refl _), opensL_len, h, if_neg (by simp)]
  simp
theorem openN_new {S : Nat → Bool} {n : Nat} (h : S n = false) : openN S (n + 1) = openN S n + 1 := by rw [openN, h, if_neg (by simp)]
theorem openN_old {S : Nat → Bool} {n : Nat} (h : S n = true) : openN S (n + 1) = openN S n := by rw [openN, h, if_pos rfl]; rfl
theorem opA_in {S : Nat → Bool} : ∀ {n k : Nat}, k < openN S n → opA S n k < n ∧ S (opA S n k) = false
  | 0, k, h => absurd h (by simp [openN])
  | n + 1, k, h => by
    cases e : S n with
    | true =>
      rw [openN_old e] at h
      rw [opA_old h]
      have := opA_in h
      exact ⟨by omega, this.2⟩
    | false =>
      rw [openN_new e] at h
      by_cases hk : k < openN S n
      · rw [opA_old hk]
        have := opA_in hk
        exact ⟨by omega, this.2⟩
      · obtain rfl : k = openN S n := by omega
        rw [opA_new e]
        exact ⟨by omega, e⟩
theorem opA_rise {S : Nat → Bool} : ∀ {n j k : Nat}, j < k → k < openN S n → opA S n j < opA S n k
  | 0, _, k, _, h => absurd h (by simp [openN])
  | n + 1, j, k, hj, h => by
    cases e : S n with
    | true =>
      rw [openN_old e] at h
      rw [opA_old h, opA_old (by omega)]
      exact opA_rise hj h
    | false =>
      rw [openN_new e] at h
      rw [opA_old (show j < openN S n by omega)]
      by_cases hk : k < openN S n
      · rw [opA_old hk]
        exact opA_rise hj hk
      · obtain rfl : k = openN S n := by omega
        rw [opA_new e]
        exact (opA_in (by omega)).1
theorem opA_inj {S : Nat → Bool} {n j k : Nat} (hj : j < openN S n) (hk : k < openN S n) (e : opA S n j = opA S n k) : j = k := by
  rcases Nat.lt_trichotomy j k with c | c | c
  · have := opA_rise c hk; omega
  · exact c
  · have := opA_rise c hj; omega
theorem opA_ex {S : Nat → Bool} : ∀ {n i : Nat}, i < n → S i = false → ∃ k, k < openN S n ∧ opA S n k = i
  | 0, i, h, _ => absurd h (by omega)
  | n + 1, i, h, hs => by
    by_cases hi : i < n
    · obtain ⟨k, hk, e⟩ := opA_ex hi hs
      have : openN S n ≤ openN S (n + 1) := by rw [openN]; omega
      exact ⟨k, by omega, by rw [opA_old hk, e]⟩
    · obtain rfl : i = n := by omega
      exact ⟨openN S i, by rw [openN_new hs]; omega, opA_new hs⟩
/-- a sum over them is that over all, if the others count nothing -/
theorem opA_sum (f : Nat → Int) {S : Nat → Bool} : ∀ n, sumZ (fun k => f (opA S n k)) (openN S n) = sumZ (fun i => if S i = true then 0 else f i) n
  | 0 => rfl
  | n + 1 => by
    have ih := opA_sum f (S := S) n
    cases e : S n with
    | true =>
      rw [openN_old e, sumZ, e, if_pos rfl, ← ih, Int.add_zero]
      exact sumZ_congr (fun k hk => by rw [opA_old hk])
    | false =>
      rw [openN_new e, sumZ, sumZ, e, if_neg (by simp), ← ih, opA_new e]
      rw [sumZ_congr (g := fun k => f (opA S n k)) (fun k hk => by rw [opA_old hk])]
theorem opA_sumZ {f : Nat → Int} {S : Nat → Bool} {n : Nat} (hz : ∀ i, i < n → S i = true → f i = 0) : sumZ (fun k => f (opA S n k)) (openN S n) = sumZ f n := by
  rw [opA_sum f n]
  refine sumZ_congr (fun i hi => ?_)
  split
  · next h => exact (hz i hi h).symm
  · rfl
theorem opA_sumN {f : Nat → Nat} {S : Nat → Bool} {n : Nat} (hz : ∀ i, i < n → S i = true → f i = 0) : sumN (fun k => f (opA S n k)) (openN S n) = sumN f n := by
  have h := opA_sumZ (f := fun i => (f i : Int)) (S := S) (n := n) (fun i hi hs => by rw [hz i hi hs]; rfl)
  rw [sumZ_nat (fun k => f (opA S n k)), sumZ_nat] at h
  omega
/-- the sum of the first so many of them: a loop over them -/
theorem sumZ_lt (i : Nat) : ∀ n, i ≤ n → sumZ (fun m => if m < i then (1 : Int) else 0) n = i := by
  have key : ∀ n, sumZ (fun m => if m < i then (1 : Int) else 0) n = ((min i n : Nat) : Int) := by
    intro n
    induction n with
    | zero => simp [sumZ]
    | succ n ih =>
      rw [sumZ, ih]
      split <;> omega
  intro n h
  rw [key n, Nat.min_eq_left h]
section
variable {L : Nat → Int} {q : Nat → Nat} {n : Nat}
open Classical in
/-- a place's rank: how many come ahead of it -/
theorem Ordered.rank (h : Ordered L q n) {i : Nat} (hi : i < n) : sumZ (fun x => if T L x (q i) then (1 : Int) else 0) n = i := by
  rw [h.sum_perm, ← sumZ_lt i n (by omega)]
  refine sumZ_congr (fun m hm => ?_)
  by_cases c : m < i
  · rw [if_pos c, if_pos (h.2.2 m i (Nat.zero_le _) c hi)]
  · rw [if_neg c, if_neg (fun t => c (h.ahead hm hi t))]
end
/-- one that lost nothing gets nothing more -/
theorem lost_far {t : Nat} {v : Nat → Nat} {n : Nat} {q : Nat → Nat} (ho : Ordered (fun i => (lost t v (sumN v n) i : Int)) q n) (hs : 0 < sumN v n) {m : Nat} (hm : m < n) (l0 : lost t v (sumN v n) (q m) = 0) : t - sumN (base t v (sumN v n)) n ≤ m := by
  by_cases c : m < t - sumN (base t v (sumN v n)) n
  · exfalso
    have bl := base_lost t v (sumN v n) n
    have sp := ho.sum_perm (fun i => (lost t v (sumN v n) i : Int))
    rw [sumZ_nat] at sp
    have le := sumZ_le (f := fun m => (lost t v (sumN v n) (q m) : Int)) (c := sumN v n) (m := m) (n := n)
      (fun k _ => by have := Nat.mod_lt (t * v (q k)) hs; show ((lost t v (sumN v n) (q k) : Nat) : Int) ≤ _; unfold lost; omega)
      (fun k k1 k2 => by
        show ((lost t v (sumN v n) (q k) : Nat) : Int) ≤ 0
        by_cases e2 : k = m
        · rw [e2, l0]; exact Int.le_refl _
        · have tt := ho.2.2 m k (Nat.zero_le _) (by omega) k2
          simp only [T, l0] at tt
          omega)
      (by omega) (by omega)
    rw [← sp] at le
    have h9 : (m + 1) * sumN v n ≤ (t - sumN (base t v (sumN v n)) n) * sumN v n := Nat.mul_le_mul_right _ c
    rw [Nat.sub_mul, Nat.succ_mul] at h9
    have le' : sumN (lost t v (sumN v n)) n ≤ m * sumN v n := by
      have : ((sumN (lost t v (sumN v n)) n : Nat) : Int) ≤ ((m * sumN v n : Nat) : Int) := by rw [Int.natCast_mul]; exact le
      omega
    omega
  · omega
section
variable {t : Nat} {v : Nat → Nat} {n : Nat} {X : Nat → Int} {S : Nat → Bool}
open Classical in
theorem Given.open (h : Given t v n X) (hz : ∀ i, i < n → S i = true → v i = 0) : Given t (fun k => v (opA S n k)) (openN S n) (fun k => X (opA S n k)) := by
  have e1 : sumN (fun k => v (opA S n k)) (openN S n) = sumN v n := opA_sumN hz
  rcases h with ⟨h0, hx⟩ | ⟨h0, q, ho, hx⟩
  · exact .inl ⟨by rw [e1]; exact h0, fun k hk => hx _ (opA_in hk).1⟩
  · have e2 : sumN (base t (fun k => v (opA S n k)) (sumN v n)) (openN S n) = sumN (base t v (sumN v n)) n := opA_sumN (f := base t v (sumN v n)) (fun i hi hs => by unfold base; rw [hz i hi hs, Nat.mul_zero, Nat.zero_div])
    obtain ⟨q', ho'⟩ := ordered_ex (fun k => (lost t (fun k => v (opA S n k)) (sumN (fun k => v (opA S n k)) (openN S n)) k : Int)) (openN S n)
    refine .inr ⟨by rw [e1]; exact h0, q', ho', fun a ha => ?_⟩
    have hs' : 0 < sumN (fun k => v (opA S n k)) (openN S n) := by rw [e1]; exact h0
    have hk' := left_le (t := t) hs'
    have hk := left_le (t := t) h0
    show X (opA S n a) = _
    rw [hx _ (opA_in ha).1, bumped_cnt, bumped_cnt]
    have eb : (base t (fun k => v (opA S n k)) (sumN (fun k => v (opA S n k)) (openN S n)) a : Int) = (base t v (sumN v n) (opA S n a) : Int) := by rw [e1]; rfl
    have eK : sumN (base t (fun k => v (opA S n k)) (sumN (fun k => v (opA S n k)) (openN S n))) (openN S n) = sumN (base t v (sumN v n)) n := by rw [e1, e2]
    show (base t v (sumN v n) (opA S n a) : Int) + cnt q _ (opA S n a) = _ + cnt q' _ a
    rw [eb]
    congr 1
    obtain ⟨j, hj, rfl⟩ := ho'.1 a ha
    obtain ⟨i, hi, hqi⟩ := ho.1 _ (opA_in ha).1
    rw [← hqi, ho.cnt_at hi _ hk, ho'.cnt_at hj _ hk', eK]
    have key : i < t - sumN (base t v (sumN v n)) n ↔ j < t - sumN (base t v (sumN v n)) n := by
      have el : lost t (fun k => v (opA S n k)) (sumN (fun k => v (opA S n k)) (openN S n)) (q' j) = lost t v (sumN v n) (q i) := by rw [e1, hqi]; rfl
      by_cases l0 : lost t v (sumN v n) (q i) = 0
      · have h1 := lost_far ho h0 hi l0
        have h2 := lost_far ho' hs' hj (el.trans l0)
        rw [eK] at h2
        omega
      · have r1 := ho.rank hi
        have r2 := ho'.rank hj
        have r3 : (i : Int) = j := by
          rw [← r1, ← r2]
          rw [← opA_sumZ (S := S) (f := fun x => if T (fun i => (lost t v (sumN v n) i : Int)) x (q i) then (1 : Int) else 0) (n := n)]
          · refine sumZ_congr (fun k hk => ?_)
            have ET : T (fun i => (lost t v (sumN v n) i : Int)) (opA S n k) (q i) ↔ T (fun k => (lost t (fun k => v (opA S n k)) (sumN (fun k => v (opA S n k)) (openN S n)) k : Int)) k (q' j) := by
              have ek : lost t (fun k => v (opA S n k)) (sumN (fun k => v (opA S n k)) (openN S n)) k = lost t v (sumN v n) (opA S n k) := by rw [e1]; rfl
              simp only [T, ek, el]
              rw [hqi]
              have : opA S n k < opA S n (q' j) ↔ k < q' j := by
                constructor
                · intro h
                  rcases Nat.lt_trichotomy k (q' j) with c | c | c
                  · exact c
                  · rw [c] at h; omega
                  · have := opA_rise c hk; omega
                · intro h; exact opA_rise h ha
              rw [this]
            by_cases c : T (fun i => (lost t v (sumN v n) i : Int)) (opA S n k) (q i)
            · rw [if_pos c, if_pos (ET.1 c)]
            · rw [if_neg c, if_neg (fun d => c (ET.2 d))]
          · intro x hx hs
            refine if_neg (fun c => ?_)
            have lx : lost t v (sumN v n) x = 0 := by unfold lost; rw [hz x hx hs, Nat.mul_zero, Nat.zero_mod]
            simp only [T, lx] at c
            omega
        omega
    by_cases c : i < t - sumN (base t v (sumN v n)) n
    · rw [if_pos c, if_pos (key.1 c)]
    · rw [if_neg c, if_neg (fun d => c (key.2 d))]
end
theorem ShareOf.open {t : Int} {v : Nat → Nat} {n : Nat} {X : Nat → Int} {S : Nat → Bool} (h : ShareOf t v n X) (hz : ∀ i, i < n → S i = true → v i = 0) : ShareOf t (fun k => v (opA S n k)) (openN S n) (fun k => X (opA S n k)) := by
  obtain ⟨Y, hY, hX⟩ := h
  exact ⟨_, hY.open hz, fun k hk => hX _ (opA_in hk).1⟩
/-- **what is told of those alone is told of all** -/
theorem share_all16 {t : Int} {v : Nat → Nat} {n : Nat} {Y : Nat → Int} {S : Nat → Bool} (hz : ∀ i, i < n → S i = true → v i = 0) (h : ShareOf t (fun k => v (opA S n k)) (openN S n) Y) : ∃ X, ShareOf t v n X ∧ ∀ k, k < openN S n → Y k = X (opA S n k) := by
  obtain ⟨X, hX⟩ := share_ex16 t v n (fun L => ordered_ex L n)
  exact ⟨X, hX, h.uniq (hX.open hz)⟩
end Go.Proofs.Ytpjhhndjbpegcaa
