/-
  What follows of shares: they are the total together, a weight of 0 gets nothing, a greater weight gets no less. Nothing of the program.
-/
import Derived.Test.YtpjhhndjbpegcaaGiveMath
namespace Go.Proofs.Ytpjhhndjbpegcaa

def sumZ (f : Nat → Int) : Nat → Int
  | 0 => 0
  | k + 1 => sumZ f k + f k
theorem sumZ_congr {f g : Nat → Int} {n : Nat} (h : ∀ i, i < n → f i = g i) : sumZ f n = sumZ g n := by
  induction n with
  | zero => rfl
  | succ n ih => rw [sumZ, sumZ, ih fun i hi => h i (by omega), h n (by omega)]
theorem sumZ_nat (v : Nat → Nat) (n : Nat) : sumZ (fun i => (v i : Int)) n = (sumN v n : Int) := by
  induction n with
  | zero => rfl
  | succ n ih => rw [sumZ, sumN, ih]; omega
theorem sumZ_zero (n : Nat) : sumZ (fun _ => 0) n = 0 := by
  induction n with
  | zero => rfl
  | succ n ih => rw [sumZ, ih]; rfl
theorem sumZ_neg (f : Nat → Int) (n : Nat) : sumZ (fun i => - f i) n = - sumZ f n := by
  induction n with
  | zero => rfl
  | succ n ih => rw [sumZ, sumZ, ih]; omega
/-- a sum in which one place is c more -/
theorem sumZ_one (f : Nat → Int) (c : Int) {j n : Nat} (h : j < n) : sumZ (fun i => if i = j then f i + c else f i) n = sumZ f n + c := by
  induction n with
  | zero => omega
  | succ n ih =>
    rw [sumZ, sumZ]
    by_cases e : n = j
    · rw [if_pos e]
      have : sumZ (fun i => if i = j then f i + c else f i) n = sumZ f n := sumZ_congr fun i hi => by rw [if_neg (by omega)]
      rw [this]; omega
    · rw [if_neg e, ih (by omega)]; omega
theorem bumped_sum (X : Nat → Int) (q : Nat → Nat) {n : Nat} (hq : ∀ k, k < n → q k < n) (k : Nat) (hk : k ≤ n) : sumZ (bumped X q k) n = sumZ X n + k := by
  induction k with
  | zero => simp [bumped]
  | succ k ih =>
    have e : sumZ (bumped X q (k + 1)) n = sumZ (fun i => if i = q k then bumped X q k i + 1 else bumped X q k i) n := sumZ_congr fun i _ => by
      show (if i = q k then bumped X q k (q k) + 1 else bumped X q k i) = _
      split
      · rename_i h; rw [h]
      · rfl
    rw [e, sumZ_one _ _ (hq k (by omega)), ih (by omega)]; omega
/-- how often one of the first k places of q is i -/
def cnt (q : Nat → Nat) : Nat → Nat → Int
  | 0, _ => 0
  | k + 1, i => cnt q k i + if i = q k then 1 else 0
theorem bumped_cnt (X : Nat → Int) (q : Nat → Nat) (k i : Nat) : bumped X q k i = X i + cnt q k i := by
  induction k with
  | zero => simp [bumped, cnt]
  | succ k ih =>
    show (if i = q k then bumped X q k (q k) + 1 else bumped X q k i) = X i + (cnt q k i + if i = q k then 1 else 0)
    by_cases h : i = q k
    · rw [if_pos h, if_pos h, ← h, ih]; omega
    · rw [if_neg h, if_neg h, ih]; omega
theorem cnt_sum (f : Nat → Int) (q : Nat → Nat) {n : Nat} (hq : ∀ k, k < n → q k < n) (k : Nat) (hk : k ≤ n) : sumZ (fun i => f i * cnt q k i) n = sumZ (fun m => f (q m)) k := by
  induction k with
  | zero => rw [sumZ_congr (g := fun _ => 0) (fun i _ => by simp [cnt]), sumZ_zero]; rfl
  | succ k ih =>
    rw [sumZ, ← ih (by omega)]
    have e : sumZ (fun i => f i * cnt q (k + 1) i) n = sumZ (fun i => if i = q k then f i * cnt q k i + f (q k) else f i * cnt q k i) n := sumZ_congr fun i _ => by
      rw [cnt, Int.mul_add]
      split
      · rename_i h; rw [h]; simp
      · simp
    rw [e, sumZ_one _ _ (hq k (by omega))]
section
variable {L : Nat → Int} {q : Nat → Nat} {n : Nat}
theorem Ordered.inj (h : Ordered L q n) {j k : Nat} (hj : j < n) (hk : k < n) (e : q j = q k) : j = k := by
  rcases Nat.lt_trichotomy j k with c | c | c
  · exact (T.irr (e ▸ h.2.2 j k (Nat.zero_le _) c hk : T L (q k) (q k))).elim
  · exact c
  · exact (T.irr (e ▸ h.2.2 k j (Nat.zero_le _) c hj : T L (q k) (q k))).elim
theorem Ordered.cnt_at (h : Ordered L q n) {m : Nat} (hm : m < n) (k : Nat) (hk : k ≤ n) : cnt q k (q m) = if m < k then 1 else 0 := by
  induction k with
  | zero => simp [cnt]
  | succ k ih =>
    rw [cnt, ih (by omega)]
    by_cases e : m = k
    · subst e
      rw [if_neg (by omega), if_pos rfl, if_pos (by omega)]; rfl
    · have ne : ¬ q m = q k := fun e' => e (h.inj hm (by omega) e')
      rw [if_neg ne]
      by_cases c : m < k
      · rw [if_pos c, if_pos (by omega)]; rfl
      · rw [if_neg c, if_neg (by omega)]; rfl
theorem Ordered.sum_perm (h : Ordered L q n) (f : Nat → Int) : sumZ f n = sumZ (fun m => f (q m)) n := by
  rw [← cnt_sum f q h.2.1 n (Nat.le_refl _)]
  refine sumZ_congr fun i hi => ?_
  obtain ⟨m, hm, e⟩ := h.1 i hi
  rw [← e, h.cnt_at hm n (Nat.le_refl _), if_pos hm, Int.mul_one]
/-- what comes ahead stands ahead -/
theorem Ordered.ahead (h : Ordered L q n) {j k : Nat} (hj : j < n) (_hk : k < n) (t : T L (q j) (q k)) : j < k := by
  rcases Nat.lt_trichotomy j k with c | c | c
  · exact c
  · exact (T.irr (c ▸ t : T L (q k) (q k))).elim
  · exact (T.irr (t.trans (h.2.2 k j (Nat.zero_le _) c hj))).elim
end
theorem sumZ_le {f : Nat → Int} {c : Int} {m n : Nat} (h1 : ∀ i, i < n → f i ≤ c) (h0 : ∀ i, m ≤ i → i < n → f i ≤ 0) (_hc : 0 ≤ c) (hm : m ≤ n) : sumZ f n ≤ m * c := by
  have a : ∀ k, k ≤ m → sumZ f k ≤ k * c := by
    intro k
    induction k with
    | zero => intro _; simp [sumZ]
    | succ k ih =>
      intro hk
      have := ih (by omega)
      have := h1 k (by omega)
      rw [sumZ]
      have e : ((k + 1 : Nat) : Int) * c = k * c + c := by rw [Int.natCast_add, Int.add_mul]; simp
      omega
  have b : ∀ k, m ≤ k → k ≤ n → sumZ f k ≤ m * c := by
    intro k
    induction k with
    | zero => intro hk _; rw [show m = 0 by omega]; simp [sumZ]
    | succ k ih =>
      intro hk hn
      by_cases e : m = k + 1
      · rw [e]; exact e ▸ a (k + 1) (by omega)
      · have := ih (by omega) (by omega)
        have := h0 k (by omega) (by omega)
        rw [sumZ]; omega
  exact b n hm (Nat.le_refl _)

section
variable {t : Nat} {v : Nat → Nat} {n : Nat} {X : Nat → Int}
theorem Given.sum (h : Given t v n X) : sumZ X n = if sumN v n = 0 then 0 else (t : Int) := by
  rcases h with ⟨hs, h⟩ | ⟨hs, q, ho, h⟩
  · rw [if_pos hs, sumZ_congr h, sumZ_zero]
  · rw [if_neg (by omega), sumZ_congr h, bumped_sum _ q ho.2.1 _ (left_le hs), sumZ_nat]
    have := base_sum_le (t := t) hs (Nat.le_refl n)
    omega
/-- each share is its floor, or 1 more -/
theorem Given.cases (h : Given t v n X) (hs : 0 < sumN v n) : ∃ q, Ordered (fun i => (lost t v (sumN v n) i : Int)) q n ∧
    ∀ m, m < n → X (q m) = base t v (sumN v n) (q m) + if m < t - sumN (base t v (sumN v n)) n then 1 else 0 := by
  rcases h with ⟨h0, _⟩ | ⟨_, q, ho, h⟩
  · omega
  · refine ⟨q, ho, fun m hm => ?_⟩
    rw [h _ (ho.2.1 m hm), bumped_cnt, ho.cnt_at hm _ (left_le hs)]
theorem Given.nothing (h : Given t v n X) {i : Nat} (hi : i < n) (hv : v i = 0) : X i = 0 := by
  rcases Nat.eq_zero_or_pos (sumN v n) with hs | hs
  · rcases h with ⟨_, h⟩ | ⟨h0, _⟩
    · exact h i hi
    · omega
  · obtain ⟨q, ho, hX⟩ := h.cases hs
    obtain ⟨m, hm, e⟩ := ho.1 i hi
    have hx := hX m hm
    rw [e] at hx
    have b0 : base t v (sumN v n) i = 0 := by unfold base; rw [hv, Nat.mul_zero, Nat.zero_div]
    have l0 : lost t v (sumN v n) i = 0 := by unfold lost; rw [hv, Nat.mul_zero, Nat.zero_mod]
    rw [b0] at hx
    by_cases c : m < t - sumN (base t v (sumN v n)) n
    · exfalso
      have bl := base_lost t v (sumN v n) n
      have sp := ho.sum_perm (fun i => (lost t v (sumN v n) i : Int))
      rw [sumZ_nat] at sp
      have le := sumZ_le (f := fun m => (lost t v (sumN v n) (q m) : Int)) (c := sumN v n) (m := m) (n := n)
        (fun k _ => by have := Nat.mod_lt (t * v (q k)) hs; show ((lost t v (sumN v n) (q k) : Nat) : Int) ≤ _; unfold lost; omega)
        (fun k k1 k2 => by
          show ((lost t v (sumN v n) (q k) : Nat) : Int) ≤ 0
          by_cases e2 : k = m
          · rw [e2, e, l0]; exact Int.le_refl _
          · have tt := ho.2.2 m k (Nat.zero_le _) (by omega) k2
            rw [e] at tt
            simp only [T, l0] at tt
            omega)
        (by omega) (by omega)
      rw [← sp] at le
      have h9 : (m + 1) * sumN v n ≤ (t - sumN (base t v (sumN v n)) n) * sumN v n := Nat.mul_le_mul_right _ c
      rw [Nat.sub_mul, Nat.succ_mul] at h9
      have le' : sumN (lost t v (sumN v n)) n ≤ m * sumN v n := by
        have : ((sumN (lost t v (sumN v n)) n : Nat) : Int) ≤ ((m * sumN v n : Nat) : Int) := by rw [Int.natCast_mul]; exact le
        omega
      omega
    · rw [if_neg c] at hx; omega
/-- of two weights the greater one, and of equal ones the one ahead, gets no less; equal ones differ by 1 at most -/
theorem Given.more (h : Given t v n X) {i k : Nat} (hi : i < n) (hk : k < n) (hv : v i < v k ∨ (v i = v k ∧ k < i)) : X i ≤ X k := by
  rcases Nat.eq_zero_or_pos (sumN v n) with hs | hs
  · rcases h with ⟨_, h⟩ | ⟨h0, _⟩
    · rw [h i hi, h k hk]; exact Int.le_refl _
    · omega
  · obtain ⟨q, ho, hX⟩ := h.cases hs
    obtain ⟨m, hm, e⟩ := ho.1 i hi
    obtain ⟨l, hl, e'⟩ := ho.1 k hk
    have x1 := hX m hm
    have x2 := hX l hl
    rw [e] at x1
    rw [e'] at x2
    have d1 : base t v (sumN v n) i * sumN v n + lost t v (sumN v n) i = t * v i := by unfold base lost; rw [Nat.mul_comm]; exact Nat.div_add_mod _ _
    have d2 : base t v (sumN v n) k * sumN v n + lost t v (sumN v n) k = t * v k := by unfold base lost; rw [Nat.mul_comm]; exact Nat.div_add_mod _ _
    have mono : base t v (sumN v n) i ≤ base t v (sumN v n) k := by
      unfold base
      exact Nat.div_le_div_right (Nat.mul_le_mul_left t (by omega))
    by_cases c : base t v (sumN v n) i < base t v (sumN v n) k
    · split at x1 <;> split at x2 <;> omega
    · have be : base t v (sumN v n) i = base t v (sumN v n) k := by omega
      rw [be] at d1
      by_cases c1 : m < t - sumN (base t v (sumN v n)) n
      · have tpos : 0 < t := by omega
        have hT : T (fun i => (lost t v (sumN v n) i : Int)) k i := by
          rcases hv with hv | ⟨hv, hki⟩
          · have h9 : t * (v i + 1) ≤ t * v k := Nat.mul_le_mul_left t hv
            rw [Nat.mul_add, Nat.mul_one] at h9
            exact .inl (by show ((lost t v (sumN v n) i : Nat) : Int) < ((lost t v (sumN v n) k : Nat) : Int); omega)
          · have h9 : lost t v (sumN v n) k = lost t v (sumN v n) i := by unfold lost; rw [hv]
            exact .inr ⟨by show ((lost t v (sumN v n) k : Nat) : Int) = ((lost t v (sumN v n) i : Nat) : Int); rw [h9], hki⟩
        have := ho.ahead hl hm (by rw [e, e']; exact hT)
        rw [if_pos c1] at x1
        rw [if_pos (by omega)] at x2
        omega
      · rw [if_neg c1] at x1
        split at x2 <;> omega
theorem Given.near (h : Given t v n X) {i k : Nat} (hi : i < n) (hk : k < n) (hv : v i = v k) : X k ≤ X i + 1 := by
  rcases Nat.eq_zero_or_pos (sumN v n) with hs | hs
  · rcases h with ⟨_, h⟩ | ⟨h0, _⟩
    · rw [h i hi, h k hk]; omega
    · omega
  · obtain ⟨q, ho, hX⟩ := h.cases hs
    obtain ⟨m, hm, e⟩ := ho.1 i hi
    obtain ⟨l, hl, e'⟩ := ho.1 k hk
    have x1 := hX m hm
    have x2 := hX l hl
    rw [e] at x1
    rw [e'] at x2
    have be : base t v (sumN v n) i = base t v (sumN v n) k := by unfold base; rw [hv]
    split at x1 <;> split at x2 <;> omega
end
end Go.Proofs.Ytpjhhndjbpegcaa
