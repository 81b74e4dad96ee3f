/-
  A total has one row of shares; that of the opposite is the opposite; weights so many times as great have the same. Nothing of the program.
-/
import Derived.Test.YtpjhhndjbpegcaaShare
import Derived.Test.YtpjhhndjbpegcaaGivenMath
namespace Go.Proofs.Ytpjhhndjbpegcaa

theorem Ordered.uniq {L : Nat → Int} {q r : Nat → Nat} {n : Nat} (h : Ordered L q n) (k : Ordered L r n) : ∀ m, m < n → q m = r m := by
  intro m
  induction m using Nat.strongRecOn with
  | ind m ih =>
    intro hm
    obtain ⟨a, ha, ea⟩ := h.1 (r m) (k.2.1 m hm)
    obtain ⟨b, hb, eb⟩ := k.1 (q m) (h.2.1 m hm)
    rcases Nat.lt_trichotomy a m with c | c | c
    · have := ih a c ha
      have := k.inj ha hm (by rw [← this, ea])
      omega
    · rw [← ea, c]
    · rcases Nat.lt_trichotomy b m with d | d | d
      · have := ih b d hb
        have := h.inj hb hm (by rw [this, eb])
        omega
      · rw [← eb, d]
      · have t1 := h.2.2 m a (Nat.zero_le _) c ha
        have t2 := k.2.2 m b (Nat.zero_le _) d hb
        rw [ea] at t1
        rw [eb] at t2
        exact (T.irr (t1.trans t2)).elim
theorem bumped_same {X : Nat → Int} {q r : Nat → Nat} {n : Nat} (e : ∀ m, m < n → q m = r m) (k : Nat) (hk : k ≤ n) (i : Nat) : bumped X q k i = bumped X r k i := by
  rw [bumped_cnt, bumped_cnt]
  congr 1
  induction k with
  | zero => rfl
  | succ k ih => rw [cnt, cnt, ih (by omega), e k (by omega)]
theorem Given.uniq {t : Nat} {v : Nat → Nat} {n : Nat} {X Y : Nat → Int} (h : Given t v n X) (k : Given t v n Y) : ∀ i, i < n → X i = Y i := by
  intro i hi
  rcases h with ⟨h0, h⟩ | ⟨h0, q, ho, h⟩
  · rcases k with ⟨_, k⟩ | ⟨k0, _⟩
    · rw [h i hi, k i hi]
    · omega
  · rcases k with ⟨k0, _⟩ | ⟨_, r, ko, k⟩
    · omega
    · rw [h i hi, k i hi]
      exact bumped_same (ho.uniq ko) _ (left_le h0) i
theorem ShareOf.uniq {t : Int} {v : Nat → Nat} {n : Nat} {X Y : Nat → Int} (h : ShareOf t v n X) (k : ShareOf t v n Y) : ∀ i, i < n → X i = Y i := by
  obtain ⟨A, hA, hX⟩ := h
  obtain ⟨B, hB, hY⟩ := k
  intro i hi
  rw [hX i hi, hY i hi, hA.uniq hB i hi]
theorem ShareOf.neg {t : Int} {v : Nat → Nat} {n : Nat} {X Y : Nat → Int} (h : ShareOf t v n X) (k : ShareOf (-t) v n Y) (hz : t = 0 → ∀ i, i < n → X i = 0) : ∀ i, i < n → X i = - Y i := by
  obtain ⟨A, hA, hX⟩ := h
  obtain ⟨B, hB, hY⟩ := k
  rw [Int.natAbs_neg] at hB
  intro i hi
  have u := hA.uniq hB i hi
  have x := hX i hi
  have y := hY i hi
  by_cases h0 : t = 0
  · have z := hz h0 i hi
    rw [if_neg (by omega)] at x y
    omega
  · by_cases hn : t < 0
    · rw [if_pos hn] at x
      rw [if_neg (by omega)] at y
      omega
    · rw [if_neg hn] at x
      rw [if_pos (by omega)] at y
      omega
/-- of nothing each gets nothing -/
theorem ShareOf.zero {t : Int} {v : Nat → Nat} {n : Nat} {X : Nat → Int} (h : ShareOf t v n X) (h0 : t = 0) : ∀ i, i < n → X i = 0 := by
  obtain ⟨A, hA, hX⟩ := h
  intro i hi
  rw [hX i hi, if_neg (by omega)]
  subst h0
  rcases hA with ⟨_, hA⟩ | ⟨_, q, _, hA⟩
  · exact hA i hi
  · rw [hA i hi, show (0 : Int).natAbs = 0 from rfl, Nat.zero_sub]
    show ((base 0 v (sumN v n) i : Nat) : Int) = 0
    unfold base
    simp
theorem sumN_times (v : Nat → Nat) (c n : Nat) : sumN (fun i => v i * c) n = sumN v n * c := by
  induction n with
  | zero => simp [sumN]
  | succ n ih => rw [sumN, sumN, ih, Nat.add_mul]
theorem Given.times {t : Nat} {v : Nat → Nat} {n c : Nat} {X : Nat → Int} (hc : 0 < c) (h : Given t (fun i => v i * c) n X) : Given t v n X := by
  have bs : ∀ i, base t (fun i => v i * c) (sumN v n * c) i = base t v (sumN v n) i := fun i => by
    unfold base; rw [← Nat.mul_assoc, Nat.mul_div_mul_right _ _ hc]
  have ls : ∀ i, lost t (fun i => v i * c) (sumN v n * c) i = lost t v (sumN v n) i * c := fun i => by
    unfold lost; rw [← Nat.mul_assoc, Nat.mul_mod_mul_right]
  have sb : ∀ k, sumN (base t (fun i => v i * c) (sumN v n * c)) k = sumN (base t v (sumN v n)) k := fun k => by
    induction k with
    | zero => rfl
    | succ k ih => rw [sumN, sumN, ih, bs]
  rcases h with ⟨h0, h⟩ | ⟨h0, q, ho, h⟩
  · rw [sumN_times] at h0
    rcases Nat.mul_eq_zero.1 h0 with e | e
    · exact .inl ⟨e, h⟩
    · omega
  · rw [sumN_times] at h0 ho h
    have s0 : 0 < sumN v n := Nat.pos_of_mul_pos_right h0
    refine .inr ⟨s0, q, ⟨ho.1, ho.2.1, fun j k h1 h2 h3 => ?_⟩, fun i hi => ?_⟩
    · have t0 := ho.2.2 j k h1 h2 h3
      simp only [T, ls] at t0 ⊢
      have m : ∀ a b : Nat, a < b → a * c < b * c := fun a b hab => (Nat.mul_lt_mul_right (a0 := hc)).2 hab
      rcases Nat.lt_trichotomy (lost t v (sumN v n) (q j)) (lost t v (sumN v n) (q k)) with e | e | e
      · have := m _ _ e; omega
      · rw [e] at t0 ⊢; omega
      · omega
    · rw [h i hi, sb]
      congr 1
      funext j
      rw [bs]
end Go.Proofs.Ytpjhhndjbpegcaa
