/-
  The sizes of boxes that are alike. Mathematics.
-/
import Derived.Test.YtpjhhndjbpegcaaMoreM16
namespace Go.Proofs.Ytpjhhndjbpegcaa

theorem ShareOf.alike {t : Int} {v : Nat → Nat} {n c : Nat} {X : Nat → Int} (h : ShareOf t v n X) (hv : ∀ i, i < n → v i = c) : ∀ i, i < n → ∀ k, k < n → X k ≤ X i + 1 ∧ (k < i → (0 ≤ t → X i ≤ X k) ∧ (t < 0 → X k ≤ X i)) := by
  obtain ⟨Y, hY, hX⟩ := h
  intro i hi k hk
  have e : v i = v k := by rw [hv i hi, hv k hk]
  have n1 := hY.near hi hk e
  have n2 := hY.near hk hi e.symm
  rw [hX i hi, hX k hk]
  refine ⟨by split <;> omega, fun hki => ?_⟩
  have m := hY.more hi hk (.inr ⟨e, hki⟩)
  exact ⟨fun ht => by rw [if_neg (by omega), if_neg (by omega)]; exact m, fun ht => by rw [if_pos ht, if_pos ht]; omega⟩
theorem sumB_const (c : Int) (n : Nat) : sumB (fun _ => c) n = n * c := by
  induction n with
  | zero => simp [sumB]
  | succ n ih => rw [sumB, ih, show ((n + 1 : Nat) : Int) * c = n * c + c by rw [Int.natCast_add, Int.add_mul]; simp]
theorem le_sumB {f : Nat → Int} : ∀ {n : Nat}, (∀ i, i < n → 0 ≤ f i) → ∀ i, i < n → f i ≤ sumB f n
  | 0, _ => fun i hi => absurd hi (by omega)
  | n + 1, h => fun i hi => by
    rw [sumB]
    by_cases e : i = n
    · subst e
      have := sumB_nn (f := f) (n := i) (fun j hj => h j (by omega))
      omega
    · have := le_sumB (n := n) (fun j hj => h j (by omega)) i (by omega)
      have := h n (by omega)
      omega
/-- **boxes that are alike** -/
theorem alike16 {l : List It16} {n : Nat} {x : It16} {room : Int} (hn : n ≤ 50) (hn0 : 0 < n) (hroom : 0 ≤ room ∧ room ≤ 68719476736) (hx : ∀ i, i < n → itA l i = x) (hX : NearI x) (hl : x.least = 0) (hm : x.most = 1099511627776) {r : Option (Nat → Int)}
    (hr : Runs l n (growI l n 0 room) (room - aroundI l 0 n) (out0 l) (set0 l (growI l n 0 room)) r) :
    ∃ o, r = some o ∧ ∀ i, i < n → (growI l n 0 room = true → o i ≤ o 0 ∧ o 0 ≤ o i + 1) ∧ (growI l n 0 room = false → o 0 ≤ o i ∧ o i ≤ o 0 + 1) := by
  have hI : ∀ i, i < n → NearI (itA l i) := fun i hi => by rw [hx i hi]; exact hX
  have hb := hX.hbase
  have hf : firstI x = x.base := by unfold firstI cI; rw [hl, hm]; omega
  obtain ⟨o, h1, f1, f2, w1, w2, hc⟩ := sizes16 (by omega) ⟨Int.le_refl _, by omega⟩ ⟨hroom.1, by omega⟩ hI hr
  have ab := around_bd (l := l) (gap := 0) (n := n) (by omega) ⟨Int.le_refl _, by omega⟩ hI
  have k0 := keep_start (gap := 0) (room := room) hI
  have nn : ∀ i, i < n → 0 ≤ o i := fun i hi => by
    obtain ⟨y, hy⟩ := hc i hi
    rw [hy, hx i hi]
    unfold cI
    omega
  have same : (∀ i, i < n → o i = o 0) → ∃ o, r = some o ∧ ∀ i, i < n → (growI l n 0 room = true → o i ≤ o 0 ∧ o 0 ≤ o i + 1) ∧ (growI l n 0 room = false → o 0 ≤ o i ∧ o i ≤ o 0 + 1) := fun h => ⟨o, h1, fun i hi => by rw [h i hi]; omega⟩
  have hall : allI l n = n * x.base := by
    unfold allI
    rw [sumB_congr (g := fun _ => x.base) (fun i hi => by rw [hx i hi, hf]), sumB_const]
  have hleft : left0 l n (room - aroundI l 0 n) (out0 l) (set0 l (growI l n 0 room)) = room - aroundI l 0 n - n * x.base := by
    unfold left0
    rw [sumB_congr (g := fun _ => x.base) (fun i hi => by unfold out0; rw [hx i hi, hf]; split <;> rfl), sumB_const]
  have kf := keep_fit (by omega) hI (by omega) k0
  have kl := k0.left
  obtain ⟨g, hg⟩ : ∃ g, growI l n 0 room = g := ⟨_, rfl⟩
  rw [hg] at hr f1 f2 w1 w2 same hleft kf kl ⊢
  -- those that have their first sizes
  by_cases hst : (if g = true then x.grow = 0 else x.shrink = 0)
  · refine same (fun i hi => ?_)
    cases g with
    | true =>
      simp only [if_true] at hst
      rw [(w1 rfl i hi).2 (by rw [hx i hi]; exact hst), (w1 rfl 0 hn0).2 (by rw [hx 0 hn0]; exact hst), hx i hi, hx 0 hn0]
    | false =>
      simp only [Bool.false_eq_true, if_false] at hst
      rw [(w2 rfl i hi).2 (by rw [hx i hi]; exact hst), (w2 rfl 0 hn0).2 (by rw [hx 0 hn0]; exact hst), hx i hi, hx 0 hn0]
  have hop : ∀ i, i < n → set0 l g i = false := fun i hi => by
    unfold set0
    rw [hx i hi, hf]
    cases g with
    | true =>
      simp only [if_true] at hst
      simp only [if_true]
      exact decide_eq_false (by omega)
    | false =>
      simp only [Bool.false_eq_true, if_false] at hst
      simp only [Bool.false_eq_true, if_false]
      exact decide_eq_false (by omega)
  -- less room than none
  by_cases hneg : g = false ∧ room - aroundI l 0 n < 0
  · obtain ⟨rfl, hneg⟩ := hneg
    have hs : x.shrink ≠ 0 := by simpa using hst
    have z : ∀ i, i < n → o i = 0 := fun i hi => by
      have h2 := nn i hi
      by_cases hb0 : x.base = 0
      · have := (w2 rfl i hi).1
        rw [hx i hi, hf, hb0] at this
        omega
      · rcases (f2 rfl).2 with c | c
        · have := sumB_nn (f := o) (n := n) nn
          omega
        · have := c i hi (by rw [hx i hi]; exact hs) (by rw [hx i hi]; exact hb0)
          rw [hx i hi, hl] at this
          omega
    exact same (fun i hi => by rw [z i hi, z 0 hn0])
  -- one round
  cases hr with
  | done _ _ h => have := h 0 hn0; rw [hop 0 hn0] at this; cases this
  | far _ _ _ h => exact absurd kf h
  | round _ _ X r' _ _ hS hr' =>
    rw [leftG_id kl, hleft] at hS
    have sf := hS.facts
    have wc : ∀ i, i < n → wsR l g (set0 l g) i = (wI g x).toNat := fun i hi => by unfold wsR; rw [hop i hi, if_neg (by simp), hx i hi]
    have al := hS.alike wc
    -- nothing is in their way
    have bd : ∀ i, i < n → 0 ≤ x.base + X i ∧ x.base + X i ≤ 1099511627776 := fun i hi => by
      by_cases hw0 : (wI g x).toNat = 0
      · rw [sf.zero i hi (by rw [wc i hi, hw0])]; omega
      · have hsum := sf.sum (by
          have := le_sumN (wsR l g (set0 l g)) hn0
          rw [wc 0 hn0] at this
          omega)
        cases g with
        | true =>
          have hp : 0 ≤ room - aroundI l 0 n - n * x.base := by
            rw [hleft] at kl; simpa [sg] using kl
          have p := sf.pos hp
          have := le_sumB p i hi
          have q := p i hi
          have : 0 ≤ (n : Int) * x.base := Int.mul_nonneg (by omega) hb.1
          omega
        | false =>
          have hp : room - aroundI l 0 n - n * x.base ≤ 0 := by
            rw [hleft] at kl; simp [sg] at kl; omega
          have q := sf.neg hp i hi
          refine ⟨?_, by omega⟩
          rcases Int.lt_or_le (x.base + X i) 0 with c | c
          · have : sumB X n ≤ sumB (fun k => if k = i then - x.base - 1 else - x.base) n := sumB_le (fun k hk => by
              have := (al i hi k hk).1
              split
              · next e => subst e; omega
              · omega)
            have h5 : sumB (fun k => if k = i then - x.base - 1 else - x.base) n ≤ sumB (fun _ => - x.base) n - 1 := by
              have key : ∀ m, i < m → sumB (fun k => if k = i then - x.base - 1 else - x.base) m = sumB (fun _ => - x.base) m - 1 := by
                intro m
                induction m with
                | zero => omega
                | succ m ih =>
                  intro him
                  rw [sumB, sumB]
                  by_cases e : i = m
                  · subst e
                    rw [if_pos rfl, sumB_congr (g := fun _ => - x.base) (fun k hk => by rw [if_neg (by omega)])]
                    omega
                  · rw [ih (by omega), if_neg (by omega)]; omega
              rw [key n hi]
              omega
            rw [sumB_const, Int.mul_neg] at h5
            have : ¬ (room - aroundI l 0 n < 0) := fun h => hneg ⟨rfl, h⟩
            omega
          · exact c
    have eo : ∀ i, i < n → outR l (out0 l) (set0 l g) X i = x.base + X i := fun i hi => by
      have := bd i hi
      unfold outR
      rw [hop i hi, if_neg (by simp), hx i hi]
      unfold cI
      rw [hl, hm]
      omega
    have ec : ∀ i, i < n → chR l (set0 l g) X i = 0 := fun i hi => by
      have := bd i hi
      unfold chR
      rw [hop i hi, if_neg (by simp), hx i hi]
      unfold cI
      rw [hl, hm]
      omega
    have es : ∀ i, i < n → setR l n (set0 l g) X i = true := fun i hi => by
      unfold setR
      rw [sumB_zero ec]
      simp
    have fin : r = some (outR l (out0 l) (set0 l g) X) := by
      cases hr' with
      | done => rfl
      | far _ _ h _ => obtain ⟨i, hi, e⟩ := h; rw [es i hi] at e; cases e
      | round _ _ _ _ h _ _ _ => obtain ⟨i, hi, e⟩ := h; rw [es i hi] at e; cases e
    refine ⟨_, fin, fun i hi => ?_⟩
    rw [eo i hi, eo 0 hn0]
    have a1 := (al i hi 0 hn0).1
    have a2 := (al 0 hn0 i hi).1
    have a3 := (al i hi 0 hn0).2
    refine ⟨fun e => ?_, fun e => ?_⟩
    · subst e
      by_cases h0 : i = 0
      · subst h0; omega
      · have := (a3 (by omega)).1 (by rw [hleft] at kl; simpa [sg] using kl)
        omega
    · subst e
      by_cases h0 : i = 0
      · subst h0; omega
      · have hp : room - aroundI l 0 n - n * x.base ≤ 0 := by
          rw [hleft] at kl; simp [sg] at kl; omega
        by_cases hz : room - aroundI l 0 n - n * x.base = 0
        · have p1 := sf.pos (by omega) i hi
          have p2 := sf.neg hp i hi
          have p3 := sf.pos (by omega) 0 hn0
          have p4 := sf.neg hp 0 hn0
          omega
        · have := (a3 (by omega)).2 (by omega)
          omega
end Go.Proofs.Ytpjhhndjbpegcaa
