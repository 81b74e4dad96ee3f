/-
  Boxes that grow, settled in rounds: mathematics. (Boxes that shrink are those that grow, turned about.)
-/
import Derived.WalkKit
import Derived.ProofKit
namespace Go.Proofs.Ytpjhhndjbpegcaa

/-- the sum of the first so many -/
def sumB (f : Nat → Int) : Nat → Int
  | 0 => 0
  | n + 1 => sumB f n + f n
theorem sumB_congr {f g : Nat → Int} : ∀ {n : Nat}, (∀ i, i < n → f i = g i) → sumB f n = sumB g n
  | 0, _ => rfl
  | n + 1, h => by rw [sumB, sumB, sumB_congr (fun i hi => h i (by omega)), h n (by omega)]
theorem sumB_add (f g : Nat → Int) : ∀ n : Nat, sumB (fun i => f i + g i) n = sumB f n + sumB g n
  | 0 => rfl
  | n + 1 => by rw [sumB, sumB, sumB, sumB_add f g n]; omega
theorem sumB_le {f g : Nat → Int} : ∀ {n : Nat}, (∀ i, i < n → f i ≤ g i) → sumB f n ≤ sumB g n
  | 0, _ => Int.le_refl _
  | n + 1, h => by
    have h1 := sumB_le (n := n) (fun i hi => h i (by omega))
    have h2 := h n (by omega)
    rw [sumB, sumB]
    omega
theorem sumB_zero {f : Nat → Int} {n : Nat} (h : ∀ i, i < n → f i = 0) : sumB f n = 0 := by
  rw [sumB_congr (g := fun _ => 0) h]
  induction n with
  | zero => rfl
  | succ n ih => rw [sumB, ih (fun i hi => h i (by omega))]; rfl
/-- where a sum isn't 0 one of them isn't -/
theorem sumB_pos {f : Nat → Int} {n : Nat} (h : 0 < sumB f n) : ∃ i, i < n ∧ 0 < f i := by
  induction n with
  | zero => simp [sumB] at h
  | succ n ih =>
    rw [sumB] at h
    by_cases c : 0 < f n
    · exact ⟨n, by omega, c⟩
    · obtain ⟨i, hi, c⟩ := ih (by omega)
      exact ⟨i, by omega, c⟩
theorem sumB_neg {f : Nat → Int} {n : Nat} (h : sumB f n < 0) : ∃ i, i < n ∧ f i < 0 := by
  induction n with
  | zero => simp [sumB] at h
  | succ n ih =>
    rw [sumB] at h
    by_cases c : f n < 0
    · exact ⟨n, by omega, c⟩
    · obtain ⟨i, hi, c⟩ := ih (by omega)
      exact ⟨i, by omega, c⟩

/-- to bring a number between two -/
structure Cl (C : Int → Int) : Prop where
  mono : ∀ x y, x ≤ y → C x ≤ C y
  up : ∀ x y, x < C x → y ≤ x → C y = C x
  down : ∀ x y, C x < x → x ≤ y → C y = C x
theorem Cl.top {C : Int → Int} (h : Cl C) {x : Int} (hx : C x < x) (y : Int) : C y ≤ C x := by
  rcases Int.lt_or_le x y with c | c
  · rw [h.down x y hx (by omega)]; omega
  · exact h.mono y x c
/-- turned about -/
theorem Cl.neg {C : Int → Int} (h : Cl C) : Cl (fun x => - C (- x)) := by
  refine ⟨fun x y hxy => ?_, fun x y h1 h2 => ?_, fun x y h1 h2 => ?_⟩
  · have := h.mono (-y) (-x) (by omega)
    omega
  · rw [h.down (-x) (-y) (by omega) (by omega)]
  · rw [h.up (-x) (-y) (by omega) (by omega)]

section
variable (n : Nat) (C : Nat → Int → Int) (base w : Nat → Int) (U0 : Nat → Prop) (R : Int)
/-- one round: what each box gets, its size, what that changes, who is settled -/
structure Rd (out : Nat → Int) (S : Nat → Bool) (X ch out' : Nat → Int) (S' : Nat → Bool) : Prop where
  x0 : ∀ i, i < n → S i = false → 0 ≤ X i
  xz : ∀ i, i < n → S i = false → w i = 0 → X i = 0
  all : (∃ i, i < n ∧ S i = false ∧ w i ≠ 0) → sumB (fun i => if S i = true then out i else base i + X i) n = R
  hout : ∀ i, i < n → out' i = if S i = true then out i else C i (base i + X i)
  hch : ∀ i, i < n → ch i = if S i = true then 0 else C i (base i + X i) - (base i + X i)
  hset : ∀ i, i < n → S' i = (S i || decide (sumB ch n = 0 ∨ (0 < sumB ch n ∧ 0 < ch i) ∨ (sumB ch n < 0 ∧ ch i < 0)))
/-- what holds between rounds: what is left is enough for all first sizes; and either somebody was made greater, and then all together are more than there is room for, or all that were settled have what they can at most -/
structure Inv (out : Nat → Int) (S : Nat → Bool) : Prop where
  fit : sumB (fun i => if S i = true then out i else C i (base i)) n ≤ R
  cert : (∃ v : Nat → Int, R < sumB v n ∧ (∀ i, i < n → S i = true → v i ≤ out i) ∧ ∀ i, i < n → S i = false → (∃ y, v i = C i y) ∧ (w i = 0 → v i = C i (base i))) ∨
    ∀ i, i < n → S i = true → U0 i → ∀ y, C i y ≤ out i
/-- what comes out -/
def Full (out : Nat → Int) : Prop := sumB out n ≤ R ∧ (sumB out n = R ∨ ∀ i, i < n → U0 i → w i ≠ 0 → ∀ y, C i y ≤ out i)
variable {n C base w U0 R}
theorem Inv.done {out : Nat → Int} {S : Nat → Bool} (h : Inv n C base w U0 R out S) (hs : ∀ i, i < n → S i = true) : Full n C w U0 R out := by
  have e : sumB (fun i => if S i = true then out i else C i (base i)) n = sumB out n := sumB_congr (fun i hi => if_pos (hs i hi))
  have h1 := h.fit
  rw [e] at h1
  refine ⟨h1, .inr (fun i hi hu _ => ?_)⟩
  rcases h.cert with ⟨v, v1, v2, -⟩ | c
  · have := sumB_le (f := v) (g := out) (n := n) (fun i hi => v2 i hi (hs i hi))
    omega
  · exact c i hi (hs i hi) hu
theorem Rd.sum {out : Nat → Int} {S : Nat → Bool} {X ch out' : Nat → Int} {S' : Nat → Bool} (h : Rd n C base w R out S X ch out' S') : sumB out' n = sumB (fun i => if S i = true then out i else base i + X i) n + sumB ch n := by
  rw [← sumB_add]
  refine sumB_congr (fun i hi => ?_)
  rw [h.hout i hi, h.hch i hi]
  split <;> omega
/-- a round: the sizes are right at its end, or all goes on as before -/
theorem Inv.step {out : Nat → Int} {S : Nat → Bool} (h : Inv n C base w U0 R out S) (hC : ∀ i, i < n → Cl (C i)) (hz : ∀ i, i < n → S i = false → w i = 0 → C i (base i) = base i) {X ch out' : Nat → Int} {S' : Nat → Bool} (r : Rd n C base w R out S X ch out' S') :
    (sumB ch n = 0 → (∀ i, i < n → S' i = true) ∧ Full n C w U0 R out') ∧ (sumB ch n ≠ 0 → Inv n C base w U0 R out' S') := by
  have hsum := r.sum
  by_cases hw : ∃ i, i < n ∧ S i = false ∧ w i ≠ 0
  · have ha := r.all hw
    rw [ha] at hsum
    refine ⟨fun h0 => ⟨fun i hi => by rw [r.hset i hi]; simp [h0], by rw [Full, hsum, h0]; omega⟩, fun h0 => ?_⟩
    rcases Int.lt_or_lt_of_ne h0 with hs | hs
    · -- made smaller
      have T : ∀ i, i < n → S' i = true → S i = false → C i (base i + X i) < base i + X i := fun i hi h1 h2 => by
        rw [r.hset i hi, h2] at h1
        have h3 : sumB ch n = 0 ∨ (0 < sumB ch n ∧ 0 < ch i) ∨ (sumB ch n < 0 ∧ ch i < 0) := by simpa using h1
        have h4 := r.hch i hi
        rw [h2, if_neg (by simp)] at h4
        omega
      refine ⟨?_, ?_⟩
      · have : sumB (fun i => if S' i = true then out' i else C i (base i)) n ≤ sumB out' n := sumB_le (fun i hi => by
          split
          · omega
          · next h1 =>
            have h2 : S i = false := by
              cases e : S i
              · rfl
              · rw [r.hset i hi, e] at h1; simp at h1
            rw [r.hout i hi, h2, if_neg (by simp)]
            exact (hC i hi).mono _ _ (by have := r.x0 i hi h2; omega))
        omega
      · rcases h.cert with ⟨v, v1, v2, v3⟩ | c
        · refine .inl ⟨v, v1, fun i hi h1 => ?_, fun i hi h1 => v3 i hi (by
            cases e : S i
            · rfl
            · rw [r.hset i hi, e] at h1; simp at h1)⟩
          rw [r.hout i hi]
          cases e : S i with
          | true => rw [if_pos rfl]; exact v2 i hi e
          | false =>
            rw [if_neg (by simp)]
            obtain ⟨⟨y, hy⟩, -⟩ := v3 i hi e
            rw [hy]
            exact (hC i hi).top (T i hi h1 e) y
        · refine .inr (fun i hi h1 hu y => ?_)
          rw [r.hout i hi]
          cases e : S i with
          | true => rw [if_pos rfl]; exact c i hi e hu y
          | false =>
            rw [if_neg (by simp)]
            exact (hC i hi).top (T i hi h1 e) y
    · -- made greater
      have T : ∀ i, i < n → S' i = true → S i = false → base i + X i < C i (base i + X i) := fun i hi h1 h2 => by
        rw [r.hset i hi, h2] at h1
        have h3 : sumB ch n = 0 ∨ (0 < sumB ch n ∧ 0 < ch i) ∨ (sumB ch n < 0 ∧ ch i < 0) := by simpa using h1
        have h4 := r.hch i hi
        rw [h2, if_neg (by simp)] at h4
        omega
      refine ⟨?_, .inl ⟨out', by omega, fun i hi _ => Int.le_refl _, fun i hi h1 => ?_⟩⟩
      · have : sumB (fun i => if S' i = true then out' i else C i (base i)) n = sumB (fun i => if S i = true then out i else C i (base i)) n := sumB_congr (fun i hi => by
          cases e : S i with
          | true =>
            have : S' i = true := by rw [r.hset i hi, e]; rfl
            rw [if_pos this, if_pos rfl, r.hout i hi, e, if_pos rfl]
          | false =>
            rw [if_neg (show ¬ (false = true) by simp)]
            split
            · next h1 =>
              rw [r.hout i hi, e, if_neg (by simp)]
              exact ((hC i hi).up _ _ (T i hi h1 e) (by have := r.x0 i hi e; omega)).symm
            · rfl)
        rw [this]
        exact h.fit
      · have e : S i = false := by
          cases e : S i
          · rfl
          · rw [r.hset i hi, e] at h1; simp at h1
        rw [r.hout i hi, e, if_neg (by simp)]
        exact ⟨⟨_, rfl⟩, fun hw0 => by rw [r.xz i hi e hw0, Int.add_zero]⟩
  · have hw' : ∀ i, i < n → S i = false → w i = 0 := fun i hi h1 => by
      by_cases c : w i = 0
      · exact c
      · exact absurd ⟨i, hi, h1, c⟩ hw
    have hch : sumB ch n = 0 := sumB_zero (fun i hi => by
      rw [r.hch i hi]
      cases e : S i with
      | true => rw [if_pos rfl]
      | false =>
        rw [if_neg (by simp), r.xz i hi e (hw' i hi e), Int.add_zero, hz i hi e (hw' i hi e)]
        omega)
    refine ⟨fun _ => ⟨fun i hi => by rw [r.hset i hi]; simp [hch], ?_⟩, fun h0 => absurd hch h0⟩
    have eo : ∀ i, i < n → out' i = if S i = true then out i else C i (base i) := fun i hi => by
      rw [r.hout i hi]
      cases e : S i with
      | true => rfl
      | false => rw [if_neg (by simp), if_neg (by simp), r.xz i hi e (hw' i hi e), Int.add_zero]
    have es : sumB out' n = sumB (fun i => if S i = true then out i else C i (base i)) n := sumB_congr eo
    refine ⟨by rw [es]; exact h.fit, .inr (fun i hi hu hwi y => ?_)⟩
    rcases h.cert with ⟨v, v1, v2, v3⟩ | c
    · have : sumB v n ≤ sumB out' n := sumB_le (fun j hj => by
        rw [eo j hj]
        cases e : S j with
        | true => rw [if_pos rfl]; exact v2 j hj e
        | false => rw [if_neg (by simp), (v3 j hj e).2 (hw' j hj e)]; omega)
      have := h.fit
      omega
    · cases e : S i with
      | true => rw [eo i hi, e, if_pos rfl]; exact c i hi e hu y
      | false => exact absurd (hw' i hi e) hwi
/-- a round that doesn't settle all settles one at least -/
theorem Rd.some {out : Nat → Int} {S : Nat → Bool} {X ch out' : Nat → Int} {S' : Nat → Bool} (r : Rd n C base w R out S X ch out' S') (h : sumB ch n ≠ 0) : ∃ i, i < n ∧ S i = false ∧ S' i = true := by
  have key : ∀ i, i < n → ch i ≠ 0 → (0 < sumB ch n ∧ 0 < ch i) ∨ (sumB ch n < 0 ∧ ch i < 0) → ∃ i, i < n ∧ S i = false ∧ S' i = true := fun i hi h1 h2 => by
    have e : S i = false := by
      cases e : S i
      · rfl
      · have := r.hch i hi
        rw [e, if_pos rfl] at this
        exact absurd this h1
    exact ⟨i, hi, e, by rw [r.hset i hi]; simp [h2]⟩
  rcases Int.lt_or_lt_of_ne h with hs | hs
  · obtain ⟨i, hi, c⟩ := sumB_neg hs
    exact key i hi (by omega) (.inr ⟨hs, c⟩)
  · obtain ⟨i, hi, c⟩ := sumB_pos hs
    exact key i hi (by omega) (.inl ⟨hs, c⟩)
/-- at the beginning -/
theorem Inv.start {out : Nat → Int} {S : Nat → Bool} (ho : ∀ i, i < n → out i = C i (base i)) (hf : sumB (fun i => C i (base i)) n ≤ R) (hs : ∀ i, i < n → S i = true → U0 i → ∀ y, C i y ≤ out i) : Inv n C base w U0 R out S := by
  refine ⟨?_, .inr hs⟩
  rw [sumB_congr (g := fun i => C i (base i)) (fun i hi => by
    split
    · exact ho i hi
    · rfl)]
  exact hf
/-- nobody is smaller than at first -/
theorem Rd.ge {out : Nat → Int} {S : Nat → Bool} {X ch out' : Nat → Int} {S' : Nat → Bool} (r : Rd n C base w R out S X ch out' S') (hC : ∀ i, i < n → Cl (C i)) (h : ∀ i, i < n → C i (base i) ≤ out i) : ∀ i, i < n → C i (base i) ≤ out' i := fun i hi => by
  rw [r.hout i hi]
  cases e : S i with
  | true => rw [if_pos rfl]; exact h i hi
  | false => rw [if_neg (by simp)]; exact (hC i hi).mono _ _ (by have := r.x0 i hi e; omega)
end
/-- of a least and a most -/
theorem cl_clamp (l m : Int) : Cl (fun x => max (min x m) l) := by
  refine ⟨fun x y h => ?_, fun x y h1 h2 => ?_, fun x y h1 h2 => ?_⟩ <;> omega
end Go.Proofs.Ytpjhhndjbpegcaa
