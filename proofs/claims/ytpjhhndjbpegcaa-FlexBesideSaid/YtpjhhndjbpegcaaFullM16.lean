/-
  Boxes that grow and shrink: what comes out of the rounds. Mathematics.
-/
import Derived.Test.YtpjhhndjbpegcaaRunM16
namespace Go.Proofs.Ytpjhhndjbpegcaa

/-- turned about, if they shrink -/
def sg (grow : Bool) (x : Int) : Int := if grow = true then x else - x
theorem sg_sg (g : Bool) (x : Int) : sg g (sg g x) = x := by cases g <;> simp [sg]
theorem sg_add (g : Bool) (x y : Int) : sg g (x + y) = sg g x + sg g y := by cases g <;> simp [sg] <;> omega
theorem sumB_sg (g : Bool) (f : Nat → Int) (n : Nat) : sumB (fun i => sg g (f i)) n = sg g (sumB f n) := by
  induction n with
  | zero => cases g <;> rfl
  | succ n ih => rw [sumB, sumB, ih, sg_add]
def cG (l : List It16) (g : Bool) (i : Nat) (x : Int) : Int := sg g (cI (itA l i) (sg g x))
theorem cG_cl (l : List It16) (g : Bool) (i : Nat) : Cl (cG l g i) := by
  cases g
  · exact (cI_cl (itA l i)).neg
  · exact cI_cl (itA l i)
def baseG (l : List It16) (g : Bool) (i : Nat) : Int := sg g (itA l i).base
theorem cG_base (l : List It16) (g : Bool) (i : Nat) : cG l g i (baseG l g i) = sg g (firstI (itA l i)) := by
  unfold cG baseG firstI
  rw [sg_sg]
/-- a round of theirs -/
theorem rd_of {l : List It16} {n : Nat} {g : Bool} {R : Int} {out : Nat → Int} {S : Nat → Bool} {X : Nat → Int} (hX : Shares (left0 l n R out S) (wsR l g S) n X) (hl : 0 ≤ sg g (left0 l n R out S)) (hw : ∀ i, i < n → 0 ≤ wI g (itA l i)) :
    Rd n (cG l g) (baseG l g) (fun i => wI g (itA l i)) (sg g R) (fun i => sg g (out i)) S (fun i => sg g (X i)) (fun i => sg g (chR l S X i)) (fun i => sg g (outR l out S X i)) (setR l n S X) := by
  have hz : ∀ i, i < n → S i = true → X i = 0 := fun i hi h => hX.zero i hi (by unfold wsR; rw [if_pos h])
  refine ⟨fun i hi _ => ?_, fun i hi hs h => ?_, fun ⟨i, hi, hs, h⟩ => ?_, fun i hi => ?_, fun i hi => ?_, fun i hi => ?_⟩
  · cases g with
    | true => exact hX.pos (by simpa [sg] using hl) i hi
    | false =>
      have := hX.neg (by simp [sg] at hl; omega) i hi
      simp [sg]
      omega
  · have : X i = 0 := hX.zero i hi (by unfold wsR; rw [if_neg (by rw [hs]; simp), h]; rfl)
    rw [this]
    cases g <;> rfl
  · have hp : 0 < sumN (wsR l g S) n := by
      have h1 := le_sumN (wsR l g S) hi
      have h2 : 0 < wsR l g S i := by
        unfold wsR
        rw [if_neg (by rw [hs]; simp)]
        have := hw i hi
        omega
      omega
    have h3 := hX.sum hp
    have h4 : sumB (fun i => if S i = true then sg g (out i) else baseG l g i + sg g (X i)) n = sg g (sumB (fun i => if S i = true then out i else (itA l i).base) n) + sg g (sumB X n) := by
      rw [← sumB_sg, ← sumB_sg, ← sumB_add]
      refine sumB_congr (fun j hj => ?_)
      cases e : S j with
      | true =>
        rw [if_pos rfl, if_pos rfl, hz j hj e]
        cases g <;> simp [sg]
      | false =>
        rw [if_neg (by simp), if_neg (by simp)]
        rfl
    rw [h4, h3, ← sg_add]
    unfold left0
    congr 1
    omega
  · unfold outR
    cases e : S i with
    | true => rfl
    | false =>
      rw [if_neg (by simp), if_neg (by simp)]
      unfold cG baseG
      rw [← sg_add, sg_sg]
  · unfold chR
    cases e : S i with
    | true => cases g <;> rfl
    | false =>
      rw [if_neg (by simp), if_neg (by simp)]
      unfold cG baseG
      rw [← sg_add, sg_sg]
      cases g <;> simp [sg] <;> omega
  · unfold setR
    congr 1
    rw [sumB_sg]
    refine decide_eq_decide.2 ?_
    cases g <;> simp only [sg, if_true, Bool.false_eq_true, if_false] <;> omega
/-- what the rounds keep besides -/
structure Keep (l : List It16) (n : Nat) (g : Bool) (R : Int) (U0 : Nat → Prop) (out : Nat → Int) (S : Nat → Bool) : Prop where
  inv : Inv n (cG l g) (baseG l g) (fun i => wI g (itA l i)) U0 (sg g R) (fun i => sg g (out i)) S
  way : ∀ i, i < n → sg g (firstI (itA l i)) ≤ sg g (out i)
  cl : ∀ i, i < n → ∃ y, out i = cI (itA l i) y
  zero : ∀ i, i < n → S i = false → wI g (itA l i) = 0 → firstI (itA l i) = (itA l i).base
  base : ∀ i, i < n → S i = false → sg g (itA l i).base ≤ sg g (firstI (itA l i))
theorem Keep.left {l : List It16} {n : Nat} {g : Bool} {R : Int} {U0 : Nat → Prop} {out : Nat → Int} {S : Nat → Bool} (h : Keep l n g R U0 out S) : 0 ≤ sg g (left0 l n R out S) := by
  have h1 := h.inv.fit
  have h2 : sumB (fun i => sg g (if S i = true then out i else (itA l i).base)) n ≤ sumB (fun i => if S i = true then sg g (out i) else cG l g i (baseG l g i)) n := sumB_le (fun i hi => by
    cases e : S i with
    | true => rw [if_pos rfl, if_pos rfl]; omega
    | false =>
      rw [if_neg (by simp), if_neg (by simp), cG_base]
      exact h.base i hi e)
  rw [sumB_sg] at h2
  unfold left0
  have h3 : sg g (R - sumB (fun i => if S i = true then out i else (itA l i).base) n) = sg g R - sg g (sumB (fun i => if S i = true then out i else (itA l i).base) n) := by
    cases g <;> simp [sg] <;> omega
  rw [h3]
  omega
theorem leftG_id {g : Bool} {y : Int} (h : 0 ≤ sg g y) : leftG g y = y := by
  unfold leftG
  cases g <;> simp [sg] at h ⊢ <;> omega
theorem Keep.step {l : List It16} {n : Nat} {g : Bool} {R : Int} {U0 : Nat → Prop} {out : Nat → Int} {S : Nat → Bool} (h : Keep l n g R U0 out S) (hw : ∀ i, i < n → 0 ≤ wI g (itA l i)) {X : Nat → Int} (hX : ShareOf (leftG g (left0 l n R out S)) (wsR l g S) n X) :
    ((∀ i, i < n → setR l n S X i = true) ∧ Full n (cG l g) (fun i => wI g (itA l i)) U0 (sg g R) (fun i => sg g (outR l out S X i)) ∧ (∀ i, i < n → sg g (firstI (itA l i)) ≤ sg g (outR l out S X i)) ∧ ∀ i, i < n → ∃ y, outR l out S X i = cI (itA l i) y) ∨ Keep l n g R U0 (outR l out S X) (setR l n S X) := by
  have hl := h.left
  rw [leftG_id hl] at hX
  have rd := rd_of hX.facts hl hw
  obtain ⟨s1, s2⟩ := h.inv.step (fun i _ => cG_cl l g i) (fun i hi hs hw0 => by rw [cG_base, h.zero i hi hs hw0]; rfl) rd
  have ge := rd.ge (fun i _ => cG_cl l g i) (fun i hi => by rw [cG_base]; exact h.way i hi)
  have way : ∀ i, i < n → sg g (firstI (itA l i)) ≤ sg g (outR l out S X i) := fun i hi => by have := ge i hi; rwa [cG_base] at this
  have cl : ∀ i, i < n → ∃ y, outR l out S X i = cI (itA l i) y := fun i hi => by
    unfold outR
    cases e : S i with
    | true => exact h.cl i hi
    | false => exact ⟨_, if_neg (by simp)⟩
  by_cases h0 : sumB (fun i => sg g (chR l S X i)) n = 0
  · exact .inl ⟨(s1 h0).1, (s1 h0).2, way, cl⟩
  · have op : ∀ i, i < n → setR l n S X i = false → S i = false := fun i hi hs => by
      cases e : S i
      · rfl
      · rw [setR_keep i hi e] at hs; cases hs
    exact .inr ⟨s2 h0, way, cl, fun i hi hs => h.zero i hi (op i hi hs), fun i hi hs => h.base i hi (op i hi hs)⟩
/-- **what comes out of the rounds** -/
theorem runs_full {l : List It16} {n : Nat} {g : Bool} {R : Int} {U0 : Nat → Prop} (hw : ∀ i, i < n → 0 ≤ wI g (itA l i)) (hF : ∀ out S, Keep l n g R U0 out S → Fit (left0 l n R out S)) {out : Nat → Int} {S : Nat → Bool} {r : Option (Nat → Int)} (hr : Runs l n g R out S r) (h : Keep l n g R U0 out S) :
    ∃ o, r = some o ∧ Full n (cG l g) (fun i => wI g (itA l i)) U0 (sg g R) (fun i => sg g (o i)) ∧ (∀ i, i < n → sg g (firstI (itA l i)) ≤ sg g (o i)) ∧ (∀ i, i < n → ∃ y, o i = cI (itA l i) y) ∧ ∀ i, i < n → S i = true → o i = out i := by
  induction hr with
  | done out S hs => exact ⟨out, rfl, h.inv.done hs, h.way, h.cl, fun _ _ _ => rfl⟩
  | far out S hs hf => exact absurd (hF out S h) hf
  | round out S X r hs hf hX hr ih =>
    have same : ∀ i, i < n → S i = true → outR l out S X i = out i := fun i _ e => by unfold outR; rw [if_pos e]
    rcases h.step hw hX with ⟨a1, a2, a3, a4⟩ | k
    · cases hr with
      | done _ _ _ => exact ⟨_, rfl, a2, a3, a4, same⟩
      | far _ _ hs' _ => obtain ⟨i, hi, e⟩ := hs'; rw [a1 i hi] at e; cases e
      | round _ _ _ _ hs' _ _ _ => obtain ⟨i, hi, e⟩ := hs'; rw [a1 i hi] at e; cases e
    · obtain ⟨o, h1, h2, h3, h4, h5⟩ := ih k
      exact ⟨o, h1, h2, h3, h4, fun i hi e => by rw [h5 i hi (setR_keep i hi e)]; exact same i hi e⟩
end Go.Proofs.Ytpjhhndjbpegcaa
