/-
  The sizes of boxes that grow and shrink: what the chapter says, and what follows for boxes near 0. Mathematics.
-/
import Derived.Test.YtpjhhndjbpegcaaFullM16
namespace Go.Proofs.Ytpjhhndjbpegcaa

def aroundI (l : List It16) (gap : Int) (n : Nat) : Int := sumB (fun i => (itA l i).outer) n + if n = 0 then 0 else gap * ((n : Int) - 1)
def allI (l : List It16) (n : Nat) : Int := sumB (fun i => firstI (itA l i)) n
def growI (l : List It16) (n : Nat) (gap room : Int) : Bool := decide (allI l n + aroundI l gap n < room)
def out0 (l : List It16) (i : Nat) : Int := firstI (itA l i)
def set0 (l : List It16) (g : Bool) (i : Nat) : Bool := if g = true then decide ((itA l i).grow = 0 ∨ firstI (itA l i) < (itA l i).base) else decide ((itA l i).shrink = 0 ∨ (itA l i).base < firstI (itA l i))
structure NearI (x : It16) : Prop where
  hbase : 0 ≤ x.base ∧ x.base ≤ 268435456
  hleast : 0 ≤ x.least ∧ x.least ≤ 268435456
  hmost : 0 ≤ x.most ∧ x.most ≤ 1099511627776
  hgrow : 0 ≤ x.grow ∧ x.grow ≤ 1000
  hshrink : 0 ≤ x.shrink ∧ x.shrink ≤ 1000
  houter : -268435456 ≤ x.outer ∧ x.outer ≤ 268435456
theorem NearI.first {x : It16} (h : NearI x) : 0 ≤ firstI x ∧ firstI x ≤ 268435456 := by
  have h1 := h.hbase
  have h2 := h.hleast
  have h3 := h.hmost
  unfold firstI cI
  omega
theorem NearI.w {x : It16} (h : NearI x) (g : Bool) : 0 ≤ wI g x := by
  unfold wI
  split
  · exact h.hgrow.1
  · exact Int.mul_nonneg h.hshrink.1 h.hbase.1
/-- who may be asked to give way -/
def U16 (l : List It16) (g : Bool) (i : Nat) : Prop := if g = true then (itA l i).grow ≠ 0 else (itA l i).shrink ≠ 0
theorem sumB_bd {f : Nat → Int} {c : Int} : ∀ {n : Nat}, (∀ i, i < n → -c ≤ f i ∧ f i ≤ c) → -(n * c) ≤ sumB f n ∧ sumB f n ≤ n * c
  | 0, _ => by simp [sumB]
  | n + 1, h => by
    have h1 := sumB_bd (n := n) (fun i hi => h i (by omega))
    have h2 := h n (by omega)
    rw [sumB, show ((n + 1 : Nat) : Int) * c = n * c + c by rw [Int.natCast_add, Int.add_mul]; simp]
    omega
theorem sumB_nn {f : Nat → Int} : ∀ {n : Nat}, (∀ i, i < n → 0 ≤ f i) → 0 ≤ sumB f n
  | 0, _ => Int.le_refl _
  | n + 1, h => by
    have h1 := sumB_nn (n := n) (fun i hi => h i (by omega))
    have h2 := h n (by omega)
    rw [sumB]
    omega
theorem around_bd {l : List It16} {gap : Int} {n : Nat} (hn : n ≤ 100) (hg : 0 ≤ gap ∧ gap ≤ 268435456) (hI : ∀ i, i < n → NearI (itA l i)) : -26843545600 ≤ aroundI l gap n ∧ aroundI l gap n ≤ 53687091200 := by
  have h1 := sumB_bd (f := fun i => (itA l i).outer) (c := 268435456) (n := n) (fun i hi => (hI i hi).houter)
  have h2 : 0 ≤ (if n = 0 then (0 : Int) else gap * ((n : Int) - 1)) ∧ (if n = 0 then (0 : Int) else gap * ((n : Int) - 1)) ≤ 26843545600 := by
    split
    · omega
    · have a : gap * ((n : Int) - 1) ≤ 268435456 * ((n : Int) - 1) := Int.mul_le_mul_of_nonneg_right hg.2 (by omega)
      have b : 0 ≤ gap * ((n : Int) - 1) := Int.mul_nonneg hg.1 (by omega)
      omega
  unfold aroundI
  omega
/-- at the beginning -/
theorem keep_start {l : List It16} {n : Nat} {gap room : Int} (hI : ∀ i, i < n → NearI (itA l i)) : Keep l n (growI l n gap room) (room - aroundI l gap n) (U16 l (growI l n gap room)) (out0 l) (set0 l (growI l n gap room)) := by
  obtain ⟨g, hg⟩ : ∃ g, growI l n gap room = g := ⟨_, rfl⟩
  rw [hg]
  refine ⟨Inv.start (fun i _ => by rw [cG_base]; rfl) ?_ ?_, fun i _ => Int.le_refl _, fun i _ => ⟨_, rfl⟩, fun i hi hs h0 => ?_, fun i hi hs => ?_⟩
  · rw [sumB_congr (g := fun i => sg g (firstI (itA l i))) (fun i _ => cG_base l g i), sumB_sg]
    unfold growI at hg
    cases g with
    | true =>
      have := of_decide_eq_true hg
      simp only [sg, if_true]
      unfold allI at this
      omega
    | false =>
      have := of_decide_eq_false hg
      simp only [sg, Bool.false_eq_true, if_false]
      unfold allI at this
      omega
  · intro i hi hs hu y
    cases g with
    | true =>
      unfold set0 at hs
      unfold U16 at hu
      simp only [if_true, decide_eq_true_eq] at hs hu
      have h1 : cI (itA l i) (itA l i).base < (itA l i).base := by
        rcases hs with h | h
        · exact absurd h hu
        · exact h
      exact (cI_cl (itA l i)).top h1 y
    | false =>
      unfold set0 at hs
      unfold U16 at hu
      simp only [Bool.false_eq_true, if_false, decide_eq_true_eq] at hs hu
      have h1 : (itA l i).base < cI (itA l i) (itA l i).base := by
        rcases hs with h | h
        · exact absurd h hu
        · exact h
      have h2 := (cG_cl l false i).top (x := - (itA l i).base) (by
        show - cI (itA l i) (- - (itA l i).base) < _
        rw [Int.neg_neg]; omega) y
      have e : cG l false i (- (itA l i).base) = sg false (out0 l i) := by
        show - cI (itA l i) (- - (itA l i).base) = - firstI (itA l i)
        rw [Int.neg_neg]; rfl
      rw [e] at h2
      exact h2
  · have nf := (hI i hi).first
    unfold set0 at hs
    unfold wI at h0
    cases g with
    | true =>
      simp only [if_true, decide_eq_false_iff_not] at hs h0
      exact absurd (.inl h0) hs
    | false =>
      simp only [Bool.false_eq_true, if_false, decide_eq_false_iff_not] at hs h0
      rcases Int.mul_eq_zero.1 h0 with c | c
      · exact absurd (.inl c) hs
      · have : ¬ (itA l i).base < firstI (itA l i) := fun h => hs (.inr h)
        omega
  · unfold set0 at hs
    cases g with
    | true =>
      simp only [if_true, decide_eq_false_iff_not] at hs
      have : ¬ firstI (itA l i) < (itA l i).base := fun h => hs (.inr h)
      simp only [sg, if_true]
      omega
    | false =>
      simp only [Bool.false_eq_true, if_false, decide_eq_false_iff_not] at hs
      have : ¬ (itA l i).base < firstI (itA l i) := fun h => hs (.inr h)
      simp only [sg, Bool.false_eq_true, if_false]
      omega
/-- what is left of a room near 0 is a length -/
theorem keep_fit {l : List It16} {n : Nat} {g : Bool} {R : Int} {U0 : Nat → Prop} (hn : n ≤ 100) (hI : ∀ i, i < n → NearI (itA l i)) (hR : -107374182400 ≤ R ∧ R ≤ 274877906944) {out : Nat → Int} {S : Nat → Bool} (h : Keep l n g R U0 out S) : Fit (left0 l n R out S) := by
  have hl := h.left
  cases g with
  | true =>
    simp only [sg, if_true] at hl
    have : 0 ≤ sumB (fun i => if S i = true then out i else (itA l i).base) n := sumB_nn (fun i hi => by
      have h1 := h.way i hi
      have h2 := (hI i hi).first
      have h3 := (hI i hi).hbase
      simp only [sg, if_true] at h1
      split <;> omega)
    unfold left0 at hl ⊢
    unfold Fit
    omega
  | false =>
    simp only [sg, Bool.false_eq_true, if_false] at hl
    have : sumB (fun i => if S i = true then out i else (itA l i).base) n ≤ sumB (fun _ => 268435456) n := sumB_le (fun i hi => by
      have h1 := h.way i hi
      have h2 := (hI i hi).first
      have h3 := (hI i hi).hbase
      simp only [sg, Bool.false_eq_true, if_false] at h1
      split <;> omega)
    have h4 := sumB_bd (f := fun _ => (268435456 : Int)) (c := 268435456) (n := n) (fun i _ => by omega)
    unfold left0 at hl ⊢
    unfold Fit
    omega
/-- **what comes out, of boxes near 0** -/
theorem sizes16 {l : List It16} {n : Nat} {gap room : Int} (hn : n ≤ 100) (hgap : 0 ≤ gap ∧ gap ≤ 268435456) (hroom : 0 ≤ room ∧ room ≤ 137438953472) (hI : ∀ i, i < n → NearI (itA l i)) {r : Option (Nat → Int)}
    (hr : Runs l n (growI l n gap room) (room - aroundI l gap n) (out0 l) (set0 l (growI l n gap room)) r) :
    ∃ o, r = some o ∧ (growI l n gap room = true → sumB o n ≤ room - aroundI l gap n ∧ (sumB o n = room - aroundI l gap n ∨ ∀ i, i < n → (itA l i).grow ≠ 0 → (itA l i).most ≤ o i)) ∧
      (growI l n gap room = false → room - aroundI l gap n ≤ sumB o n ∧ (sumB o n = room - aroundI l gap n ∨ ∀ i, i < n → (itA l i).shrink ≠ 0 → (itA l i).base ≠ 0 → o i ≤ (itA l i).least)) ∧
      (growI l n gap room = true → ∀ i, i < n → firstI (itA l i) ≤ o i ∧ ((itA l i).grow = 0 → o i = firstI (itA l i))) ∧
      (growI l n gap room = false → ∀ i, i < n → o i ≤ firstI (itA l i) ∧ ((itA l i).shrink = 0 → o i = firstI (itA l i))) ∧
      ∀ i, i < n → ∃ y, o i = cI (itA l i) y := by
  have ab := around_bd hn hgap hI
  have k0 := keep_start (gap := gap) (room := room) hI
  obtain ⟨g, hg⟩ : ∃ g, growI l n gap room = g := ⟨_, rfl⟩
  rw [hg] at hr k0 ⊢
  obtain ⟨o, h1, ⟨f1, f2⟩, h3, h4, h5⟩ := runs_full (fun i hi => (hI i hi).w g) (fun out S h => keep_fit hn hI (by omega) h) hr k0
  rw [sumB_sg] at f1 f2
  refine ⟨o, h1, fun e => ?_, fun e => ?_, fun e i hi => ?_, fun e i hi => ?_, h4⟩
  · subst e
    simp only [sg, if_true] at f1 f2
    refine ⟨f1, ?_⟩
    rcases f2 with f2 | f2
    · exact .inl f2
    · refine .inr (fun i hi hw => ?_)
      have := f2 i hi (by unfold U16; simpa using hw) (by unfold wI; simpa using hw) (itA l i).most
      have e : cG l true i (itA l i).most = max (min (itA l i).most (itA l i).most) (itA l i).least := rfl
      rw [e] at this
      omega
  · subst e
    simp only [sg, Bool.false_eq_true, if_false] at f1 f2
    refine ⟨by omega, ?_⟩
    rcases f2 with f2 | f2
    · exact .inl (by omega)
    · refine .inr (fun i hi hw hb => ?_)
      have := f2 i hi (by unfold U16; simpa using hw) (by unfold wI; simp [hw, hb]) (- (itA l i).least)
      have e : cG l false i (- (itA l i).least) = - max (min (- - (itA l i).least) (itA l i).most) (itA l i).least := rfl
      rw [e] at this
      omega
  · subst e
    refine ⟨by have := h3 i hi; simpa [sg] using this, fun h0 => h5 i hi (by unfold set0; simp [h0])⟩
  · subst e
    refine ⟨by have := h3 i hi; simp only [sg, Bool.false_eq_true, if_false] at this; omega, fun h0 => h5 i hi (by unfold set0; simp [h0])⟩
/-- there is an outcome -/
theorem share_ex16 (t : Int) (v : Nat → Nat) (n : Nat) (hq : ∀ L : Nat → Int, ∃ q, Ordered L q n) : ∃ X, ShareOf t v n X := by
  by_cases hs : sumN v n = 0
  · exact ⟨fun _ => 0, _, .inl ⟨hs, fun i _ => rfl⟩, fun i _ => by split <;> rfl⟩
  · obtain ⟨q, hq⟩ := hq (fun i => (lost t.natAbs v (sumN v n) i : Int))
    exact ⟨_, _, .inr ⟨by omega, q, hq, fun i _ => rfl⟩, fun i _ => rfl⟩
theorem runs_ex {l : List It16} {n : Nat} {g : Bool} {R : Int} (hq : ∀ L : Nat → Int, ∃ q, Ordered L q n) : ∀ (k : Nat) (out : Nat → Int) (S : Nat → Bool), openN S n ≤ k → ∃ r, Runs l n g R out S r := by
  intro k
  induction k with
  | zero =>
    intro out S h
    by_cases hs : ∃ i, i < n ∧ S i = false
    · obtain ⟨i, hi, e⟩ := hs
      have : openN (fun _ => true) n < openN S n := openN_lt (i := i) e rfl hi (fun _ _ _ => rfl)
      omega
    · exact ⟨_, .done out S (fun i hi => by cases e : S i; exact absurd ⟨i, hi, e⟩ hs; rfl)⟩
  | succ k ih =>
    intro out S h
    by_cases hs : ∃ i, i < n ∧ S i = false
    · by_cases hf : Fit (left0 l n R out S)
      · obtain ⟨X, hX⟩ := share_ex16 (leftG g (left0 l n R out S)) (wsR l g S) n hq
        obtain ⟨i, hi, e1, e2⟩ := setR_some (l := l) (X := X) hs
        have := openN_lt e1 e2 hi (fun i hi h => setR_keep i hi h)
        obtain ⟨r, hr⟩ := ih (outR l out S X) (setR l n S X) (by omega)
        exact ⟨r, .round out S X r hs hf hX hr⟩
      · exact ⟨_, .far out S hs hf⟩
    · exact ⟨_, .done out S (fun i hi => by cases e : S i; exact absurd ⟨i, hi, e⟩ hs; rfl)⟩
end Go.Proofs.Ytpjhhndjbpegcaa
