/-
  Boxes side by side in lines: mathematics.
-/
import Derived.Test.YtpjhhndjbpegcaaFits
namespace Go.Proofs.Ytpjhhndjbpegcaa

/-- the sum of so many from one on -/
def sumF (f : Nat → Int) (i : Nat) : Nat → Int
  | 0 => 0
  | k + 1 => sumF f i k + f (i + k)
/-- how long the boxes from i to j (without it) are, with the gaps between them -/
def longF (f : Nat → Int) (gap : Int) (i j : Nat) : Int := gap * ((j : Int) - i - 1) + sumF f i (j - i)
theorem longF_step (f : Nat → Int) (gap : Int) {i j : Nat} (h : i < j) : longF f gap i (j + 1) = longF f gap i j + gap + f j := by
  unfold longF
  rw [show j + 1 - i = j - i + 1 by omega, sumF, show i + (j - i) = j by omega, show ((j + 1 : Nat) : Int) - i - 1 = (j : Int) - i - 1 + 1 by omega, Int.mul_add]
  omega
theorem longF_one (f : Nat → Int) (gap : Int) (i : Nat) : longF f gap i (i + 1) = f i := by
  unfold longF
  rw [show i + 1 - i = 1 by omega, show ((i + 1 : Nat) : Int) - i - 1 = 0 by omega, Int.mul_zero]
  simp [sumF]
theorem sumF_bd {f : Nat → Int} {c : Int} (i : Nat) : ∀ (k : Nat), (∀ j, i ≤ j → j < i + k → -c ≤ f j ∧ f j ≤ c) → -(k * c) ≤ sumF f i k ∧ sumF f i k ≤ k * c
  | 0, _ => by simp [sumF]
  | k + 1, h => by
    have h1 := sumF_bd i k (fun j a b => h j a (by omega))
    have h2 := h (i + k) (by omega) (by omega)
    rw [sumF, show ((k + 1 : Nat) : Int) * c = k * c + c by rw [Int.natCast_add, Int.add_mul]; simp]
    omega
/-- does box j (behind those from i on) stand in their line? -/
def goOn (f : Nat → Int) (gap room : Int) (wrap : Bool) (i j : Nat) : Prop := wrap = false ∨ room = -1 ∨ longF f gap i (j + 1) ≤ room
instance (f : Nat → Int) (gap room : Int) (wrap : Bool) (i j : Nat) : Decidable (goOn f gap room wrap i j) := by unfold goOn; infer_instance
/-- up to where the line from i on goes, that goes to j at least -/
def stopA (f : Nat → Int) (gap room : Int) (wrap : Bool) (n i j : Nat) : Nat :=
  if h : j < n then if goOn f gap room wrap i j then stopA f gap room wrap n i (j + 1) else j else j
termination_by n - j
/-- the lines from i on -/
theorem stopA_ge (f : Nat → Int) (gap room : Int) (wrap : Bool) (n i j : Nat) : j ≤ stopA f gap room wrap n i j := by
  unfold stopA
  split
  · split
    · have := stopA_ge f gap room wrap n i (j + 1); omega
    · omega
  · omega
termination_by n - j
def linesA (f : Nat → Int) (gap room : Int) (wrap : Bool) (n i : Nat) : List (Nat × Nat) :=
  if h : i < n then (i, stopA f gap room wrap n i (i + 1)) :: linesA f gap room wrap n (stopA f gap room wrap n i (i + 1)) else []
termination_by n - i
decreasing_by have := stopA_ge f gap room wrap n i (i + 1); omega
section
variable {f : Nat → Int} {gap room : Int} {wrap : Bool} {n : Nat}
theorem stopA_go {i j : Nat} (h : j < n) (hg : goOn f gap room wrap i j) : stopA f gap room wrap n i j = stopA f gap room wrap n i (j + 1) := by
  conv => lhs; unfold stopA
  rw [dif_pos h, if_pos hg]
theorem stopA_no {i j : Nat} (hg : ¬ goOn f gap room wrap i j) : stopA f gap room wrap n i j = j := by
  unfold stopA
  by_cases h : j < n
  · rw [dif_pos h]; exact if_neg hg
  · rw [dif_neg h]
theorem stopA_end {i j : Nat} (h : n ≤ j) : stopA f gap room wrap n i j = j := by
  unfold stopA
  rw [dif_neg (by omega)]
theorem stopA_le {i j : Nat} (h : j ≤ n) : stopA f gap room wrap n i j ≤ n := by
  by_cases hj : j < n
  · by_cases hg : goOn f gap room wrap i j
    · rw [stopA_go hj hg]
      exact stopA_le (by omega)
    · rw [stopA_no hg]; exact h
  · rw [stopA_end (by omega)]; exact h
termination_by n - j
/-- what is known of where a line stops -/
theorem stopA_is {i j : Nat} (h : j ≤ n) : (∀ k, j ≤ k → k < stopA f gap room wrap n i j → goOn f gap room wrap i k) ∧ (stopA f gap room wrap n i j < n → ¬ goOn f gap room wrap i (stopA f gap room wrap n i j)) := by
  by_cases hj : j < n
  · by_cases hg : goOn f gap room wrap i j
    · rw [stopA_go hj hg]
      obtain ⟨h1, h2⟩ := stopA_is (i := i) (j := j + 1) (by omega)
      refine ⟨fun k a b => ?_, h2⟩
      by_cases e : k = j
      · rw [e]; exact hg
      · exact h1 k (by omega) b
    · rw [stopA_no hg]
      exact ⟨fun k a b => absurd b (by omega), fun _ => hg⟩
  · rw [stopA_end (by omega)]
    exact ⟨fun k a b => absurd b (by omega), fun c => absurd c hj⟩
termination_by n - j
theorem linesA_cons {i : Nat} (h : i < n) : linesA f gap room wrap n i = (i, stopA f gap room wrap n i (i + 1)) :: linesA f gap room wrap n (stopA f gap room wrap n i (i + 1)) := by
  conv => lhs; unfold linesA
  rw [dif_pos h]
theorem linesA_nil {i : Nat} (h : n ≤ i) : linesA f gap room wrap n i = [] := by
  unfold linesA
  rw [dif_neg (by omega)]
theorem linesA_len (i : Nat) : (linesA f gap room wrap n i).length ≤ n - i := by
  by_cases h : i < n
  · rw [linesA_cons h, List.length_cons]
    have h1 := stopA_ge f gap room wrap n i (i + 1)
    have h2 := linesA_len (stopA f gap room wrap n i (i + 1))
    omega
  · rw [linesA_nil (by omega)]; simp
termination_by n - i
decreasing_by have := stopA_ge f gap room wrap n i (i + 1); omega
/-- lines that stand one behind the other, from i on, up to n -/
def ChainL (n : Nat) : Nat → List (Nat × Nat) → Prop
  | i, [] => i = n
  | i, x :: l => x.1 = i ∧ i < x.2 ∧ x.2 ≤ n ∧ ChainL n x.2 l
theorem linesA_chain {i : Nat} (hi : i ≤ n) : ChainL n i (linesA f gap room wrap n i) := by
  by_cases h : i < n
  · rw [linesA_cons h]
    have h1 := stopA_ge f gap room wrap n i (i + 1)
    have h2 := stopA_le (f := f) (gap := gap) (room := room) (wrap := wrap) (i := i) (j := i + 1) (n := n) (by omega)
    exact ⟨rfl, by dsimp only; omega, h2, linesA_chain h2⟩
  · rw [linesA_nil (by omega)]
    exact (show i = n by omega)
termination_by n - i
decreasing_by have := stopA_ge f gap room wrap n i (i + 1); omega
/-- what is known of each line -/
def LineIs (f : Nat → Int) (gap room : Int) (wrap : Bool) (n : Nat) (x : Nat × Nat) : Prop := x.1 < n ∧ x.2 = stopA f gap room wrap n x.1 (x.1 + 1)
theorem linesA_is {i : Nat} : ∀ x ∈ linesA f gap room wrap n i, LineIs f gap room wrap n x := by
  by_cases h : i < n
  · rw [linesA_cons h]
    intro x hx
    rcases List.mem_cons.1 hx with rfl | hx
    · exact ⟨h, rfl⟩
    · exact linesA_is x hx
  · rw [linesA_nil (by omega)]
    intro x hx; cases hx
termination_by n - i
decreasing_by have := stopA_ge f gap room wrap n i (i + 1); omega
theorem LineIs.wide {x : Nat × Nat} (h : LineIs f gap room true n x) (hr : 0 ≤ room) : x.1 < x.2 ∧ x.2 ≤ n ∧ (x.1 + 1 < x.2 → longF f gap x.1 x.2 ≤ room) ∧ (x.2 < n → room < longF f gap x.1 (x.2 + 1)) := by
  obtain ⟨h1, h2⟩ := h
  have a1 := stopA_ge f gap room true n x.1 (x.1 + 1)
  have a2 := stopA_le (f := f) (gap := gap) (room := room) (wrap := true) (i := x.1) (j := x.1 + 1) (n := n) (by omega)
  obtain ⟨b1, b2⟩ := stopA_is (f := f) (gap := gap) (room := room) (wrap := true) (i := x.1) (j := x.1 + 1) (n := n) (by omega)
  rw [← h2] at a1 a2 b1 b2
  refine ⟨by omega, a2, fun c => ?_, fun c => ?_⟩
  · have := b1 (x.2 - 1) (by omega) (by omega)
    unfold goOn at this
    rw [show x.2 - 1 + 1 = x.2 by omega] at this
    rcases this with t | t | t
    · cases t
    · omega
    · exact t
  · have := b2 c
    unfold goOn at this
    have t : ¬ longF f gap x.1 (x.2 + 1) ≤ room := fun e => this (.inr (.inr e))
    omega
/-- all in one line -/
theorem stopA_all {i j : Nat} (h : j ≤ n) (hg : ∀ k, j ≤ k → k < n → goOn f gap room wrap i k) : stopA f gap room wrap n i j = n := by
  by_cases hj : j < n
  · rw [stopA_go hj (hg j (Nat.le_refl _) hj)]
    exact stopA_all (by omega) (fun k a b => hg k (by omega) b)
  · rw [stopA_end (by omega)]; omega
termination_by n - j
theorem linesA_one (hn : 0 < n) (hg : ∀ k, 1 ≤ k → k < n → goOn f gap room wrap 0 k) : linesA f gap room wrap n 0 = [(0, n)] := by
  rw [linesA_cons hn, stopA_all (by omega) (fun k a b => hg k (by omega) b), linesA_nil (Nat.le_refl _)]
end
/-- the greater the room, the lesser the gap, the later a line that begins later stops -/
theorem longF_mono {f : Nat → Int} {g1 g2 : Int} {n : Nat} (h0 : ∀ i, i < n → 0 ≤ f i) (hg1 : 0 ≤ g1) (hg : g1 ≤ g2) {i i' j : Nat} (hi : i ≤ i') (hij : i' < j) (hj : j ≤ n) : longF f g1 i' j ≤ longF f g2 i j := by
  have key : ∀ d, i + d < j → longF f g1 (i + d) j ≤ longF f g2 i j := by
    intro d
    induction d with
    | zero =>
      intro _
      unfold longF
      have : g1 * ((j : Int) - (i + 0 : Nat) - 1) ≤ g2 * ((j : Int) - (i + 0 : Nat) - 1) := Int.mul_le_mul_of_nonneg_right hg (by omega)
      simpa using this
    | succ d ih =>
      intro hd
      have h1 := ih (by omega)
      have h2 : longF f g1 (i + (d + 1)) j + g1 + f (i + d) = longF f g1 (i + d) j := by
        have : ∀ m, longF f g1 (i + (d + 1)) (i + (d + 1) + 1 + m) + g1 + f (i + d) = longF f g1 (i + d) (i + (d + 1) + 1 + m) := by
          intro m
          induction m with
          | zero =>
            rw [Nat.add_zero, longF_one, longF_step f g1 (i := i + d) (j := i + (d + 1)) (by omega), show i + (d + 1) = i + d + 1 by omega, longF_one]
            omega
          | succ m ih =>
            rw [show i + (d + 1) + 1 + (m + 1) = i + (d + 1) + 1 + m + 1 by omega, longF_step f g1 (i := i + (d + 1)) (by omega), longF_step f g1 (i := i + d) (j := i + (d + 1) + 1 + m) (by omega)]
            omega
        have := this (j - (i + (d + 1) + 1))
        rwa [show i + (d + 1) + 1 + (j - (i + (d + 1) + 1)) = j by omega] at this
      have h3 := h0 (i + d) (by omega)
      omega
  have := key (i' - i) (by omega)
  rwa [show i + (i' - i) = i' by omega] at this
theorem stopA_mono {f : Nat → Int} {g1 g2 r1 r2 : Int} {n : Nat} (h0 : ∀ i, i < n → 0 ≤ f i) (hg1 : 0 ≤ g1) (hg : g1 ≤ g2) (hr : r2 ≤ r1) (hr0 : 0 ≤ r2) {i i' : Nat} (hi : i ≤ i') (hn : i' < n) : stopA f g2 r2 true n i (i + 1) ≤ stopA f g1 r1 true n i' (i' + 1) := by
  have a2 := stopA_le (f := f) (gap := g2) (room := r2) (wrap := true) (i := i) (j := i + 1) (n := n) (by omega)
  obtain ⟨b1, b2⟩ := stopA_is (f := f) (gap := g2) (room := r2) (wrap := true) (i := i) (j := i + 1) (n := n) (by omega)
  have c1 := stopA_ge f g1 r1 true n i' (i' + 1)
  obtain ⟨d1, d2⟩ := stopA_is (f := f) (gap := g1) (room := r1) (wrap := true) (i := i') (j := i' + 1) (n := n) (by omega)
  generalize stopA f g2 r2 true n i (i + 1) = s at *
  generalize stopA f g1 r1 true n i' (i' + 1) = s' at *
  rcases Nat.lt_or_ge s' s with c | c
  · have e1 := b1 s' (by omega) c
    have e2 := d2 (by omega)
    refine absurd ?_ e2
    unfold goOn at e1 ⊢
    rcases e1 with t | t | t
    · cases t
    · omega
    · refine .inr (.inr ?_)
      have := longF_mono h0 hg1 hg hi (j := s' + 1) (by omega) (by omega)
      omega
  · exact c
theorem linesA_mono {f : Nat → Int} {g1 g2 r1 r2 : Int} {n : Nat} (h0 : ∀ i, i < n → 0 ≤ f i) (hg1 : 0 ≤ g1) (hg : g1 ≤ g2) (hr : r2 ≤ r1) (hr0 : 0 ≤ r2) {i i' : Nat} (hi : i ≤ i') (hn : i' ≤ n) :
    (linesA f g1 r1 true n i').length ≤ (linesA f g2 r2 true n i).length ∧ ∀ (k : Nat) (x y : Nat × Nat), (linesA f g1 r1 true n i')[k]? = some x → (linesA f g2 r2 true n i)[k]? = some y → y.2 ≤ x.2 := by
  by_cases h : i' < n
  · rw [linesA_cons h, linesA_cons (f := f) (gap := g2) (room := r2) (wrap := true) (i := i) (by omega)]
    have hm := stopA_mono h0 hg1 hg hr hr0 hi h
    have h2 := stopA_le (f := f) (gap := g1) (room := r1) (wrap := true) (i := i') (j := i' + 1) (n := n) (by omega)
    have hge := stopA_ge f g1 r1 true n i' (i' + 1)
    obtain ⟨l1, l2⟩ := linesA_mono h0 hg1 hg hr hr0 hm h2
    refine ⟨by simpa using l1, fun k x y hx hy => ?_⟩
    cases k with
    | zero =>
      simp at hx hy
      rw [← hx, ← hy]
      exact hm
    | succ k => exact l2 k x y (by simpa using hx) (by simpa using hy)
  · rw [linesA_nil (i := i') (by omega)]
    exact ⟨Nat.zero_le _, fun k x y hx => by simp at hx⟩
termination_by n - i'
/-- where the line k begins: up to where the one ahead of it goes -/
def prevTo (i : Nat) (l : List (Nat × Nat)) : Nat → Nat
  | 0 => i
  | k + 1 => ((l[k]?).getD (0, 0)).2
theorem prevTo_cons {i : Nat} {y : Nat × Nat} {l : List (Nat × Nat)} (k : Nat) : prevTo i (y :: l) (k + 1) = prevTo y.2 l k := by
  cases k with
  | zero => simp [prevTo]
  | succ k => simp [prevTo]
/-- a chain's lines, one by one -/
theorem chain_at {n : Nat} : ∀ {l : List (Nat × Nat)} {i : Nat}, ChainL n i l → ∀ {k : Nat} {x : Nat × Nat}, l[k]? = some x → x.1 = prevTo i l k ∧ x.1 < x.2 ∧ x.2 ≤ n
  | [], _, _, k, x, hx => by simp at hx
  | y :: l, i, h, k, x, hx => by
    obtain ⟨h1, h2, h3, h4⟩ := h
    cases k with
    | zero =>
      obtain rfl : y = x := by simpa using hx
      exact ⟨h1, by omega, h3⟩
    | succ k =>
      have hx' : l[k]? = some x := by simpa using hx
      rw [prevTo_cons]
      exact chain_at h4 hx'
theorem chain_end {n : Nat} : ∀ {l : List (Nat × Nat)} {i : Nat}, ChainL n i l → prevTo i l l.length = n
  | [], i, h => h
  | y :: l, i, h => by
    obtain ⟨h1, h2, h3, h4⟩ := h
    rw [List.length_cons, prevTo_cons]
    exact chain_end h4
/-- what Split answers -/
def splitE (f : Nat → Int) (n : Nat) (gap room : Int) : Int := if 2048 < n ∨ gap < 0 ∨ room < -1 then 2 else if allFit f n = false ∨ ¬ Fit gap ∨ ¬ Fit room then 10 else 0
def splitL (f : Nat → Int) (n : Nat) (gap room : Int) (wrap : Bool) : List (Nat × Nat) := if splitE f n gap room = 0 then linesA f gap room wrap n 0 else []
end Go.Proofs.Ytpjhhndjbpegcaa
