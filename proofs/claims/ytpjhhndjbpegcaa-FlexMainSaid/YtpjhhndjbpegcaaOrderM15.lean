/-
  Places in the order of their numbers, of equal ones as they stand: there is one such order, and to choose the least again and again comes to it. Plain mathematics.
-/
import Derived.Test.YtpjhhndjbpegcaaStableMath
namespace Go.Proofs.Ytpjhhndjbpegcaa

/-- places in their order -/
def OrdZ (f : Nat → Int) (q : Nat → Nat) (n : Nat) : Prop := Ordered (fun i => - f i) q n
theorem OrdZ.rise {f : Nat → Int} {q : Nat → Nat} {n : Nat} (h : OrdZ f q n) {j k : Nat} (hjk : j < k) (hk : k < n) : f (q j) < f (q k) ∨ (f (q j) = f (q k) ∧ q j < q k) := by
  have t := h.2.2 j k (Nat.zero_le _) hjk hk
  unfold T at t
  dsimp only at t
  omega
theorem OrdZ.lt {f : Nat → Int} {q : Nat → Nat} {n : Nat} (h : OrdZ f q n) {j : Nat} (hj : j < n) : q j < n := h.2.1 j hj
theorem OrdZ.inj {f : Nat → Int} {q : Nat → Nat} {n : Nat} (h : OrdZ f q n) {j k : Nat} (hj : j < n) (hk : k < n) (e : q j = q k) : j = k := by
  rcases Nat.lt_trichotomy j k with c | c | c
  · have := h.rise c hk; rw [e] at this; omega
  · exact c
  · have := h.rise c hj; rw [e] at this; omega
theorem OrdZ.uniq {f : Nat → Int} {q r : Nat → Nat} {n : Nat} (h : OrdZ f q n) (k : OrdZ f r n) : ∀ m, m < n → q m = r m := by
  intro m
  induction m using Nat.strongRecOn with
  | ind m ih =>
    intro hm
    obtain ⟨a, ha, ea⟩ := h.1 (r m) (k.2.1 m hm)
    obtain ⟨b, hb, eb⟩ := k.1 (q m) (h.2.1 m hm)
    rcases Nat.lt_trichotomy a m with c | c | c
    · have := ih a c ha
      have := k.inj ha hm (by rw [← this, ea])
      omega
    · rw [← ea, c]
    · rcases Nat.lt_trichotomy b m with d | d | d
      · have := ih b d hb
        have := h.inj hb hm (by rw [this, eb])
        omega
      · rw [← eb, d]
      · have t1 := h.rise c ha
        have t2 := k.rise d hb
        rw [ea] at t1
        rw [eb] at t2
        omega
theorem OrdZ.congr {f g : Nat → Int} {q : Nat → Nat} {n : Nat} (h : OrdZ f q n) (e : ∀ i, i < n → f i = g i) : OrdZ g q n := by
  refine ⟨h.1, h.2.1, fun j k hj hjk hk => ?_⟩
  have t := h.2.2 j k hj hjk hk
  have e1 := e (q j) (h.2.1 j (by omega))
  have e2 := e (q k) (h.2.1 k hk)
  unfold T at t ⊢
  dsimp only at t ⊢
  omega
theorem ins_ex15 (L : Nat → Int) {p : Nat → Nat} {i : Nat} : ∀ (j : Nat) {q : Nat → Nat}, j ≤ i → InsI L p q 0 i j → ∃ r, InsO L p r 0 (i + 1)
  | 0, q, hj, h => ⟨q, h.stop (Nat.le_refl _) hj (.inl rfl)⟩
  | j + 1, q, hj, h => by
    by_cases hl : L (q (j + 1 - 1)) < L (q (j + 1))
    · exact ins_ex15 L j (by omega) (h.step (by omega) hj hl)
    · exact ⟨q, h.stop (Nat.zero_le _) hj (.inr hl)⟩
theorem insO_ex15 (L : Nat → Int) (n : Nat) : ∀ k, k < n → ∃ q, InsO L (fun i => i) q 0 (k + 1)
  | 0, _ => ⟨_, InsO.start L _ 0⟩
  | k + 1, hk => by
    obtain ⟨q, h⟩ := insO_ex15 L n k (by omega)
    exact ins_ex15 L (k + 1) (Nat.le_refl _) (InsI.start (b := n) (fun j m _ h _ => h) ⟨by omega, hk⟩ h)
theorem ordZ_ex (f : Nat → Int) (n : Nat) : ∃ q, OrdZ f q n := by
  rcases Nat.eq_zero_or_pos n with rfl | hn
  · exact ⟨fun i => i, fun k hk => absurd hk (by omega), fun k hk => absurd hk (by omega), fun j k _ _ hk => absurd hk (by omega)⟩
  · obtain ⟨q, h1, h2⟩ := insO_ex15 (fun i => - f i) n (n - 1) (by omega)
    rw [show n - 1 + 1 = n by omega] at h1 h2
    refine ⟨q, fun k hk => ?_, fun k hk => ?_, h2⟩
    · obtain ⟨m, _, hm, e⟩ := h1.2.2 k (Nat.zero_le _) hk
      exact ⟨m, hm, e.symm⟩
    · obtain ⟨m, _, hm, e⟩ := h1.2.1 k (Nat.zero_le _) hk
      rw [e]; exact hm
/-- has a place been told, among the first so many of the order? -/
def toldQ (q : Nat → Nat) (k i : Nat) : Bool := (List.range k).any (fun m => q m == i)
theorem toldQ_iff {q : Nat → Nat} {k i : Nat} : toldQ q k i = true ↔ ∃ m, m < k ∧ q m = i := by simp [toldQ]
theorem toldQ_zero (q : Nat → Nat) (i : Nat) : toldQ q 0 i = false := rfl
theorem toldQ_succ (q : Nat → Nat) (k i : Nat) : toldQ q (k + 1) i = (toldQ q k i || decide (i = q k)) := by
  unfold toldQ
  rw [List.range_succ, List.any_append]
  simp only [List.any_cons, List.any_nil, Bool.or_false]
  congr 1
  by_cases h : i = q k
  · simp [h]
  · simp [h, Ne.symm h]
/-- the best among the first so many that aren't told -/
def BestQ (f : Nat → Int) (q : Nat → Nat) (k m : Nat) (v : Int) : Prop :=
  (v = -1 ∧ ∀ i, i < m → toldQ q k i = true) ∨ ∃ b : Nat, v = b ∧ b < m ∧ toldQ q k b = false ∧ ∀ i, i < m → toldQ q k i = false → f b < f i ∨ (f b = f i ∧ b ≤ i)
theorem BestQ.zero (f : Nat → Int) (q : Nat → Nat) (k : Nat) : BestQ f q k 0 (-1) := .inl ⟨rfl, fun i hi => absurd hi (by omega)⟩
theorem BestQ.told {f : Nat → Int} {q : Nat → Nat} {k m : Nat} {v : Int} (h : BestQ f q k m v) (ht : toldQ q k m = true) : BestQ f q k (m + 1) v := by
  rcases h with ⟨h1, h2⟩ | ⟨b, h1, h2, h3, h4⟩
  · exact .inl ⟨h1, fun i hi => by
      by_cases e : i = m
      · rw [e]; exact ht
      · exact h2 i (by omega)⟩
  · exact .inr ⟨b, h1, by omega, h3, fun i hi hn => by
      by_cases e : i = m
      · rw [e, ht] at hn; cases hn
      · exact h4 i (by omega) hn⟩
theorem BestQ.first {f : Nat → Int} {q : Nat → Nat} {k m : Nat} (h : BestQ f q k m (-1)) (ht : toldQ q k m = false) : BestQ f q k (m + 1) m := by
  rcases h with ⟨-, h2⟩ | ⟨b, h1, -⟩
  · exact .inr ⟨m, rfl, by omega, ht, fun i hi hn => by
      by_cases e : i = m
      · rw [e]; omega
      · rw [h2 i (by omega)] at hn; cases hn⟩
  · omega
theorem BestQ.less {f : Nat → Int} {q : Nat → Nat} {k m b : Nat} (h : BestQ f q k m b) (ht : toldQ q k m = false) (hl : f m < f b) : BestQ f q k (m + 1) m := by
  rcases h with ⟨h1, -⟩ | ⟨b', h1, h2, h3, h4⟩
  · omega
  · obtain rfl : b = b' := by omega
    exact .inr ⟨m, rfl, by omega, ht, fun i hi hn => by
      by_cases e : i = m
      · rw [e]; omega
      · have := h4 i (by omega) hn
        omega⟩
theorem BestQ.stay {f : Nat → Int} {q : Nat → Nat} {k m b : Nat} (h : BestQ f q k m b) (hl : f b ≤ f m) : BestQ f q k (m + 1) b := by
  rcases h with ⟨h1, -⟩ | ⟨b', h1, h2, h3, h4⟩
  · omega
  · obtain rfl : b = b' := by omega
    exact .inr ⟨b, rfl, by omega, h3, fun i hi hn => by
      by_cases e : i = m
      · rw [e]; omega
      · exact h4 i (by omega) hn⟩
theorem BestQ.done {f : Nat → Int} {q : Nat → Nat} {n k : Nat} {v : Int} (h : BestQ f q k n v) (ho : OrdZ f q n) (hk : k < n) : v = (q k : Nat) := by
  have un : toldQ q k (q k) = false := by
    cases e : toldQ q k (q k)
    · rfl
    · obtain ⟨m, hm, e⟩ := toldQ_iff.1 e
      have := ho.inj (by omega) hk e
      omega
  rcases h with ⟨-, h2⟩ | ⟨b, h1, h2, h3, h4⟩
  · rw [h2 _ (ho.lt hk)] at un; cases un
  · obtain ⟨m, hm, e⟩ := ho.1 b h2
    have hmk : k ≤ m := by
      rcases Nat.lt_or_ge m k with c | c
      · have := toldQ_iff.2 ⟨m, c, e⟩
        rw [this] at h3; cases h3
      · exact c
    rcases Nat.lt_or_ge k m with c | c
    · have t := ho.rise c hm
      have u := h4 _ (ho.lt hk) un
      rw [e] at t
      omega
    · obtain rfl : m = k := by omega
      rw [h1, e]
/-- the places so far, as numbers -/
def firstQ (q : Nat → Nat) (k : Nat) : List Int := (List.range k).map (fun m => (q m : Int))
theorem firstQ_len (q : Nat → Nat) (k : Nat) : (firstQ q k).length = k := by simp [firstQ]
theorem firstQ_succ (q : Nat → Nat) (k : Nat) : firstQ q (k + 1) = firstQ q k ++ [(q k : Int)] := by simp [firstQ, List.range_succ]
theorem firstQ_get (q : Nat → Nat) {k m : Nat} (h : m < k) : (firstQ q k)[m]? = some (q m : Int) := by simp [firstQ, h]
end Go.Proofs.Ytpjhhndjbpegcaa
