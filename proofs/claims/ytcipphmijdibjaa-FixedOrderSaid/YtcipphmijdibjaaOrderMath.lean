/-
  Sums in another order; three rows of the call's own that grow side by side.
-/
import Derived.Test.YtcipphmijdibjaaFixedBack
import Derived.Maps.AppendAt
namespace Go.Proofs.Ytcipphmijdibjaa
open Go.RowKit

theorem sumI_add (f : Nat → Int) (a b : Nat) : sumI f (a + b) = sumI f a + sumI (fun i => f (a + i)) b := by
  induction b with
  | zero => simp [sumI]
  | succ b ih => rw [← Nat.add_assoc, sumI, ih, sumI]; omega
theorem sumI_congr {f g : Nat → Int} {k : Nat} (h : ∀ i, i < k → f i = g i) : sumI f k = sumI g k := by
  induction k with
  | zero => rfl
  | succ k ih => rw [sumI, sumI, ih (fun i hi => h i (by omega)), h k (by omega)]
/-- the numbers read from another one on -/
def turned (g : Nat → Int) (n p : Nat) (i : Nat) : Int := g ((p + i) % n)
/-- the numbers, each with the opposite of one from behind -/
def paired (g : Nat → Int) (n : Nat) (i : Nat) : Int := if i % 2 = 0 then g (i / 2) else - g (n - 1 - i / 2)
theorem sum_turned (g : Nat → Int) {n p : Nat} (hp : p < n) : sumI (turned g n p) n = sumI g n := by
  obtain ⟨m, rfl⟩ : ∃ m, n = p + m := ⟨n - p, by omega⟩
  have e1 : sumI (turned g (p + m) p) m = sumI (fun i => g (p + i)) m := sumI_congr fun i hi => by
    unfold turned; rw [Nat.mod_eq_of_lt (by omega)]
  have e2 : sumI (fun i => turned g (p + m) p (m + i)) p = sumI g p := sumI_congr fun i hi => by
    unfold turned
    rw [show p + (m + i) = i + (p + m) by omega, Nat.add_mod_right, Nat.mod_eq_of_lt (by omega)]
  rw [show sumI (turned g (p + m) p) (p + m) = sumI (turned g (p + m) p) (m + p) by rw [Nat.add_comm], sumI_add, e1, e2, sumI_add]
  omega
theorem sum_back (g : Nat → Int) (n : Nat) : sumI (fun i => g (n - 1 - i)) n = sumI g n := by
  induction n with
  | zero => rfl
  | succ n ih =>
    have h := sumI_add (fun i => g (n + 1 - 1 - i)) 1 n
    rw [Nat.add_comm 1 n] at h
    rw [h, sumI]
    have e : sumI (fun i => g (n + 1 - 1 - (1 + i))) n = sumI (fun i => g (n - 1 - i)) n := sumI_congr fun i _ => by congr 1; omega
    rw [e, ih]
    simp [sumI]; omega
theorem sum_paired (g : Nat → Int) (n k : Nat) : sumI (paired g n) (2 * k) = sumI g k - sumI (fun i => g (n - 1 - i)) k := by
  induction k with
  | zero => simp [sumI]
  | succ k ih =>
    rw [show 2 * (k + 1) = 2 * k + 1 + 1 by omega, sumI, sumI, ih, sumI, sumI]
    have e1 : paired g n (2 * k) = g k := by unfold paired; rw [if_pos (by omega)]; congr 1; omega
    have e2 : paired g n (2 * k + 1) = - g (n - 1 - k) := by unfold paired; rw [if_neg (by omega)]; congr 2; omega
    rw [e1, e2]; omega
theorem sum_paired_zero (g : Nat → Int) (n : Nat) : sumI (paired g n) (2 * n) = 0 := by rw [sum_paired, sum_back]; omega

theorem res_turned (g : Nat → Int) (hg : ∀ i, Fit (g i)) {n p : Nat} (hp : p < n) : addRes (turned g n p) n = addRes g n := by
  have e1 : allFit (turned g n p) n = true := by simp only [allFit, decide_eq_true_eq]; exact fun i _ => hg _
  have e2 : allFit g n = true := by simp only [allFit, decide_eq_true_eq]; exact fun i _ => hg _
  simp only [addRes, e1, e2, if_true, sum_turned g hp]
theorem res_paired (g : Nat → Int) (hg : ∀ i, Fit (g i)) (n : Nat) : addRes (paired g n) (2 * n) = (0, 0) := by
  have e1 : allFit (paired g n) (2 * n) = true := by
    simp only [allFit, decide_eq_true_eq]
    intro i _
    unfold paired
    split
    · exact hg _
    · have := hg (n - 1 - i / 2); unfold Fit at *; omega
  simp only [addRes, e1, if_true, sum_paired_zero]
  rfl
theorem res_cases (g : Nat → Int) (hg : ∀ i, Fit (g i)) (n : Nat) : (addRes g n).2 = 0 ∨ (addRes g n).2 = 10 := by
  have e2 : allFit g n = true := by simp only [allFit, decide_eq_true_eq]; exact fun i _ => hg _
  simp only [addRes, e2, if_true, pair]
  split
  · exact .inl rfl
  · exact .inr rfl

/-- An owned row of integers. -/
def ownsI (w : World) (base : Nat) (v : Value) (l : List Int) : Prop := w.ownsRow base 3 1 v l.length (l.map (Value.int .i64))
def sep (x y : Value) : Prop := ∀ g, x.ownBlock = some g → y.ownBlock = some g → False
structure Tri (w : World) (base : Nat) (va vb vc : Value) (la lb lc : List Int) : Prop where
  a : ownsI w base va la
  b : ownsI w base vb lb
  c : ownsI w base vc lc
  ab : sep va vb
  bc : sep vb vc
  ca : sep vc va
theorem sep.symm {x y : Value} (h : sep x y) : sep y x := fun g h1 h2 => h g h2 h1
section
variable {w w' : World} {base : Nat} {va vb vc va' : Value} {la lb lc la' : List Int}
theorem Tri.nil (w : World) (base : Nat) : Tri w base (.slice none 0 0) (.slice none 0 0) (.slice none 0 0) [] [] [] :=
  ⟨World.ownsRow_nil _ _ _ _, World.ownsRow_nil _ _ _ _, World.ownsRow_nil _ _ _ _, fun g h => by simp [Value.ownBlock] at h, fun g h => by simp [Value.ownBlock] at h, fun g h => by simp [Value.ownBlock] at h⟩
theorem Tri.rot (h : Tri w base va vb vc la lb lc) : Tri w base vb vc va lb lc la := ⟨h.b, h.c, h.a, h.bc, h.ca, h.ab⟩
theorem Tri.alloc (h : Tri w base va vb vc la lb lc) (o : Obj) : Tri (w.alloc o) base va vb vc la lb lc := ⟨World.ownsRow.alloc h.a o, World.ownsRow.alloc h.b o, World.ownsRow.alloc h.c o, h.ab, h.bc, h.ca⟩
theorem Tri.drew (h : Tri w base va vb vc la lb lc) : Tri w.drew base va vb vc la lb lc := ⟨h.a, h.b, h.c, h.ab, h.bc, h.ca⟩
theorem keep_sep {v : Value} {l : List Int} (h : ownsI w base v l) (hg : w.grownBy w' va.ownBlock) (hs : sep v va) : ownsI w' base v l := by
  refine World.ownsRow.kept h hg ?_
  cases hv : v.ownBlock with
  | none => exact .inl rfl
  | some g => exact .inr (fun e => hs g hv e.symm)
theorem Tri.step (h : Tri w base va vb vc la lb lc) (ho : ownsI w' base va' la') (hg : w.grownBy w' va.ownBlock) (hat : va'.ownBlock = va.ownBlock ∨ va'.ownBlock = some w.heap.size) : Tri w' base va' vb vc la' lb lc := by
  have far : ∀ {v : Value} {l : List Int}, ownsI w base v l → sep v va → sep v va' := by
    intro v l hv hs g h1 h2
    rcases hat with e | e
    · exact hs g h1 (e ▸ h2)
    · have := (World.ownsRow.lt hv g h1).2
      rw [e] at h2; injection h2; omega
  exact ⟨ho, keep_sep h.b hg h.ab.symm, keep_sep h.c hg h.ca, (far h.b h.ab.symm).symm, h.bc, far h.c h.ca⟩
theorem Tri.below (h : Tri w base va vb vc la lb lc) (hg : w.grownBy w' va.ownBlock) (hb : base ≤ w.heap.size) : Below base w w' :=
  (Below.refl _ _).grown hg hb (fun k e => (World.ownsRow.lt h.a k e).1)
end
theorem ownsI.form {w : World} {base : Nat} {v : Value} {l : List Int} (h : ownsI w base v l) (hl : ∀ x ∈ l, -9223372036854775808 ≤ x ∧ x ≤ 9223372036854775807) :
    ∃ A c, v = .slice A l.length c ∧ Ints w A l.length (fun i => l.getD i 0) := by
  have hg : ∀ i, i < l.length → l[i]? = some (l.getD i 0) := fun i hi => by simp [hi]
  have hb : ∀ i, i < l.length → -9223372036854775808 ≤ l.getD i 0 ∧ l.getD i 0 ≤ 9223372036854775807 := fun i hi => hl _ (List.mem_of_getElem? (hg i hi))
  rcases h.2 with ⟨e, e0⟩ | ⟨g, cap, cur, e, _⟩
  · exact ⟨none, 0, by rw [e, e0], by rw [e0]; exact Ints.zero _ _⟩
  · subst e
    exact ⟨some ⟨g, 0, none⟩, cap, rfl, Ints.of_own h hg hb⟩
theorem range_get (f : Nat → Int) {n i : Nat} (h : i < n) : ((List.range n).map f).getD i 0 = f i := by simp [h]
theorem ownsI.ints {w : World} {base n : Nat} {v : Value} {f : Nat → Int} (h : ownsI w base v ((List.range n).map f)) (hf : ∀ i, Fit (f i)) :
    ∃ A c, v = .slice A n c ∧ Ints w A n f := by
  obtain ⟨A, c, e, hI⟩ := h.form (fun x hx => by
    obtain ⟨i, _, rfl⟩ := List.mem_map.1 hx
    have := hf i; unfold Fit at this; omega)
  simp only [List.length_map, List.length_range] at e hI
  exact ⟨A, c, e, hI.congr (fun i hi => range_get f hi)⟩
theorem paired_fit {g : Nat → Int} (hg : ∀ i, Fit (g i)) (n i : Nat) : Fit (paired g n i) := by
  unfold paired
  split
  · exact hg _
  · have := hg (n - 1 - i / 2); unfold Fit at *; omega
theorem paired_even (g : Nat → Int) (n k : Nat) : paired g n (2 * k) = g k := by unfold paired; rw [if_pos (by omega)]; congr 1; omega
theorem paired_odd (g : Nat → Int) (n k : Nat) : paired g n (2 * k + 1) = - g (n - 1 - k) := by unfold paired; rw [if_neg (by omega)]; congr 2; omega
theorem range_snoc (f : Nat → Int) (k : Nat) : (List.range (k + 1)).map f = (List.range k).map f ++ [f k] := by simp [List.range_succ]
theorem range_snoc2 (f : Nat → Int) (k : Nat) : (List.range (2 * (k + 1))).map f = (List.range (2 * k)).map f ++ [f (2 * k), f (2 * k + 1)] := by
  rw [show 2 * (k + 1) = 2 * k + 1 + 1 by omega, range_snoc, range_snoc, List.append_assoc]; rfl
end Go.Proofs.Ytcipphmijdibjaa
