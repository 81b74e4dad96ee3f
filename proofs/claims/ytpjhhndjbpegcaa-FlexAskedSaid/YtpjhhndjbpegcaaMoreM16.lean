/-
  The sizes of boxes that grow and shrink: there is one outcome; stiff boxes; what is around contents. Mathematics.
-/
import Derived.Test.YtpjhhndjbpegcaaSizesM16
namespace Go.Proofs.Ytpjhhndjbpegcaa

theorem outR_same {l : List It16} {n : Nat} {out : Nat → Int} {S : Nat → Bool} {X Y : Nat → Int} (hS : ∀ i, n ≤ i → S i = true) (e : ∀ i, i < n → X i = Y i) : outR l out S X = outR l out S Y ∧ chR l S X = chR l S Y ∧ setR l n S X = setR l n S Y := by
  have h1 : outR l out S X = outR l out S Y := by
    funext i
    unfold outR
    rcases Nat.lt_or_ge i n with h | h
    · rw [e i h]
    · rw [if_pos (hS i h), if_pos (hS i h)]
  have h2 : chR l S X = chR l S Y := by
    funext i
    unfold chR
    rcases Nat.lt_or_ge i n with h | h
    · rw [e i h]
    · rw [if_pos (hS i h), if_pos (hS i h)]
  refine ⟨h1, h2, ?_⟩
  funext i
  unfold setR
  rw [h2]
/-- **there is one outcome** -/
theorem Runs.uniq {l : List It16} {n : Nat} {g : Bool} {R : Int} {out : Nat → Int} {S : Nat → Bool} {r : Option (Nat → Int)} (h : Runs l n g R out S r) : (∀ i, n ≤ i → S i = true) → ∀ {r' : Option (Nat → Int)}, Runs l n g R out S r' → r = r' := by
  induction h with
  | done out S hs =>
    intro _ r' h'
    cases h' with
    | done => rfl
    | far _ _ hx _ => obtain ⟨i, hi, e⟩ := hx; rw [hs i hi] at e; cases e
    | round _ _ _ _ hx _ _ _ => obtain ⟨i, hi, e⟩ := hx; rw [hs i hi] at e; cases e
  | far out S hs hf =>
    intro _ r' h'
    cases h' with
    | done _ _ hx => obtain ⟨i, hi, e⟩ := hs; rw [hx i hi] at e; cases e
    | far => rfl
    | round _ _ _ _ _ hx _ _ => exact absurd hx hf
  | round out S X r hs hf hX hr ih =>
    intro hS r' h'
    cases h' with
    | done _ _ hx => obtain ⟨i, hi, e⟩ := hs; rw [hx i hi] at e; cases e
    | far _ _ _ hx => exact absurd hf hx
    | round _ _ Y _ _ _ hY hr' =>
      obtain ⟨e1, -, e3⟩ := outR_same (l := l) (out := out) hS (ShareOf.uniq hX hY)
      rw [← e1, ← e3] at hr'
      exact ih (fun i hi => by unfold setR; rw [hS i hi]; rfl) hr'
theorem itA_far {l : List It16} {i : Nat} (h : l.length ≤ i) : itA l i = itZ := by
  unfold itA
  rw [List.getElem?_eq_none h]
  rfl
theorem set0_far {l : List It16} {g : Bool} {i : Nat} (h : l.length ≤ i) : set0 l g i = true := by
  unfold set0
  rw [itA_far h]
  cases g <;> rfl
/-- boxes that differ in what is around them alone -/
def SameI (x y : It16) : Prop := x.base = y.base ∧ x.least = y.least ∧ x.most = y.most ∧ x.grow = y.grow ∧ x.shrink = y.shrink
theorem SameI.c {x y : It16} (h : SameI x y) : cI x = cI y ∧ firstI x = firstI y ∧ x.base = y.base ∧ ∀ g, wI g x = wI g y := by
  obtain ⟨h1, h2, h3, h4, h5⟩ := h
  have hc : cI x = cI y := by funext z; unfold cI; rw [h2, h3]
  refine ⟨hc, by unfold firstI; rw [hc, h1], h1, fun g => by unfold wI; rw [h1, h4, h5]⟩
theorem Runs.same {l m : List It16} (hs : ∀ i, SameI (itA l i) (itA m i)) {n : Nat} {g : Bool} {R : Int} {out : Nat → Int} {S : Nat → Bool} {r : Option (Nat → Int)} (h : Runs l n g R out S r) : Runs m n g R out S r := by
  have e0 : ∀ out S, left0 l n R out S = left0 m n R out S := fun out S => by
    unfold left0
    congr 2
    funext i
    rw [(hs i).c.2.2.1]
  have e1 : ∀ S, wsR l g S = wsR m g S := fun S => by funext i; unfold wsR; rw [(hs i).c.2.2.2]
  have e2 : ∀ out S X, outR l out S X = outR m out S X := fun out S X => by funext i; unfold outR; rw [(hs i).c.1, (hs i).c.2.2.1]
  have e3 : ∀ S X, chR l S X = chR m S X := fun S X => by funext i; unfold chR; rw [(hs i).c.1, (hs i).c.2.2.1]
  have e4 : ∀ S X, setR l n S X = setR m n S X := fun S X => by funext i; unfold setR; rw [e3]
  induction h with
  | done out S h => exact .done out S h
  | far out S h hf => exact .far out S h (by rw [← e0]; exact hf)
  | round out S X r h hf hX hr ih =>
    refine .round out S X r h (by rw [← e0]; exact hf) (by rw [← e0, ← e1]; exact hX) ?_
    rw [← e2, ← e4]
    exact ih
theorem out0_same {l m : List It16} (hs : ∀ i, SameI (itA l i) (itA m i)) : out0 l = out0 m := by funext i; exact (hs i).c.2.1
theorem set0_same {l m : List It16} (hs : ∀ i, SameI (itA l i) (itA m i)) (g : Bool) : set0 l g = set0 m g := by
  funext i
  have h := hs i
  unfold set0
  rw [h.c.2.1, h.c.2.2.1, h.2.2.2.1, h.2.2.2.2]
/-- numbers none of which is above others, and that are as many together, are the same -/
theorem sumB_eq {f g : Nat → Int} : ∀ {n : Nat}, (∀ i, i < n → f i ≤ g i) → sumB g n ≤ sumB f n → ∀ i, i < n → f i = g i
  | 0, _, _ => fun i hi => absurd hi (by omega)
  | n + 1, h, hs => fun i hi => by
    have h1 := sumB_le (f := f) (g := g) (n := n) (fun j hj => h j (by omega))
    have h2 := h n (by omega)
    rw [sumB, sumB] at hs
    by_cases e : i = n
    · subst e; omega
    · exact sumB_eq (n := n) (fun j hj => h j (by omega)) (by omega) i (by omega)
/-- boxes whose first sizes fill the room -/
theorem stiff16 {l : List It16} {n : Nat} {gap : Int} (hn : n ≤ 100) (hgap : 0 ≤ gap ∧ gap ≤ 268435456) (hroom : 0 ≤ allI l n + aroundI l gap n) (hI : ∀ i, i < n → NearI (itA l i)) {r : Option (Nat → Int)}
    (hr : Runs l n (growI l n gap (allI l n + aroundI l gap n)) (allI l n + aroundI l gap n - aroundI l gap n) (out0 l) (set0 l (growI l n gap (allI l n + aroundI l gap n))) r) :
    ∃ o, r = some o ∧ ∀ i, i < n → o i = firstI (itA l i) := by
  have hb := around_bd hn hgap hI
  have ha := sumB_bd (f := fun i => firstI (itA l i)) (c := 268435456) (n := n) (fun i hi => by have := (hI i hi).first; omega)
  have hg : growI l n gap (allI l n + aroundI l gap n) = false := by unfold growI; simp
  obtain ⟨o, h1, -, h3, -, h5, -⟩ := sizes16 hn hgap ⟨hroom, by unfold allI; omega⟩ hI hr
  refine ⟨o, h1, sumB_eq (fun i hi => (h5 hg i hi).1) ?_⟩
  have := (h3 hg).1
  unfold allI at this
  omega
end Go.Proofs.Ytpjhhndjbpegcaa
