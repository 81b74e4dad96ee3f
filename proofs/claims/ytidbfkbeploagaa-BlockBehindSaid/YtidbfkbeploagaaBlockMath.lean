/-
  Boxes one below the other: mathematics.
-/
import Derived.Test.YtidbfkbeploagaaMarginMath
import Derived.Test.YtidbfkbeploagaaFits
namespace Go.Proofs.Ytidbfkbeploagaa
open Go.RowKit

/-- a kid -/
structure Kd where
  t : Mg
  b : Mg
  h : Int
  thr : Bool
def kdZ : Kd := ⟨mgZ, mgZ, 0, false⟩
def kAt (l : List Kd) (i : Nat) : Kd := l[i]?.getD kdZ
theorem kAt_get {l : List Kd} {i : Nat} (h : i < l.length) : kAt l i = l[i] := by
  unfold kAt
  rw [List.getElem?_eq_getElem h]
  rfl
def BadK (k : Kd) : Prop := k.h < 0 ∨ (k.thr = true ∧ k.h ≠ 0) ∨ k.t.1 < 0 ∨ 0 < k.t.2 ∨ k.b.1 < 0 ∨ 0 < k.b.2
instance (k : Kd) : Decidable (BadK k) := by unfold BadK; infer_instance
def FitK (k : Kd) : Prop := Fit k.h ∧ Fit k.t.1 ∧ Fit k.t.2 ∧ Fit k.b.1 ∧ Fit k.b.2
instance (k : Kd) : Decidable (FitK k) := by unfold FitK; infer_instance
structure GoodK (k : Kd) : Prop where
  h : 0 ≤ k.h ∧ k.h ≤ 1099511627776
  t : MayM k.t
  b : MayM k.b
  thr : k.thr = true → k.h = 0
theorem good_kid {k : Kd} (h1 : ¬ BadK k) (h2 : FitK k) : GoodK k := by
  obtain ⟨f0, f1, f2, f3, f4⟩ := h2
  unfold Fit at f0 f1 f2 f3 f4
  unfold BadK at h1
  have a1 : ¬ k.h < 0 := fun c => h1 (.inl c)
  have a2 : ¬ k.t.1 < 0 := fun c => h1 (.inr (.inr (.inl c)))
  have a3 : ¬ 0 < k.t.2 := fun c => h1 (.inr (.inr (.inr (.inl c))))
  have a4 : ¬ k.b.1 < 0 := fun c => h1 (.inr (.inr (.inr (.inr (.inl c)))))
  have a5 : ¬ 0 < k.b.2 := fun c => h1 (.inr (.inr (.inr (.inr (.inr c)))))
  refine ⟨by omega, ?_, ?_, fun ht => ?_⟩
  · unfold MayM; omega
  · unfold MayM; omega
  · by_cases e : k.h = 0
    · exact e
    · exact absurd (.inr (.inl ⟨ht, e⟩)) h1
/-- the error of what is handed in -/
def askedE (l : List Kd) : Int := if 2048 < l.length then 2 else if ∃ k ∈ l, BadK k then 2 else if ∃ k ∈ l, ¬ FitK k then 10 else 0
theorem askedE_ok {l : List Kd} (h : askedE l = 0) : l.length ≤ 2048 ∧ ∀ k ∈ l, GoodK k := by
  unfold askedE at h
  split at h
  · cases h
  · split at h
    · cases h
    · split at h
      · cases h
      · next h1 h2 h3 =>
        refine ⟨by omega, fun k hk => good_kid (fun c => h2 ⟨k, hk, c⟩) ?_⟩
        by_cases c : FitK k
        · exact c
        · exact absurd ⟨k, hk, c⟩ h3
theorem askedE_of {l : List Kd} (h : l.length ≤ 2048) (hg : ∀ k ∈ l, GoodK k) : askedE l = 0 := by
  unfold askedE
  rw [if_neg (by omega), if_neg, if_neg]
  · rintro ⟨k, hk, c⟩
    have := hg k hk
    refine c ⟨?_, ?_, ?_, ?_, ?_⟩
    · have := this.h; unfold Fit; omega
    · have := this.t.1; unfold Fit; omega
    · have := this.t.2; unfold Fit; omega
    · have := this.b.1; unfold Fit; omega
    · have := this.b.2; unfold Fit; omega
  · rintro ⟨k, hk, c⟩
    have g := hg k hk
    have g1 := g.h
    have g2 := g.t
    have g3 := g.b
    unfold MayM at g2 g3
    rcases c with c | ⟨c1, c2⟩ | c | c | c | c
    · omega
    · exact c2 (g.thr c1)
    · omega
    · omega
    · omega
    · omega
/-- where it stands: how far down, what waits, whether it is outside still, the box's Top -/
structure St where
  y : Int
  wt : Mg
  out : Bool
  top : Mg
def atS (s : St) (k : Kd) : Int := if s.out = true then s.y else s.y + (mjoin s.wt k.t).1 + (mjoin s.wt k.t).2
def stepS (s : St) (k : Kd) : St :=
  if k.thr = true then ⟨s.y, mjoin (mjoin s.wt k.t) k.b, s.out, s.top⟩ else ⟨atS s k + k.h, k.b, false, if s.out = true then mjoin s.wt k.t else s.top⟩
def startS (above : Bool) : St := ⟨0, mgZ, above, mgZ⟩
/-- behind the first so many -/
def runS (s : St) (l : List Kd) : St := l.foldl stepS s
/-- where they stand -/
def atsS (s : St) : List Kd → List Int
  | [] => []
  | k :: l => atS s k :: atsS (stepS s k) l
theorem runS_snoc (s : St) (l : List Kd) (k : Kd) : runS s (l ++ [k]) = stepS (runS s l) k := by unfold runS; rw [List.foldl_append]; rfl
theorem atsS_append (s : St) (l m : List Kd) : atsS s (l ++ m) = atsS s l ++ atsS (runS s l) m := by
  induction l generalizing s with
  | nil => rfl
  | cons k l ih =>
    show atS s k :: atsS (stepS s k) (l ++ m) = _
    rw [ih]
    rfl
theorem atsS_snoc (s : St) (l : List Kd) (k : Kd) : atsS s (l ++ [k]) = atsS s l ++ [atS (runS s l) k] := atsS_append s l [k]
theorem atsS_len (s : St) (l : List Kd) : (atsS s l).length = l.length := by
  induction l generalizing s with
  | nil => rfl
  | cons k l ih => show (atsS (stepS s k) l).length + 1 = _; rw [ih]; rfl
/-- what is told -/
structure Sk where
  ats : List Int
  h : Int
  top : Mg
  bot : Mg
  thr : Bool
def skZ : Sk := ⟨[], 0, mgZ, mgZ, false⟩
def downS (s : St) (below : Bool) : Int := if below = true then s.y else s.y + s.wt.1 + s.wt.2
def endS (s : St) (ats : List Int) (below : Bool) : Sk :=
  if s.out = true then ⟨ats, 0, s.wt, mgZ, below⟩
  else ⟨ats, if 0 < downS s below then downS s below else 0, s.top, if below = true then s.wt else mgZ, false⟩
def toldS (l : List Kd) (above below : Bool) : Sk := endS (runS (startS above) l) (atsS (startS above) l) below
def FitS (r : Sk) : Prop := (∀ a ∈ r.ats, Fit a) ∧ Fit r.h
instance (r : Sk) : Decidable (FitS r) := by unfold FitS; infer_instance
/-- what Stack answers -/
def stackA (l : List Kd) (above below : Bool) : Sk × Int :=
  if askedE l ≠ 0 then (skZ, askedE l) else if FitS (toldS l above below) then (toldS l above below, 0) else (skZ, 10)
/-- how far it goes -/
structure StB (n : Int) (s : St) : Prop where
  y : -(n * 4398046511104) ≤ s.y ∧ s.y ≤ n * 4398046511104
  wt : MayM s.wt
  top : MayM s.top
theorem start_bd (above : Bool) : StB 0 (startS above) := ⟨by unfold startS; dsimp only; omega, mgZ_may, mgZ_may⟩
theorem at_bd {n : Int} {s : St} {k : Kd} (hs : StB n s) (hk : GoodK k) : -(n * 4398046511104) - 1099511627776 ≤ atS s k ∧ atS s k ≤ n * 4398046511104 + 1099511627776 := by
  have h1 := hs.y
  have h2 := mjoin_may hs.wt hk.t
  unfold MayM at h2
  unfold atS
  split <;> omega
theorem step_bd {n : Int} {s : St} {k : Kd} (hs : StB n s) (hk : GoodK k) : StB (n + 1) (stepS s k) := by
  have h1 := hs.y
  have h2 := mjoin_may hs.wt hk.t
  have h3 := at_bd hs hk
  have h4 := hk.h
  unfold stepS
  split
  · exact ⟨by dsimp only; rw [Int.add_mul]; omega, mjoin_may h2 hk.b, hs.top⟩
  · refine ⟨by dsimp only; rw [Int.add_mul]; omega, hk.b, ?_⟩
    dsimp only
    split
    · exact h2
    · exact hs.top
theorem run_bd {l : List Kd} (hg : ∀ k ∈ l, GoodK k) {n : Int} {s : St} (hs : StB n s) : StB (n + l.length) (runS s l) := by
  induction l generalizing n s with
  | nil => simpa [runS] using hs
  | cons k l ih =>
    have h := ih (fun x hx => hg x (by simp [hx])) (step_bd hs (hg k (by simp)))
    have e : n + ((k :: l).length : Int) = n + 1 + (l.length : Int) := by rw [List.length_cons]; omega
    rw [e]
    exact h
end Go.Proofs.Ytidbfkbeploagaa
