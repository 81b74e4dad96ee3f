/-
  Spots in a line: where they stand: mathematics of rows of widths, heights and ways to stand.
-/
import Derived.Test.YtnhbegdoedbpeaaProg
namespace Go.Proofs.Ytnhbegdoedbpeaa

/-- a spot: how wide, how far above and below its base, how it stands upright -/
abbrev Sp := Int × Int × Int × Nat
/-- a place -/
abbrev Ps := Int × Int
def sp (l : List Sp) (i : Nat) : Sp := l[i]?.getD (0, 0, 0, 0)
def sw (l : List Sp) (i : Nat) : Int := (sp l i).1
def su (l : List Sp) (i : Nat) : Int := (sp l i).2.1
def sd (l : List Sp) (i : Nat) : Int := (sp l i).2.2.1
def sa (l : List Sp) (i : Nat) : Nat := (sp l i).2.2.2
theorem sp_get {l : List Sp} {i : Nat} (h : i < l.length) : sp l i = l[i] := by
  unfold sp
  rw [List.getElem?_eq_getElem h]
  rfl
def sumS (l : List Sp) (k : Nat) : Int := ((l.take k).map (·.1)).sum
theorem sumS_zero (l : List Sp) : sumS l 0 = 0 := rfl
theorem sumS_succ {l : List Sp} {k : Nat} (h : k < l.length) : sumS l (k + 1) = sumS l k + sw l k := by
  unfold sumS sw
  rw [List.take_add_one, List.getElem?_eq_getElem h, sp_get h, List.map_append, List.sum_append]
  simp only [Option.toList, List.map_cons, List.map_nil, List.sum_cons, List.sum_nil, Int.add_zero]
/-- the greatest Up, Down, of so many spots that stand on the base; the height -/
def upS (l : List Sp) (u : Int) : Nat → Int
  | 0 => u
  | k + 1 => if sa l k = 0 ∧ upS l u k < su l k then su l k else upS l u k
def dnS (l : List Sp) (d : Int) : Nat → Int
  | 0 => d
  | k + 1 => if sa l k = 0 ∧ dnS l d k < sd l k then sd l k else dnS l d k
def hS (l : List Sp) (h : Int) : Nat → Int
  | 0 => h
  | k + 1 => if ¬ sa l k = 0 ∧ hS l h k < su l k + sd l k then su l k + sd l k else hS l h k
theorem upS_ge (l : List Sp) (u : Int) (k : Nat) : u ≤ upS l u k ∧ ∀ j, j < k → sa l j = 0 → su l j ≤ upS l u k := by
  induction k with
  | zero => exact ⟨Int.le_refl _, fun j h => absurd h (by omega)⟩
  | succ k ih =>
    have e : upS l u (k + 1) = if sa l k = 0 ∧ upS l u k < su l k then su l k else upS l u k := rfl
    refine ⟨by rw [e]; split <;> omega, fun j hj ha => ?_⟩
    rw [e]
    by_cases c : j = k
    · subst c
      split
      · omega
      · next h => rcases Classical.not_and_iff_not_or_not.1 h with h | h <;> omega
    · have := ih.2 j (by omega) ha
      split <;> omega
theorem upS_at (l : List Sp) (u : Int) (k : Nat) : upS l u k = u ∨ ∃ j, j < k ∧ sa l j = 0 ∧ su l j = upS l u k := by
  induction k with
  | zero => exact .inl rfl
  | succ k ih =>
    have e : upS l u (k + 1) = if sa l k = 0 ∧ upS l u k < su l k then su l k else upS l u k := rfl
    rw [e]
    split
    · next h => exact .inr ⟨k, by omega, h.1, rfl⟩
    · rcases ih with h | ⟨j, h1, h2⟩
      · exact .inl h
      · exact .inr ⟨j, by omega, h2⟩
theorem dnS_ge (l : List Sp) (u : Int) (k : Nat) : u ≤ dnS l u k ∧ ∀ j, j < k → sa l j = 0 → sd l j ≤ dnS l u k := by
  induction k with
  | zero => exact ⟨Int.le_refl _, fun j h => absurd h (by omega)⟩
  | succ k ih =>
    have e : dnS l u (k + 1) = if sa l k = 0 ∧ dnS l u k < sd l k then sd l k else dnS l u k := rfl
    refine ⟨by rw [e]; split <;> omega, fun j hj ha => ?_⟩
    rw [e]
    by_cases c : j = k
    · subst c
      split
      · omega
      · next h => rcases Classical.not_and_iff_not_or_not.1 h with h | h <;> omega
    · have := ih.2 j (by omega) ha
      split <;> omega
theorem dnS_at (l : List Sp) (u : Int) (k : Nat) : dnS l u k = u ∨ ∃ j, j < k ∧ sa l j = 0 ∧ sd l j = dnS l u k := by
  induction k with
  | zero => exact .inl rfl
  | succ k ih =>
    have e : dnS l u (k + 1) = if sa l k = 0 ∧ dnS l u k < sd l k then sd l k else dnS l u k := rfl
    rw [e]
    split
    · next h => exact .inr ⟨k, by omega, h.1, rfl⟩
    · rcases ih with h | ⟨j, h1, h2⟩
      · exact .inl h
      · exact .inr ⟨j, by omega, h2⟩
theorem hS_ge (l : List Sp) (u : Int) (k : Nat) : u ≤ hS l u k ∧ ∀ j, j < k → ¬ sa l j = 0 → su l j + sd l j ≤ hS l u k := by
  induction k with
  | zero => exact ⟨Int.le_refl _, fun j h => absurd h (by omega)⟩
  | succ k ih =>
    have e : hS l u (k + 1) = if ¬ sa l k = 0 ∧ hS l u k < su l k + sd l k then su l k + sd l k else hS l u k := rfl
    refine ⟨by rw [e]; split <;> omega, fun j hj ha => ?_⟩
    rw [e]
    by_cases c : j = k
    · subst c
      split
      · omega
      · next h => rcases Classical.not_and_iff_not_or_not.1 h with h | h <;> omega
    · have := ih.2 j (by omega) ha
      split <;> omega
theorem hS_at (l : List Sp) (u : Int) (k : Nat) : hS l u k = u ∨ ∃ j, j < k ∧ ¬ sa l j = 0 ∧ su l j + sd l j = hS l u k := by
  induction k with
  | zero => exact .inl rfl
  | succ k ih =>
    have e : hS l u (k + 1) = if ¬ sa l k = 0 ∧ hS l u k < su l k + sd l k then su l k + sd l k else hS l u k := rfl
    rw [e]
    split
    · next h => exact .inr ⟨k, by omega, h.1, rfl⟩
    · rcases ih with h | ⟨j, h1, h2⟩
      · exact .inl h
      · exact .inr ⟨j, by omega, h2⟩
/-- the line's base, its height, its lead -/
def baseT (l : List Sp) (u : Int) : Int := upS l u l.length
def heightT (l : List Sp) (u d : Int) : Int := hS l (upS l u l.length + dnS l d l.length) l.length
def restT (l : List Sp) (width : Int) : Int := if width - sumS l l.length < 0 then 0 else width - sumS l l.length
def leadT (l : List Sp) (width : Int) (lines : Nat) : Int := if lines = 0 then 0 else if lines = 2 then restT l width / 2 else restT l width
def xT (l : List Sp) (width : Int) (lines : Nat) (i : Nat) : Int := leadT l width lines + sumS l i
def yT (h b : Int) (s : Sp) : Int := if s.2.2.2 = 2 then h - s.2.1 - s.2.2.1 else if s.2.2.2 = 0 then b - s.2.1 else 0
def placeT (l : List Sp) (u d width : Int) (lines : Nat) (i : Nat) : Ps := (xT l width lines i, yT (heightT l u d) (baseT l u) (sp l i))
def placesT (l : List Sp) (u d width : Int) (lines : Nat) (k : Nat) : List Ps := (List.range k).map (placeT l u d width lines)
theorem placesT_len (l : List Sp) (u d width : Int) (lines k : Nat) : (placesT l u d width lines k).length = k := by simp [placesT]
theorem placesT_get (l : List Sp) (u d width : Int) (lines k : Nat) {i : Nat} (h : i < k) : (placesT l u d width lines k)[i]? = some (placeT l u d width lines i) := by simp [placesT, h]
theorem placesT_succ (l : List Sp) (u d width : Int) (lines k : Nat) : placesT l u d width lines (k + 1) = placesT l u d width lines k ++ [placeT l u d width lines k] := by
  simp [placesT, List.range_succ]
/-- a number is a length -/
def Far (x : Int) : Prop := ¬ (-1099511627776 ≤ x ∧ x ≤ 1099511627776)
instance (x : Int) : Decidable (Far x) := by unfold Far; infer_instance
def FarS (s : Sp) : Prop := Far s.1 ∨ Far s.2.1 ∨ Far s.2.2.1
instance (s : Sp) : Decidable (FarS s) := by unfold FarS; infer_instance
/-- what is handed in: what is wrong with it -/
def askedA (l : List Sp) (u d width : Int) (lines : Nat) : Nat :=
  if 2048 < l.length ∨ 2 < lines then 2 else if ∃ i, i < l.length ∧ 2 < sa l i then 2
  else if (Far u ∨ Far d ∨ Far width) ∨ ∃ i, i < l.length ∧ FarS (sp l i) then 10 else 0
/-- what Place answers -/
def placeA (l : List Sp) (u d width : Int) (lines : Nat) : List Ps × Int × Int × Nat :=
  if askedA l u d width lines ≠ 0 then ([], 0, 0, askedA l u d width lines)
  else if (Far (heightT l u d) ∨ Far (baseT l u)) ∨ ∃ i, i < l.length ∧ (Far (placeT l u d width lines i).1 ∨ Far (placeT l u d width lines i).2) then ([], 0, 0, 10)
  else (placesT l u d width lines l.length, heightT l u d, baseT l u, 0)
/-- all that is handed in is a length -/
structure Ok11 (l : List Sp) (u d width : Int) (lines : Nat) : Prop where
  len : l.length ≤ 2048
  lines : lines ≤ 2
  u : -1099511627776 ≤ u ∧ u ≤ 1099511627776
  d : -1099511627776 ≤ d ∧ d ≤ 1099511627776
  width : -1099511627776 ≤ width ∧ width ≤ 1099511627776
  al : ∀ i, i < l.length → sa l i ≤ 2
  w : ∀ i, i < l.length → -1099511627776 ≤ sw l i ∧ sw l i ≤ 1099511627776
  up : ∀ i, i < l.length → -1099511627776 ≤ su l i ∧ su l i ≤ 1099511627776
  dn : ∀ i, i < l.length → -1099511627776 ≤ sd l i ∧ sd l i ≤ 1099511627776
theorem not_far {x : Int} (h : ¬ Far x) : -1099511627776 ≤ x ∧ x ≤ 1099511627776 := by
  unfold Far at h
  exact Classical.not_not.1 h
theorem ok11_of {l : List Sp} {u d width : Int} {lines : Nat} (h1 : ¬ (2048 < l.length ∨ 2 < lines)) (h2 : ¬ ∃ i, i < l.length ∧ 2 < sa l i) (h3 : ¬ ((Far u ∨ Far d ∨ Far width) ∨ ∃ i, i < l.length ∧ FarS (sp l i))) : Ok11 l u d width lines := by
  have h4 : ∀ i, i < l.length → ¬ FarS (sp l i) := fun i hi h => h3 (.inr ⟨i, hi, h⟩)
  refine ⟨by omega, by omega, not_far fun h => h3 (.inl (.inl h)), not_far fun h => h3 (.inl (.inr (.inl h))), not_far fun h => h3 (.inl (.inr (.inr h))), fun i hi => ?_, fun i hi => not_far fun h => h4 i hi (.inl h), fun i hi => not_far fun h => h4 i hi (.inr (.inl h)), fun i hi => not_far fun h => h4 i hi (.inr (.inr h))⟩
  exact Nat.le_of_not_lt fun h => h2 ⟨i, hi, h⟩
theorem asked_zero {l : List Sp} {u d width : Int} {lines : Nat} : askedA l u d width lines = 0 ↔ Ok11 l u d width lines := by
  unfold askedA
  constructor
  · intro h
    by_cases h1 : 2048 < l.length ∨ 2 < lines
    · rw [if_pos h1] at h; omega
    · rw [if_neg h1] at h
      by_cases h2 : ∃ i, i < l.length ∧ 2 < sa l i
      · rw [if_pos h2] at h; omega
      · rw [if_neg h2] at h
        by_cases h3 : (Far u ∨ Far d ∨ Far width) ∨ ∃ i, i < l.length ∧ FarS (sp l i)
        · rw [if_pos h3] at h; omega
        · exact ok11_of h1 h2 h3
  · intro h
    rw [if_neg (by have := h.len; have := h.lines; omega), if_neg (fun ⟨i, hi, h2⟩ => by have := h.al i hi; omega), if_neg]
    rintro ((h1 | h1 | h1) | ⟨i, hi, h1 | h1 | h1⟩)
    · exact h1 h.u
    · exact h1 h.d
    · exact h1 h.width
    · exact h1 (h.w i hi)
    · exact h1 (h.up i hi)
    · exact h1 (h.dn i hi)
theorem sumS_bound {l : List Sp} {lo hi : Int} (h : ∀ i, i < l.length → lo ≤ sw l i ∧ sw l i ≤ hi) (k : Nat) (hk : k ≤ l.length) : k * lo ≤ sumS l k ∧ sumS l k ≤ k * hi := by
  induction k with
  | zero => rw [sumS_zero]; simp
  | succ k ih =>
    rw [sumS_succ (by omega)]
    have h1 := ih (by omega)
    have h2 := h k (by omega)
    have e1 : ((k + 1 : Nat) : Int) * lo = k * lo + lo := by rw [Int.natCast_add, Int.add_mul]; simp
    have e2 : ((k + 1 : Nat) : Int) * hi = k * hi + hi := by rw [Int.natCast_add, Int.add_mul]; simp
    omega
theorem upS_in {l : List Sp} {u lo hi : Int} (h0 : lo ≤ u ∧ u ≤ hi) (h : ∀ i, i < l.length → lo ≤ su l i ∧ su l i ≤ hi) (k : Nat) (hk : k ≤ l.length) : lo ≤ upS l u k ∧ upS l u k ≤ hi := by
  rcases upS_at l u k with e | ⟨j, hj, -, e⟩
  · rw [e]; exact h0
  · rw [← e]; exact h j (by omega)
theorem dnS_in {l : List Sp} {u lo hi : Int} (h0 : lo ≤ u ∧ u ≤ hi) (h : ∀ i, i < l.length → lo ≤ sd l i ∧ sd l i ≤ hi) (k : Nat) (hk : k ≤ l.length) : lo ≤ dnS l u k ∧ dnS l u k ≤ hi := by
  rcases dnS_at l u k with e | ⟨j, hj, -, e⟩
  · rw [e]; exact h0
  · rw [← e]; exact h j (by omega)
theorem hS_in {l : List Sp} {u lo hi : Int} (h0 : 2 * lo ≤ u ∧ u ≤ 2 * hi) (h1 : ∀ i, i < l.length → lo ≤ su l i ∧ su l i ≤ hi) (h2 : ∀ i, i < l.length → lo ≤ sd l i ∧ sd l i ≤ hi) (k : Nat) (hk : k ≤ l.length) : 2 * lo ≤ hS l u k ∧ hS l u k ≤ 2 * hi := by
  rcases hS_at l u k with e | ⟨j, hj, -, e⟩
  · rw [e]; exact h0
  · rw [← e]
    have := h1 j (by omega)
    have := h2 j (by omega)
    omega
end Go.Proofs.Ytnhbegdoedbpeaa
