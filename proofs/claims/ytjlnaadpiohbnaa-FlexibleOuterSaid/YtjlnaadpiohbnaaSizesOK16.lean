/-
  What is asked of a Sizes.
-/
import Derived.Test.YtjlnaadpiohbnaaAlikeM16
import Derived.Test.YtjlnaadpiohbnaaItems16
import Derived.Lib.Hide
namespace Go.Proofs.Ytjlnaadpiohbnaa
open Go.RowKit

def BadT (x : It16) : Prop := x.base < 0 ∨ x.least < 0 ∨ x.most < 0 ∨ x.grow < 0 ∨ 1000 < x.grow ∨ x.shrink < 0 ∨ 1000 < x.shrink
instance (x : It16) : Decidable (BadT x) := by unfold BadT; infer_instance
def FitT (x : It16) : Prop := Fit x.base ∧ Fit x.least ∧ Fit x.most ∧ Fit x.outer
instance (x : It16) : Decidable (FitT x) := by unfold FitT; infer_instance
/-- the error of what is handed in -/
def askT (l : List It16) (gap room : Int) : Int := if 2048 < l.length ∨ gap < 0 ∨ room < -1 then 2 else if ∃ x ∈ l, BadT x then 2 else if (¬ Fit gap ∨ ¬ Fit room) ∨ ∃ x ∈ l, ¬ FitT x then 10 else 0
def listF (f : Nat → Int) (n : Nat) : List Int := (List.range n).map f
theorem listF_len (f : Nat → Int) (n : Nat) : (listF f n).length = n := by simp [listF]
theorem listF_get (f : Nat → Int) {n i : Nat} (h : i < n) : (listF f n)[i]? = some (f i) := by simp [listF, h]
abbrev RunsOf (l : List It16) (gap room : Int) (r : Option (Nat → Int)) : Prop := Runs l l.length (growI l l.length gap room) (room - aroundI l gap l.length) (out0 l) (set0 l (growI l l.length gap room)) r
/-- the sizes, and the error -/
inductive SizesIs (l : List It16) (gap room : Int) : List Int → Int → Prop
  | bad (h : askT l gap room ≠ 0) : SizesIs l gap room [] (askT l gap room)
  | wide (h : askT l gap room = 0) (hr : room = -1) : SizesIs l gap room (listF (out0 l) l.length) 0
  | far (h : askT l gap room = 0) (hr : room ≠ -1) (hx : RunsOf l gap room none) : SizesIs l gap room [] 10
  | long (o : Nat → Int) (h : askT l gap room = 0) (hr : room ≠ -1) (hx : RunsOf l gap room (some o)) (hf : ¬ ∀ i, i < l.length → Fit (o i)) : SizesIs l gap room [] 10
  | ok (o : Nat → Int) (h : askT l gap room = 0) (hr : room ≠ -1) (hx : RunsOf l gap room (some o)) (hf : ∀ i, i < l.length → Fit (o i)) : SizesIs l gap room (listF o l.length) 0
theorem RunsOf.uniq {l : List It16} {gap room : Int} {r r' : Option (Nat → Int)} (h : RunsOf l gap room r) (h' : RunsOf l gap room r') : r = r' := Runs.uniq h (fun _ hi => set0_far hi) h'
/-- **there is one answer** -/
theorem SizesIs.uniq {l : List It16} {gap room : Int} {o o' : List Int} {z z' : Int} (h : SizesIs l gap room o z) (h' : SizesIs l gap room o' z') : o = o' ∧ z = z' := by
  cases h with
  | bad h =>
    cases h' with
    | bad => exact ⟨rfl, rfl⟩
    | wide h2 => exact absurd h2 h
    | far h2 => exact absurd h2 h
    | long _ h2 => exact absurd h2 h
    | ok _ h2 => exact absurd h2 h
  | wide h hr =>
    cases h' with
    | bad h2 => exact absurd h h2
    | wide => exact ⟨rfl, rfl⟩
    | far _ h2 => exact absurd hr h2
    | long _ _ h2 => exact absurd hr h2
    | ok _ _ h2 => exact absurd hr h2
  | far h hr hx =>
    cases h' with
    | bad h2 => exact absurd h h2
    | wide _ h2 => exact absurd h2 hr
    | far => exact ⟨rfl, rfl⟩
    | long => exact ⟨rfl, rfl⟩
    | ok _ _ _ hy => cases hx.uniq hy
  | long a h hr hx hf =>
    cases h' with
    | bad h2 => exact absurd h h2
    | wide _ h2 => exact absurd h2 hr
    | far => exact ⟨rfl, rfl⟩
    | long => exact ⟨rfl, rfl⟩
    | ok b _ _ hy hg => cases hx.uniq hy; exact absurd hg hf
  | ok a h hr hx hf =>
    cases h' with
    | bad h2 => exact absurd h h2
    | wide _ h2 => exact absurd h2 hr
    | far _ _ hy => cases hx.uniq hy
    | long b _ _ hy hg => cases hx.uniq hy; exact absurd hf hg
    | ok b _ _ hy => cases hx.uniq hy; exact ⟨rfl, rfl⟩
/-- of boxes near 0, with a room -/
theorem near_ask {l : List It16} {gap room : Int} (hn : l.length ≤ 100) (hg : 0 ≤ gap ∧ gap ≤ 268435456) (hr : -1 ≤ room ∧ room ≤ 137438953472) (hI : ∀ i, i < l.length → NearI (itA l i)) : askT l gap room = 0 := by
  unfold askT
  rw [if_neg (by omega), if_neg, if_neg]
  · rintro ((c | c) | ⟨x, hx, c⟩)
    · exact c (by unfold Fit; omega)
    · exact c (by unfold Fit; omega)
    · obtain ⟨i, hi, rfl⟩ := List.getElem_of_mem hx
      have h := hI i hi
      rw [itA_get hi] at h
      have h1 := h.hbase
      have h2 := h.hleast
      have h3 := h.hmost
      have h4 := h.houter
      exact c (by unfold FitT Fit; omega)
  · rintro ⟨x, hx, c⟩
    obtain ⟨i, hi, rfl⟩ := List.getElem_of_mem hx
    have h := hI i hi
    rw [itA_get hi] at h
    have h1 := h.hbase
    have h2 := h.hleast
    have h3 := h.hmost
    have h4 := h.hgrow
    have h5 := h.hshrink
    unfold BadT at c
    omega
/-- what is told of boxes near 0 in a room -/
theorem near_sizes {l : List It16} {gap room : Int} (hn : l.length ≤ 100) (hg : 0 ≤ gap ∧ gap ≤ 268435456) (hr : 0 ≤ room ∧ room ≤ 137438953472) (hI : ∀ i, i < l.length → NearI (itA l i)) {o : List Int} {z : Int} (h : SizesIs l gap room o z) :
    ∃ f, o = listF f l.length ∧ z = 0 ∧ RunsOf l gap room (some f) := by
  have ha := near_ask hn hg ⟨by omega, hr.2⟩ hI
  have bound : ∀ f, RunsOf l gap room (some f) → ∀ i, i < l.length → Fit (f i) := fun f hx i hi => by
    obtain ⟨o, h1, f1, f2, w1, w2, hc⟩ := sizes16 hn hg hr hI hx
    cases h1
    have ab := around_bd hn hg hI
    have nn : ∀ j, j < l.length → 0 ≤ f j := fun j hj => by
      obtain ⟨y, hy⟩ := hc j hj
      have := (hI j hj).hleast
      rw [hy]
      unfold cI
      omega
    have h0 := nn i hi
    have nf := (hI i hi).first
    cases hgr : growI l l.length gap room with
    | true =>
      have := (f1 hgr).1
      have := le_sumB nn i hi
      unfold Fit
      omega
    | false =>
      have := (w2 hgr i hi).1
      unfold Fit
      omega
  cases h with
  | bad h => exact absurd ha h
  | wide _ h => omega
  | far _ _ hx =>
    obtain ⟨o, h1, -⟩ := sizes16 hn hg hr hI hx
    cases h1
  | long a _ _ hx hf => exact absurd (bound a hx) hf
  | ok a _ _ hx _ => exact ⟨a, rfl, rfl, hx⟩
def ownsI16 (w : World) (base : Nat) (v : Value) (l : List Int) : Prop := w.ownsRow base 3 1 v l.length (l.map (Value.int .i64))
abbrev I64 (y : Int) : Prop := -9223372036854775808 ≤ y ∧ y ≤ 9223372036854775807
/-- what is asked of a Sizes -/
def SizesOK (F : Nat) : Prop := ∀ (l : List It16) (v : Value) (gap room : Int) (w : World), TmIn w v l → l.length ≤ 80000 → (∀ i, i < l.length → ∀ y ∈ [(itA l i).base, (itA l i).least, (itA l i).most, (itA l i).grow, (itA l i).shrink, (itA l i).outer], -9223372036854775808 ≤ y ∧ y ≤ 9223372036854775807) → I64 gap → I64 room → Calls Try.prog F #[v, .int .i64 gap, .int .i64 room] w fun e w' =>
  ∃ vO o z, e = .returned (.tuple #[vO, .int .i64 z]) ∧ SizesIs l gap room o z ∧ ownsI16 w' w.heap.size vO o ∧ Below w.heap.size w w'
/-- what is asked of a First -/
def FirstOK (F : Nat) : Prop := ∀ (x : It16) (w : World), Calls Try.prog F #[tmV x] w fun e w' => e = .returned (.int .i64 (firstI x)) ∧ Below w.heap.size w w'
end Go.Proofs.Ytjlnaadpiohbnaa
