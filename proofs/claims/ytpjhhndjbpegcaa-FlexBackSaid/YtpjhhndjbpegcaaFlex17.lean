/-
  Boxes along a line, and across it (flex): mathematics; what is asked of a Main, of a Cross; near, left; the document's Cross, the law FlexCross.
-/
import Derived.Test.YtpjhhndjbpegcaaAlikeM16
import Derived.Test.YtpjhhndjbpegcaaRowsG
import Derived.Test.YtpjhhndjbpegcaaFits
import Derived.Test.YtpjhhndjbpegcaaProg
import Derived.WalkKit
import Derived.ProofKit
import Derived.Lib.Hide
import Derived.Deep.LoopGhost
import Derived.Deep.Cut
import Derived.Deep.CutRange
namespace Go.Proofs.Ytpjhhndjbpegcaa

section
/-- half of a number, towards 0 -/
def halfZ (x : Int) : Int := if 0 ≤ x then x / 2 else -((-x) / 2)
/-- how much more is ahead of each box -/
def Extra (n : Nat) (left j : Int) (E : Nat → Int) : Prop :=
  (j = 1 → ∀ i, i < n → E i = if i = 0 then left else 0) ∧
  (j = 2 → ∀ i, i < n → E i = if i = 0 then halfZ left else 0) ∧
  (j = 3 → (left ≤ 0 ∨ n ≤ 1 → ∀ i, i < n → E i = 0) ∧ (¬ (left ≤ 0 ∨ n ≤ 1) → ∃ X, ShareOf left (fun _ => 1) (n - 1) X ∧ ∀ i, i < n → E i = if i = 0 then 0 else X (i - 1))) ∧
  (j = 4 → (left ≤ 0 → ∀ i, i < n → E i = 0) ∧ (¬ left ≤ 0 → ∃ X, ShareOf left (fun _ => 1) (n + 1) X ∧ ∀ i, i < n → E i = X i)) ∧
  (j ≠ 1 → j ≠ 2 → j ≠ 3 → j ≠ 4 → ∀ i, i < n → E i = 0)
theorem Extra.uniq {n : Nat} {left j : Int} {E E' : Nat → Int} (h : Extra n left j E) (h' : Extra n left j E') : ∀ i, i < n → E i = E' i := by
  intro i hi
  by_cases h1 : j = 1
  · rw [h.1 h1 i hi, h'.1 h1 i hi]
  by_cases h2 : j = 2
  · rw [h.2.1 h2 i hi, h'.2.1 h2 i hi]
  by_cases h3 : j = 3
  · obtain ⟨a, b⟩ := h.2.2.1 h3
    obtain ⟨a', b'⟩ := h'.2.2.1 h3
    by_cases c : left ≤ 0 ∨ n ≤ 1
    · rw [a c i hi, a' c i hi]
    · obtain ⟨X, hX, e⟩ := b c
      obtain ⟨X', hX', e'⟩ := b' c
      rw [e i hi, e' i hi]
      by_cases h0 : i = 0
      · rw [if_pos h0, if_pos h0]
      · rw [if_neg h0, if_neg h0, hX.uniq hX' (i - 1) (by omega)]
  by_cases h4 : j = 4
  · obtain ⟨a, b⟩ := h.2.2.2.1 h4
    obtain ⟨a', b'⟩ := h'.2.2.2.1 h4
    by_cases c : left ≤ 0
    · rw [a c i hi, a' c i hi]
    · obtain ⟨X, hX, e⟩ := b c
      obtain ⟨X', hX', e'⟩ := b' c
      rw [e i hi, e' i hi, hX.uniq hX' i (by omega)]
  rw [h.2.2.2.2 h1 h2 h3 h4 i hi, h'.2.2.2.2 h1 h2 h3 h4 i hi]
theorem sumN_one (m : Nat) : sumN (fun _ => 1) m = m := by
  induction m with
  | zero => rfl
  | succ m ih => rw [sumN, ih]
/-- shares of equal weights -/
theorem share_ones {t : Int} {m : Nat} {X : Nat → Int} (h : ShareOf t (fun _ => 1) m X) (ht : 0 ≤ t) (hm : 0 < m) : sumB X m = t ∧ (∀ i, i < m → 0 ≤ X i) ∧ (∀ i, i < m → ∀ k, k < m → X k ≤ X i + 1) ∧ (∀ i, i < m → ∀ k, k < i → X i ≤ X k) := by
  have f := h.facts
  have a := h.alike (c := 1) (fun _ _ => rfl)
  exact ⟨f.sum (by rw [sumN_one]; exact hm), f.pos ht, fun i hi k hk => (a i hi k hk).1, fun i hi k hk => ((a i hi k (by omega)).2 hk).1 ht⟩
theorem sumB_first (c : Int) {E : Nat → Int} {n : Nat} (h : ∀ i, i < n → E i = if i = 0 then c else 0) : ∀ k, k ≤ n → sumB E k = if k = 0 then 0 else c
  | 0, _ => rfl
  | k + 1, hk => by
    rw [sumB, sumB_first c h k (by omega), h k (by omega), if_neg (Nat.succ_ne_zero k)]
    by_cases e : k = 0
    · rw [if_pos e, if_pos e]; omega
    · rw [if_neg e, if_neg e]; omega
theorem sumB_pre {X : Nat → Int} {m : Nat} (h : ∀ i, i < m → 0 ≤ X i) : ∀ k, k ≤ m → 0 ≤ sumB X k ∧ sumB X k ≤ sumB X m := by
  intro k hk
  refine ⟨sumB_nn fun i hi => h i (by omega), ?_⟩
  obtain ⟨d, rfl⟩ : ∃ d, m = k + d := ⟨m - k, by omega⟩
  induction d with
  | zero => exact Int.le_refl _
  | succ d ih =>
    have h1 := ih (fun i hi => h i (by omega)) (by omega)
    have h2 := h (k + d) (by omega)
    rw [show k + (d + 1) = k + d + 1 by omega, sumB]
    omega
theorem sumB_shift (X : Nat → Int) {E : Nat → Int} {n : Nat} (h : ∀ i, i < n → E i = if i = 0 then 0 else X (i - 1)) : ∀ k, k < n → sumB E (k + 1) = sumB X k
  | 0, hk => by rw [sumB, sumB, sumB, h 0 hk]; simp
  | k + 1, hk => by
    rw [sumB, sumB_shift X h k (by omega), h (k + 1) hk, if_neg (Nat.succ_ne_zero k)]
    rw [Nat.add_sub_cancel, sumB]
/-- what is known of what is ahead -/
structure ExtF (n : Nat) (left j : Int) (E : Nat → Int) : Prop where
  up : 0 ≤ left → ∀ k, k ≤ n → 0 ≤ sumB E k ∧ sumB E k ≤ left
  down : left ≤ 0 → ∀ k, k ≤ n → left ≤ sumB E k ∧ sumB E k ≤ 0
  nn : 0 ≤ left → ∀ i, i < n → 0 ≤ E i
  none : left ≤ 0 ∨ (j ≠ 3 ∧ j ≠ 4) → ∀ i, i < n → 0 < i → E i = 0
theorem zero_facts {n : Nat} {left j : Int} {E : Nat → Int} (h : ∀ i, i < n → E i = 0) : ExtF n left j E := by
  have s : ∀ k, k ≤ n → sumB E k = 0 := fun k hk => sumB_zero fun i hi => h i (by omega)
  exact ⟨fun h0 k hk => by rw [s k hk]; omega, fun h0 k hk => by rw [s k hk]; omega, fun _ i hi => by rw [h i hi]; omega, fun _ i hi _ => h i hi⟩
theorem first_facts {n : Nat} {left j c : Int} {E : Nat → Int} (h : ∀ i, i < n → E i = if i = 0 then c else 0) (h1 : 0 ≤ left → 0 ≤ c ∧ c ≤ left) (h2 : left ≤ 0 → left ≤ c ∧ c ≤ 0) : ExtF n left j E := by
  have s := sumB_first c h
  refine ⟨fun h0 k hk => ?_, fun h0 k hk => ?_, fun h0 i hi => ?_, fun _ i hi h0 => by rw [h i hi, if_neg (by omega)]⟩
  · rw [s k hk]; have := h1 h0; split <;> omega
  · rw [s k hk]; have := h2 h0; split <;> omega
  · rw [h i hi]; have := h1 h0; split <;> omega
theorem Extra.facts {n : Nat} {left j : Int} {E : Nat → Int} (h : Extra n left j E) : ExtF n left j E := by
  by_cases h1 : j = 1
  · exact first_facts (h.1 h1) (fun h => ⟨h, Int.le_refl _⟩) (fun h => ⟨Int.le_refl _, h⟩)
  by_cases h2 : j = 2
  · refine first_facts (h.2.1 h2) (fun h => ?_) (fun h => ?_)
    · unfold halfZ; rw [if_pos h]; omega
    · unfold halfZ; split <;> omega
  by_cases h3 : j = 3
  · obtain ⟨a, b⟩ := h.2.2.1 h3
    by_cases c : left ≤ 0 ∨ n ≤ 1
    · exact zero_facts (a c)
    · obtain ⟨X, hX, e⟩ := b c
      obtain ⟨s, p, -, -⟩ := share_ones hX (by omega) (by omega)
      have sh := sumB_shift X e
      refine ⟨fun h0 k hk => ?_, fun h0 => absurd h0 (by omega), fun h0 i hi => ?_, fun hc i hi h0 => absurd hc (by omega)⟩
      · cases k with
        | zero => exact ⟨Int.le_refl _, h0⟩
        | succ k => rw [sh k (by omega)]; have := sumB_pre p k (by omega); omega
      · rw [e i hi]; split
        · omega
        · exact p _ (by omega)
  by_cases h4 : j = 4
  · obtain ⟨a, b⟩ := h.2.2.2.1 h4
    by_cases c : left ≤ 0
    · exact zero_facts (a c)
    · obtain ⟨X, hX, e⟩ := b c
      obtain ⟨s, p, -, -⟩ := share_ones hX (by omega) (by omega)
      refine ⟨fun h0 k hk => ?_, fun h0 => absurd h0 c, fun h0 i hi => by rw [e i hi]; exact p i (by omega), fun hc i hi h0 => absurd hc (by omega)⟩
      rw [sumB_congr (g := X) (fun i hi => e i (by omega))]
      have := sumB_pre p k (by omega)
      omega
  exact zero_facts (h.2.2.2.2 h1 h2 h3 h4)
/-- where a box ends, from the beginning -/
def endP (f : Nat → Int) (gap : Int) (E : Nat → Int) : Nat → Int
  | 0 => 0
  | k + 1 => endP f gap E k + E k + (if 0 < k then gap else 0) + f k
def gapsZ (gap : Int) (k : Nat) : Int := if k = 0 then 0 else gap * ((k : Int) - 1)
theorem gapsZ_succ (gap : Int) (k : Nat) : gapsZ gap (k + 1) = gapsZ gap k + if 0 < k then gap else 0 := by
  unfold gapsZ
  by_cases h : k = 0
  · subst h; simp
  · rw [if_neg (by omega), if_neg h, if_pos (by omega), show ((k + 1 : Nat) : Int) - 1 = ((k : Int) - 1) + 1 by omega, Int.mul_add]; omega
theorem gapsZ_mono {gap : Int} (hg : 0 ≤ gap) : ∀ k n, k ≤ n → 0 ≤ gapsZ gap k ∧ gapsZ gap k ≤ gapsZ gap n := by
  intro k n hk
  refine ⟨?_, ?_⟩
  · unfold gapsZ
    split
    · omega
    · exact Int.mul_nonneg hg (by omega)
  · obtain ⟨d, rfl⟩ : ∃ d, n = k + d := ⟨n - k, by omega⟩
    induction d with
    | zero => exact Int.le_refl _
    | succ d ih =>
      have := ih (by omega)
      rw [show k + (d + 1) = k + d + 1 by omega, gapsZ_succ]
      split <;> omega
theorem endP_sum (f : Nat → Int) (gap : Int) (E : Nat → Int) : ∀ k, endP f gap E k = sumB f k + sumB E k + gapsZ gap k
  | 0 => by simp [endP, sumB, gapsZ]
  | k + 1 => by rw [endP, endP_sum f gap E k, sumB, sumB, gapsZ_succ]; omega
def leftF (f : Nat → Int) (gap room : Int) (n : Nat) : Int := room - sumB f n - gapsZ gap n
def atF (f : Nat → Int) (gap room : Int) (back : Bool) (E : Nat → Int) (k : Nat) : Int := if back = true then room - endP f gap E (k + 1) else endP f gap E (k + 1) - f k
theorem endP_congr {f : Nat → Int} {gap : Int} {E E' : Nat → Int} {n : Nat} (h : ∀ i, i < n → E i = E' i) : ∀ k, k ≤ n → endP f gap E k = endP f gap E' k
  | 0, _ => rfl
  | k + 1, hk => by rw [endP, endP, endP_congr h k (by omega), h k (by omega)]
def listG (f : Nat → Int) (n : Nat) : List Int := (List.range n).map f
theorem listG_len (f : Nat → Int) (n : Nat) : (listG f n).length = n := by simp [listG]
theorem listG_get (f : Nat → Int) {n i : Nat} (h : i < n) : (listG f n)[i]? = some (f i) := by simp [listG, h]
theorem listG_congr {f g : Nat → Int} {n : Nat} (h : ∀ i, i < n → f i = g i) : listG f n = listG g n := by
  unfold listG
  exact List.map_congr_left fun i hi => h i (List.mem_range.1 hi)
open Classical in
noncomputable def askM (f : Nat → Int) (n : Nat) (gap room j : Int) : Int := if 300 < n ∨ gap < 0 ∨ room < 0 ∨ 4 < j then 2 else if ¬ ((∀ i, i < n → Fit (f i)) ∧ Fit gap ∧ Fit room) then 10 else if ¬ Fit (leftF f gap room n) then 10 else 0
/-- the places, and the error -/
inductive MainIs (f : Nat → Int) (n : Nat) (gap room j : Int) (back : Bool) : List Int → Int → Prop
  | bad (h : askM f n gap room j ≠ 0) : MainIs f n gap room j back [] (askM f n gap room j)
  | none (h : askM f n gap room j = 0) (hn : n = 0) : MainIs f n gap room j back [] 0
  | far (E : Nat → Int) (h : askM f n gap room j = 0) (hn : n ≠ 0) (hE : Extra n (leftF f gap room n) j E) (hf : ¬ ∀ i, i < n → Fit (atF f gap room back E i)) : MainIs f n gap room j back [] 10
  | ok (E : Nat → Int) (h : askM f n gap room j = 0) (hn : n ≠ 0) (hE : Extra n (leftF f gap room n) j E) (hf : ∀ i, i < n → Fit (atF f gap room back E i)) : MainIs f n gap room j back (listG (atF f gap room back E) n) 0
theorem at_congr {f : Nat → Int} {n : Nat} {gap room left j : Int} {back : Bool} {E E' : Nat → Int} (h : Extra n left j E) (h' : Extra n left j E') : ∀ i, i < n → atF f gap room back E i = atF f gap room back E' i := fun i hi => by
  unfold atF
  rw [endP_congr (h.uniq h') (i + 1) (by omega)]
theorem MainIs.uniq {f : Nat → Int} {n : Nat} {gap room j : Int} {back : Bool} {o o' : List Int} {z z' : Int} (h : MainIs f n gap room j back o z) (h' : MainIs f n gap room j back o' z') : o = o' ∧ z = z' := by
  cases h with
  | bad h =>
    cases h' with
    | bad => exact ⟨rfl, rfl⟩
    | none h2 => exact absurd h2 h
    | far _ h2 => exact absurd h2 h
    | ok _ h2 => exact absurd h2 h
  | none h hn =>
    cases h' with
    | bad h2 => exact absurd h h2
    | none => exact ⟨rfl, rfl⟩
    | far _ _ h2 => exact absurd hn h2
    | ok _ _ h2 => exact absurd hn h2
  | far E h hn hE hf =>
    cases h' with
    | bad h2 => exact absurd h h2
    | none _ h2 => exact absurd h2 hn
    | far => exact ⟨rfl, rfl⟩
    | ok E' _ _ hE' hf' => exact absurd (fun i hi => by rw [at_congr hE hE' i hi]; exact hf' i hi) hf
  | ok E h hn hE hf =>
    cases h' with
    | bad h2 => exact absurd h h2
    | none _ h2 => exact absurd h2 hn
    | far E' _ _ hE' hf' => exact absurd (fun i hi => by rw [← at_congr hE hE' i hi]; exact hf i hi) hf'
    | ok E' _ _ hE' => exact ⟨listG_congr (at_congr hE hE'), rfl⟩
/-- boxes near 0 -/
structure Near17 (f : Nat → Int) (n : Nat) (gap room j : Int) : Prop where
  hn : n ≤ 200
  hgap : 0 ≤ gap ∧ gap ≤ 268435456
  hroom : 0 ≤ room ∧ room ≤ 274877906944
  hj : 0 ≤ j ∧ j ≤ 4
  hf : ∀ i, i < n → 0 ≤ f i ∧ f i ≤ 268435456
/-- a bit farther -/
structure Nigh17 (f : Nat → Int) (n : Nat) (gap room j : Int) : Prop where
  hn : n ≤ 200
  hgap : 0 ≤ gap ∧ gap ≤ 268435456
  hroom : 0 ≤ room ∧ room ≤ 549755813888
  hj : 0 ≤ j ∧ j ≤ 4
  hf : ∀ i, i < n → 0 ≤ f i ∧ f i ≤ 268435456
theorem Near17.nigh {f : Nat → Int} {n : Nat} {gap room j : Int} (h : Near17 f n gap room j) : Nigh17 f n gap room j := ⟨h.hn, h.hgap, by have := h.hroom; omega, h.hj, h.hf⟩
theorem near_sum {f : Nat → Int} {n : Nat} {gap : Int} (hn : n ≤ 200) (hg : 0 ≤ gap ∧ gap ≤ 268435456) (hf : ∀ i, i < n → 0 ≤ f i ∧ f i ≤ 268435456) : ∀ k, k ≤ n → (0 ≤ sumB f k ∧ sumB f k ≤ sumB f n) ∧ (0 ≤ gapsZ gap k ∧ gapsZ gap k ≤ gapsZ gap n) ∧ sumB f n ≤ 53687091200 ∧ gapsZ gap n ≤ 53687091200 := fun k hk => by
  have h1 := sumB_pre (fun i hi => (hf i hi).1) k hk
  have h2 := gapsZ_mono hg.1 k n hk
  have h3 := sumB_bd (f := f) (c := 268435456) (n := n) (fun i hi => by have := hf i hi; omega)
  refine ⟨h1, h2, by omega, ?_⟩
  unfold gapsZ
  split
  · omega
  · have : gap * ((n : Int) - 1) ≤ 268435456 * ((n : Int) - 1) := Int.mul_le_mul_of_nonneg_right hg.2 (by omega)
    omega
theorem Nigh17.ask {f : Nat → Int} {n : Nat} {gap room j : Int} (h : Nigh17 f n gap room j) : askM f n gap room j = 0 := by
  have h0 := near_sum h.hn h.hgap h.hf n (Nat.le_refl _)
  have h1 := h.hn
  have h2 := h.hgap
  have h3 := h.hroom
  have h4 := h.hj
  unfold askM
  rw [if_neg (by omega), if_neg, if_neg]
  · intro c
    exact c (by unfold Fit leftF; omega)
  · intro c
    refine c ⟨fun i hi => by have := h.hf i hi; unfold Fit; omega, by unfold Fit; omega, by unfold Fit; omega⟩
/-- what is told of boxes near 0 -/
theorem Nigh17.told {f : Nat → Int} {n : Nat} {gap room j : Int} (h : Nigh17 f n gap room j) {back : Bool} {o : List Int} {z : Int} (hm : MainIs f n gap room j back o z) :
    ∃ E, o = listG (atF f gap room back E) n ∧ z = 0 ∧ (0 < n → Extra n (leftF f gap room n) j E) := by
  have ha := h.ask
  have hs := near_sum h.hn h.hgap h.hf
  have h3 := h.hroom
  have hb : ∀ E, Extra n (leftF f gap room n) j E → ∀ i, i < n → Fit (atF f gap room back E i) := fun E hE i hi => by
    have x := hE.facts
    have s1 := hs (i + 1) (by omega)
    have ff := h.hf i hi
    have e := endP_sum f gap E (i + 1)
    have hl : leftF f gap room n = room - sumB f n - gapsZ gap n := rfl
    have up := fun h => x.up h (i + 1) (by omega)
    have dn := fun h => x.down h (i + 1) (by omega)
    rcases Int.le_total 0 (leftF f gap room n) with c | c
    · have := up c
      unfold Fit atF
      split <;> omega
    · have := dn c
      unfold Fit atF
      split <;> omega
  cases hm with
  | bad h2 => exact absurd ha h2
  | none _ hn =>
    subst hn
    exact ⟨fun _ => 0, rfl, rfl, fun c => absurd c (by omega)⟩
  | far E _ _ hE hf => exact absurd (hb E hE) hf
  | ok E _ _ hE _ => exact ⟨E, rfl, rfl, fun _ => hE⟩
end

section
open Go.RowKit

abbrev I64' (y : Int) : Prop := -9223372036854775808 ≤ y ∧ y ≤ 9223372036854775807
def ownsI17 (w : World) (base : Nat) (v : Value) (l : List Int) : Prop := w.ownsRow base 3 1 v l.length (l.map (Value.int .i64))
theorem b_nx17 {w0 W W' : World} (h : Below w0.heap.size w0 W) (hb : Below W.heap.size W W') : Below w0.heap.size w0 W' := h.trans (hb.mono h.size)
/-- what is asked of a Main -/
def MainOK (F : Nat) : Prop := ∀ (A : Option Addr) (n c : Nat) (f : Nat → Int) (gap room j : Int) (back : Bool) (w : World), Ints w A n f → n ≤ 100000 → n ≤ c ∧ c ≤ 9223372036854775807 → I64' gap → I64' room → 0 ≤ j ∧ j ≤ 255 → Calls Try.prog F #[.slice A n c, .int .i64 gap, .int .i64 room, .int .u8 j, .bool back] w fun e w' =>
  ∃ vO o z, e = .returned (.tuple #[vO, .int .i64 z]) ∧ MainIs f n gap room j back o z ∧ ownsI17 w' w.heap.size vO o ∧ Below w.heap.size w w'
/-- where a box begins, across a line, and the error -/
def crossA (outer room j : Int) : Int × Int :=
  if room < 0 ∨ (j ≠ 0 ∧ j ≠ 1 ∧ j ≠ 2 ∧ j ≠ 5) then (0, 2)
  else if ¬ (-1099511627776 ≤ outer ∧ outer ≤ 1099511627776) ∨ ¬ (-1099511627776 ≤ room ∧ room ≤ 1099511627776) then (0, 10)
  else if ¬ (-1099511627776 ≤ (if j = 1 then room - outer else if j = 2 then halfZ (room - outer) else 0) ∧ (if j = 1 then room - outer else if j = 2 then halfZ (room - outer) else 0) ≤ 1099511627776) then (0, 10)
  else (if j = 1 then room - outer else if j = 2 then halfZ (room - outer) else 0, 0)
/-- what is asked of a Cross -/
def CrossOK (F : Nat) : Prop := ∀ (outer room j : Int) (w : World), I64' outer → I64' room → 0 ≤ j ∧ j ≤ 255 → Calls Try.prog F #[.int .i64 outer, .int .i64 room, .int .u8 j] w fun e w' => e = .returned (.tuple #[.int .i64 (crossA outer room j).1, .int .i64 (crossA outer room j).2]) ∧ Below w.heap.size w w'
/-- the places in a row of the call's own, read -/
theorem own_at17 {w : World} {B : Nat} {v : Value} {f : Nat → Int} {n : Nat} (h : ownsI17 w B v (listG f n)) {i : Nat} (hi : i < n) : ∃ g c, v = .slice (some ⟨g, 0, none⟩) n c ∧ n ≤ c ∧ g < w.heap.size ∧ w.cell? ⟨g, i, none⟩ = some (.int .i64 (f i)) := by
  have h' := h
  unfold ownsI17 at h'
  rw [listG_len] at h'
  obtain ⟨g, c, rfl, h1, h2, -, h5, h6, -⟩ := own_at h' (by omega)
  refine ⟨g, c, rfl, h1, h5, h6 i _ ?_⟩
  rw [List.getElem?_map, listG_get f hi]
  rfl
theorem own_row17 {w : World} {B : Nat} {v : Value} {f : Nat → Int} {n : Nat} (h : ownsI17 w B v (listG f n)) : ∃ A c, v = .slice A n c := by
  have h' := h
  unfold ownsI17 at h'
  rw [listG_len] at h'
  obtain ⟨A, c, e, -⟩ := own_form h'
  exact ⟨A, c, e⟩
def howV (gap room j : Int) (back : Bool) : Value := .agg #[.int .i64 gap, .int .i64 room, .int .u8 j, .bool back]
instance (f : Nat → Int) (n : Nat) (gap room j : Int) : Decidable (Near17 f n gap room j) := decidable_of_iff (n ≤ 200 ∧ (0 ≤ gap ∧ gap ≤ 268435456) ∧ (0 ≤ room ∧ room ≤ 274877906944) ∧ (0 ≤ j ∧ j ≤ 4) ∧ ∀ i, i < n → 0 ≤ f i ∧ f i ≤ 268435456) ⟨fun ⟨a, b, c, d, e⟩ => ⟨a, b, c, d, e⟩, fun h => ⟨h.hn, h.hgap, h.hroom, h.hj, h.hf⟩⟩
set_option maxRecDepth 100000 in
set_option maxHeartbeats 8000000 in
theorem near17 (A : Option Addr) (n c : Nat) (f : Nat → Int) (gap room j : Int) (back : Bool) (w : World) (hv : Ints w A n f) (hj : 0 ≤ j ∧ j ≤ 255) (b : Bool) (hb : decide (Near17 f n gap room j) = b) :
    Calls Try.prog 17 #[.slice A n c, howV gap room j back] w fun e w' => e = .returned (.bool b) ∧ Below w.heap.size w w' := by
  have HV := Lib.hid hv
  have NO : Hid (¬ Near17 f n gap room j → b = false) := Lib.hid (fun h => by rw [← hb]; exact decide_eq_false h)
  have YES : Hid (Near17 f n gap room j → b = true) := Lib.hid (fun h => by rw [← hb]; exact decide_eq_true h)
  have B0 : Hid (Below w.heap.size w (w.alloc (.cells #[.int .i64 gap, .int .i64 room, .int .u8 j, .bool back] 24))) := Lib.hid ((Below.refl _ w).alloc (Nat.le_refl _) _)
  have G0 : Hid ((w.alloc (.cells #[.int .i64 gap, .int .i64 room, .int .u8 j, .bool back] 24)).heap[w.heap.size]? = some (.cells #[.int .i64 gap, .int .i64 room, .int .u8 j, .bool back] 24)) := Lib.hid (heap_alloc_new w _)
  clear hv hb
  unfold howV
  go_enter Try.func17, Try.ntmps17
  go_upto_region 1 with fail
  have V1 := Lib.hid (HV.out.below B0.out)
  generalize w.alloc (.cells #[.int .i64 gap, .int .i64 room, .int .u8 j, .bool back] 24) = w1 at B0 G0 V1 ⊢
  generalize w.heap.size = g at G0 ⊢
  have c0 : w1.cell? ⟨g, 0, none⟩ = some (.int .i64 gap) := by simp [World.cell?, G0.out]
  have c1 : w1.cell? ⟨g, 1, none⟩ = some (.int .i64 room) := by simp [World.cell?, G0.out]
  have c2 : w1.cell? ⟨g, 2, none⟩ = some (.int .u8 j) := by simp [World.cell?, G0.out]
  by_cases n200 : (200 : Int) < n
  · have dn200 : decide ((200 : Int) < n) = true := decide_eq_true n200
    have E : Hid (b = false) := Lib.hid (NO.out (fun h => by have := h.hn; omega))
    clear n200 NO YES
    go_wp2_with fail
    go_ret
    exact ⟨by rw [E.out]; first | rfl | simp, B0.out⟩
  have dn200 : decide ((200 : Int) < n) = false := decide_eq_false n200
  replace n200 : n ≤ (200 : Int) := by omega
  by_cases g0 : gap < 0
  · have dg0 : decide (gap < 0) = true := decide_eq_true g0
    have E : Hid (b = false) := Lib.hid (NO.out (fun h => by have := h.hgap; omega))
    clear g0 NO YES
    go_wp2_with fail
    go_ret
    exact ⟨by rw [E.out]; first | rfl | simp, B0.out⟩
  have dg0 : decide (gap < 0) = false := decide_eq_false g0
  replace g0 : 0 ≤ gap := by omega
  by_cases g1 : 268435456 < gap
  · have dg1 : decide (268435456 < gap) = true := decide_eq_true g1
    have E : Hid (b = false) := Lib.hid (NO.out (fun h => by have := h.hgap; omega))
    clear g1 NO YES
    go_wp2_with fail
    go_ret
    exact ⟨by rw [E.out]; first | rfl | simp, B0.out⟩
  have dg1 : decide (268435456 < gap) = false := decide_eq_false g1
  replace g1 : gap ≤ 268435456 := by omega
  by_cases r0 : room < 0
  · have dr0 : decide (room < 0) = true := decide_eq_true r0
    have E : Hid (b = false) := Lib.hid (NO.out (fun h => by have := h.hroom; omega))
    clear r0 NO YES
    go_wp2_with fail
    go_ret
    exact ⟨by rw [E.out]; first | rfl | simp, B0.out⟩
  have dr0 : decide (room < 0) = false := decide_eq_false r0
  replace r0 : 0 ≤ room := by omega
  by_cases r1 : 274877906944 < room
  · have dr1 : decide (274877906944 < room) = true := decide_eq_true r1
    have E : Hid (b = false) := Lib.hid (NO.out (fun h => by have := h.hroom; omega))
    clear r1 NO YES
    go_wp2_with fail
    go_ret
    exact ⟨by rw [E.out]; first | rfl | simp, B0.out⟩
  have dr1 : decide (274877906944 < room) = false := decide_eq_false r1
  replace r1 : room ≤ 274877906944 := by omega
  by_cases j4 : 4 < j
  · have dj4 : decide (4 < j) = true := decide_eq_true j4
    have E : Hid (b = false) := Lib.hid (NO.out (fun h => by have := h.hj; omega))
    clear j4 NO YES
    go_wp2_with fail
    go_ret
    exact ⟨by rw [E.out]; first | rfl | simp, B0.out⟩
  have dj4 : decide (4 < j) = false := decide_eq_false j4
  replace j4 : j ≤ 4 := by omega
  go_wp2_with fail
  clear c0 c1 c2 dn200 dg0 dg1 dr0 dr1 dj4 G0
  go_loopg [5] n (fun g1 vi wr => ∃ k : Nat, vi = .int .i64 k ∧ k ≤ n ∧ n - k ≤ g1 ∧ Hid (∀ i, i < k → 0 ≤ f i ∧ f i ≤ 268435456) ∧ Hid (w1 = wr))
  case atStart => exact ⟨0, rfl, by omega, by omega, Lib.hid (fun i hi => absurd hi (by omega)), Lib.hid rfl⟩
  case round =>
    obtain ⟨k, rfl, hk, hg1, HS, HW⟩ := hrel
    obtain rfl := HW.out
    clear HW
    by_cases hlt : k < n
    · have hz : (k : Int) < n := by omega
      have hz0 : (0 : Int) ≤ k := by omega
      have wi : IntKind.i64.wrap ((k : Int) + 1) = (k : Int) + 1 := IntWalk.i64_in _ (by omega)
      obtain ⟨bb, off, rfl, -, m0⟩ := V1.out.at_ hlt
      have NB : Hid (¬ (0 ≤ f k ∧ f k ≤ 268435456) → b = false) := Lib.hid (fun h => NO.out (fun h' => h (h'.hf k hlt)))
      have NX : Hid (0 ≤ f k ∧ f k ≤ 268435456 → ∀ i, i < k + 1 → 0 ≤ f i ∧ f i ≤ 268435456) := Lib.hid (fun h i hi => by
        rcases Nat.lt_or_ge i k with h' | h'
        · exact HS.out i h'
        · obtain rfl : i = k := by omega
          exact h)
      generalize f k = y at m0 NB NX
      clear NO YES HV HS
      by_cases h0 : y < 0
      · have d0 : decide (y < 0) = true := decide_eq_true h0
        have E : Hid (b = false) := Lib.hid (NB.out (by omega))
        clear h0 NB NX
        go_wp2_with fail
        go_ret
        exact ⟨by rw [E.out]; rfl, B0.out⟩
      have d0 : decide (y < 0) = false := decide_eq_false h0
      by_cases h1 : 268435456 < y
      · have d1 : decide (268435456 < y) = true := decide_eq_true h1
        have E : Hid (b = false) := Lib.hid (NB.out (by omega))
        clear h0 h1 NB NX
        go_wp2_with fail
        go_ret
        exact ⟨by rw [E.out]; rfl, B0.out⟩
      have d1 : decide (268435456 < y) = false := decide_eq_false h1
      have NX2 := Lib.hid (NX.out (by omega))
      clear h0 h1 NB NX
      go_wp2_with fail
      go_roundg (n - (k + 1))
      case measure => omega
      case rel => exact ⟨k + 1, by go_num, by omega, Nat.le_refl _, NX2, Lib.hid rfl⟩
    · obtain rfl : k = n := by omega
      have hz : ¬ (k : Int) < k := by omega
      have E : Hid (b = true) := Lib.hid (YES.out ⟨by omega, by omega, by omega, by omega, HS.out⟩)
      go_wp2_with fail
      go_ret
      exact ⟨by rw [E.out]; rfl, B0.out⟩
theorem leftF_succ (f : Nat → Int) (gap room : Int) (k : Nat) : leftF f gap room (k + 1) = leftF f gap room k - f k - (if 0 < k then gap else 0) := by
  unfold leftF
  rw [sumB, gapsZ_succ]
  omega
set_option maxRecDepth 100000 in
set_option maxHeartbeats 8000000 in
theorem left17 (A : Option Addr) (n c : Nat) (f : Nat → Int) (gap room j : Int) (back : Bool) (w : World) (hv : Ints w A n f) (hN : Near17 f n gap room 0) :
    Calls Try.prog 18 #[.slice A n c, howV gap room j back] w fun e w' => e = .returned (.int .i64 (leftF f gap room n)) ∧ Below w.heap.size w w' := by
  have HV := Lib.hid hv
  have B0 : Hid (Below w.heap.size w (w.alloc (.cells #[.int .i64 gap, .int .i64 room, .int .u8 j, .bool back] 24))) := Lib.hid ((Below.refl _ w).alloc (Nat.le_refl _) _)
  have G0 : Hid ((w.alloc (.cells #[.int .i64 gap, .int .i64 room, .int .u8 j, .bool back] 24)).heap[w.heap.size]? = some (.cells #[.int .i64 gap, .int .i64 room, .int .u8 j, .bool back] 24)) := Lib.hid (heap_alloc_new w _)
  have hn := hN.hn
  have hg := hN.hgap
  have hr := hN.hroom
  have FB := Lib.hid hN.hf
  have LB : Hid (∀ k, k ≤ n → -107374182400 ≤ leftF f gap room k ∧ leftF f gap room k ≤ 274877906944) := Lib.hid (fun k hk => by
    have h := near_sum hn hg hN.hf k hk
    unfold leftF
    omega)
  clear hv hN
  unfold howV
  go_enter Try.func18, Try.ntmps18
  go_upto_region 1 with fail
  have V1 := Lib.hid (HV.out.below B0.out)
  generalize w.alloc (.cells #[.int .i64 gap, .int .i64 room, .int .u8 j, .bool back] 24) = w1 at B0 G0 V1 ⊢
  generalize w.heap.size = g at G0 ⊢
  have c0 : w1.cell? ⟨g, 0, none⟩ = some (.int .i64 gap) := by simp [World.cell?, G0.out]
  have c1 : w1.cell? ⟨g, 1, none⟩ = some (.int .i64 room) := by simp [World.cell?, G0.out]
  clear G0 HV
  go_wp2_with fail
  go_loopg [5, 6] n (fun g1 vl vi wr => ∃ k : Nat, vi = .int .i64 k ∧ vl = .int .i64 (leftF f gap room k) ∧ k ≤ n ∧ n - k ≤ g1 ∧ Hid (w1 = wr))
  case atStart => exact ⟨0, rfl, by simp [leftF, sumB, gapsZ], by omega, by omega, Lib.hid rfl⟩
  case round =>
    obtain ⟨k, rfl, rfl, hk, hg1, HW⟩ := hrel
    obtain rfl := HW.out
    clear HW
    by_cases hlt : k < n
    · have hz : (k : Int) < n := by omega
      have hz0 : (0 : Int) ≤ k := by omega
      have wi : IntKind.i64.wrap ((k : Int) + 1) = (k : Int) + 1 := IntWalk.i64_in _ (by omega)
      obtain ⟨bb, off, rfl, -, m0⟩ := V1.out.at_ hlt
      have l0 := LB.out k (by omega)
      have fb := FB.out k hlt
      have E := Lib.hid (leftF_succ f gap room k)
      generalize leftF f gap room k = s at l0 E ⊢
      generalize f k = y at m0 fb E
      have wa0 : IntKind.i64.wrap (s - y) = s - y := IntWalk.i64_in _ (by omega)
      obtain ⟨t, ht⟩ : ∃ t, s - y = t := ⟨_, rfl⟩
      have wa := wa0.trans ht
      rw [ht] at E
      have wb0 : IntKind.i64.wrap (t - gap) = t - gap := IntWalk.i64_in _ (by omega)
      obtain ⟨t2, ht2⟩ : ∃ t2, t - gap = t2 := ⟨_, rfl⟩
      have wb := wb0.trans ht2
      have E2 : Hid (leftF f gap room (k + 1) = if 0 < k then t2 else t) := Lib.hid (by rw [E.out, ← ht2]; split <;> omega)
      clear wa0 wb0 ht ht2 l0 fb E
      by_cases h0 : 0 < k
      · have d1 : decide ((0 : Int) < k) = true := decide_eq_true (by omega)
        have E3 : Hid (leftF f gap room (k + 1) = t2) := Lib.hid (by rw [E2.out, if_pos h0])
        go_wp2_with fail
        go_roundg (n - (k + 1))
        case measure => omega
        case rel => exact ⟨k + 1, by go_num, by rw [E3.out], by omega, Nat.le_refl _, Lib.hid rfl⟩
      · have d1 : decide ((0 : Int) < k) = false := decide_eq_false (by omega)
        have E3 : Hid (leftF f gap room (k + 1) = t) := Lib.hid (by rw [E2.out, if_neg h0])
        go_wp2_with fail
        go_roundg (n - (k + 1))
        case measure => omega
        case rel => exact ⟨k + 1, by go_num, by rw [E3.out], by omega, Nat.le_refl _, Lib.hid rfl⟩
    · obtain rfl : k = n := by omega
      have hz : ¬ (k : Int) < k := by omega
      go_wp2_with fail
      go_ret
      exact ⟨rfl, B0.out⟩
end

section
open Go.RowKit

theorem half_quo (x : Int) : x.tdiv 2 = halfZ x := by
  unfold halfZ
  split
  · rename_i h
    rw [Int.tdiv_eq_ediv_of_nonneg h]
  · rename_i h
    obtain ⟨y, rfl⟩ : ∃ y, x = -y := ⟨-x, by omega⟩
    rw [Int.neg_tdiv, Int.tdiv_eq_ediv_of_nonneg (by omega), Int.neg_neg]
theorem fit_of {x : Int} : Fit x ↔ (-1099511627776 ≤ x ∧ x ≤ 1099511627776) := by
  unfold Fit
  omega
set_option maxRecDepth 100000 in
set_option maxHeartbeats 8000000 in
theorem refCross17 : CrossOK 15 := by
  intro outer room j w ho hr hj
  obtain ⟨p, hp⟩ : ∃ p, crossA outer room j = p := ⟨_, rfl⟩
  obtain ⟨p1, p2⟩ := p
  rw [hp]
  show Calls Try.prog 15 #[.int .i64 outer, .int .i64 room, .int .u8 j] w fun e w' => e = .returned (.tuple #[.int .i64 p1, .int .i64 p2]) ∧ Below w.heap.size w w'
  unfold crossA at hp
  by_cases h1 : room < 0
  · rw [if_pos (.inl h1)] at hp
    injection hp with e1 e2
    subst e1 e2
    have d1 : decide (room < 0) = true := decide_eq_true h1
    clear h1
    go_enter Try.func15, Try.ntmps15
    go_wp2_with fail
    go_ret2
    exact ⟨rfl, Below.refl _ _⟩
  have d1 : decide (room < 0) = false := decide_eq_false h1
  by_cases h2 : j ≠ 0 ∧ j ≠ 1 ∧ j ≠ 2 ∧ j ≠ 5
  · rw [if_pos (.inr h2)] at hp
    injection hp with e1 e2
    subst e1 e2
    have n0 : (j != 0) = true := by simp; omega
    have n1 : (j != 1) = true := by simp; omega
    have n2 : (j != 2) = true := by simp; omega
    have n5 : (j != 5) = true := by simp; omega
    clear h1 h2
    go_enter Try.func15, Try.ntmps15
    go_wp2_with fail
    go_ret2
    exact ⟨rfl, Below.refl _ _⟩
  rw [if_neg (by rintro (c | c); · exact h1 c
                 · exact h2 c)] at hp
  have h3 : j = 0 ∨ j = 1 ∨ j = 2 ∨ j = 5 := by omega
  clear h2
  have KO := Lib.hid (fun W => refFits_any outer W _ rfl)
  have KR := Lib.hid (fun W => refFits_any room W _ rfl)
  by_cases f1 : Fit outer
  · rw [decide_eq_true f1] at KO
    by_cases f2 : Fit room
    · rw [decide_eq_true f2] at KR
      rw [if_neg (by rw [← fit_of, ← fit_of]; rintro (c | c); · exact c f1
                     · exact c f2)] at hp
      have g1 := fit_of.1 f1
      have g2 := fit_of.1 f2
      obtain ⟨X, hX⟩ : ∃ X, (if j = 1 then room - outer else if j = 2 then halfZ (room - outer) else 0) = X := ⟨_, rfl⟩
      rw [hX] at hp
      rcases h3 with rfl | rfl | rfl | rfl
      · rw [if_neg (by decide), if_neg (by decide)] at hX
        subst hX
        rw [if_neg (by decide)] at hp
        injection hp with e1 e2
        subst e1 e2
        have KZ := Lib.hid (fun W => refFits_any 0 W true (by decide))
        clear h1 f1 f2 g1 g2
        go_enter Try.func15, Try.ntmps15
        go_wp2_with (first
          | (go_at_call 20; (with_reducible refine (KO.out _).mono ?_); rintro e w' ⟨rfl, rfl⟩; clear KO)
          | (go_at_call 20; (with_reducible refine (KR.out _).mono ?_); rintro e w' ⟨rfl, rfl⟩; clear KR)
          | (go_at_call 20; (with_reducible refine (KZ.out _).mono ?_); rintro e w' ⟨rfl, rfl⟩))
        go_ret2
        exact ⟨rfl, Below.refl _ _⟩
      · rw [if_pos rfl] at hX
        obtain ⟨d, hd⟩ : ∃ d, room - outer = d := ⟨_, rfl⟩
        have wd : IntKind.i64.wrap (room - outer) = d := by rw [IntWalk.i64_in _ (by omega)]; exact hd
        rw [hd] at hX
        subst hX
        clear hd
        have KD := Lib.hid (fun W => refFits_any d W _ rfl)
        by_cases f3 : Fit d
        · rw [if_neg (by rw [← fit_of]; exact fun c => c f3)] at hp
          rw [decide_eq_true f3] at KD
          injection hp with e1 e2
          subst e1 e2
          clear h1 f1 f2 f3 g1 g2
          go_enter Try.func15, Try.ntmps15
          go_wp2_with (first
            | (go_at_call 20; (with_reducible refine (KO.out _).mono ?_); rintro e w' ⟨rfl, rfl⟩; clear KO)
            | (go_at_call 20; (with_reducible refine (KR.out _).mono ?_); rintro e w' ⟨rfl, rfl⟩; clear KR)
            | (go_at_call 20; (with_reducible refine (KD.out _).mono ?_); rintro e w' ⟨rfl, rfl⟩))
          go_ret2
          exact ⟨rfl, Below.refl _ _⟩
        · rw [if_pos (by rw [← fit_of]; exact f3)] at hp
          rw [decide_eq_false f3] at KD
          injection hp with e1 e2
          subst e1 e2
          clear h1 f1 f2 f3 g1 g2
          go_enter Try.func15, Try.ntmps15
          go_wp2_with (first
            | (go_at_call 20; (with_reducible refine (KO.out _).mono ?_); rintro e w' ⟨rfl, rfl⟩; clear KO)
            | (go_at_call 20; (with_reducible refine (KR.out _).mono ?_); rintro e w' ⟨rfl, rfl⟩; clear KR)
            | (go_at_call 20; (with_reducible refine (KD.out _).mono ?_); rintro e w' ⟨rfl, rfl⟩))
          go_ret2
          exact ⟨rfl, Below.refl _ _⟩
      · rw [if_neg (by decide), if_pos rfl] at hX
        have gd : -2199023255552 ≤ room - outer ∧ room - outer ≤ 2199023255552 := by omega
        obtain ⟨d, hd⟩ : ∃ d, room - outer = d := ⟨_, rfl⟩
        have wd : IntKind.i64.wrap (room - outer) = d := by rw [IntWalk.i64_in _ (by omega)]; exact hd
        rw [hd] at hX gd
        subst hX
        clear hd
        have wq := half_quo d
        have hb : -2199023255552 ≤ halfZ d ∧ halfZ d ≤ 2199023255552 := by unfold halfZ; split <;> omega
        have ww : IntKind.i64.wrap (d.tdiv 2) = halfZ d := by rw [wq]; exact IntWalk.i64_in _ (by omega)
        generalize halfZ d = q at wq ww hp hb
        have KD := Lib.hid (fun W => refFits_any q W _ rfl)
        have we : IntKind.i64.wrap q = q := IntWalk.i64_in _ (by omega)
        by_cases f3 : Fit q
        · rw [if_neg (by rw [← fit_of]; exact fun c => c f3)] at hp
          rw [decide_eq_true f3] at KD
          injection hp with e1 e2
          subst e1 e2
          clear h1 f1 f2 f3 g1 g2 gd hb
          go_enter Try.func15, Try.ntmps15
          go_wp2_with (first
            | (go_at_call 20; (with_reducible refine (KO.out _).mono ?_); rintro e w' ⟨rfl, rfl⟩; clear KO)
            | (go_at_call 20; (with_reducible refine (KR.out _).mono ?_); rintro e w' ⟨rfl, rfl⟩; clear KR)
            | (go_at_call 20; (with_reducible refine (KD.out _).mono ?_); rintro e w' ⟨rfl, rfl⟩))
          go_ret2
          exact ⟨rfl, Below.refl _ _⟩
        · rw [if_pos (by rw [← fit_of]; exact f3)] at hp
          rw [decide_eq_false f3] at KD
          injection hp with e1 e2
          subst e1 e2
          clear h1 f1 f2 f3 g1 g2 gd hb
          go_enter Try.func15, Try.ntmps15
          go_wp2_with (first
            | (go_at_call 20; (with_reducible refine (KO.out _).mono ?_); rintro e w' ⟨rfl, rfl⟩; clear KO)
            | (go_at_call 20; (with_reducible refine (KR.out _).mono ?_); rintro e w' ⟨rfl, rfl⟩; clear KR)
            | (go_at_call 20; (with_reducible refine (KD.out _).mono ?_); rintro e w' ⟨rfl, rfl⟩))
          go_ret2
          exact ⟨rfl, Below.refl _ _⟩
      · rw [if_neg (by decide), if_neg (by decide)] at hX
        subst hX
        rw [if_neg (by decide)] at hp
        injection hp with e1 e2
        subst e1 e2
        have KZ := Lib.hid (fun W => refFits_any 0 W true (by decide))
        clear h1 f1 f2 g1 g2
        go_enter Try.func15, Try.ntmps15
        go_wp2_with (first
          | (go_at_call 20; (with_reducible refine (KO.out _).mono ?_); rintro e w' ⟨rfl, rfl⟩; clear KO)
          | (go_at_call 20; (with_reducible refine (KR.out _).mono ?_); rintro e w' ⟨rfl, rfl⟩; clear KR)
          | (go_at_call 20; (with_reducible refine (KZ.out _).mono ?_); rintro e w' ⟨rfl, rfl⟩))
        go_ret2
        exact ⟨rfl, Below.refl _ _⟩
    · rw [decide_eq_false f2] at KR
      rw [if_pos (.inr (by rw [← fit_of]; exact f2))] at hp
      injection hp with e1 e2
      subst e1 e2
      clear h1 f1 f2
      rcases h3 with rfl | rfl | rfl | rfl
      all_goals
        go_enter Try.func15, Try.ntmps15
        go_wp2_with (first
          | (go_at_call 20; (with_reducible refine (KO.out _).mono ?_); rintro e w' ⟨rfl, rfl⟩; clear KO)
          | (go_at_call 20; (with_reducible refine (KR.out _).mono ?_); rintro e w' ⟨rfl, rfl⟩))
        go_ret2
        exact ⟨rfl, Below.refl _ _⟩
  · rw [decide_eq_false f1] at KO
    rw [if_pos (.inl (by rw [← fit_of]; exact f1))] at hp
    injection hp with e1 e2
    subst e1 e2
    clear h1 f1
    rcases h3 with rfl | rfl | rfl | rfl
    all_goals
      go_enter Try.func15, Try.ntmps15
      go_wp2_with (go_at_call 20; (with_reducible refine (KO.out _).mono ?_); rintro e w' ⟨rfl, rfl⟩)
      go_ret2
      exact ⟨rfl, Below.refl _ _⟩
set_option maxRecDepth 100000 in
set_option maxHeartbeats 4000000 in
theorem crossW17 (hC : CrossOK 14) (outer room j : Int) (w : World) (ho : I64' outer) (hr : I64' room) (hj : 0 ≤ j ∧ j ≤ 255) :
    Calls Try.prog 4 #[.int .i64 outer, .int .i64 room, .int .u8 j] w fun e w' => e = .returned (.bool true) ∧ Below w.heap.size w w' := by
  have K1 := Lib.hid (fun W => hC outer room j W ho hr hj)
  have K2 := Lib.hid (fun W => refCross17 outer room j W ho hr hj)
  generalize (crossA outer room j).1 = p1 at K1 K2
  generalize (crossA outer room j).2 = p2 at K1 K2
  have e1 : (p1 == p1) = true := by simp
  have e2 : (p2 == p2) = true := by simp
  clear hC ho hr hj
  go_enter Try.func4, Try.ntmps4
  go_wp2_with (first
    | (go_at_call 14; (with_reducible refine (K1.out _).mono ?_); rintro e w1 ⟨rfl, hb⟩; have B1 := Lib.hid hb; clear hb)
    | (go_at_call 15; (with_reducible refine (K2.out _).mono ?_); rintro e w2 ⟨rfl, hb⟩; have B2 := Lib.hid (b_nx17 B1.out hb); clear hb))
  go_ret
  exact ⟨by first | rfl | simp, B2.out⟩
end
end Go.Proofs.Ytpjhhndjbpegcaa
