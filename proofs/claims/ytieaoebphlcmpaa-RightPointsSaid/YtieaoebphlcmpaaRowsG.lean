/-
  Rows of cells, so many each: flat; of the call's own: kept, found, written into.
-/
import Derived.Test.YtieaoebphlcmpaaProg
import Derived.WalkKit
import Derived.ProofKit
import Derived.Lib.Hide
import Derived.Below
import Derived.Laws.MakeOwn
import Derived.Laws.AppendOwn
import Derived.Laws.AppendOwnNone
import Derived.Laws.OwnMore
import Derived.Deep.LoopGhost
import Derived.Deep.QuietTactic
import Derived.BigQuiet
namespace Go.Proofs.Ytieaoebphlcmpaa
open Go.RowKit

theorem info_parts10 {zs : Option TypeInfo} {z : Option Value} {s b : Nat} (h : zs.map (fun i => (i.zero, i.size, i.bytes)) = some (z, s, b)) : ∃ i, zs = some i ∧ i.zero = z ∧ i.size = s ∧ i.bytes = b := by
  cases zs with
  | none => simp at h
  | some i => simp at h; exact ⟨i, rfl, h.1, h.2.1, h.2.2⟩
/-- a row's cells, so many each -/
theorem rowg_len {α : Type} (f : α → List Value) (k : Nat) (hf : ∀ x, (f x).length = k) (l : List α) : (l.flatMap f).length = l.length * k := by
  induction l with
  | nil => simp
  | cons x l ih => rw [List.flatMap_cons, List.length_append, ih, hf, List.length_cons, Nat.add_mul]; omega
theorem flat_get {α : Type} (f : α → List Value) (k : Nat) (hf : ∀ x, (f x).length = k) {l : List α} {j : Nat} (hj : j < l.length) {i : Nat} (hi : i < k) : (l.flatMap f)[j * k + i]? = (f l[j])[i]? := by
  induction l generalizing j with
  | nil => exact absurd hj (by simp)
  | cons x l ih =>
    rw [List.flatMap_cons]
    cases j with
    | zero =>
      rw [Nat.zero_mul, Nat.zero_add, List.getElem?_append_left (by rw [hf]; exact hi)]
      rfl
    | succ j =>
      rw [List.getElem?_append_right (by rw [hf, Nat.add_mul]; omega), hf, show (j + 1) * k + i - k = j * k + i by rw [Nat.add_mul]; omega, ih (by simpa using hj)]
      rfl
theorem flat_set {α : Type} (f : α → List Value) (k : Nat) (hf : ∀ x, (f x).length = k) {l : List α} {j : Nat} (hj : j < l.length) {i : Nat} (hi : i < k) (u : Value) (y : α) (hy : (f l[j]).set i u = f y) :
    (l.flatMap f).set (j * k + i) u = (l.set j y).flatMap f := by
  induction l generalizing j with
  | nil => exact absurd hj (by simp)
  | cons x l ih =>
    rw [List.flatMap_cons]
    cases j with
    | zero =>
      rw [Nat.zero_mul, Nat.zero_add, List.set_append_left _ _ (by rw [hf]; exact hi), List.set_cons_zero, List.flatMap_cons]
      exact congrArg (· ++ _) hy
    | succ j =>
      rw [List.set_append_right _ _ (by rw [hf, Nat.add_mul]; omega), hf, show (j + 1) * k + i - k = j * k + i by rw [Nat.add_mul]; omega, List.set_cons_succ, List.flatMap_cons, ih (by simpa using hj) hy]

/-- a row of cells of the call's own, kept -/
theorem own_keep {w w' : World} {base : Nat} {T : TypeId} {k : Nat} {v : Value} {n : Nat} {cs : List Value} (h : w.ownsRow base T k v n cs) (hb : Below w.heap.size w w') : w'.ownsRow base T k v n cs := by
  refine ⟨h.1, ?_⟩
  rcases h.2 with hn | ⟨g, cap, cur, hv, hbg, hg, rest⟩
  · exact .inl hn
  · have hlt : g < w.heap.size := by
      by_cases e : g < w.heap.size
      · exact e
      · rw [Array.getElem?_eq_none (by omega)] at hg; cases hg
    exact .inr ⟨g, cap, cur, hv, hbg, (hb.block g hlt).trans hg, rest⟩
/-- where it lies -/
theorem own_at {w : World} {base : Nat} {T : TypeId} {k : Nat} {v : Value} {n : Nat} {cs : List Value} (h : w.ownsRow base T k v n cs) (hn : n ≠ 0) : ∃ g c, v = .slice (some ⟨g, 0, none⟩) n c ∧ n ≤ c ∧ c ≤ 9223372036854775807 ∧ base ≤ g ∧ g < w.heap.size ∧ (∀ j u, cs[j]? = some u → w.cell? ⟨g, j, none⟩ = some u) ∧ (∀ j, w.frozen? ⟨g, j, none⟩ = false) := by
  rcases h.2 with ⟨_, h0⟩ | ⟨g, cap, cur, rfl, hbg, hg, h1, h2, h3, ht⟩
  · exact absurd h0 hn
  · have hlt : g < w.heap.size := by
      by_cases e : g < w.heap.size
      · exact e
      · rw [Array.getElem?_eq_none (by omega)] at hg; cases hg
    unfold maxLen at h2
    refine ⟨g, cap, rfl, h1, by omega, hbg, hlt, fun j u hu => ?_, fun j => by simp [World.frozen?, hg]⟩
    have hk := (List.getElem?_eq_some_iff.1 hu).1
    rw [h.1] at hk
    rw [← ht, List.getElem?_take_of_lt hk] at hu
    simp only [World.cell?, hg]
    simpa using hu
theorem own_form {w : World} {base : Nat} {T : TypeId} {k : Nat} {v : Value} {n : Nat} {cs : List Value} (h : w.ownsRow base T k v n cs) : ∃ A c, v = .slice A n c ∧ n ≤ c ∧ c ≤ 9223372036854775807 ∧ (A = none → n = 0 ∧ c = 0) := by
  rcases h.2 with ⟨rfl, h0⟩ | ⟨g, cap, cur, rfl, _, _, h1, h2, _⟩
  · exact ⟨none, 0, by rw [h0], by omega, by omega, fun _ => ⟨h0, rfl⟩⟩
  · unfold maxLen at h2
    exact ⟨some ⟨g, 0, none⟩, cap, rfl, h1, by omega, fun e => by cases e⟩
/-- a cell of it written over -/
theorem own_set {w : World} {base g n c : Nat} {T : TypeId} {k : Nat} {cs : List Value} (h : w.ownsRow base T k (.slice (some ⟨g, 0, none⟩) n c) n cs) (j : Nat) (u : Value) :
    (w.setCell ⟨g, j, none⟩ u).ownsRow base T k (.slice (some ⟨g, 0, none⟩) n c) n (cs.set j u) ∧ Below base w (w.setCell ⟨g, j, none⟩ u) := by
  rcases h.2 with ⟨e, _⟩ | ⟨g', cap, cur, e, hbg, hg, h1, h2, h3, ht⟩
  · cases e
  · injection e with e1 e2 e3
    injection e1 with e1
    injection e1 with e1
    subst e1 e3
    have hm : n * k ≤ c * k := Nat.mul_le_mul_right k h1
    refine ⟨⟨by rw [List.length_set]; exact h.1, .inr ⟨g, c, cur.setIfInBounds j u, rfl, hbg, ?_, h1, h2, by simpa using h3, ?_⟩⟩, ?_⟩
    · simp [World.setCell, Array.getElem?_modify, hg]
    · rw [Array.toList_setIfInBounds, List.take_set, ht]
    · refine ⟨rfl, rfl, rfl, by simp [World.setCell], fun i hi => ?_⟩
      simp [World.setCell, Array.getElem?_modify, show g ≠ i by omega]
theorem drewN_below (w : World) (q : Nat) (B : Nat) : Below B w (w.drewN q) := ⟨rfl, rfl, rfl, Nat.le_refl _, fun _ _ => rfl⟩
end Go.Proofs.Ytieaoebphlcmpaa
