/-
  Rows of values that are taken one by one: what holds of them; when there is none.
-/
import Derived.Test.YtkjndgnjilfobaaPutW
import Derived.Test.YtkjndgnjilfobaaWireRows
namespace Go.Proofs.Ytkjndgnjilfobaa
open Go.RowKit

theorem allFit_split : ∀ {s t : List Nat} {l m : List WV}, s.length = l.length → AllFit (s ++ t) (l ++ m) → AllFit s l ∧ AllFit t m
  | [], _, [], _, _, h => ⟨trivial, h⟩
  | _ :: _, _, _ :: _, _, hl, h => by
    obtain ⟨h1, h2⟩ := allFit_split (by simpa using hl) h.2
    exact ⟨⟨h.1, h1⟩, h2⟩
theorem take_pick {s : List Nat} {j : Nat} (hj : j < s.length) : s.take (j + 1) = s.take j ++ [pick s j] := by
  rw [List.take_add_one, pick_get hj]
  rfl
theorem split_pick {s : List Nat} {j : Nat} (hj : j < s.length) : s = s.take j ++ (pick s j :: s.drop (j + 1)) := by
  have h := (List.take_append_drop (j + 1) s).symm
  rw [take_pick hj, List.append_assoc] at h
  exact h
/-- behind j values no further one begins: there is no row of values -/
theorem none_next {s bl rest : List Nat} {j : Nat} {lj : List WV} (hs : ∀ c ∈ s, Letter c) (hj : j < s.length) (hl : AllFit (s.take j) lj) (hb : bl = forms (s.take j) lj ++ rest)
    (hn : ∀ v r, Fits (pick s j) v → Short v → Real v → form (pick s j) v ++ r ≠ rest) : ∀ l r, Valid s l → forms s l ++ r ≠ bl := by
  intro l r ⟨⟨_, hfit⟩, hsh, hre⟩ e
  have hlen := hfit.len
  obtain ⟨l1, v, l2, rfl, h1⟩ : ∃ l1 v l2, l = l1 ++ v :: l2 ∧ l1.length = j := by
    refine ⟨l.take j, l[j]'(by omega), l.drop (j + 1), ?_, by rw [List.length_take]; omega⟩
    have h := (List.take_append_drop (j + 1) l).symm
    rw [List.take_add_one, List.getElem?_eq_getElem (by omega), List.append_assoc] at h
    exact h
  have hsp := split_pick hj
  have hfit2 : AllFit (s.take j ++ (pick s j :: s.drop (j + 1))) (l1 ++ v :: l2) := hsp ▸ hfit
  obtain ⟨f1, f2⟩ := allFit_split (by rw [List.length_take, h1]; omega) hfit2
  have e2 : forms (s.take j ++ (pick s j :: s.drop (j + 1))) (l1 ++ v :: l2) = forms s (l1 ++ v :: l2) := by rw [← hsp]
  rw [← e2, forms_append (by rw [List.length_take, h1]; omega), hb, List.append_assoc] at e
  obtain ⟨_, e3⟩ := forms_inj (fun c hc => hs c (List.mem_of_mem_take hc)) f1 hl e
  have hv : v ∈ l1 ++ v :: l2 := by simp
  exact hn v (forms (s.drop (j + 1)) l2 ++ r) f2.1 (hsh v hv) (hre v hv) (by rw [← e3]; simp [forms])
theorem fit_next {s : List Nat} {j : Nat} {lj : List WV} {v : WV} (hj : j < s.length) (hl : AllFit (s.take j) lj) (hv : Fits (pick s j) v) : AllFit (s.take (j + 1)) (lj ++ [v]) := by
  rw [take_pick hj]
  exact hl.append ⟨hv, trivial⟩
theorem forms_snoc {s : List Nat} {j : Nat} {lj : List WV} {v : WV} (hj : j < s.length) (hl : lj.length = j) : forms (s.take (j + 1)) (lj ++ [v]) = forms (s.take j) lj ++ form (pick s j) v := by
  rw [take_pick hj, forms_append (by rw [List.length_take]; omega)]
  simp [forms]
theorem means_snoc (V : Nat → RV) (k : Nat) (X : RV) : means (joinV V k (fun _ => X)) (k + 1) = means V k ++ [X.mean] := by
  rw [means_join]
  rfl

/-- a row of values of the call's own, none of which lies in the row's own block -/
def RowOK (w : World) (v : Value) (V : Nat → RV) (k : Nat) : Prop := ∀ j, j < k → (V j).ok w ∧ Apart w v (V j).bA ∧ Apart w v (V j).lA
theorem RowOK.below {w w' : World} {v : Value} {V : Nat → RV} {k : Nat} (h : RowOK w v V k) (hb : Below w.heap.size w w') : RowOK w' v V k := fun j hj =>
  ⟨(h j hj).1.below hb, (h j hj).2.1.up hb.size, (h j hj).2.2.up hb.size⟩
theorem RowOK.push {w w' : World} {v : Value} {V : Nat → RV} {k g c : Nat} {X : RV} (h : RowOK w v V k) (hX : X.ok w) (h1 : Apart w v X.bA) (h2 : Apart w v X.lA) (hg : w.grownBy w' v.ownBlock) (hat : v.ownBlock = some g ∨ g = w.heap.size) :
    RowOK w' (.slice (some ⟨g, 0, none⟩) (k + 1) c) (joinV V k (fun _ => X)) (k + 1) := fun j hj => by
  unfold joinV
  split
  · rename_i hjk
    obtain ⟨p1, p3, p4⟩ := h j hjk
    exact ⟨p1.far hg.size p3 p4 hg, p3.next hg.size rfl hat, p4.next hg.size rfl hat⟩
  · exact ⟨hX.far hg.size h1 h2 hg, h1.next hg.size rfl hat, h2.next hg.size rfl hat⟩
/-- the values' bytes lie in blocks from base on, which may be written -/
def RowNew (base : Nat) (w : World) (V : Nat → RV) (k : Nat) : Prop := ∀ j, j < k → Loose w (V j).bA ∧ ∀ p, (V j).bA = some p → base ≤ p.block
theorem RowNew.below {base k : Nat} {w w' : World} {V : Nat → RV} (h : RowNew base w V k) (hb : Below w.heap.size w w') : RowNew base w' V k := fun j hj => ⟨(h j hj).1.below hb, (h j hj).2⟩
theorem Loose.far {w w' : World} {v : Value} {A : Option Addr} (h : Loose w A) (ha : Apart w v A) (hg : w.grownBy w' v.ownBlock) : Loose w' A := h.keep fun p e => hg.block _ (ha p e).1 (ha p e).2
theorem RowNew.push {base k : Nat} {w w' : World} {v : Value} {V : Nat → RV} {X : RV} (h : RowNew base w V k) (ho : RowOK w v V k) (hl : Loose w X.bA) (hb : ∀ p, X.bA = some p → base ≤ p.block) (h1 : Apart w v X.bA) (hg : w.grownBy w' v.ownBlock) : RowNew base w' (joinV V k (fun _ => X)) (k + 1) := fun j hj => by
  unfold joinV
  split
  · rename_i hjk
    exact ⟨(h j hjk).1.far (ho j hjk).2.1 hg, (h j hjk).2⟩
  · exact ⟨hl.far h1 hg, hb⟩
theorem ownsV.own {w : World} {base n : Nat} {v : Value} {V : Nat → RV} (h : ownsV w base v V n) : ∀ k, v.ownBlock = some k → base ≤ k ∧ k < w.heap.size := World.ownsRow.lt h
theorem NewAt.apart {w0 w' : World} {A : Option Addr} {v : Value} (h : NewAt w0 w' A) (hv : ∀ k, v.ownBlock = some k → k < w0.heap.size) : Apart w' v A := fun p e => by
  obtain ⟨h1, h2⟩ := h p e
  exact ⟨h2, fun e2 => by have := hv p.block e2.symm; omega⟩
theorem NewAt.up {w0 w w' : World} {A : Option Addr} (h : NewAt w0 w A) (hb : w.heap.size ≤ w'.heap.size) : NewAt w0 w' A := fun p e => ⟨(h p e).1, Nat.lt_of_lt_of_le (h p e).2 hb⟩
/-- a value in a block of its own, as a row of one -/
theorem vals_one {w : World} {X : RV} (h : X.ok w) : Vals (w.alloc (.cells #[.int .u64 (X.n : Nat), .int .i64 X.i, .bool X.f, .slice X.bA X.bn X.bc, .slice X.lA X.ln X.lc] 42)) (some ⟨w.heap.size, 0, none⟩) 1 (fun _ => X) := by
  refine ⟨fun j hj => h.below ((Below.refl _ w).alloc (Nat.le_refl _) _), fun _ => ⟨_, _, rfl, by simp, fun j hj => ?_⟩⟩
  obtain rfl : j = 0 := by omega
  have hn := heap_alloc_new w (.cells #[.int .u64 (X.n : Nat), .int .i64 X.i, .bool X.f, .slice X.bA X.bn X.bc, .slice X.lA X.ln X.lc] 42)
  refine ⟨?_, ?_, ?_, ?_, ?_⟩ <;> rw [cell_of_row _ _ _ _ _ _ hn] <;> rfl
end Go.Proofs.Ytkjndgnjilfobaa
