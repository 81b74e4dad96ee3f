/-
  The chapter's examples: what ten changes of its document come to.
-/
import Derived.Test.YtmodegkpfdlccaaMutT
namespace Go.Proofs.Ytmodegkpfdlccaa
open Go.RowKit

/-- whether a document may be, but for its styles: to be reckoned -/
def okB (n : Nat) (x : Int) (N : Nat → RN) : Bool :=
  decide (0 < n ∧ n ≤ 300 ∧ x ≤ 1073741825 ∧ (N 0).depth = 0 ∧ (N 0).kind = 0 ∧ bytesTo N n ≤ 1500) &&
  ((List.range n).all fun i => decide ((0 < i → 1 ≤ (N i).depth ∧ (N i).depth ≤ (N (i - 1)).depth + 1) ∧ (N i).depth ≤ 15 ∧ ((N i).kind = 0 ∨ (N i).kind = 1) ∧ (i + 1 < n → (N i).kind = 1 → (N (i + 1)).depth ≤ (N i).depth) ∧
    (1 ≤ (N i).key ∧ (N i).key < x) ∧ ((N i).kind = 0 → (N i).text.length = 0) ∧ (N i).text.length ≤ 200 ∧ chain N i ≤ 6 ∧ ((N i).kind = 1 → 0 ≤ parOf (dps N) i → dispOf (N (parOf (dps N) i).toNat) ≠ 2))) &&
  ((List.range n).all fun j => (List.range j).all fun i => decide ((N i).key ≠ (N j).key))
section
variable {Sty : List Lit → Prop}
theorem may_lit {n : Nat} {x : Int} {N : Nat → RN} (h : okB n x N = true) (hs : ∀ i, i < n → (N i).style = noStyle) (st : Sty noStyle) : MayD Sty n x N := by
  unfold okB at h
  rw [Bool.and_eq_true, Bool.and_eq_true, decide_eq_true_iff, List.all_eq_true, List.all_eq_true] at h
  obtain ⟨⟨⟨a1, a2, a3, a4, a5, a6⟩, h2⟩, h3⟩ := h
  have g : ∀ i, i < n → _ := fun i hi => of_decide_eq_true (h2 i (List.mem_range.2 hi))
  have o : ∀ i j, i < j → j < n → (N i).key ≠ (N j).key := fun i j hij hj => by
    have := List.all_eq_true.1 (h3 j (List.mem_range.2 hj)) i (List.mem_range.2 hij)
    exact of_decide_eq_true this
  refine ⟨⟨a1, a2, a3, ⟨a4, fun i i0 hi => (g i hi).1 i0⟩, fun i hi => (g i hi).2.1, fun i hi => (g i hi).2.2.1, a5, fun i hi => (g i (by omega)).2.2.2.1 hi, fun i hi => (g i hi).2.2.2.2.1, o, fun i hi k => List.eq_nil_of_length_eq_zero ((g i hi).2.2.2.2.2.1 k), fun i hi _ => ⟨hs i hi, (g i hi).2.2.2.2.2.2.1⟩, a6⟩,
    fun i hi _ => by rw [hs i hi]; exact st, fun i hi k u hu => ?_, fun i hi => (g i hi).2.2.2.2.2.2.2.1⟩
  have := (g i hi).2.2.2.2.2.2.2.2 k (by rw [hu]; omega)
  rwa [hu, Int.toNat_natCast] at this
/-- just these keys and depths -/
def tells (N : Nat → RN) (n : Nat) (l : List Int) : Bool := (List.range n).all fun i => decide ((N i).key = l.getD (2 * i) 0 ∧ (N i).depth = l.getD (2 * i + 1) 0)
theorem tells_all {N : Nat → RN} {n : Nat} {l : List Int} (h : tells N n l = true) : ∀ i, i < n → (N i).key = (fun k => l.getD k 0) (2 * i) ∧ (N i).depth = (fun k => l.getD k 0) (2 * i + 1) := fun i hi => by
  unfold tells at h
  rw [List.all_eq_true] at h
  exact of_decide_eq_true (h i (List.mem_range.2 hi))
theorem four_style (j : Nat) : (fourN j).style = noStyle := by
  unfold fourN
  split
  · rfl
  · split
    · rfl
    · split <;> rfl
theorem four_kind (j : Nat) : (fourN j).kind = 0 := by
  unfold fourN
  split
  · rfl
  · split
    · rfl
    · split <;> rfl
theorem four_may (st : Sty noStyle) : MayD Sty 4 5 fourN := may_lit (by kernel_rfl) (fun i _ => four_style i) st
theorem put_style {N T : Nat → RN} {p k : Nat} (h1 : ∀ j, (N j).style = noStyle) (h2 : ∀ j, (T j).style = noStyle) (j : Nat) : (putN N p k T j).style = noStyle := by
  unfold putN
  split
  · exact h1 _
  · split
    · exact h2 _
    · exact h1 _
theorem deep_style {M : Nat → RN} {d : Int} (h : ∀ j, (M j).style = noStyle) (j : Nat) : (levelN M d j).style = noStyle := h j
theorem gapped_style {N : Nat → RN} {a k : Nat} (h1 : ∀ j, (N j).style = noStyle) (j : Nat) : (gapped N a k j).style = noStyle := by
  unfold gapped
  split <;> exact h1 _
def noNode : RN := ⟨0, 0, 0, noStyle, []⟩
def exA : RC := ⟨1, 0, 1, 1, noNode⟩
def exB (t : List UInt8) : RC := ⟨1, 0, 4, 0, ⟨0, 0, 1, noStyle, t⟩⟩
def exG : RC := ⟨1, 0, 3, 1, noNode⟩
def exC : RC := ⟨2, 2, 0, 0, noNode⟩
def exI : RC := ⟨2, 1, 0, 0, noNode⟩
def exM : RC := ⟨3, 2, 4, 0, noNode⟩
def exL : RC := ⟨3, 2, 3, 0, noNode⟩
def exN : RC := ⟨3, 2, 1, 1, noNode⟩
def exP : RC := ⟨5, 4, 0, 0, noNode⟩
def exQ (s : List Lit) : RC := ⟨4, 4, 0, 0, ⟨0, 0, 0, s, []⟩⟩
theorem ex_a (st : Sty noStyle) : ∃ M, applyN Sty fourN 4 5 exA = .doc 5 6 M ∧ tells M 5 [1, 0, 2, 1, 3, 2, 5, 1, 4, 1] = true := by
  refine ⟨putN fourN 3 1 fun _ => ⟨5, (fourN 0).depth + 1, 0, noStyle, []⟩, apply_of (four_may st) ?_ (may_lit (by kernel_rfl) (fun i _ => put_style four_style (fun _ => rfl) i) st), by kernel_rfl⟩
  have g : gapN fourN 4 exA.parent exA.at_ = some (0, 3) := by kernel_rfl
  unfold doneN insertedN
  rw [show exA.kind = 1 from rfl, if_pos (rfl : (1 : Int) = 1), g]
  dsimp only
  rw [show exA.node.kind = 0 from rfl, if_pos (rfl : (0 : Int) = 0), if_pos (show Sty exA.node.style from st)]
  rfl
theorem ex_b (st : Sty noStyle) : ∃ M, applyN Sty fourN 4 5 (exB [97]) = .doc 5 6 M ∧ tells M 5 [1, 0, 2, 1, 3, 2, 4, 1, 5, 2] = true := by
  refine ⟨putN fourN 4 1 fun _ => ⟨5, (fourN 3).depth + 1, 1, noStyle, [97]⟩, apply_of (four_may st) ?_ (may_lit (by kernel_rfl) (fun i _ => put_style four_style (fun _ => rfl) i) st), by kernel_rfl⟩
  have g : gapN fourN 4 (exB [97]).parent (exB [97]).at_ = some (3, 4) := by kernel_rfl
  unfold doneN insertedN
  rw [show (exB [97]).kind = 1 from rfl, if_pos (rfl : (1 : Int) = 1), g]
  dsimp only
  rw [show (exB [97]).node.kind = 1 from rfl, if_neg (show ¬ (1 : Int) = 0 by omega), if_pos (rfl : (1 : Int) = 1)]
  rfl
theorem ex_g (st : Sty noStyle) : applyN Sty fourN 4 5 exG = .no 70 := by
  have g : gapN fourN 4 exG.parent exG.at_ = none := by kernel_rfl
  unfold applyN doneN insertedN
  rw [if_pos (four_may st), show exG.kind = 1 from rfl, if_pos (rfl : (1 : Int) = 1), g]
theorem ex_c (st : Sty noStyle) : ∃ M, applyN Sty fourN 4 5 exC = .doc 2 5 M ∧ tells M 2 [1, 0, 4, 1] = true := by
  refine ⟨gapped fourN 1 2, apply_of (four_may st) ?_ (may_lit (by kernel_rfl) (fun i _ => gapped_style four_style i) st), by kernel_rfl⟩
  have g : findN fourN 4 exC.key = some 1 := by kernel_rfl
  have s : sizeN fourN 4 1 = 2 := by kernel_rfl
  unfold doneN
  rw [show exC.kind = 2 from rfl, if_neg (show ¬ (2 : Int) = 1 by omega), g]
  dsimp only
  rw [if_pos (show (2 : Int) = 2 ∧ 0 < 1 from ⟨rfl, by omega⟩), s]
theorem ex_i (st : Sty noStyle) : applyN Sty fourN 4 5 exI = .no 70 := by
  have g : findN fourN 4 exI.key = some 0 := by kernel_rfl
  unfold applyN doneN
  rw [if_pos (four_may st), show exI.kind = 2 from rfl, if_neg (show ¬ (2 : Int) = 1 by omega), g]
  dsimp only
  rw [if_neg (show ¬ ((2 : Int) = 2 ∧ 0 < 0) by omega), if_neg (show ¬ ((2 : Int) = 3 ∧ 0 < 0) by omega), if_neg (show ¬ ((2 : Int) = 4 ∨ (2 : Int) = 5) by omega)]
theorem ex_m (st : Sty noStyle) : ∃ M, applyN Sty fourN 4 5 exM = .doc 4 5 M ∧ tells M 4 [1, 0, 4, 1, 2, 2, 3, 3] = true := by
  refine ⟨putN (gapped fourN 1 2) 2 2 (levelN (fun i => fourN (1 + i)) ((gapped fourN 1 2 1).depth + 1)), apply_of (four_may st) ?_ (may_lit (by kernel_rfl) (fun i _ => put_style (gapped_style four_style) (deep_style fun j => four_style _) i) st), by kernel_rfl⟩
  have g : findN fourN 4 exM.key = some 1 := by kernel_rfl
  have s : sizeN fourN 4 1 = 2 := by kernel_rfl
  have e : gapN (gapped fourN 1 2) (4 - 2) exM.parent exM.at_ = some (1, 2) := by kernel_rfl
  unfold doneN
  rw [show exM.kind = 3 from rfl, if_neg (show ¬ (3 : Int) = 1 by omega), g]
  dsimp only
  rw [if_neg (show ¬ ((3 : Int) = 2 ∧ 0 < 1) by omega), if_pos (show (3 : Int) = 3 ∧ 0 < 1 from ⟨rfl, by omega⟩)]
  unfold movedN
  rw [s, e]
theorem ex_l (st : Sty noStyle) : applyN Sty fourN 4 5 exL = .no 70 := by
  have g : findN fourN 4 exL.key = some 1 := by kernel_rfl
  have s : sizeN fourN 4 1 = 2 := by kernel_rfl
  have e : gapN (gapped fourN 1 2) (4 - 2) exL.parent exL.at_ = none := by kernel_rfl
  unfold applyN doneN
  rw [if_pos (four_may st), show exL.kind = 3 from rfl, if_neg (show ¬ (3 : Int) = 1 by omega), g]
  dsimp only
  rw [if_neg (show ¬ ((3 : Int) = 2 ∧ 0 < 1) by omega), if_pos (show (3 : Int) = 3 ∧ 0 < 1 from ⟨rfl, by omega⟩)]
  unfold movedN
  rw [s, e]
theorem ex_n (st : Sty noStyle) : ∃ M, applyN Sty fourN 4 5 exN = .doc 4 5 M ∧ tells M 4 [1, 0, 4, 1, 2, 1, 3, 2] = true := by
  refine ⟨putN (gapped fourN 1 2) 2 2 (levelN (fun i => fourN (1 + i)) ((gapped fourN 1 2 0).depth + 1)), apply_of (four_may st) ?_ (may_lit (by kernel_rfl) (fun i _ => put_style (gapped_style four_style) (deep_style fun j => four_style _) i) st), by kernel_rfl⟩
  have g : findN fourN 4 exN.key = some 1 := by kernel_rfl
  have s : sizeN fourN 4 1 = 2 := by kernel_rfl
  have e : gapN (gapped fourN 1 2) (4 - 2) exN.parent exN.at_ = some (0, 2) := by kernel_rfl
  unfold doneN
  rw [show exN.kind = 3 from rfl, if_neg (show ¬ (3 : Int) = 1 by omega), g]
  dsimp only
  rw [if_neg (show ¬ ((3 : Int) = 2 ∧ 0 < 1) by omega), if_pos (show (3 : Int) = 3 ∧ 0 < 1 from ⟨rfl, by omega⟩)]
  unfold movedN
  rw [s, e]
theorem ex_p (st : Sty noStyle) : applyN Sty fourN 4 5 exP = .no 70 := by
  have g : findN fourN 4 exP.key = some 3 := by kernel_rfl
  unfold applyN doneN
  rw [if_pos (four_may st), show exP.kind = 5 from rfl, if_neg (show ¬ (5 : Int) = 1 by omega), g]
  dsimp only
  rw [if_neg (show ¬ ((5 : Int) = 2 ∧ 0 < 3) by omega), if_neg (show ¬ ((5 : Int) = 3 ∧ 0 < 3) by omega), if_pos (show (5 : Int) = 4 ∨ (5 : Int) = 5 from .inr rfl)]
  unfold otherN
  rw [show exP.kind = 5 from rfl, if_neg (show ¬ (5 : Int) = 4 by omega), four_kind, if_neg (show ¬ (0 : Int) = 1 by omega)]
theorem ex_q (st : Sty noStyle) {s : List Lit} (hs : ¬ Sty s) : applyN Sty fourN 4 5 (exQ s) = .no 60 := by
  have g : findN fourN 4 (exQ s).key = some 3 := by kernel_rfl
  unfold applyN doneN
  rw [if_pos (four_may st), show (exQ s).kind = 4 from rfl, if_neg (show ¬ (4 : Int) = 1 by omega), g]
  dsimp only
  rw [if_neg (show ¬ ((4 : Int) = 2 ∧ 0 < 3) by omega), if_neg (show ¬ ((4 : Int) = 3 ∧ 0 < 3) by omega), if_pos (show (4 : Int) = 4 ∨ (4 : Int) = 5 from .inl rfl)]
  unfold otherN
  rw [show (exQ s).kind = 4 from rfl, if_pos (rfl : (4 : Int) = 4), four_kind, if_pos (rfl : (0 : Int) = 0), if_neg (show ¬ Sty (exQ s).node.style from hs)]
theorem may_nothing (N : Nat → RN) (x : Int) : ¬ MayD Sty 0 x N := fun h => by have := h.shape.some_; omega
end
end Go.Proofs.Ytmodegkpfdlccaa
