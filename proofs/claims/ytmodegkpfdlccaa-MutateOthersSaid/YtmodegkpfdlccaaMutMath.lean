/-
  A change of a document, node by node: what comes of it; which documents may be.
-/
import Derived.Test.YtmodegkpfdlccaaTreeOK
import Derived.Test.YtmodegkpfdlccaaCutMath
import Derived.Test.YtmodegkpfdlccaaChangeArg
namespace Go.Proofs.Ytmodegkpfdlccaa
open Go.RowKit

/-- a node's display -/
def dispOf (v : RN) : Int := match v.style with
  | .int _ d :: _ => d
  | _ => 0
def flexOf (v : RN) : Nat := if dispOf v = 2 then 1 else 0
/-- so many boxes of DFlex: a node and those above it, at most so many steps up -/
def chainF (N : Nat → RN) : Nat → Nat → Nat
  | 0, _ => 0
  | k + 1, a => flexOf (N a) + if 0 ≤ parOf (dps N) a then chainF N k (parOf (dps N) a).toNat else 0
def chain (N : Nat → RN) (a : Nat) : Nat := chainF N (a + 1) a
theorem par_lt (dp : Nat → Int) (a : Nat) : parOf dp a < a := by
  rcases parFrom_cases dp (dp a) a with ⟨h, _⟩ | ⟨p, h, hp, _, _⟩
  · have : parOf dp a = -1 := h
    omega
  · have : parOf dp a = p := h
    omega
theorem chainF_more (N : Nat → RN) : ∀ k a, a < k → chainF N k a = chain N a := by
  have : ∀ k a l, a < k → a < l → chainF N k a = chainF N l a := by
    intro k
    induction k with
    | zero => intro a l h; omega
    | succ k ih =>
      intro a l h1 h2
      obtain ⟨l, rfl⟩ : ∃ m, l = m + 1 := ⟨l - 1, by omega⟩
      unfold chainF
      split
      · have := par_lt (dps N) a
        rw [ih _ l (by omega) (by omega)]
      · rfl
  intro k a h
  exact this k a (a + 1) h (by omega)
theorem chain_root {N : Nat → RN} {a : Nat} (h : parOf (dps N) a < 0) : chain N a = flexOf (N a) := by
  unfold chain chainF
  rw [if_neg (by omega), Nat.add_zero]
theorem chain_up {N : Nat → RN} {a u : Nat} (h : parOf (dps N) a = u) : chain N a = flexOf (N a) + chain N u := by
  have := par_lt (dps N) a
  rw [h] at this
  rw [chain, chainF, h, if_pos (by omega), Int.toNat_natCast, chainF_more N a u (by omega)]
/-- a document may be -/
structure MayD (Sty : List Lit → Prop) (n : Nat) (x : Int) (N : Nat → RN) : Prop where
  shape : Shape n x N
  sty : ∀ i, i < n → (N i).kind = 0 → Sty (N i).style
  under : ∀ i, i < n → (N i).kind = 1 → ∀ u : Nat, parOf (dps N) i = u → dispOf (N u) ≠ 2
  flex : ∀ i, i < n → chain N i ≤ 6

/-- the first node of a key -/
def findN (N : Nat → RN) (n : Nat) (key : Int) : Option Nat := (List.range n).find? fun j => decide ((N j).key = key)
theorem find_none {N : Nat → RN} {n : Nat} {key : Int} : findN N n key = none ↔ ∀ j, j < n → (N j).key ≠ key := by
  unfold findN
  rw [List.find?_eq_none]
  simp
theorem find_some {N : Nat → RN} {n i : Nat} {key : Int} (h : findN N n key = some i) : i < n ∧ (N i).key = key := by
  unfold findN at h
  have h1 := List.mem_of_find?_eq_some h
  have h2 := List.find?_some h
  exact ⟨by simpa using h1, by simpa using h2⟩
theorem find_first {N : Nat → RN} {n i : Nat} {key : Int} (h : findN N n key = some i) : ∀ j, j < i → (N j).key ≠ key := by
  unfold findN at h
  rw [List.find?_range_eq_some] at h
  intro j hj
  have := h.2.2 j hj
  simpa using this
theorem find_only {N : Nat → RN} {n i : Nat} (h : ∀ j, j < n → j ≠ i → (N j).key ≠ (N i).key) (hi : i < n) : findN N n (N i).key = some i := by
  cases e : findN N n (N i).key with
  | none => exact absurd rfl (find_none.1 e i hi)
  | some j =>
    obtain ⟨h1, h2⟩ := find_some e
    rcases Nat.lt_or_ge j i with c | c
    · exact absurd h2 (h j h1 (by omega))
    · rcases Nat.lt_or_ge i j with c2 | c2
      · exact absurd h2 (h j h1 (by omega))
      · rw [show j = i by omega]
theorem Shape.only {N : Nat → RN} {n i : Nat} {x : Int} (h : Shape n x N) (hi : i < n) : ∀ j, j < n → j ≠ i → (N j).key ≠ (N i).key := fun j hj hne => by
  rcases Nat.lt_or_ge j i with c | c
  · exact h.once j i c hi
  · exact fun e => h.once i j (by omega) hj e.symm
theorem find_is (N : Nat → RN) (n : Nat) (key : Int) : FindIs N n key (match findN N n key with | none => -1 | some i => i) := by
  cases e : findN N n key with
  | none => exact .inl ⟨rfl, find_none.1 e⟩
  | some i => exact .inr ⟨i, (find_some e).1, rfl, (find_some e).2, find_first e⟩

/-- nodes put among others, from a place on -/
def putN (N : Nat → RN) (p k : Nat) (M : Nat → RN) (j : Nat) : RN := if j < p then N j else if j < p + k then M (j - p) else N (j - k)
/-- so many nodes taken away, from a place on -/
def gapped (N : Nat → RN) (a k : Nat) (j : Nat) : RN := if j < a then N j else N (j + k)
/-- so deep -/
def levelN (M : Nat → RN) (d : Int) (j : Nat) : RN := { M j with depth := d + (M j).depth - (M 0).depth }
theorem putN_lt {N M : Nat → RN} {p k j : Nat} (h : j < p) : putN N p k M j = N j := by unfold putN; rw [if_pos h]
theorem putN_in {N M : Nat → RN} {p k i : Nat} (h : i < k) : putN N p k M (p + i) = M i := by unfold putN; rw [if_neg (by omega), if_pos (by omega), show p + i - p = i by omega]
theorem putN_ge {N M : Nat → RN} {p k j : Nat} (h : p ≤ j) : putN N p k M (j + k) = N j := by unfold putN; rw [if_neg (by omega), if_neg (by omega), show j + k - k = j by omega]
theorem gapped_lt {N : Nat → RN} {a k j : Nat} (h : j < a) : gapped N a k j = N j := by unfold gapped; rw [if_pos h]
theorem gapped_ge {N : Nat → RN} {a k j : Nat} (h : a ≤ j) : gapped N a k j = N (j + k) := by unfold gapped; rw [if_neg (by omega)]
theorem dps_put (N : Nat → RN) (p k : Nat) (M : Nat → RN) : dps (putN N p k M) = putD (dps N) p k (dps M) := by
  funext j
  unfold dps putN putD
  split
  · rfl
  · split <;> rfl
theorem dps_gapped (N : Nat → RN) (a k : Nat) : dps (gapped N a k) = cutD (dps N) a k := by
  funext j
  unfold dps gapped cutD
  split <;> rfl
theorem put_gapped (N : Nat → RN) (a k : Nat) : putN (gapped N a k) a k (fun i => N (a + i)) = N := by
  funext j
  rcases Nat.lt_or_ge j a with c | c
  · rw [putN_lt c, gapped_lt c]
  · rcases Nat.lt_or_ge j (a + k) with c2 | c2
    · obtain ⟨t, rfl⟩ : ∃ t, j = a + t := ⟨j - a, by omega⟩
      rw [putN_in (by omega)]
    · obtain ⟨t, rfl⟩ : ∃ t, j = t + k := ⟨j - k, by omega⟩
      rw [putN_ge (by omega), gapped_ge (by omega)]
theorem gapped_put (N M : Nat → RN) (p k : Nat) : gapped (putN N p k M) p k = N := by
  funext j
  rcases Nat.lt_or_ge j p with c | c
  · rw [gapped_lt c, putN_lt c]
  · rw [gapped_ge c, putN_ge c]
theorem deep_same {M : Nat → RN} {d : Int} (h : (M 0).depth = d) : levelN M d = M := by
  funext j
  unfold levelN
  rw [show d + (M j).depth - (M 0).depth = (M j).depth by omega]
theorem deep_deep (M : Nat → RN) (d e : Int) : levelN (levelN M d) e = levelN M e := by
  funext j
  simp only [levelN, RN.mk.injEq, true_and, and_true]
  omega
/-- where a kid of that number of a box would stand, and which box that is -/
def gapN (N : Nat → RN) (n : Nat) (key t : Int) : Option (Nat × Nat) := match findN N n key with
  | none => none
  | some u => if (N u).kind = 0 ∧ 0 ≤ t ∧ t ≤ ((kidsOf (dps N) n u).length : Nat) then some (u, (kidsOf (dps N) n u).getD t.toNat (endOf (dps N) n u)) else none
theorem gap_told {N : Nat → RN} {n u p : Nat} {key t : Int} (h : gapN N n key t = some (u, p)) : findN N n key = some u ∧ u < n ∧ (N u).key = key ∧ (N u).kind = 0 ∧ 0 ≤ t ∧ GapAt (dps N) n u t.toNat p := by
  unfold gapN at h
  cases e : findN N n key with
  | none => rw [e] at h; cases h
  | some v =>
    rw [e] at h
    dsimp only at h
    split at h
    · rename_i c
      simp only [Option.some.injEq, Prod.mk.injEq] at h
      obtain ⟨rfl, rfl⟩ := h
      obtain ⟨f1, f2⟩ := find_some e
      refine ⟨rfl, f1, f2, c.1, c.2.1, ?_⟩
      rcases Nat.lt_or_ge t.toNat (kidsOf (dps N) n v).length with g | g
      · left
        rw [List.getD_eq_getElem?_getD, List.getElem?_eq_getElem g]
        rfl
      · right
        refine ⟨by omega, ?_⟩
        rw [List.getD_eq_getElem?_getD, List.getElem?_eq_none g]
        rfl
    · cases h
theorem gap_of {N : Nat → RN} {n u p t : Nat} {key : Int} (h1 : findN N n key = some u) (h2 : (N u).kind = 0) (h3 : GapAt (dps N) n u t p) : gapN N n key t = some (u, p) := by
  unfold gapN
  rw [h1]
  dsimp only
  rcases h3 with h | ⟨h, rfl⟩
  · obtain ⟨g, -⟩ := List.getElem?_eq_some_iff.1 h
    rw [if_pos ⟨h2, by omega, by omega⟩, Int.toNat_natCast, List.getD_eq_getElem?_getD, h]
    rfl
  · rw [if_pos ⟨h2, by omega, by omega⟩, Int.toNat_natCast, List.getD_eq_getElem?_getD, List.getElem?_eq_none (by omega)]
    rfl
/-- what comes of a change: an error, or so many nodes, Next, the nodes -/
inductive Out7 where
  | no (f : Int)
  | doc (n : Nat) (x : Int) (N : Nat → RN)
section
variable (Sty : List Lit → Prop)
open Classical in
noncomputable def insertedN (N : Nat → RN) (n : Nat) (x : Int) (c : RC) : Out7 := match gapN N n c.parent c.at_ with
  | none => .no 70
  | some (u, p) => if c.node.kind = 0 then (if Sty c.node.style then .doc (n + 1) (x + 1) (putN N p 1 fun _ => ⟨x, (N u).depth + 1, 0, c.node.style, []⟩) else .no 60)
    else if c.node.kind = 1 then .doc (n + 1) (x + 1) (putN N p 1 fun _ => ⟨x, (N u).depth + 1, 1, noStyle, c.node.text⟩) else .no 70
def sizeN (N : Nat → RN) (n a : Nat) : Nat := endOf (dps N) n a - a
def movedN (N : Nat → RN) (n : Nat) (x : Int) (c : RC) (a : Nat) : Out7 := match gapN (gapped N a (sizeN N n a)) (n - sizeN N n a) c.parent c.at_ with
  | none => .no 70
  | some (u, p) => .doc n x (putN (gapped N a (sizeN N n a)) p (sizeN N n a) (levelN (fun i => N (a + i)) ((gapped N a (sizeN N n a) u).depth + 1)))
def setN (N : Nat → RN) (a : Nat) (v : RN) (j : Nat) : RN := if j = a then v else N j
open Classical in
noncomputable def otherN (N : Nat → RN) (n : Nat) (x : Int) (c : RC) (a : Nat) : Out7 :=
  if c.kind = 4 then (if (N a).kind = 0 then (if Sty c.node.style then .doc n x (setN N a { N a with style := c.node.style }) else .no 60) else .no 70)
  else if (N a).kind = 1 then .doc n x (setN N a { N a with text := c.node.text }) else .no 70
noncomputable def doneN (N : Nat → RN) (n : Nat) (x : Int) (c : RC) : Out7 :=
  if c.kind = 1 then insertedN Sty N n x c else match findN N n c.key with
    | none => .no 70
    | some a => if c.kind = 2 ∧ 0 < a then .doc (n - sizeN N n a) x (gapped N a (sizeN N n a))
      else if c.kind = 3 ∧ 0 < a then movedN N n x c a
      else if c.kind = 4 ∨ c.kind = 5 then otherN Sty N n x c a else .no 70
open Classical in
/-- what a change of a document comes to, as the chapter has it -/
noncomputable def applyN (N : Nat → RN) (n : Nat) (x : Int) (c : RC) : Out7 :=
  if MayD Sty n x N then match doneN Sty N n x c with
    | .no f => .no f
    | .doc m y M => if MayD Sty m y M then .doc m y M else .no 4
  else .no 50
/-- what is asked of a program's May and Apply -/
def MayOK7 (f : Nat) : Prop := ∀ (A : Option Addr) (n c : Nat) (x : Int) (N : Nat → RN) (w : World), DocIn w A n c x N →
  Calls Try.prog f #[docV A n c x] w fun e w' => ∃ b : Bool, e = .returned (.bool b) ∧ (b = true ↔ MayD Sty n x N) ∧ Below w.heap.size w w'
/-- what an answer of Apply is -/
def Ans7 (w w' : World) (e : Ending) : Out7 → Prop
  | .no f => e = .returned (.tuple #[docV none 0 0 0, .int .i64 f])
  | .doc m y M => ∃ B d, e = .returned (.tuple #[docV B m d y, .int .i64 0]) ∧ DocIn w' B m d y M ∧ OwnN w' B m w.heap.size
def ApplyOK7 (f : Nat) : Prop := ∀ (A : Option Addr) (n c : Nat) (x : Int) (N : Nat → RN) (g : RC) (w : World), DocIn w A n c x N → g.ok →
  Calls Try.prog f #[docV A n c x, changeV g] w fun e w' => Ans7 w w' e (applyN Sty N n x g) ∧ Below w.heap.size w w'
end
end Go.Proofs.Ytmodegkpfdlccaa
