/-
  A document without a node's tree, with a key twice, with a depth of 0: whether it has a shape; rows of nodes put one behind the other.
-/
import Derived.Test.YtlkcmfohmkblfaaParentsMath
import Derived.Test.YtlkcmfohmkblfaaStillIn
import Derived.Deep.AppendLies
namespace Go.Proofs.Ytlkcmfohmkblfaa
open Go.RowKit

/-- the first so many nodes, and then others -/
def joinN (N : Nat → RN) (n : Nat) (M : Nat → RN) (j : Nat) : RN := if j < n then N j else M (j - n)
theorem joinN_lo {N M : Nat → RN} {n j : Nat} (h : j < n) : joinN N n M j = N j := if_pos h
theorem joinN_hi {N M : Nat → RN} {n j : Nat} (h : n ≤ j) : joinN N n M j = M (j - n) := if_neg (by omega)
theorem rowCells_congr {N M : Nat → RN} : ∀ {n : Nat}, (∀ j, j < n → N j = M j) → rowCells N n = rowCells M n
  | 0, _ => rfl
  | n + 1, h => by rw [rowCells, rowCells, rowCells_congr fun j hj => h j (by omega), h n (by omega)]
theorem rowCells_join (N M : Nat → RN) (n : Nat) : ∀ m, rowCells (joinN N n M) (n + m) = rowCells N n ++ rowCells M m
  | 0 => by
    rw [Nat.add_zero, show rowCells M 0 = [] from rfl, List.append_nil]
    exact rowCells_congr fun j hj => joinN_lo hj
  | m + 1 => by
    rw [← Nat.add_assoc, rowCells, rowCells_join N M n m, joinN_hi (by omega), show n + m - n = m by omega, rowCells, List.append_assoc]
/-- a document without the nodes from one place on up to another one -/
def cutN (N : Nat → RN) (a e : Nat) : Nat → RN := joinN N a fun j => N (e + j)
theorem bytesTo_congr {N M : Nat → RN} : ∀ {n : Nat}, (∀ j, j < n → N j = M j) → bytesTo N n = bytesTo M n
  | 0, _ => rfl
  | n + 1, h => by rw [bytesTo, bytesTo, bytesTo_congr fun j hj => h j (by omega), h n (by omega)]
theorem bytesTo_mono (N : Nat → RN) {a : Nat} : ∀ m, bytesTo N a ≤ bytesTo N (a + m)
  | 0 => Nat.le_refl _
  | m + 1 => by rw [← Nat.add_assoc, bytesTo]; have := bytesTo_mono N (a := a) m; omega
theorem bytesTo_cut {N : Nat → RN} {a e : Nat} (hae : a ≤ e) : ∀ m, bytesTo (cutN N a e) (a + m) ≤ bytesTo N (e + m)
  | 0 => by
    have e0 : bytesTo (cutN N a e) a = bytesTo N a := bytesTo_congr fun j hj => joinN_lo hj
    rw [Nat.add_zero, Nat.add_zero, e0]
    have := bytesTo_mono N (a := a) (e - a)
    rwa [show a + (e - a) = e by omega] at this
  | m + 1 => by
    have h := bytesTo_cut (N := N) hae m
    rw [← Nat.add_assoc, ← Nat.add_assoc, bytesTo, bytesTo]
    have e1 : cutN N a e (a + m) = N (e + m) := by
      unfold cutN
      rw [joinN_hi (by omega), show a + m - a = m by omega]
    rw [e1]
    omega
theorem shape_cut {N : Nat → RN} {n a : Nat} {x : Int} (h : Shape n x N) (h0 : 0 < a) (ha : a < n) : Shape (a + (n - endOf (dps N) n a)) x (cutN N a (endOf (dps N) n a)) := by
  obtain ⟨he1, he2⟩ := endOf_gt (dps N) ha
  have stop := endOf_stop (dps N) ha
  generalize endOf (dps N) n a = e at he1 he2 stop ⊢
  have lo : ∀ {j}, j < a → cutN N a e j = N j := fun hj => joinN_lo hj
  have hi : ∀ {j}, a ≤ j → cutN N a e j = N (e + (j - a)) := fun hj => joinN_hi hj
  have at_ : ∀ j, j < a + (n - e) → ∃ i, i < n ∧ cutN N a e j = N i := fun j hj => by
    rcases Nat.lt_or_ge j a with h1 | h1
    · exact ⟨j, by omega, lo h1⟩
    · exact ⟨e + (j - a), by omega, hi h1⟩
  refine ⟨by omega, by have := h.most; omega, h.next, ⟨?_, fun i h1 h2 => ?_⟩, fun i hj => ?_, fun i hj => ?_, ?_, fun i hj hk => ?_, fun i hj => ?_, fun i j hij hj => ?_, fun i hj hk => ?_, fun i hj hk => ?_, ?_⟩
  · unfold dps
    rw [lo h0]
    exact h.steps.1
  · unfold dps
    rcases Nat.lt_trichotomy i a with h3 | h3 | h3
    · rw [lo h3, lo (show i - 1 < a by omega)]
      exact h.steps.2 i h1 (by omega)
    · subst h3
      rw [hi (Nat.le_refl _), lo (show i - 1 < i by omega), Nat.sub_self, Nat.add_zero]
      have s1 := h.steps.2 e (by omega) (by omega)
      have s2 := h.steps.2 i h1 ha
      unfold dps at s1 s2 stop
      rcases stop with h4 | h4
      · omega
      · omega
    · rw [hi (show a ≤ i by omega), hi (show a ≤ i - 1 by omega)]
      have s1 := h.steps.2 (e + (i - a)) (by omega) (by omega)
      rw [show e + (i - a) - 1 = e + (i - 1 - a) by omega] at s1
      exact s1
  · obtain ⟨m, hm, em⟩ := at_ i hj
    rw [em]; exact h.deep m hm
  · obtain ⟨m, hm, em⟩ := at_ i hj
    rw [em]; exact h.kind m hm
  · rw [lo h0]; exact h.first
  · rcases Nat.lt_trichotomy (i + 1) a with h3 | h3 | h3
    · rw [lo h3, lo (show i < a by omega)]
      rw [lo (show i < a by omega)] at hk
      exact h.behind i (by omega) hk
    · rw [hi (show a ≤ i + 1 by omega), lo (show i < a by omega), show e + (i + 1 - a) = e by omega]
      rw [lo (show i < a by omega)] at hk
      have s2 := h.behind i (by omega) hk
      rw [h3] at s2
      unfold dps at stop
      rcases stop with h4 | h4
      · omega
      · omega
    · rw [hi (show a ≤ i + 1 by omega), hi (show a ≤ i by omega)]
      rw [hi (show a ≤ i by omega)] at hk
      have s2 := h.behind (e + (i - a)) (by omega) hk
      rwa [show e + (i - a) + 1 = e + (i + 1 - a) by omega] at s2
  · obtain ⟨m, hm, em⟩ := at_ i hj
    rw [em]; exact h.key m hm
  · have f : ∀ j, j < a + (n - e) → ∃ m, m < n ∧ cutN N a e j = N m ∧ m = if j < a then j else e + (j - a) := fun j hj => by
      rcases Nat.lt_or_ge j a with h1 | h1
      · exact ⟨j, by omega, lo h1, by rw [if_pos h1]⟩
      · exact ⟨e + (j - a), by omega, hi h1, by rw [if_neg (by omega)]⟩
    obtain ⟨m1, q1, e1, f1⟩ := f i (by omega)
    obtain ⟨m2, q2, e2, f2⟩ := f j hj
    rw [e1, e2]
    refine h.once m1 m2 ?_ q2
    rw [f1, f2]
    split <;> split <;> omega
  · obtain ⟨m, hm, em⟩ := at_ i hj
    rw [em] at hk ⊢; exact h.box m hm hk
  · obtain ⟨m, hm, em⟩ := at_ i hj
    rw [em] at hk ⊢; exact h.text m hm hk
  · have := bytesTo_cut (N := N) (show a ≤ e by omega) (n - e)
    rw [show e + (n - e) = n by omega] at this
    exact Nat.le_trans this h.bytes

def withKey (N : Nat → RN) (a : Nat) (k : Int) (j : Nat) : RN := if j = a then { N j with key := k } else N j
def withDepth (N : Nat → RN) (a : Nat) (d : Int) (j : Nat) : RN := if j = a then { N j with depth := d } else N j
theorem no_twice {N : Nat → RN} {n a o : Nat} {x : Int} (ha : a < n) (ho : o < n) (hne : o ≠ a) : ¬ Shape n x (withKey N a (N o).key) := fun h => by
  have e1 : (withKey N a (N o).key a).key = (N o).key := by unfold withKey; rw [if_pos rfl]
  have e2 : (withKey N a (N o).key o).key = (N o).key := by unfold withKey; rw [if_neg hne]
  rcases Nat.lt_or_ge a o with hl | hl
  · exact h.once a o hl ho (e1.trans e2.symm)
  · exact h.once o a (by omega) ha (e2.trans e1.symm)
theorem no_flat {N : Nat → RN} {n a : Nat} {x : Int} (h0 : 0 < a) (ha : a < n) : ¬ Shape n x (withDepth N a 0) := fun h => by
  have := (h.steps.2 a h0 ha).1
  unfold dps withDepth at this
  rw [if_pos rfl] at this
  simp at this
end Go.Proofs.Ytlkcmfohmkblfaa
