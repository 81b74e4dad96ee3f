/-
  The law MarginOpposite: of any Join, One, Value that answer as is asked.
-/
import Derived.Test.YtidbfkbeploagaaComesW13
import Derived.Test.YtidbfkbeploagaaMoreW13
import Derived.Test.YtidbfkbeploagaaRely2
import Derived.Deep.LoopGhost
namespace Go.Proofs.Ytidbfkbeploagaa
open Go.RowKit

def rowM (v : Value) (l l' : List Mg) : Row2 := ⟨25, 2, v, l.length, cellsM l, l'.length, cellsM l'⟩
theorem MgIn.grown {w w' : World} {v : Value} {l : List Mg} (h : MgIn w v l) {r : Option Nat} (hg : w.grownBy w' r) (hr : ∀ g, v.ownBlock = some g → r ≠ some g) : MgIn w' v l := by
  obtain ⟨A, c, rfl, hc, hq⟩ := h
  refine ⟨A, c, rfl, hc, fun e => ?_⟩
  obtain ⟨b, off, rfl, h2, h3⟩ := hq e
  have hb : w'.heap[b]? = w.heap[b]? := hg.block b h2 (fun e => hr b rfl e.symm)
  exact ⟨b, off, rfl, Nat.lt_of_lt_of_le h2 hg.size, fun j hj => ⟨by have := (h3 j hj).1; unfold World.cell? at *; rwa [hb], by have := (h3 j hj).2; unfold World.cell? at *; rwa [hb]⟩⟩
/-- margins in a block that is newer than a world -/
def MgIn2 (w0 w : World) (v : Value) (l : List Mg) : Prop := MgIn w v l ∧ ∃ g, w0.heap.size ≤ g ∧ v.ownBlock = some g
def opcM {h0 : Nat} (l : List Mg) : OpC h0 := ⟨fun v w => MgIn w v l ∧ ∃ g, h0 ≤ g ∧ v.ownBlock = some g, fun v w w' r hr hg h => ⟨h.1.grown hg (fun g e he => by
  obtain ⟨g2, h2, e2⟩ := h.2
  rw [e2] at e
  have := hr g he
  simp at e
  omega), h.2⟩⟩
theorem new_one (W : World) (a : Mg) : MgIn (W.alloc (.cells #[.int .i64 a.1, .int .i64 a.2] 25)) (.slice (some ⟨W.heap.size, 0, none⟩) 1 1) [a] := mgs_new [a] (by simp) _
theorem neg_first (f : Nat → Int) (k : Nat) : firstZ (fun i => -(f i)) k = (firstZ f k).map (fun x => -x) := by simp [firstZ]

end Go.Proofs.Ytidbfkbeploagaa
