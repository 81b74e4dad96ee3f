/-
  What is asked for, in a block of the call's own; the law's calls of any Solve that answers as is asked.
-/
import Derived.Test.YtdadlhkbngopaaaRefSolve
namespace Go.Proofs.Ytdadlhkbngopaaa
open Go.RowKit

def AwakeOK12 (f : Nat) : Prop := ∀ w : World, Calls Try.prog f #[] w fun e w' => e = .returned (.bool true) ∧ Below w.heap.size w w'
/-- a block holds what is asked for -/
def AskAt (W : World) (b : Nat) (a : RA) : Prop := W.heap[b]? = some (.cells a.cells.toArray 29)
theorem AskAt.new (w : World) (a : RA) : AskAt (w.alloc (.cells a.cells.toArray 29)) w.heap.size a := heap_alloc_new w _
theorem AskAt.lt {W : World} {b : Nat} {a : RA} (h : AskAt W b a) : b < W.heap.size := (Array.getElem?_eq_some_iff.1 h).1
theorem AskAt.keep {W W' : World} {b : Nat} {a : RA} (h : AskAt W b a) (hb : Below W.heap.size W W') : AskAt W' b a := (hb.block b h.lt).trans h
theorem AskAt.cells {W : World} {b : Nat} {a : RA} (h : AskAt W b a) : W.cell? ⟨b, 0, none⟩ = some (.bool a.is) ∧ W.cell? ⟨b, 1, none⟩ = some (.int .i64 a.width) ∧ W.cell? ⟨b, 2, none⟩ = some (.int .i64 a.least) ∧ W.cell? ⟨b, 3, none⟩ = some (.int .i64 a.most) ∧ W.cell? ⟨b, 4, none⟩ = some (.int .i64 a.left) ∧ W.cell? ⟨b, 5, none⟩ = some (.int .i64 a.right) ∧ W.cell? ⟨b, 6, none⟩ = some (.bool a.al) ∧ W.cell? ⟨b, 7, none⟩ = some (.bool a.ar) ∧ W.cell? ⟨b, 8, none⟩ = some (.int .i64 a.edges) := by
  have h' : W.heap[b]? = some (.cells a.cells.toArray 29) := h
  simp [World.cell?, h', RA.cells]
theorem AskAt.fro {W : World} {b : Nat} {a : RA} (h : AskAt W b a) (j : Nat) : W.frozen? ⟨b, j, none⟩ = false := by
  have h' : W.heap[b]? = some (.cells a.cells.toArray 29) := h
  simp [World.frozen?, h']
/-- a cell of it written over -/
theorem AskAt.set {W : World} {b : Nat} {a : RA} (h : AskAt W b a) (j : Nat) (v : Value) (a' : RA) (e : a.cells.set j v = a'.cells) : AskAt (W.setCell ⟨b, j, none⟩ v) b a' := by
  have h' : W.heap[b]? = some (.cells a.cells.toArray 29) := h
  unfold AskAt
  rw [← e]
  simp [World.setCell, Array.getElem?_modify, h']
/-- another block's cell written over -/
theorem AskAt.off {W : World} {b g j : Nat} {a : RA} {v : Value} (h : AskAt W b a) (hn : g ≠ b) : AskAt (W.setCell ⟨g, j, none⟩ v) b a := by
  have h' : W.heap[b]? = some (.cells a.cells.toArray 29) := h
  unfold AskAt
  simp [World.setCell, Array.getElem?_modify, hn, h']
theorem AskAt.put {W : World} {b : Nat} {a : RA} (h : AskAt W b a) (o : Obj) : AskAt (W.alloc o) b a := h.keep ((Below.refl _ _).alloc (Nat.le_refl _) o)
/-- what Solve answers, its four numbers as letters -/
theorem solve_lets {f : Nat} (hS : SolveOK f) {x : Int} {a : RA} (hx : big x) (ha : a.ok) {l m r e : Int} (h : solveA x a = (l, m, r, e)) (W : World) : Calls Try.prog f #[.int .i64 x, askedV a] W fun e' w' => e' = .returned (.tuple #[.int .i64 l, .int .i64 m, .int .i64 r, .int .i64 e]) ∧ Below W.heap.size W w' := by
  have := hS x a W hx ha
  rw [h] at this
  exact this
/-- the equation -/
theorem eq_facts {x : Int} {a : RA} (h : Good12 x a) : leftA x a + a.edges + wideA x a + rightA x a = x ∧ 0 ≤ wideA x a ∧ (a.most < a.least → wideA x a = a.least) ∧ (a.least ≤ a.most → a.least ≤ wideA x a ∧ wideA x a ≤ a.most) ∧ (a.is = true → a.least ≤ a.width → a.width ≤ a.most → wideA x a = a.width) := by
  have hw := wideA_in h
  refine ⟨?_, hw.1, fun hc => ?_, fun hc => ?_, fun h1 h2 h3 => ?_⟩
  · have hf : freeA x a = x - left0 a - a.edges - wideA x a - right0 a := rfl
    unfold leftA rightA
    split
    · omega
    · next c1 =>
      split
      · next c2 =>
        have e1 : left0 a = 0 := by unfold left0; rw [if_pos c2.1]
        have e2 : right0 a = 0 := by unfold right0; rw [if_pos c2.2]
        omega
      · next c2 =>
        split
        · next c3 =>
          have e1 : left0 a = 0 := by unfold left0; rw [if_pos c3]
          omega
        · next c3 =>
          have e3 : a.ar = true := by
            cases hr : a.ar with
            | true => rfl
            | false => exact absurd (.inr ⟨by simpa using c3, hr⟩) c1
          have e2 : right0 a = 0 := by unfold right0; rw [if_pos e3]
          omega
  · unfold wideA clampV
    omega
  · unfold wideA clampV
    omega
  · have e : wide0 x a = a.width := by unfold wide0; rw [if_pos h1]
    have := h.width h1
    unfold wideA clampV
    rw [e, if_neg (by omega)]
    omega
/-- what stays -/
theorem stay_facts {x : Int} {a : RA} : (a.al = false → leftA x a = a.left) ∧ (a.al = true → 0 ≤ leftA x a) ∧ (freeA x a < 0 → a.al = true → leftA x a = 0) ∧ (¬ freeA x a < 0 → (a.al = true → a.ar = false → rightA x a = a.right) ∧ (a.ar = true → 0 ≤ rightA x a)) := by
  refine ⟨fun h => ?_, fun h => ?_, fun h1 h2 => ?_, fun h => ⟨fun h1 h2 => ?_, fun h1 => ?_⟩⟩
  · have e1 : left0 a = a.left := by unfold left0; rw [if_neg (by rw [h]; decide)]
    unfold leftA
    rw [h]
    simp [e1]
  · have e1 : left0 a = 0 := by unfold left0; rw [if_pos h]
    unfold leftA
    split
    · omega
    · next c =>
      have : ¬ freeA x a < 0 := fun k => c (.inl k)
      split
      · omega
      · first | omega | (split <;> omega)
  · have e1 : left0 a = 0 := by unfold left0; rw [if_pos h2]
    unfold leftA
    rw [if_pos (.inl h1), e1]
  · have e2 : right0 a = a.right := by unfold right0; rw [if_neg (by rw [h2]; decide)]
    unfold rightA
    rw [if_neg (by rw [h1]; simp [h]), if_neg (by rw [h2]; simp), if_pos h1, e2]
  · have e2 : right0 a = 0 := by unfold right0; rw [if_pos h1]
    unfold rightA
    rw [if_neg (by rw [h1]; simp [h])]
    split
    · omega
    · first | omega | (split <;> omega)
end Go.Proofs.Ytdadlhkbngopaaa
