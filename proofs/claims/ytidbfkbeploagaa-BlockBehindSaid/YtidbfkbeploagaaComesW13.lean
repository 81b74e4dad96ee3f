/-
  The law MarginComes: of any Join, One, Value, May that answer as is asked.
-/
import Derived.Test.YtidbfkbeploagaaAwake13
import Derived.Test.YtidbfkbeploagaaWords
namespace Go.Proofs.Ytidbfkbeploagaa
open Go.RowKit

def firstM (f : Nat → Int) (k : Nat) : List Mg := (List.range k).map (fun i => oneM (f i))
def firstZ (f : Nat → Int) (k : Nat) : List Int := (List.range k).map f
theorem firstM_len (f : Nat → Int) (k : Nat) : (firstM f k).length = k := by simp [firstM]
theorem firstM_succ (f : Nat → Int) (k : Nat) : firstM f (k + 1) = firstM f k ++ [oneM (f k)] := by simp [firstM, List.range_succ]
theorem great_succ (f : Nat → Int) (k : Nat) : greatZ (firstZ f (k + 1)) = if f k > greatZ (firstZ f k) then f k else greatZ (firstZ f k) := by simp [greatZ, firstZ, List.range_succ]
theorem small_succ (f : Nat → Int) (k : Nat) : smallZ (firstZ f (k + 1)) = if f k < smallZ (firstZ f k) then f k else smallZ (firstZ f k) := by unfold smallZ firstZ; rw [List.range_succ, List.map_append, List.foldl_append]; rfl
theorem join_first {f : Nat → Int} {n : Nat} (h : ∀ i, i < n → -1099511627776 ≤ f i ∧ f i ≤ 1099511627776) : joinM (firstM f n) = (greatZ (firstZ f n), smallZ (firstZ f n)) ∧ MayM (greatZ (firstZ f n), smallZ (firstZ f n)) := by
  have e : firstM f n = (firstZ f n).map oneM := by simp [firstM, firstZ]
  have hb : ∀ x ∈ firstZ f n, -1099511627776 ≤ x ∧ x ≤ 1099511627776 := by
    intro x hx
    obtain ⟨i, hi, rfl⟩ := List.mem_map.1 hx
    exact h i (List.mem_range.1 hi)
  have hj := join_ones hb
  rw [e]
  refine ⟨hj, ?_⟩
  rw [← hj]
  refine joinM_may (fun x hx => ?_)
  obtain ⟨y, hy, rfl⟩ := List.mem_map.1 hx
  exact oneM_may (hb y hy)

end Go.Proofs.Ytidbfkbeploagaa
