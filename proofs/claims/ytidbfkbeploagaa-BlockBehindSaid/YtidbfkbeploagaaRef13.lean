/-
  The document's One, Join, Value, May of chapter 13.
-/
import Derived.Test.YtidbfkbeploagaaMargins
import Derived.Laws.Rows
import Derived.IntWalk
namespace Go.Proofs.Ytidbfkbeploagaa
open Go.RowKit

/-- what is asked of the landed calls -/
def OneOK (f : Nat) : Prop := ∀ (n : Int) (w : World), Calls Try.prog f #[.int .i64 n] w fun e w' => e = .returned (mgV (oneM n)) ∧ Below w.heap.size w w'
def MayOK13 (f : Nat) : Prop := ∀ (m : Mg) (w : World), Calls Try.prog f #[mgV m] w fun e w' => e = .returned (.bool (decide (MayM m))) ∧ Below w.heap.size w w'
def ValueOK (f : Nat) : Prop := ∀ (m : Mg) (w : World), Calls Try.prog f #[mgV m] w fun e w' => e = .returned (.int .i64 (valueM m)) ∧ Below w.heap.size w w'
def JoinOK (f : Nat) : Prop := ∀ (l : List Mg) (v : Value) (w : World), MgIn w v l → l.length ≤ 100000 → Calls Try.prog f #[v] w fun e w' => e = .returned (mgV (joinM l)) ∧ Below w.heap.size w w'

end Go.Proofs.Ytidbfkbeploagaa
