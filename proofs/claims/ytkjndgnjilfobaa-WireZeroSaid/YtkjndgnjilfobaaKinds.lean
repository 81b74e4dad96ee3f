/-
  The table of the letters.
-/
import Derived.Test.YtkjndgnjilfobaaTakeL
import Derived.Test.YtkjndgnjilfobaaRefSchema
import Derived.Deep.WholeRow
namespace Go.Proofs.Ytkjndgnjilfobaa
open Go.RowKit

def fnO (c : Nat) : Nat := if c = 110 then 46 else if c = 105 then 51 else if c = 102 then 56 else if c = 98 then 59 else 62
def fnP (c : Nat) : Nat := if c = 110 then 47 else if c = 105 then 52 else if c = 102 then 57 else if c = 98 then 60 else 63
def fnT (c : Nat) : Nat := if c = 110 then 49 else if c = 105 then 54 else if c = 102 then 58 else if c = 98 then 61 else 65
def kcell (c : Nat) : List Value := [.int .u8 (c : Nat), .func (.func (fnO c)) #[] #[], .func (.func (fnP c)) #[] #[], .func (.func (fnT c)) #[] #[]]
def allK : List Nat := [110, 105, 102, 98, 108]
def noK : Array Value := #[.int .u8 0, .nilFunc, .nilFunc, .nilFunc, .int .u8 0, .nilFunc, .nilFunc, .nilFunc, .int .u8 0, .nilFunc, .nilFunc, .nilFunc, .int .u8 0, .nilFunc, .nilFunc, .nilFunc, .int .u8 0, .nilFunc, .nilFunc, .nilFunc]
def theK : Array Value := #[.int .u8 110, .func (.func 46) #[] #[], .func (.func 47) #[] #[], .func (.func 49) #[] #[],
  .int .u8 105, .func (.func 51) #[] #[], .func (.func 52) #[] #[], .func (.func 54) #[] #[],
  .int .u8 102, .func (.func 56) #[] #[], .func (.func 57) #[] #[], .func (.func 58) #[] #[],
  .int .u8 98, .func (.func 59) #[] #[], .func (.func 60) #[] #[], .func (.func 61) #[] #[],
  .int .u8 108, .func (.func 62) #[] #[], .func (.func 63) #[] #[], .func (.func 65) #[] #[]]
theorem theK_is : theK = (allK.flatMap kcell).toArray := rfl
theorem theK_one : theK.all (·.oneCell') = true := by simp [theK, Value.oneCell']
set_option maxRecDepth 100000 in
theorem kinds_any (w : World) : Calls Try.prog 35 #[] w fun e w' => e = .returned (.agg theK) ∧ Below w.heap.size w w' := by
  have X0 : Hid ((w.alloc (.cells noK 75)).heap[w.heap.size]? = some (.cells noK 75 (0, 0))) := Lib.hid (heap_alloc_new _ _)
  have B : Hid (Below w.heap.size w (w.alloc (.cells theK 75))) := Lib.hid ((Below.refl _ _).alloc (Nat.le_refl _) _)
  have X : Hid ((w.alloc (.cells theK 75)).heap[w.heap.size]? = some (.cells theK 75 (0, 0))) := Lib.hid (heap_alloc_new _ _)
  have E : Hid ((w.alloc (.cells noK 75)).setRow w.heap.size theK = w.alloc (.cells theK 75)) := Lib.hid (World.setRow_alloc_new _ _ _ _)
  go_enter Try.func35, Try.ntmps35
  iterate 29 go_step
  refine wpList_store_row rfl 75 (.tmp 0) (.tmp 6) rfl w.heap.size theK rfl (by kernel_rfl) 75 noK X0.out (by kernel_rfl) (by kernel_rfl) theK_one ?_
  change wpList _ _ _ _ _ ((w.alloc (.cells noK 75)).setRow w.heap.size theK)
  rw [E.out]
  go_wp2
  refine bodyPost_ret (results_row rfl _ _ w.heap.size _ _ _ _ rfl X.out Try.underlying75 rfl (by kernel_rfl)) rfl ?_
  exact ⟨rfl, B.out⟩
end Go.Proofs.Ytkjndgnjilfobaa
