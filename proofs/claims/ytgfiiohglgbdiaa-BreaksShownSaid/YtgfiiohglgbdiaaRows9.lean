/-
  breaks.rows: the function value that it hands back tells a text's longest rows of marks, and of other bytes; breaks.isAmong.
-/
import Derived.Shelf.Abstract
import Derived.Shelf.RegionOpen
import Derived.WalkKit
import Derived.OwnWalkIn
import Derived.TacticsInMore
import Derived.LoopNIn
import Derived.LoopIn
import Derived.WalkMore
import Derived.Lib.Hide
import Derived.Outline
import Derived.Sort.QuietIn
import Derived.Test.YtgfiiohglgbdiaaTells
import Derived.Test.YtgfiiohglgbdiaaRowsMath
import Derived.Test.YtgfiiohglgbdiaaBuilder
import Derived.Test.YtgfiiohglgbdiaaRefCut9
namespace Go.Proofs.Ytgfiiohglgbdiaa
open Go.RowKit Go.Shelf
attribute [local go_sem] Oper.semAt_some

/-- is a byte one of the marks? -/
def among (ms : List UInt8) (b : UInt8) : Bool := decide (0 ≤ Lib.indexByte ms b)
theorem among_blanks (b : UInt8) : among [32, 10] b = isB b := by
  unfold among isB Lib.indexByte Lib.indexByte Lib.indexByte
  by_cases h1 : b = 32
  · subst h1; rfl
  · by_cases h2 : b = 10
    · subst h2; rfl
    · have e1 : ((32 : UInt8) == b) = false := by simp; exact fun h => h1 h.symm
      have e2 : ((10 : UInt8) == b) = false := by simp; exact fun h => h2 h.symm
      have e3 : (b == 32) = false := by simpa using h1
      have e4 : (b == 10) = false := by simpa using h2
      simp [e1, e2, e3, e4]
theorem among_end (b : UInt8) : among [10] b = is10 b := by
  unfold among is10 Lib.indexByte Lib.indexByte
  by_cases h2 : b = 10
  · subst h2; rfl
  · have e2 : ((10 : UInt8) == b) = false := by simp; exact fun h => h2 h.symm
    have e4 : (b == 10) = false := by simpa using h2
    simp [e2, e4]
set_option maxRecDepth 100000 in
theorem isAmong_any (b : UInt8) (m : ByteArray) (w : World) : Calls Try.prog 33 #[.int .u8 (b.toNat : Nat), .string m] w fun e w' => e = .returned (.bool (among m.data.toList b)) ∧ w' = w := by
  have K := Try.strings_IndexByte m (b.toNat : Nat) w
  have e : ((b.toNat : Nat) : Int).toNat.toUInt8 = b := by simp
  rw [e] at K
  obtain ⟨r, hr⟩ : ∃ r, among m.data.toList b = r := ⟨_, rfl⟩
  rw [hr]
  unfold among at hr
  generalize Lib.indexByte m.data.toList b = i at K hr
  go_enter Try.func33, Try.ntmps33
  go_wp2_with (go_at_call 35; (with_reducible refine K.mono ?_); rintro e w' ⟨rfl, rfl⟩)
  all_goals go_ret
  all_goals exact ⟨by rw [← hr]; simp, rfl⟩
set_option maxRecDepth 100000 in
theorem rows_any (s m : ByteArray) (w : World) : Calls Try.prog 28 #[.string s, .string m] w fun e w' =>
    e = .returned (.func (.func 32) #[] #[.pointer (some ⟨w.heap.size, 0, none⟩), .pointer (some ⟨w.heap.size + 1, 0, none⟩)]) ∧ w' = (w.alloc (.cells #[.string s] 9)).alloc (.cells #[.string m] 9) := by
  go_enter Try.func28, Try.ntmps28
  go_wp2
  go_ret
  exact ⟨rfl, rfl⟩
end Go.Proofs.Ytgfiiohglgbdiaa
