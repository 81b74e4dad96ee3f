/-
  The chapter's document, as law 7 makes it.
-/
import Derived.Test.YtmodegkpfdlccaaFour
import Derived.Test.YtmodegkpfdlccaaTreeOK
namespace Go.Proofs.Ytmodegkpfdlccaa
open Go.RowKit

set_option maxRecDepth 100000 in
set_option maxHeartbeats 4000000 in
theorem four7_any (w : World) : Calls Try.prog 19 #[] w fun e w' => e = .returned (docV (some ⟨w.heap.size + 1, 0, none⟩) 4 4 5) ∧ Below w.heap.size w w' ∧
    w'.heap[w.heap.size + 1]? = some (.cells fourCells.toArray 32 (0, 0)) ∧ w'.heap.size = w.heap.size + 2 := by
  have h1 : (Try.prog.info? 32).isSome = true := by kernel_rfl
  obtain ⟨ie, hie⟩ := Option.isSome_iff_exists.1 h1
  have hsz : ie.size = 51 := by
    have : (Try.prog.info? 32).map (·.size) = some 51 := by kernel_rfl
    simpa [hie] using this
  have hz : ie.zero = some (box 0 0).val := by
    have : (Try.prog.info? 32).bind (·.zero) = some (box 0 0).val := by kernel_rfl
    simpa [hie] using this
  go_enter Try.func19, Try.ntmps19
  go_wp2
  refine wp_buildSlice 22 32 4 _ rfl fourCells.toArray ie _ Try.underlying22 hie hz (by rw [hsz]; omega) (by rw [hsz]; omega) (by rw [hsz]; kernel_rfl) ?_
  generalize hcs : fourCells.toArray = cs
  go_wp2
  have X : Hid (((w.alloc (.cells #[.slice (some ⟨w.heap.size + 1, 0, none⟩) 4 4, .int .i64 5] 24)).alloc (.cells cs 32)).heap[w.heap.size]? = some (.cells #[.slice (some ⟨w.heap.size + 1, 0, none⟩) 4 4, .int .i64 5] 24 (0, 0))) := Lib.hid (heap_alloc2_old w _ _)
  refine bodyPost_ret (results_row5 rfl _ _ w.heap.size _ _ _ _ rfl X.out Try.underlying24 rfl (by kernel_rfl)) rfl ?_
  subst hcs
  exact ⟨rfl, ((Below.refl _ _).alloc (Nat.le_refl _) _).alloc (by simp) _, heap_alloc2_new _ _ _, by simp⟩
end Go.Proofs.Ytmodegkpfdlccaa
