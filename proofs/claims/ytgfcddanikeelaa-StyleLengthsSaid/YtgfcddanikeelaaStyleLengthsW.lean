/-
  The walk of StyleLengths.
-/
import Derived.Test.YtgfcddanikeelaaStyleSize
import Derived.Test.YtgfcddanikeelaaStyleArg
namespace Go.Proofs.Ytgfcddanikeelaa
open Go.RowKit

theorem walkStyleLengths (z0 : RL) (a1 : Int) (w : World) (w0 : z0.ok) (w1 : (Lit.int .i64 a1).wf = true) :
    Calls Try.prog 4 #[lengthV z0, .int .i64 a1] w fun e w' => e = .returned (.bool true) ∧ Below w.heap.size w w' := by
  unfold lengthV
  obtain ⟨K, N⟩ := z0
  dsimp only
  have hx : Big a1 := i64_in w1
  have C := Lib.hid (fun W => resolve_any K N a1 w0 hx W _ rfl)
  have D := Lib.hid (fun W => refResolve_any K N a1 w0 W _ rfl)
  clear w0 w1 hx
  generalize resolveR ⟨K, N⟩ a1 = q at *
  obtain ⟨n, is, er⟩ := q
  go_enter Try.func4, Try.ntmps4
  go_wp2_with fail
  refine (C.out _).mono ?_
  rintro e w1 ⟨rfl, hb1⟩
  have B1 : Hid (Below w.heap.size w w1) := Lib.hid (((Below.refl w.heap.size w).alloc (Nat.le_refl _) _).trans (hb1.mono (by simp)))
  have c1 := hb1.cell (p := ⟨w.heap.size, 0, none⟩) (by simp)
  have c2 := hb1.cell (p := ⟨w.heap.size, 1, none⟩) (by simp)
  clear hb1
  go_wp2_with fail
  refine (D.out _).mono ?_
  rintro e w2 ⟨rfl, hb2⟩
  have B2 : Hid (Below w.heap.size w w2) := Lib.hid (B1.out.trans (hb2.mono B1.out.size))
  clear hb2
  go_wp2_with fail
  go_ret
  exact ⟨by simp, B2.out⟩
end Go.Proofs.Ytgfcddanikeelaa
