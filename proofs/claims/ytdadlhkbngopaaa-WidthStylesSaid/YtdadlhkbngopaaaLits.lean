/-
  Bounds of literals of bytes and of int; how many cells a style has.
-/
import Derived.Test.YtdadlhkbngopaaaProg
import Derived.WalkKit
import Derived.ProofKit
import Derived.Lib.Hide
import Derived.Deep.Slices
import Derived.MapViews
namespace Go.Proofs.Ytdadlhkbngopaaa
open Go.RowKit Go.ChangeShapes Go.WideShapes

theorem i64_in {a : Int} (h : (Lit.int .i64 a).wf = true) : -9223372036854775808 ≤ a ∧ a ≤ 9223372036854775807 := by
  have h1 : IntKind.i64.min = -9223372036854775808 := by decide
  have h2 : IntKind.i64.max = 9223372036854775807 := by decide
  simpa only [Lit.wf, h1, h2, Bool.and_eq_true, decide_eq_true_eq] using h
theorem u8_in {a : Int} (h : (Lit.int .u8 a).wf = true) : 0 ≤ a ∧ a < 256 := by
  have h1 : IntKind.u8.min = 0 := by decide
  have h2 : IntKind.u8.max = 255 := by decide
  simp only [Lit.wf, h1, h2, Bool.and_eq_true, decide_eq_true_eq] at h
  omega
theorem style_cells : Try.prog.cellsOf 27 = 47 := by kernel_rfl
end Go.Proofs.Ytdadlhkbngopaaa
