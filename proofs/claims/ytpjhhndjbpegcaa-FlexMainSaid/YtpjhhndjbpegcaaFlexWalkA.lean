/-
  The law FlexMain, of the landed code.
-/
import Derived.Test.YtpjhhndjbpegcaaLand17
import Derived.Test.YtpjhhndjbpegcaaMainW17
import Derived.Test.YtpjhhndjbpegcaaOpenHows
namespace Go.Proofs.Ytpjhhndjbpegcaa
open Go.RowKit

theorem row_cap17 {w : World} {A : Option Addr} {n c : Nat} {z : List Int} (h : RowIn w A n c z) : n ≤ c ∧ c ≤ 9223372036854775807 := by
  rcases h with ⟨-, rfl, rfl, -⟩ | ⟨x, -, h1, h2, -⟩
  · exact ⟨Nat.le_refl _, by omega⟩
  · exact ⟨h1, by unfold maxLen at h2; omega⟩
theorem walkFlexMain (a0 : Option Addr) (len0 cap0 : Nat) (z0 : List Int) (z1 : Hw) (w : World) (w0 : RowIn w a0 len0 cap0 z0) (w1 : BigH z1) :
    Calls Try.prog 3 #[.slice a0 len0 cap0, hwV z1] w fun e w' => e = .returned (.bool true) ∧ Below w.heap.size w w' :=
  mainW17 main17_ok a0 len0 cap0 _ z1.gap z1.room z1.justify z1.back w w0.ints w0.nil (row_cap17 w0) w1.1 w1.2.1 ⟨w1.2.2.1, by have := w1.2.2.2; omega⟩
end Go.Proofs.Ytpjhhndjbpegcaa
