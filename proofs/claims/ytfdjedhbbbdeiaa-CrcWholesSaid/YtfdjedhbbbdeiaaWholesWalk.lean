/-
  The law CrcWholes, of this program: its Without and its Whole answer as the law's walk asks.
-/
import Derived.Test.YtfdjedhbbbdeiaaWhole
import Derived.Test.YtfdjedhbbbdeiaaCrcWholes
namespace Go.Proofs.Ytfdjedhbbbdeiaa
open Go.RowKit
theorem walkCrcWholes (a0 : Option Addr) (len0 cap0 : Nat) (z0 : List Int) (w : World) (w0 : RowIn .u8 w a0 len0 cap0 z0) :
    Calls Try.prog 4 #[.slice a0 len0 cap0] w fun e w' => e = .returned (.bool true) ∧ Below w.heap.size w w' :=
  wholesOf without_any whole_any a0 len0 cap0 z0 w w0
end Go.Proofs.Ytfdjedhbbbdeiaa
