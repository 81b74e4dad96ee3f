/-
  The walk of the law BreaksCut, over the landed calls' contracts.
-/
import Derived.Test.YtgfiiohglgbdiaaCutOK9
import Derived.Test.YtgfiiohglgbdiaaBreaksCut
namespace Go.Proofs.Ytgfiiohglgbdiaa
open Go.RowKit
theorem walkBreaksCut (s : ByteArray) (ws : Int) (h1 : s.size ≤ maxLen) (h2 : (Lit.int .u8 ws).wf = true) (w : World) :
    Calls Try.prog 3 #[.string s, .int .u8 ws] w fun e w' => e = .returned (.bool true) ∧ Below w.heap.size w w' :=
  cut9 cut_ok shown_ok s ws w (u8_in9 h2) h1
end Go.Proofs.Ytgfiiohglgbdiaa
