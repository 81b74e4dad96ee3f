/-
  The walks of the laws BreaksShown, BreaksTurns, BreaksEnds and BreaksBeside, over the landed calls' contracts.
-/
import Derived.Test.YtgfiiohglgbdiaaCutOK9
import Derived.Test.YtgfiiohglgbdiaaAwake9
import Derived.Test.YtgfiiohglgbdiaaBreaksShown
import Derived.Test.YtgfiiohglgbdiaaBreaksTurns
import Derived.Test.YtgfiiohglgbdiaaBreaksEnds
import Derived.Test.YtgfiiohglgbdiaaBreaksBeside
namespace Go.Proofs.Ytgfiiohglgbdiaa
open Go.RowKit
theorem awake_ok9 : AwakeOK9 13 := fun w => awake9_any cut_ok shown_ok w
theorem walkBreaksShown (s : ByteArray) (ws : Int) (h1 : s.size ≤ maxLen) (h2 : (Lit.int .u8 ws).wf = true) (w : World) :
    Calls Try.prog 4 #[.string s, .int .u8 ws] w fun e w' => e = .returned (.bool true) ∧ Below w.heap.size w w' :=
  shown9 cut_ok shown_ok awake_ok9 s ws w (u8_in9 h2) h1
theorem walkBreaksTurns (s : ByteArray) (h1 : s.size ≤ maxLen) (w : World) :
    Calls Try.prog 5 #[.string s] w fun e w' => e = .returned (.bool true) ∧ Below w.heap.size w w' :=
  turns9 cut_ok awake_ok9 s w h1
theorem walkBreaksEnds (s : ByteArray) (h1 : s.size ≤ maxLen) (w : World) :
    Calls Try.prog 6 #[.string s] w fun e w' => e = .returned (.bool true) ∧ Below w.heap.size w w' :=
  ends9 cut_ok awake_ok9 s w h1
theorem walkBreaksBeside (s t : ByteArray) (keep : Bool) (h1 : s.size ≤ maxLen) (h2 : t.size ≤ maxLen) (w : World) :
    Calls Try.prog 7 #[.string s, .string t, .bool keep] w fun e w' => e = .returned (.bool true) ∧ Below w.heap.size w w' :=
  beside9 cut_ok awake_ok9 s t keep w h1 h2
end Go.Proofs.Ytgfiiohglgbdiaa
