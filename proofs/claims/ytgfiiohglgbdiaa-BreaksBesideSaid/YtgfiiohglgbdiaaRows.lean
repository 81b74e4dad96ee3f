/-
  No cell of these rows narrows 'for every input' (looked for: loops, veiled, ifaces, maps, wideKeys, modest, calm, conditions, laid).
  DERIVED. THE GIVEN ROWS OF THIS SEAT. 5 by the template 'for every input the law returns true; each argument reads behind the call as it read before'; 0 by the template 'total and deterministic' (their statements: YtgfiiohglgbdiaaTotals.lean).
  GIVEN WITH THE SEED: the statements are not yours to turn. If you find one false, say at which input.
  Laid BY PROGRAM, IN A SANDBOX (cutbox-rows.mjs): the forced cells as the released guide's own fill.sh prints them over the translation 8a133eb23ec79217… (all of the seat's roots in one cut). By AI agents, Wed Nov 11 2026. No macro, syntax, notation, axiom, sorry.
-/
import Derived.Test.YtgfiiohglgbdiaaChecked
import GoSem.Claim
import GoSem.ClaimJoined
import GoSem.ClaimMapViews
import Derived.JoinedTies
import Derived.KernelRfl
namespace Go.Proofs.Ytgfiiohglgbdiaa
/- THE CELL 'sum', in the pinned program and in every row, IS THE sha256 OF THE DUMP (.gsa) THAT YtgfiiohglgbdiaaProg.lean LOADS. Nothing in Lean hashes anything: it is a label: what it is worth is what the hold of that sum in a sandbox is worth. -/
noncomputable def Try.pinned : Pinned := { name := "ytgfiiohglgbdiaa", sum := "8a133eb23ec792175d68e9d8c609839425c3b9dbb8399e9bb2bdf614fab3550e", checked := Try.checked }
namespace Rows
def none {H : Type} : Left H := { results := [], args := [] }

/-- 'windowpanelaw09.BreaksCut': WHATEVER THE INPUT: true; the input reads as it did. -/
def breaksCutSpec : ChangeSpec := { name := "breaksCut", fn := fun _ => fun
  | [d1, d2] => { results := [.lit (.bool true)], args := [d1, d2] }
  | _ => none }
def breaksCutRow : OpenClaim := { program := "ytgfiiohglgbdiaa", sum := "8a133eb23ec792175d68e9d8c609839425c3b9dbb8399e9bb2bdf614fab3550e", func := "windowpane/windowpanelaw09.BreaksCut", spec := "breaksCut", inPlace := ["internal/bytealg.IndexByteString", "internal/abi.NoEscape"], unfollowed := true, recurses := true, apart := false }
def BreaksCutSaid : Prop := breaksCutRow.holds Try.pinned (OpenSpec.ofChange breaksCutSpec)

/-- ITS FALSE NEIGHBOUR: 'it returns false'. Refute it at one input. -/
def breaksCutWrong : ChangeSpec := { name := "breaksCut", fn := fun _ => fun
  | [d1, d2] => { results := [.lit (.bool false)], args := [d1, d2] }
  | _ => none }
def BreaksCutWrongFalsely : Prop := breaksCutRow.holds Try.pinned (OpenSpec.ofChange breaksCutWrong)

/-- 'windowpanelaw09.BreaksShown': WHATEVER THE INPUT: true; the input reads as it did. -/
def breaksShownSpec : ChangeSpec := { name := "breaksShown", fn := fun _ => fun
  | [d1, d2] => { results := [.lit (.bool true)], args := [d1, d2] }
  | _ => none }
def breaksShownRow : OpenClaim := { program := "ytgfiiohglgbdiaa", sum := "8a133eb23ec792175d68e9d8c609839425c3b9dbb8399e9bb2bdf614fab3550e", func := "windowpane/windowpanelaw09.BreaksShown", spec := "breaksShown", inPlace := ["internal/bytealg.IndexByteString", "internal/abi.NoEscape"], unfollowed := true, recurses := true, apart := false }
def BreaksShownSaid : Prop := breaksShownRow.holds Try.pinned (OpenSpec.ofChange breaksShownSpec)

/-- ITS FALSE NEIGHBOUR: 'it returns false'. Refute it at one input. -/
def breaksShownWrong : ChangeSpec := { name := "breaksShown", fn := fun _ => fun
  | [d1, d2] => { results := [.lit (.bool false)], args := [d1, d2] }
  | _ => none }
def BreaksShownWrongFalsely : Prop := breaksShownRow.holds Try.pinned (OpenSpec.ofChange breaksShownWrong)

/-- 'windowpanelaw09.BreaksTurns': WHATEVER THE INPUT: true; the input reads as it did. -/
def breaksTurnsSpec : ChangeSpec := { name := "breaksTurns", fn := fun _ => fun
  | [d] => { results := [.lit (.bool true)], args := [d] }
  | _ => none }
def breaksTurnsRow : OpenClaim := { program := "ytgfiiohglgbdiaa", sum := "8a133eb23ec792175d68e9d8c609839425c3b9dbb8399e9bb2bdf614fab3550e", func := "windowpane/windowpanelaw09.BreaksTurns", spec := "breaksTurns", inPlace := ["internal/bytealg.IndexByteString", "internal/abi.NoEscape"], unfollowed := true, recurses := true, apart := false }
def BreaksTurnsSaid : Prop := breaksTurnsRow.holds Try.pinned (OpenSpec.ofChange breaksTurnsSpec)

/-- ITS FALSE NEIGHBOUR: 'it returns false'. Refute it at one input. -/
def breaksTurnsWrong : ChangeSpec := { name := "breaksTurns", fn := fun _ => fun
  | [d] => { results := [.lit (.bool false)], args := [d] }
  | _ => none }
def BreaksTurnsWrongFalsely : Prop := breaksTurnsRow.holds Try.pinned (OpenSpec.ofChange breaksTurnsWrong)

/-- 'windowpanelaw09.BreaksEnds': WHATEVER THE INPUT: true; the input reads as it did. -/
def breaksEndsSpec : ChangeSpec := { name := "breaksEnds", fn := fun _ => fun
  | [d] => { results := [.lit (.bool true)], args := [d] }
  | _ => none }
def breaksEndsRow : OpenClaim := { program := "ytgfiiohglgbdiaa", sum := "8a133eb23ec792175d68e9d8c609839425c3b9dbb8399e9bb2bdf614fab3550e", func := "windowpane/windowpanelaw09.BreaksEnds", spec := "breaksEnds", inPlace := ["internal/bytealg.IndexByteString", "internal/abi.NoEscape"], unfollowed := true, recurses := true, apart := false }
def BreaksEndsSaid : Prop := breaksEndsRow.holds Try.pinned (OpenSpec.ofChange breaksEndsSpec)

/-- ITS FALSE NEIGHBOUR: 'it returns false'. Refute it at one input. -/
def breaksEndsWrong : ChangeSpec := { name := "breaksEnds", fn := fun _ => fun
  | [d] => { results := [.lit (.bool false)], args := [d] }
  | _ => none }
def BreaksEndsWrongFalsely : Prop := breaksEndsRow.holds Try.pinned (OpenSpec.ofChange breaksEndsWrong)

/-- 'windowpanelaw09.BreaksBeside': WHATEVER THE INPUT: true; the input reads as it did. -/
def breaksBesideSpec : ChangeSpec := { name := "breaksBeside", fn := fun _ => fun
  | [d1, d2, d3] => { results := [.lit (.bool true)], args := [d1, d2, d3] }
  | _ => none }
def breaksBesideRow : OpenClaim := { program := "ytgfiiohglgbdiaa", sum := "8a133eb23ec792175d68e9d8c609839425c3b9dbb8399e9bb2bdf614fab3550e", func := "windowpane/windowpanelaw09.BreaksBeside", spec := "breaksBeside", inPlace := ["internal/bytealg.IndexByteString", "internal/abi.NoEscape"], unfollowed := true, recurses := true, apart := false }
def BreaksBesideSaid : Prop := breaksBesideRow.holds Try.pinned (OpenSpec.ofChange breaksBesideSpec)

/-- ITS FALSE NEIGHBOUR: 'it returns false'. Refute it at one input. -/
def breaksBesideWrong : ChangeSpec := { name := "breaksBeside", fn := fun _ => fun
  | [d1, d2, d3] => { results := [.lit (.bool false)], args := [d1, d2, d3] }
  | _ => none }
def BreaksBesideWrongFalsely : Prop := breaksBesideRow.holds Try.pinned (OpenSpec.ofChange breaksBesideWrong)

/- THE SECOND FORM. 'bulk': how many values and letters a reading holds, each counted each time it is reached (what is shared counts as often as it is met; a slice's spare places count too). A statement '..UptoSaid' is the law's where the arguments, and the package variables that the reading takes, are together of bulk at most 1048576: NARROWER than '..Said'. Prove '..Said' where nothing that the law and all that it calls make is longer than what came in: it says more and counts as full. Else prove '..UptoSaid'. A law counts once. -/
mutual
def uptoBulk {H : Type} : DataW H → Nat
  | .lit (.string bytes) => bytes.length + 1
  | .lit _ => 1
  | .nil => 1
  | .ptr d => uptoBulk d + 1
  | .slice elems spare => uptoBulkAll elems + uptoBulkAll spare + 1
  | .agg parts => uptoBulkAll parts + 1
  | .iface _ d => uptoBulk d + 1
  | .map entries => uptoBulkEntries entries + 1
  | .held _ => 1
def uptoBulkAll {H : Type} : List (DataW H) → Nat
  | [] => 0
  | d :: r => uptoBulk d + uptoBulkAll r
def uptoBulkEntries {H : Type} : List (Lit × DataW H) → Nat
  | [] => 0
  | x :: r => uptoBulkEntry x + uptoBulkEntries r
def uptoBulkEntry {H : Type} : Lit × DataW H → Nat
  | (.string bytes, d) => bytes.length + uptoBulk d + 1
  | (_, d) => uptoBulk d + 1
 end
def uptoSmall : (H : Type) → List (DataW H) → Bool := fun _ ds => decide (uptoBulkAll ds ≤ 1048576)
def OpenSpec.upto (s : _root_.Go.ChangeSpec) : _root_.Go.OpenSpec := { _root_.Go.OpenSpec.ofChange s with cond := some uptoSmall }

/-- 'windowpanelaw09.BreaksCut', WHERE WHAT IT READS IS OF BULK AT MOST 1048576: true; the input reads as it did. -/
def breaksCutUptoRow : OpenClaim := { program := "ytgfiiohglgbdiaa", sum := "8a133eb23ec792175d68e9d8c609839425c3b9dbb8399e9bb2bdf614fab3550e", func := "windowpane/windowpanelaw09.BreaksCut", spec := "breaksCut", inPlace := ["internal/bytealg.IndexByteString", "internal/abi.NoEscape"], unfollowed := true, recurses := true, apart := false, narrowed := true }
def BreaksCutUptoSaid : Prop := breaksCutUptoRow.holds Try.pinned (OpenSpec.upto breaksCutSpec)

/-- 'windowpanelaw09.BreaksShown', WHERE WHAT IT READS IS OF BULK AT MOST 1048576: true; the input reads as it did. -/
def breaksShownUptoRow : OpenClaim := { program := "ytgfiiohglgbdiaa", sum := "8a133eb23ec792175d68e9d8c609839425c3b9dbb8399e9bb2bdf614fab3550e", func := "windowpane/windowpanelaw09.BreaksShown", spec := "breaksShown", inPlace := ["internal/bytealg.IndexByteString", "internal/abi.NoEscape"], unfollowed := true, recurses := true, apart := false, narrowed := true }
def BreaksShownUptoSaid : Prop := breaksShownUptoRow.holds Try.pinned (OpenSpec.upto breaksShownSpec)

/-- 'windowpanelaw09.BreaksTurns', WHERE WHAT IT READS IS OF BULK AT MOST 1048576: true; the input reads as it did. -/
def breaksTurnsUptoRow : OpenClaim := { program := "ytgfiiohglgbdiaa", sum := "8a133eb23ec792175d68e9d8c609839425c3b9dbb8399e9bb2bdf614fab3550e", func := "windowpane/windowpanelaw09.BreaksTurns", spec := "breaksTurns", inPlace := ["internal/bytealg.IndexByteString", "internal/abi.NoEscape"], unfollowed := true, recurses := true, apart := false, narrowed := true }
def BreaksTurnsUptoSaid : Prop := breaksTurnsUptoRow.holds Try.pinned (OpenSpec.upto breaksTurnsSpec)

/-- 'windowpanelaw09.BreaksEnds', WHERE WHAT IT READS IS OF BULK AT MOST 1048576: true; the input reads as it did. -/
def breaksEndsUptoRow : OpenClaim := { program := "ytgfiiohglgbdiaa", sum := "8a133eb23ec792175d68e9d8c609839425c3b9dbb8399e9bb2bdf614fab3550e", func := "windowpane/windowpanelaw09.BreaksEnds", spec := "breaksEnds", inPlace := ["internal/bytealg.IndexByteString", "internal/abi.NoEscape"], unfollowed := true, recurses := true, apart := false, narrowed := true }
def BreaksEndsUptoSaid : Prop := breaksEndsUptoRow.holds Try.pinned (OpenSpec.upto breaksEndsSpec)

/-- 'windowpanelaw09.BreaksBeside', WHERE WHAT IT READS IS OF BULK AT MOST 1048576: true; the input reads as it did. -/
def breaksBesideUptoRow : OpenClaim := { program := "ytgfiiohglgbdiaa", sum := "8a133eb23ec792175d68e9d8c609839425c3b9dbb8399e9bb2bdf614fab3550e", func := "windowpane/windowpanelaw09.BreaksBeside", spec := "breaksBeside", inPlace := ["internal/bytealg.IndexByteString", "internal/abi.NoEscape"], unfollowed := true, recurses := true, apart := false, narrowed := true }
def BreaksBesideUptoSaid : Prop := breaksBesideUptoRow.holds Try.pinned (OpenSpec.upto breaksBesideSpec)

end Rows
end Go.Proofs.Ytgfiiohglgbdiaa
