/-
  No cell of these rows narrows 'for every input' (looked for: loops, veiled, ifaces, maps, wideKeys, modest, calm, conditions, laid).
  DERIVED. THE GIVEN ROWS OF THIS SEAT. 7 by the template 'for every input the law returns true; each argument reads behind the call as it read before'; 0 by the template 'total and deterministic' (their statements: YtdadlhkbngopaaaTotals.lean).
  GIVEN WITH THE SEED: the statements are not yours to turn. If you find one false, say at which input.
  Laid BY PROGRAM, IN A SANDBOX (cutbox-rows.mjs): the forced cells as the released guide's own fill.sh prints them over the translation 0301ef8e1b59153f… (all of the seat's roots in one cut). By AI agents, Wed Nov 11 2026. No macro, syntax, notation, axiom, sorry.
-/
import Derived.Test.YtdadlhkbngopaaaChecked
import GoSem.Claim
import GoSem.ClaimJoined
import GoSem.ClaimMapViews
import Derived.JoinedTies
import Derived.KernelRfl
namespace Go.Proofs.Ytdadlhkbngopaaa
/- THE CELL 'sum', in the pinned program and in every row, IS THE sha256 OF THE DUMP (.gsa) THAT YtdadlhkbngopaaaProg.lean LOADS. Nothing in Lean hashes anything: it is a label: what it is worth is what the hold of that sum in a sandbox is worth. -/
noncomputable def Try.pinned : Pinned := { name := "ytdadlhkbngopaaa", sum := "0301ef8e1b59153f54aaf5013dd2c821dcbe75447b36315022c6285774919e2c", checked := Try.checked }
namespace Rows
def none {H : Type} : Left H := { results := [], args := [] }

/-- 'windowpanelaw12.WidthStyles': WHATEVER THE INPUT: true; the input reads as it did. -/
def widthStylesSpec : ChangeSpec := { name := "widthStyles", fn := fun _ => fun
  | [d1, d2] => { results := [.lit (.bool true)], args := [d1, d2] }
  | _ => none }
def widthStylesRow : OpenClaim := { program := "ytdadlhkbngopaaa", sum := "0301ef8e1b59153f54aaf5013dd2c821dcbe75447b36315022c6285774919e2c", func := "windowpane/windowpanelaw12.WidthStyles", spec := "widthStyles", unfollowed := true, recurses := true, apart := false }
def WidthStylesSaid : Prop := widthStylesRow.holds Try.pinned (OpenSpec.ofChange widthStylesSpec)

/-- ITS FALSE NEIGHBOUR: 'it returns false'. Refute it at one input. -/
def widthStylesWrong : ChangeSpec := { name := "widthStyles", fn := fun _ => fun
  | [d1, d2] => { results := [.lit (.bool false)], args := [d1, d2] }
  | _ => none }
def WidthStylesWrongFalsely : Prop := widthStylesRow.holds Try.pinned (OpenSpec.ofChange widthStylesWrong)

/-- 'windowpanelaw12.WidthSolves': WHATEVER THE INPUT: true; the input reads as it did. -/
def widthSolvesSpec : ChangeSpec := { name := "widthSolves", fn := fun _ => fun
  | [d1, d2] => { results := [.lit (.bool true)], args := [d1, d2] }
  | _ => none }
def widthSolvesRow : OpenClaim := { program := "ytdadlhkbngopaaa", sum := "0301ef8e1b59153f54aaf5013dd2c821dcbe75447b36315022c6285774919e2c", func := "windowpane/windowpanelaw12.WidthSolves", spec := "widthSolves", apart := false }
def WidthSolvesSaid : Prop := widthSolvesRow.holds Try.pinned (OpenSpec.ofChange widthSolvesSpec)

/-- ITS FALSE NEIGHBOUR: 'it returns false'. Refute it at one input. -/
def widthSolvesWrong : ChangeSpec := { name := "widthSolves", fn := fun _ => fun
  | [d1, d2] => { results := [.lit (.bool false)], args := [d1, d2] }
  | _ => none }
def WidthSolvesWrongFalsely : Prop := widthSolvesRow.holds Try.pinned (OpenSpec.ofChange widthSolvesWrong)

/-- 'windowpanelaw12.WidthEquation': WHATEVER THE INPUT: true; the input reads as it did. -/
def widthEquationSpec : ChangeSpec := { name := "widthEquation", fn := fun _ => fun
  | [d1, d2] => { results := [.lit (.bool true)], args := [d1, d2] }
  | _ => none }
def widthEquationRow : OpenClaim := { program := "ytdadlhkbngopaaa", sum := "0301ef8e1b59153f54aaf5013dd2c821dcbe75447b36315022c6285774919e2c", func := "windowpane/windowpanelaw12.WidthEquation", spec := "widthEquation", apart := false }
def WidthEquationSaid : Prop := widthEquationRow.holds Try.pinned (OpenSpec.ofChange widthEquationSpec)

/-- ITS FALSE NEIGHBOUR: 'it returns false'. Refute it at one input. -/
def widthEquationWrong : ChangeSpec := { name := "widthEquation", fn := fun _ => fun
  | [d1, d2] => { results := [.lit (.bool false)], args := [d1, d2] }
  | _ => none }
def WidthEquationWrongFalsely : Prop := widthEquationRow.holds Try.pinned (OpenSpec.ofChange widthEquationWrong)

/-- 'windowpanelaw12.WidthStays': WHATEVER THE INPUT: true; the input reads as it did. -/
def widthStaysSpec : ChangeSpec := { name := "widthStays", fn := fun _ => fun
  | [d1, d2] => { results := [.lit (.bool true)], args := [d1, d2] }
  | _ => none }
def widthStaysRow : OpenClaim := { program := "ytdadlhkbngopaaa", sum := "0301ef8e1b59153f54aaf5013dd2c821dcbe75447b36315022c6285774919e2c", func := "windowpane/windowpanelaw12.WidthStays", spec := "widthStays", apart := false }
def WidthStaysSaid : Prop := widthStaysRow.holds Try.pinned (OpenSpec.ofChange widthStaysSpec)

/-- ITS FALSE NEIGHBOUR: 'it returns false'. Refute it at one input. -/
def widthStaysWrong : ChangeSpec := { name := "widthStays", fn := fun _ => fun
  | [d1, d2] => { results := [.lit (.bool false)], args := [d1, d2] }
  | _ => none }
def WidthStaysWrongFalsely : Prop := widthStaysRow.holds Try.pinned (OpenSpec.ofChange widthStaysWrong)

/-- 'windowpanelaw12.WidthMiddle': WHATEVER THE INPUT: true; the input reads as it did. -/
def widthMiddleSpec : ChangeSpec := { name := "widthMiddle", fn := fun _ => fun
  | [d1, d2] => { results := [.lit (.bool true)], args := [d1, d2] }
  | _ => none }
def widthMiddleRow : OpenClaim := { program := "ytdadlhkbngopaaa", sum := "0301ef8e1b59153f54aaf5013dd2c821dcbe75447b36315022c6285774919e2c", func := "windowpane/windowpanelaw12.WidthMiddle", spec := "widthMiddle", apart := false }
def WidthMiddleSaid : Prop := widthMiddleRow.holds Try.pinned (OpenSpec.ofChange widthMiddleSpec)

/-- ITS FALSE NEIGHBOUR: 'it returns false'. Refute it at one input. -/
def widthMiddleWrong : ChangeSpec := { name := "widthMiddle", fn := fun _ => fun
  | [d1, d2] => { results := [.lit (.bool false)], args := [d1, d2] }
  | _ => none }
def WidthMiddleWrongFalsely : Prop := widthMiddleRow.holds Try.pinned (OpenSpec.ofChange widthMiddleWrong)

/-- 'windowpanelaw12.WidthShifted': WHATEVER THE INPUT: true; the input reads as it did. -/
def widthShiftedSpec : ChangeSpec := { name := "widthShifted", fn := fun _ => fun
  | [d1, d2, d3] => { results := [.lit (.bool true)], args := [d1, d2, d3] }
  | _ => none }
def widthShiftedRow : OpenClaim := { program := "ytdadlhkbngopaaa", sum := "0301ef8e1b59153f54aaf5013dd2c821dcbe75447b36315022c6285774919e2c", func := "windowpane/windowpanelaw12.WidthShifted", spec := "widthShifted", apart := false }
def WidthShiftedSaid : Prop := widthShiftedRow.holds Try.pinned (OpenSpec.ofChange widthShiftedSpec)

/-- ITS FALSE NEIGHBOUR: 'it returns false'. Refute it at one input. -/
def widthShiftedWrong : ChangeSpec := { name := "widthShifted", fn := fun _ => fun
  | [d1, d2, d3] => { results := [.lit (.bool false)], args := [d1, d2, d3] }
  | _ => none }
def WidthShiftedWrongFalsely : Prop := widthShiftedRow.holds Try.pinned (OpenSpec.ofChange widthShiftedWrong)

/-- 'windowpanelaw12.WidthOf': WHATEVER THE INPUT: true; the input reads as it did. -/
def widthOfSpec : ChangeSpec := { name := "widthOf", fn := fun _ => fun
  | [d1, d2] => { results := [.lit (.bool true)], args := [d1, d2] }
  | _ => none }
def widthOfRow : OpenClaim := { program := "ytdadlhkbngopaaa", sum := "0301ef8e1b59153f54aaf5013dd2c821dcbe75447b36315022c6285774919e2c", func := "windowpane/windowpanelaw12.WidthOf", spec := "widthOf", unfollowed := true, recurses := true, apart := false }
def WidthOfSaid : Prop := widthOfRow.holds Try.pinned (OpenSpec.ofChange widthOfSpec)

/-- ITS FALSE NEIGHBOUR: 'it returns false'. Refute it at one input. -/
def widthOfWrong : ChangeSpec := { name := "widthOf", fn := fun _ => fun
  | [d1, d2] => { results := [.lit (.bool false)], args := [d1, d2] }
  | _ => none }
def WidthOfWrongFalsely : Prop := widthOfRow.holds Try.pinned (OpenSpec.ofChange widthOfWrong)

/- THE SECOND FORM. 'bulk': how many values and letters a reading holds, each counted each time it is reached (what is shared counts as often as it is met; a slice's spare places count too). A statement '..UptoSaid' is the law's where the arguments, and the package variables that the reading takes, are together of bulk at most 1048576: NARROWER than '..Said'. Prove '..Said' where nothing that the law and all that it calls make is longer than what came in: it says more and counts as full. Else prove '..UptoSaid'. A law counts once. -/
mutual
def uptoBulk {H : Type} : DataW H → Nat
  | .lit (.string bytes) => bytes.length + 1
  | .lit _ => 1
  | .nil => 1
  | .ptr d => uptoBulk d + 1
  | .slice elems spare => uptoBulkAll elems + uptoBulkAll spare + 1
  | .agg parts => uptoBulkAll parts + 1
  | .iface _ d => uptoBulk d + 1
  | .map entries => uptoBulkEntries entries + 1
  | .held _ => 1
def uptoBulkAll {H : Type} : List (DataW H) → Nat
  | [] => 0
  | d :: r => uptoBulk d + uptoBulkAll r
def uptoBulkEntries {H : Type} : List (Lit × DataW H) → Nat
  | [] => 0
  | x :: r => uptoBulkEntry x + uptoBulkEntries r
def uptoBulkEntry {H : Type} : Lit × DataW H → Nat
  | (.string bytes, d) => bytes.length + uptoBulk d + 1
  | (_, d) => uptoBulk d + 1
 end
def uptoSmall : (H : Type) → List (DataW H) → Bool := fun _ ds => decide (uptoBulkAll ds ≤ 1048576)
def OpenSpec.upto (s : _root_.Go.ChangeSpec) : _root_.Go.OpenSpec := { _root_.Go.OpenSpec.ofChange s with cond := some uptoSmall }

/-- 'windowpanelaw12.WidthStyles', WHERE WHAT IT READS IS OF BULK AT MOST 1048576: true; the input reads as it did. -/
def widthStylesUptoRow : OpenClaim := { program := "ytdadlhkbngopaaa", sum := "0301ef8e1b59153f54aaf5013dd2c821dcbe75447b36315022c6285774919e2c", func := "windowpane/windowpanelaw12.WidthStyles", spec := "widthStyles", unfollowed := true, recurses := true, apart := false, narrowed := true }
def WidthStylesUptoSaid : Prop := widthStylesUptoRow.holds Try.pinned (OpenSpec.upto widthStylesSpec)

/-- 'windowpanelaw12.WidthSolves', WHERE WHAT IT READS IS OF BULK AT MOST 1048576: true; the input reads as it did. -/
def widthSolvesUptoRow : OpenClaim := { program := "ytdadlhkbngopaaa", sum := "0301ef8e1b59153f54aaf5013dd2c821dcbe75447b36315022c6285774919e2c", func := "windowpane/windowpanelaw12.WidthSolves", spec := "widthSolves", apart := false, narrowed := true }
def WidthSolvesUptoSaid : Prop := widthSolvesUptoRow.holds Try.pinned (OpenSpec.upto widthSolvesSpec)

/-- 'windowpanelaw12.WidthEquation', WHERE WHAT IT READS IS OF BULK AT MOST 1048576: true; the input reads as it did. -/
def widthEquationUptoRow : OpenClaim := { program := "ytdadlhkbngopaaa", sum := "0301ef8e1b59153f54aaf5013dd2c821dcbe75447b36315022c6285774919e2c", func := "windowpane/windowpanelaw12.WidthEquation", spec := "widthEquation", apart := false, narrowed := true }
def WidthEquationUptoSaid : Prop := widthEquationUptoRow.holds Try.pinned (OpenSpec.upto widthEquationSpec)

/-- 'windowpanelaw12.WidthStays', WHERE WHAT IT READS IS OF BULK AT MOST 1048576: true; the input reads as it did. -/
def widthStaysUptoRow : OpenClaim := { program := "ytdadlhkbngopaaa", sum := "0301ef8e1b59153f54aaf5013dd2c821dcbe75447b36315022c6285774919e2c", func := "windowpane/windowpanelaw12.WidthStays", spec := "widthStays", apart := false, narrowed := true }
def WidthStaysUptoSaid : Prop := widthStaysUptoRow.holds Try.pinned (OpenSpec.upto widthStaysSpec)

/-- 'windowpanelaw12.WidthMiddle', WHERE WHAT IT READS IS OF BULK AT MOST 1048576: true; the input reads as it did. -/
def widthMiddleUptoRow : OpenClaim := { program := "ytdadlhkbngopaaa", sum := "0301ef8e1b59153f54aaf5013dd2c821dcbe75447b36315022c6285774919e2c", func := "windowpane/windowpanelaw12.WidthMiddle", spec := "widthMiddle", apart := false, narrowed := true }
def WidthMiddleUptoSaid : Prop := widthMiddleUptoRow.holds Try.pinned (OpenSpec.upto widthMiddleSpec)

/-- 'windowpanelaw12.WidthShifted', WHERE WHAT IT READS IS OF BULK AT MOST 1048576: true; the input reads as it did. -/
def widthShiftedUptoRow : OpenClaim := { program := "ytdadlhkbngopaaa", sum := "0301ef8e1b59153f54aaf5013dd2c821dcbe75447b36315022c6285774919e2c", func := "windowpane/windowpanelaw12.WidthShifted", spec := "widthShifted", apart := false, narrowed := true }
def WidthShiftedUptoSaid : Prop := widthShiftedUptoRow.holds Try.pinned (OpenSpec.upto widthShiftedSpec)

/-- 'windowpanelaw12.WidthOf', WHERE WHAT IT READS IS OF BULK AT MOST 1048576: true; the input reads as it did. -/
def widthOfUptoRow : OpenClaim := { program := "ytdadlhkbngopaaa", sum := "0301ef8e1b59153f54aaf5013dd2c821dcbe75447b36315022c6285774919e2c", func := "windowpane/windowpanelaw12.WidthOf", spec := "widthOf", unfollowed := true, recurses := true, apart := false, narrowed := true }
def WidthOfUptoSaid : Prop := widthOfUptoRow.holds Try.pinned (OpenSpec.upto widthOfSpec)

end Rows
end Go.Proofs.Ytdadlhkbngopaaa
