/-
  No cell of these rows narrows 'for every input' (looked for: loops, veiled, ifaces, maps, wideKeys, modest, calm, conditions, laid).
  DERIVED. THE GIVEN ROWS OF THIS SEAT. 7 by the template 'for every input the law returns true; each argument reads behind the call as it read before'; 0 by the template 'total and deterministic' (their statements: YtgfcddanikeelaaTotals.lean).
  GIVEN WITH THE SEED: the statements are not yours to turn. If you find one false, say at which input.
  Laid BY PROGRAM, IN A SANDBOX (cutbox-rows.mjs): the forced cells as the released guide's own fill.sh prints them over the translation 6c34fb05f4948b21… (all of the seat's roots in one cut). By AI agents, Wed Nov 11 2026. No macro, syntax, notation, axiom, sorry.
-/
import Derived.Test.YtgfcddanikeelaaChecked
import GoSem.Claim
import GoSem.ClaimJoined
import GoSem.ClaimMapViews
import Derived.JoinedTies
import Derived.KernelRfl
namespace Go.Proofs.Ytgfcddanikeelaa
/- THE CELL 'sum', in the pinned program and in every row, IS THE sha256 OF THE DUMP (.gsa) THAT YtgfcddanikeelaaProg.lean LOADS. Nothing in Lean hashes anything: it is a label: what it is worth is what the hold of that sum in a sandbox is worth. -/
noncomputable def Try.pinned : Pinned := { name := "ytgfcddanikeelaa", sum := "6c34fb05f4948b21b13618ca65f47aac2333546bca73e4867fb0ee33e712b927", checked := Try.checked }
namespace Rows
def none {H : Type} : Left H := { results := [], args := [] }

/-- 'windowpanelaw06.StyleMay': WHATEVER THE INPUT: true; the input reads as it did. -/
def styleMaySpec : ChangeSpec := { name := "styleMay", fn := fun _ => fun
  | [d1, d2] => { results := [.lit (.bool true)], args := [d1, d2] }
  | _ => none }
def styleMayRow : OpenClaim := { program := "ytgfcddanikeelaa", sum := "6c34fb05f4948b21b13618ca65f47aac2333546bca73e4867fb0ee33e712b927", func := "windowpane/windowpanelaw06.StyleMay", spec := "styleMay", unfollowed := true, recurses := true, apart := false }
def StyleMaySaid : Prop := styleMayRow.holds Try.pinned (OpenSpec.ofChange styleMaySpec)

/-- ITS FALSE NEIGHBOUR: 'it returns false'. Refute it at one input. -/
def styleMayWrong : ChangeSpec := { name := "styleMay", fn := fun _ => fun
  | [d1, d2] => { results := [.lit (.bool false)], args := [d1, d2] }
  | _ => none }
def StyleMayWrongFalsely : Prop := styleMayRow.holds Try.pinned (OpenSpec.ofChange styleMayWrong)

/-- 'windowpanelaw06.StyleLengths': WHATEVER THE INPUT: true; the input reads as it did. -/
def styleLengthsSpec : ChangeSpec := { name := "styleLengths", fn := fun _ => fun
  | [d1, d2] => { results := [.lit (.bool true)], args := [d1, d2] }
  | _ => none }
def styleLengthsRow : OpenClaim := { program := "ytgfcddanikeelaa", sum := "6c34fb05f4948b21b13618ca65f47aac2333546bca73e4867fb0ee33e712b927", func := "windowpane/windowpanelaw06.StyleLengths", spec := "styleLengths", apart := false }
def StyleLengthsSaid : Prop := styleLengthsRow.holds Try.pinned (OpenSpec.ofChange styleLengthsSpec)

/-- ITS FALSE NEIGHBOUR: 'it returns false'. Refute it at one input. -/
def styleLengthsWrong : ChangeSpec := { name := "styleLengths", fn := fun _ => fun
  | [d1, d2] => { results := [.lit (.bool false)], args := [d1, d2] }
  | _ => none }
def StyleLengthsWrongFalsely : Prop := styleLengthsRow.holds Try.pinned (OpenSpec.ofChange styleLengthsWrong)

/-- 'windowpanelaw06.StyleSizes': WHATEVER THE INPUT: true; the input reads as it did. -/
def styleSizesSpec : ChangeSpec := { name := "styleSizes", fn := fun _ => fun
  | [d1, d2] => { results := [.lit (.bool true)], args := [d1, d2] }
  | _ => none }
def styleSizesRow : OpenClaim := { program := "ytgfcddanikeelaa", sum := "6c34fb05f4948b21b13618ca65f47aac2333546bca73e4867fb0ee33e712b927", func := "windowpane/windowpanelaw06.StyleSizes", spec := "styleSizes", unfollowed := true, recurses := true, apart := false }
def StyleSizesSaid : Prop := styleSizesRow.holds Try.pinned (OpenSpec.ofChange styleSizesSpec)

/-- ITS FALSE NEIGHBOUR: 'it returns false'. Refute it at one input. -/
def styleSizesWrong : ChangeSpec := { name := "styleSizes", fn := fun _ => fun
  | [d1, d2] => { results := [.lit (.bool false)], args := [d1, d2] }
  | _ => none }
def StyleSizesWrongFalsely : Prop := styleSizesRow.holds Try.pinned (OpenSpec.ofChange styleSizesWrong)

/-- 'windowpanelaw06.StyleWhole': WHATEVER THE INPUT: true; the input reads as it did. -/
def styleWholeSpec : ChangeSpec := { name := "styleWhole", fn := fun _ => fun
  | [d1, d2] => { results := [.lit (.bool true)], args := [d1, d2] }
  | _ => none }
def styleWholeRow : OpenClaim := { program := "ytgfcddanikeelaa", sum := "6c34fb05f4948b21b13618ca65f47aac2333546bca73e4867fb0ee33e712b927", func := "windowpane/windowpanelaw06.StyleWhole", spec := "styleWhole", unfollowed := true, recurses := true, apart := false }
def StyleWholeSaid : Prop := styleWholeRow.holds Try.pinned (OpenSpec.ofChange styleWholeSpec)

/-- ITS FALSE NEIGHBOUR: 'it returns false'. Refute it at one input. -/
def styleWholeWrong : ChangeSpec := { name := "styleWhole", fn := fun _ => fun
  | [d1, d2] => { results := [.lit (.bool false)], args := [d1, d2] }
  | _ => none }
def StyleWholeWrongFalsely : Prop := styleWholeRow.holds Try.pinned (OpenSpec.ofChange styleWholeWrong)

/-- 'windowpanelaw06.StyleParts': WHATEVER THE INPUT: true; the input reads as it did. -/
def stylePartsSpec : ChangeSpec := { name := "styleParts", fn := fun _ => fun
  | [d1, d2, d3] => { results := [.lit (.bool true)], args := [d1, d2, d3] }
  | _ => none }
def stylePartsRow : OpenClaim := { program := "ytgfcddanikeelaa", sum := "6c34fb05f4948b21b13618ca65f47aac2333546bca73e4867fb0ee33e712b927", func := "windowpane/windowpanelaw06.StyleParts", spec := "styleParts", unfollowed := true, recurses := true, apart := false }
def StylePartsSaid : Prop := stylePartsRow.holds Try.pinned (OpenSpec.ofChange stylePartsSpec)

/-- ITS FALSE NEIGHBOUR: 'it returns false'. Refute it at one input. -/
def stylePartsWrong : ChangeSpec := { name := "styleParts", fn := fun _ => fun
  | [d1, d2, d3] => { results := [.lit (.bool false)], args := [d1, d2, d3] }
  | _ => none }
def StylePartsWrongFalsely : Prop := stylePartsRow.holds Try.pinned (OpenSpec.ofChange stylePartsWrong)

/-- 'windowpanelaw06.StyleTurned': WHATEVER THE INPUT: true; the input reads as it did. -/
def styleTurnedSpec : ChangeSpec := { name := "styleTurned", fn := fun _ => fun
  | [d1, d2] => { results := [.lit (.bool true)], args := [d1, d2] }
  | _ => none }
def styleTurnedRow : OpenClaim := { program := "ytgfcddanikeelaa", sum := "6c34fb05f4948b21b13618ca65f47aac2333546bca73e4867fb0ee33e712b927", func := "windowpane/windowpanelaw06.StyleTurned", spec := "styleTurned", unfollowed := true, recurses := true, apart := false }
def StyleTurnedSaid : Prop := styleTurnedRow.holds Try.pinned (OpenSpec.ofChange styleTurnedSpec)

/-- ITS FALSE NEIGHBOUR: 'it returns false'. Refute it at one input. -/
def styleTurnedWrong : ChangeSpec := { name := "styleTurned", fn := fun _ => fun
  | [d1, d2] => { results := [.lit (.bool false)], args := [d1, d2] }
  | _ => none }
def StyleTurnedWrongFalsely : Prop := styleTurnedRow.holds Try.pinned (OpenSpec.ofChange styleTurnedWrong)

/-- 'windowpanelaw06.StyleAuto': WHATEVER THE INPUT: true; the input reads as it did. -/
def styleAutoSpec : ChangeSpec := { name := "styleAuto", fn := fun _ => fun
  | [d1, d2] => { results := [.lit (.bool true)], args := [d1, d2] }
  | _ => none }
def styleAutoRow : OpenClaim := { program := "ytgfcddanikeelaa", sum := "6c34fb05f4948b21b13618ca65f47aac2333546bca73e4867fb0ee33e712b927", func := "windowpane/windowpanelaw06.StyleAuto", spec := "styleAuto", unfollowed := true, recurses := true, apart := false }
def StyleAutoSaid : Prop := styleAutoRow.holds Try.pinned (OpenSpec.ofChange styleAutoSpec)

/-- ITS FALSE NEIGHBOUR: 'it returns false'. Refute it at one input. -/
def styleAutoWrong : ChangeSpec := { name := "styleAuto", fn := fun _ => fun
  | [d1, d2] => { results := [.lit (.bool false)], args := [d1, d2] }
  | _ => none }
def StyleAutoWrongFalsely : Prop := styleAutoRow.holds Try.pinned (OpenSpec.ofChange styleAutoWrong)

/- THE SECOND FORM. 'bulk': how many values and letters a reading holds, each counted each time it is reached (what is shared counts as often as it is met; a slice's spare places count too). A statement '..UptoSaid' is the law's where the arguments, and the package variables that the reading takes, are together of bulk at most 1048576: NARROWER than '..Said'. Prove '..Said' where nothing that the law and all that it calls make is longer than what came in: it says more and counts as full. Else prove '..UptoSaid'. A law counts once. -/
mutual
def uptoBulk {H : Type} : DataW H → Nat
  | .lit (.string bytes) => bytes.length + 1
  | .lit _ => 1
  | .nil => 1
  | .ptr d => uptoBulk d + 1
  | .slice elems spare => uptoBulkAll elems + uptoBulkAll spare + 1
  | .agg parts => uptoBulkAll parts + 1
  | .iface _ d => uptoBulk d + 1
  | .map entries => uptoBulkEntries entries + 1
  | .held _ => 1
def uptoBulkAll {H : Type} : List (DataW H) → Nat
  | [] => 0
  | d :: r => uptoBulk d + uptoBulkAll r
def uptoBulkEntries {H : Type} : List (Lit × DataW H) → Nat
  | [] => 0
  | x :: r => uptoBulkEntry x + uptoBulkEntries r
def uptoBulkEntry {H : Type} : Lit × DataW H → Nat
  | (.string bytes, d) => bytes.length + uptoBulk d + 1
  | (_, d) => uptoBulk d + 1
 end
def uptoSmall : (H : Type) → List (DataW H) → Bool := fun _ ds => decide (uptoBulkAll ds ≤ 1048576)
def OpenSpec.upto (s : _root_.Go.ChangeSpec) : _root_.Go.OpenSpec := { _root_.Go.OpenSpec.ofChange s with cond := some uptoSmall }

/-- 'windowpanelaw06.StyleMay', WHERE WHAT IT READS IS OF BULK AT MOST 1048576: true; the input reads as it did. -/
def styleMayUptoRow : OpenClaim := { program := "ytgfcddanikeelaa", sum := "6c34fb05f4948b21b13618ca65f47aac2333546bca73e4867fb0ee33e712b927", func := "windowpane/windowpanelaw06.StyleMay", spec := "styleMay", unfollowed := true, recurses := true, apart := false, narrowed := true }
def StyleMayUptoSaid : Prop := styleMayUptoRow.holds Try.pinned (OpenSpec.upto styleMaySpec)

/-- 'windowpanelaw06.StyleLengths', WHERE WHAT IT READS IS OF BULK AT MOST 1048576: true; the input reads as it did. -/
def styleLengthsUptoRow : OpenClaim := { program := "ytgfcddanikeelaa", sum := "6c34fb05f4948b21b13618ca65f47aac2333546bca73e4867fb0ee33e712b927", func := "windowpane/windowpanelaw06.StyleLengths", spec := "styleLengths", apart := false, narrowed := true }
def StyleLengthsUptoSaid : Prop := styleLengthsUptoRow.holds Try.pinned (OpenSpec.upto styleLengthsSpec)

/-- 'windowpanelaw06.StyleSizes', WHERE WHAT IT READS IS OF BULK AT MOST 1048576: true; the input reads as it did. -/
def styleSizesUptoRow : OpenClaim := { program := "ytgfcddanikeelaa", sum := "6c34fb05f4948b21b13618ca65f47aac2333546bca73e4867fb0ee33e712b927", func := "windowpane/windowpanelaw06.StyleSizes", spec := "styleSizes", unfollowed := true, recurses := true, apart := false, narrowed := true }
def StyleSizesUptoSaid : Prop := styleSizesUptoRow.holds Try.pinned (OpenSpec.upto styleSizesSpec)

/-- 'windowpanelaw06.StyleWhole', WHERE WHAT IT READS IS OF BULK AT MOST 1048576: true; the input reads as it did. -/
def styleWholeUptoRow : OpenClaim := { program := "ytgfcddanikeelaa", sum := "6c34fb05f4948b21b13618ca65f47aac2333546bca73e4867fb0ee33e712b927", func := "windowpane/windowpanelaw06.StyleWhole", spec := "styleWhole", unfollowed := true, recurses := true, apart := false, narrowed := true }
def StyleWholeUptoSaid : Prop := styleWholeUptoRow.holds Try.pinned (OpenSpec.upto styleWholeSpec)

/-- 'windowpanelaw06.StyleParts', WHERE WHAT IT READS IS OF BULK AT MOST 1048576: true; the input reads as it did. -/
def stylePartsUptoRow : OpenClaim := { program := "ytgfcddanikeelaa", sum := "6c34fb05f4948b21b13618ca65f47aac2333546bca73e4867fb0ee33e712b927", func := "windowpane/windowpanelaw06.StyleParts", spec := "styleParts", unfollowed := true, recurses := true, apart := false, narrowed := true }
def StylePartsUptoSaid : Prop := stylePartsUptoRow.holds Try.pinned (OpenSpec.upto stylePartsSpec)

/-- 'windowpanelaw06.StyleTurned', WHERE WHAT IT READS IS OF BULK AT MOST 1048576: true; the input reads as it did. -/
def styleTurnedUptoRow : OpenClaim := { program := "ytgfcddanikeelaa", sum := "6c34fb05f4948b21b13618ca65f47aac2333546bca73e4867fb0ee33e712b927", func := "windowpane/windowpanelaw06.StyleTurned", spec := "styleTurned", unfollowed := true, recurses := true, apart := false, narrowed := true }
def StyleTurnedUptoSaid : Prop := styleTurnedUptoRow.holds Try.pinned (OpenSpec.upto styleTurnedSpec)

/-- 'windowpanelaw06.StyleAuto', WHERE WHAT IT READS IS OF BULK AT MOST 1048576: true; the input reads as it did. -/
def styleAutoUptoRow : OpenClaim := { program := "ytgfcddanikeelaa", sum := "6c34fb05f4948b21b13618ca65f47aac2333546bca73e4867fb0ee33e712b927", func := "windowpane/windowpanelaw06.StyleAuto", spec := "styleAuto", unfollowed := true, recurses := true, apart := false, narrowed := true }
def StyleAutoUptoSaid : Prop := styleAutoUptoRow.holds Try.pinned (OpenSpec.upto styleAutoSpec)

end Rows
end Go.Proofs.Ytgfcddanikeelaa
