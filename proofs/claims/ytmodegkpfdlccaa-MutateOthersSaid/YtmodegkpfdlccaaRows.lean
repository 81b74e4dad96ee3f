/-
  No cell of these rows narrows 'for every input' (looked for: loops, veiled, ifaces, maps, wideKeys, modest, calm, conditions, laid).
  DERIVED. THE GIVEN ROWS OF THIS SEAT. 5 by the template 'for every input the law returns true; each argument reads behind the call as it read before'; 0 by the template 'total and deterministic' (their statements: YtmodegkpfdlccaaTotals.lean).
  GIVEN WITH THE SEED: the statements are not yours to turn. If you find one false, say at which input.
  Laid BY PROGRAM, IN A SANDBOX (cutbox-rows.mjs): the forced cells as the released guide's own fill.sh prints them over the translation 769057f7dc68ab66… (all of the seat's roots in one cut). By AI agents, Wed Nov 11 2026. No macro, syntax, notation, axiom, sorry.
-/
import Derived.Test.YtmodegkpfdlccaaChecked
import GoSem.Claim
import GoSem.ClaimJoined
import GoSem.ClaimMapViews
import Derived.JoinedTies
import Derived.KernelRfl
namespace Go.Proofs.Ytmodegkpfdlccaa
/- THE CELL 'sum', in the pinned program and in every row, IS THE sha256 OF THE DUMP (.gsa) THAT YtmodegkpfdlccaaProg.lean LOADS. Nothing in Lean hashes anything: it is a label: what it is worth is what the hold of that sum in a sandbox is worth. -/
noncomputable def Try.pinned : Pinned := { name := "ytmodegkpfdlccaa", sum := "769057f7dc68ab66d7ca6028a3426bd947a4cca6c184095478227a3a7f285615", checked := Try.checked }
namespace Rows
def none {H : Type} : Left H := { results := [], args := [] }

/-- 'windowpanelaw07.MutateKeeps': WHATEVER THE INPUT: true; the input reads as it did. -/
def mutateKeepsSpec : ChangeSpec := { name := "mutateKeeps", fn := fun _ => fun
  | [d1, d2] => { results := [.lit (.bool true)], args := [d1, d2] }
  | _ => none }
def mutateKeepsRow : OpenClaim := { program := "ytmodegkpfdlccaa", sum := "769057f7dc68ab66d7ca6028a3426bd947a4cca6c184095478227a3a7f285615", func := "windowpane/windowpanelaw07.MutateKeeps", spec := "mutateKeeps", unfollowed := true, recurses := true, apart := false }
def MutateKeepsSaid : Prop := mutateKeepsRow.holds Try.pinned (OpenSpec.ofChange mutateKeepsSpec)

/-- ITS FALSE NEIGHBOUR: 'it returns false'. Refute it at one input. -/
def mutateKeepsWrong : ChangeSpec := { name := "mutateKeeps", fn := fun _ => fun
  | [d1, d2] => { results := [.lit (.bool false)], args := [d1, d2] }
  | _ => none }
def MutateKeepsWrongFalsely : Prop := mutateKeepsRow.holds Try.pinned (OpenSpec.ofChange mutateKeepsWrong)

/-- 'windowpanelaw07.MutateOthers': WHATEVER THE INPUT: true; the input reads as it did. -/
def mutateOthersSpec : ChangeSpec := { name := "mutateOthers", fn := fun _ => fun
  | [d1, d2] => { results := [.lit (.bool true)], args := [d1, d2] }
  | _ => none }
def mutateOthersRow : OpenClaim := { program := "ytmodegkpfdlccaa", sum := "769057f7dc68ab66d7ca6028a3426bd947a4cca6c184095478227a3a7f285615", func := "windowpane/windowpanelaw07.MutateOthers", spec := "mutateOthers", unfollowed := true, recurses := true, apart := false }
def MutateOthersSaid : Prop := mutateOthersRow.holds Try.pinned (OpenSpec.ofChange mutateOthersSpec)

/-- ITS FALSE NEIGHBOUR: 'it returns false'. Refute it at one input. -/
def mutateOthersWrong : ChangeSpec := { name := "mutateOthers", fn := fun _ => fun
  | [d1, d2] => { results := [.lit (.bool false)], args := [d1, d2] }
  | _ => none }
def MutateOthersWrongFalsely : Prop := mutateOthersRow.holds Try.pinned (OpenSpec.ofChange mutateOthersWrong)

/-- 'windowpanelaw07.MutateBack': WHATEVER THE INPUT: true; the input reads as it did. -/
def mutateBackSpec : ChangeSpec := { name := "mutateBack", fn := fun _ => fun
  | [d1, d2] => { results := [.lit (.bool true)], args := [d1, d2] }
  | _ => none }
def mutateBackRow : OpenClaim := { program := "ytmodegkpfdlccaa", sum := "769057f7dc68ab66d7ca6028a3426bd947a4cca6c184095478227a3a7f285615", func := "windowpane/windowpanelaw07.MutateBack", spec := "mutateBack", unfollowed := true, recurses := true, apart := false }
def MutateBackSaid : Prop := mutateBackRow.holds Try.pinned (OpenSpec.ofChange mutateBackSpec)

/-- ITS FALSE NEIGHBOUR: 'it returns false'. Refute it at one input. -/
def mutateBackWrong : ChangeSpec := { name := "mutateBack", fn := fun _ => fun
  | [d1, d2] => { results := [.lit (.bool false)], args := [d1, d2] }
  | _ => none }
def MutateBackWrongFalsely : Prop := mutateBackRow.holds Try.pinned (OpenSpec.ofChange mutateBackWrong)

/-- 'windowpanelaw07.MutateMoved': WHATEVER THE INPUT: true; the input reads as it did. -/
def mutateMovedSpec : ChangeSpec := { name := "mutateMoved", fn := fun _ => fun
  | [d1, d2, d3, d4] => { results := [.lit (.bool true)], args := [d1, d2, d3, d4] }
  | _ => none }
def mutateMovedRow : OpenClaim := { program := "ytmodegkpfdlccaa", sum := "769057f7dc68ab66d7ca6028a3426bd947a4cca6c184095478227a3a7f285615", func := "windowpane/windowpanelaw07.MutateMoved", spec := "mutateMoved", unfollowed := true, recurses := true, apart := false }
def MutateMovedSaid : Prop := mutateMovedRow.holds Try.pinned (OpenSpec.ofChange mutateMovedSpec)

/-- ITS FALSE NEIGHBOUR: 'it returns false'. Refute it at one input. -/
def mutateMovedWrong : ChangeSpec := { name := "mutateMoved", fn := fun _ => fun
  | [d1, d2, d3, d4] => { results := [.lit (.bool false)], args := [d1, d2, d3, d4] }
  | _ => none }
def MutateMovedWrongFalsely : Prop := mutateMovedRow.holds Try.pinned (OpenSpec.ofChange mutateMovedWrong)

/-- 'windowpanelaw07.MutateFull': WHATEVER THE INPUT: true; the input reads as it did. -/
def mutateFullSpec : ChangeSpec := { name := "mutateFull", fn := fun _ => fun
  | [d1, d2, d3] => { results := [.lit (.bool true)], args := [d1, d2, d3] }
  | _ => none }
def mutateFullRow : OpenClaim := { program := "ytmodegkpfdlccaa", sum := "769057f7dc68ab66d7ca6028a3426bd947a4cca6c184095478227a3a7f285615", func := "windowpane/windowpanelaw07.MutateFull", spec := "mutateFull", unfollowed := true, recurses := true, apart := false }
def MutateFullSaid : Prop := mutateFullRow.holds Try.pinned (OpenSpec.ofChange mutateFullSpec)

/-- ITS FALSE NEIGHBOUR: 'it returns false'. Refute it at one input. -/
def mutateFullWrong : ChangeSpec := { name := "mutateFull", fn := fun _ => fun
  | [d1, d2, d3] => { results := [.lit (.bool false)], args := [d1, d2, d3] }
  | _ => none }
def MutateFullWrongFalsely : Prop := mutateFullRow.holds Try.pinned (OpenSpec.ofChange mutateFullWrong)

/- THE SECOND FORM. 'bulk': how many values and letters a reading holds, each counted each time it is reached (what is shared counts as often as it is met; a slice's spare places count too). A statement '..UptoSaid' is the law's where the arguments, and the package variables that the reading takes, are together of bulk at most 1048576: NARROWER than '..Said'. Prove '..Said' where nothing that the law and all that it calls make is longer than what came in: it says more and counts as full. Else prove '..UptoSaid'. A law counts once. -/
mutual
def uptoBulk {H : Type} : DataW H → Nat
  | .lit (.string bytes) => bytes.length + 1
  | .lit _ => 1
  | .nil => 1
  | .ptr d => uptoBulk d + 1
  | .slice elems spare => uptoBulkAll elems + uptoBulkAll spare + 1
  | .agg parts => uptoBulkAll parts + 1
  | .iface _ d => uptoBulk d + 1
  | .map entries => uptoBulkEntries entries + 1
  | .held _ => 1
def uptoBulkAll {H : Type} : List (DataW H) → Nat
  | [] => 0
  | d :: r => uptoBulk d + uptoBulkAll r
def uptoBulkEntries {H : Type} : List (Lit × DataW H) → Nat
  | [] => 0
  | x :: r => uptoBulkEntry x + uptoBulkEntries r
def uptoBulkEntry {H : Type} : Lit × DataW H → Nat
  | (.string bytes, d) => bytes.length + uptoBulk d + 1
  | (_, d) => uptoBulk d + 1
 end
def uptoSmall : (H : Type) → List (DataW H) → Bool := fun _ ds => decide (uptoBulkAll ds ≤ 1048576)
def OpenSpec.upto (s : _root_.Go.ChangeSpec) : _root_.Go.OpenSpec := { _root_.Go.OpenSpec.ofChange s with cond := some uptoSmall }

/-- 'windowpanelaw07.MutateKeeps', WHERE WHAT IT READS IS OF BULK AT MOST 1048576: true; the input reads as it did. -/
def mutateKeepsUptoRow : OpenClaim := { program := "ytmodegkpfdlccaa", sum := "769057f7dc68ab66d7ca6028a3426bd947a4cca6c184095478227a3a7f285615", func := "windowpane/windowpanelaw07.MutateKeeps", spec := "mutateKeeps", unfollowed := true, recurses := true, apart := false, narrowed := true }
def MutateKeepsUptoSaid : Prop := mutateKeepsUptoRow.holds Try.pinned (OpenSpec.upto mutateKeepsSpec)

/-- 'windowpanelaw07.MutateOthers', WHERE WHAT IT READS IS OF BULK AT MOST 1048576: true; the input reads as it did. -/
def mutateOthersUptoRow : OpenClaim := { program := "ytmodegkpfdlccaa", sum := "769057f7dc68ab66d7ca6028a3426bd947a4cca6c184095478227a3a7f285615", func := "windowpane/windowpanelaw07.MutateOthers", spec := "mutateOthers", unfollowed := true, recurses := true, apart := false, narrowed := true }
def MutateOthersUptoSaid : Prop := mutateOthersUptoRow.holds Try.pinned (OpenSpec.upto mutateOthersSpec)

/-- 'windowpanelaw07.MutateBack', WHERE WHAT IT READS IS OF BULK AT MOST 1048576: true; the input reads as it did. -/
def mutateBackUptoRow : OpenClaim := { program := "ytmodegkpfdlccaa", sum := "769057f7dc68ab66d7ca6028a3426bd947a4cca6c184095478227a3a7f285615", func := "windowpane/windowpanelaw07.MutateBack", spec := "mutateBack", unfollowed := true, recurses := true, apart := false, narrowed := true }
def MutateBackUptoSaid : Prop := mutateBackUptoRow.holds Try.pinned (OpenSpec.upto mutateBackSpec)

/-- 'windowpanelaw07.MutateMoved', WHERE WHAT IT READS IS OF BULK AT MOST 1048576: true; the input reads as it did. -/
def mutateMovedUptoRow : OpenClaim := { program := "ytmodegkpfdlccaa", sum := "769057f7dc68ab66d7ca6028a3426bd947a4cca6c184095478227a3a7f285615", func := "windowpane/windowpanelaw07.MutateMoved", spec := "mutateMoved", unfollowed := true, recurses := true, apart := false, narrowed := true }
def MutateMovedUptoSaid : Prop := mutateMovedUptoRow.holds Try.pinned (OpenSpec.upto mutateMovedSpec)

/-- 'windowpanelaw07.MutateFull', WHERE WHAT IT READS IS OF BULK AT MOST 1048576: true; the input reads as it did. -/
def mutateFullUptoRow : OpenClaim := { program := "ytmodegkpfdlccaa", sum := "769057f7dc68ab66d7ca6028a3426bd947a4cca6c184095478227a3a7f285615", func := "windowpane/windowpanelaw07.MutateFull", spec := "mutateFull", unfollowed := true, recurses := true, apart := false, narrowed := true }
def MutateFullUptoSaid : Prop := mutateFullUptoRow.holds Try.pinned (OpenSpec.upto mutateFullSpec)

end Rows
end Go.Proofs.Ytmodegkpfdlccaa
