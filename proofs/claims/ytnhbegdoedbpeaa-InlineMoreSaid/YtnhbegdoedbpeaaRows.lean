/-
  No cell of these rows narrows 'for every input' (looked for: loops, veiled, ifaces, maps, wideKeys, modest, calm, conditions, laid).
  DERIVED. THE GIVEN ROWS OF THIS SEAT. 5 by the template 'for every input the law returns true; each argument reads behind the call as it read before'; 0 by the template 'total and deterministic' (their statements: YtnhbegdoedbpeaaTotals.lean).
  GIVEN WITH THE SEED: the statements are not yours to turn. If you find one false, say at which input.
  Laid BY PROGRAM, IN A SANDBOX (cutbox-rows.mjs): the forced cells as the released guide's own fill.sh prints them over the translation 8895df333fe0e265… (all of the seat's roots in one cut). By AI agents, Wed Nov 11 2026. No macro, syntax, notation, axiom, sorry.
-/
import Derived.Test.YtnhbegdoedbpeaaChecked
import GoSem.Claim
import GoSem.ClaimJoined
import GoSem.ClaimMapViews
import Derived.JoinedTies
import Derived.KernelRfl
namespace Go.Proofs.Ytnhbegdoedbpeaa
/- THE CELL 'sum', in the pinned program and in every row, IS THE sha256 OF THE DUMP (.gsa) THAT YtnhbegdoedbpeaaProg.lean LOADS. Nothing in Lean hashes anything: it is a label: what it is worth is what the hold of that sum in a sandbox is worth. -/
noncomputable def Try.pinned : Pinned := { name := "ytnhbegdoedbpeaa", sum := "8895df333fe0e26563fd385bca886392d0555c975d6727f6f998ead6d5f2dc2b", checked := Try.checked }
namespace Rows
def none {H : Type} : Left H := { results := [], args := [] }

/-- 'windowpanelaw11.InlinePlaces': WHATEVER THE INPUT: true; the input reads as it did. -/
def inlinePlacesSpec : ChangeSpec := { name := "inlinePlaces", fn := fun _ => fun
  | [d1, d2] => { results := [.lit (.bool true)], args := [d1, d2] }
  | _ => none }
def inlinePlacesRow : OpenClaim := { program := "ytnhbegdoedbpeaa", sum := "8895df333fe0e26563fd385bca886392d0555c975d6727f6f998ead6d5f2dc2b", func := "windowpane/windowpanelaw11.InlinePlaces", spec := "inlinePlaces", unfollowed := true, recurses := true, apart := false }
def InlinePlacesSaid : Prop := inlinePlacesRow.holds Try.pinned (OpenSpec.ofChange inlinePlacesSpec)

/-- ITS FALSE NEIGHBOUR: 'it returns false'. Refute it at one input. -/
def inlinePlacesWrong : ChangeSpec := { name := "inlinePlaces", fn := fun _ => fun
  | [d1, d2] => { results := [.lit (.bool false)], args := [d1, d2] }
  | _ => none }
def InlinePlacesWrongFalsely : Prop := inlinePlacesRow.holds Try.pinned (OpenSpec.ofChange inlinePlacesWrong)

/-- 'windowpanelaw11.InlineBeside': WHATEVER THE INPUT: true; the input reads as it did. -/
def inlineBesideSpec : ChangeSpec := { name := "inlineBeside", fn := fun _ => fun
  | [d1, d2] => { results := [.lit (.bool true)], args := [d1, d2] }
  | _ => none }
def inlineBesideRow : OpenClaim := { program := "ytnhbegdoedbpeaa", sum := "8895df333fe0e26563fd385bca886392d0555c975d6727f6f998ead6d5f2dc2b", func := "windowpane/windowpanelaw11.InlineBeside", spec := "inlineBeside", unfollowed := true, recurses := true, apart := false }
def InlineBesideSaid : Prop := inlineBesideRow.holds Try.pinned (OpenSpec.ofChange inlineBesideSpec)

/-- ITS FALSE NEIGHBOUR: 'it returns false'. Refute it at one input. -/
def inlineBesideWrong : ChangeSpec := { name := "inlineBeside", fn := fun _ => fun
  | [d1, d2] => { results := [.lit (.bool false)], args := [d1, d2] }
  | _ => none }
def InlineBesideWrongFalsely : Prop := inlineBesideRow.holds Try.pinned (OpenSpec.ofChange inlineBesideWrong)

/-- 'windowpanelaw11.InlineBase': WHATEVER THE INPUT: true; the input reads as it did. -/
def inlineBaseSpec : ChangeSpec := { name := "inlineBase", fn := fun _ => fun
  | [d1, d2] => { results := [.lit (.bool true)], args := [d1, d2] }
  | _ => none }
def inlineBaseRow : OpenClaim := { program := "ytnhbegdoedbpeaa", sum := "8895df333fe0e26563fd385bca886392d0555c975d6727f6f998ead6d5f2dc2b", func := "windowpane/windowpanelaw11.InlineBase", spec := "inlineBase", unfollowed := true, recurses := true, apart := false }
def InlineBaseSaid : Prop := inlineBaseRow.holds Try.pinned (OpenSpec.ofChange inlineBaseSpec)

/-- ITS FALSE NEIGHBOUR: 'it returns false'. Refute it at one input. -/
def inlineBaseWrong : ChangeSpec := { name := "inlineBase", fn := fun _ => fun
  | [d1, d2] => { results := [.lit (.bool false)], args := [d1, d2] }
  | _ => none }
def InlineBaseWrongFalsely : Prop := inlineBaseRow.holds Try.pinned (OpenSpec.ofChange inlineBaseWrong)

/-- 'windowpanelaw11.InlineTurned': WHATEVER THE INPUT: true; the input reads as it did. -/
def inlineTurnedSpec : ChangeSpec := { name := "inlineTurned", fn := fun _ => fun
  | [d1, d2, d3] => { results := [.lit (.bool true)], args := [d1, d2, d3] }
  | _ => none }
def inlineTurnedRow : OpenClaim := { program := "ytnhbegdoedbpeaa", sum := "8895df333fe0e26563fd385bca886392d0555c975d6727f6f998ead6d5f2dc2b", func := "windowpane/windowpanelaw11.InlineTurned", spec := "inlineTurned", unfollowed := true, recurses := true, apart := false }
def InlineTurnedSaid : Prop := inlineTurnedRow.holds Try.pinned (OpenSpec.ofChange inlineTurnedSpec)

/-- ITS FALSE NEIGHBOUR: 'it returns false'. Refute it at one input. -/
def inlineTurnedWrong : ChangeSpec := { name := "inlineTurned", fn := fun _ => fun
  | [d1, d2, d3] => { results := [.lit (.bool false)], args := [d1, d2, d3] }
  | _ => none }
def InlineTurnedWrongFalsely : Prop := inlineTurnedRow.holds Try.pinned (OpenSpec.ofChange inlineTurnedWrong)

/-- 'windowpanelaw11.InlineMore': WHATEVER THE INPUT: true; the input reads as it did. -/
def inlineMoreSpec : ChangeSpec := { name := "inlineMore", fn := fun _ => fun
  | [d1, d2, d3] => { results := [.lit (.bool true)], args := [d1, d2, d3] }
  | _ => none }
def inlineMoreRow : OpenClaim := { program := "ytnhbegdoedbpeaa", sum := "8895df333fe0e26563fd385bca886392d0555c975d6727f6f998ead6d5f2dc2b", func := "windowpane/windowpanelaw11.InlineMore", spec := "inlineMore", unfollowed := true, recurses := true, apart := false }
def InlineMoreSaid : Prop := inlineMoreRow.holds Try.pinned (OpenSpec.ofChange inlineMoreSpec)

/-- ITS FALSE NEIGHBOUR: 'it returns false'. Refute it at one input. -/
def inlineMoreWrong : ChangeSpec := { name := "inlineMore", fn := fun _ => fun
  | [d1, d2, d3] => { results := [.lit (.bool false)], args := [d1, d2, d3] }
  | _ => none }
def InlineMoreWrongFalsely : Prop := inlineMoreRow.holds Try.pinned (OpenSpec.ofChange inlineMoreWrong)

/- THE SECOND FORM. 'bulk': how many values and letters a reading holds, each counted each time it is reached (what is shared counts as often as it is met; a slice's spare places count too). A statement '..UptoSaid' is the law's where the arguments, and the package variables that the reading takes, are together of bulk at most 1048576: NARROWER than '..Said'. Prove '..Said' where nothing that the law and all that it calls make is longer than what came in: it says more and counts as full. Else prove '..UptoSaid'. A law counts once. -/
mutual
def uptoBulk {H : Type} : DataW H → Nat
  | .lit (.string bytes) => bytes.length + 1
  | .lit _ => 1
  | .nil => 1
  | .ptr d => uptoBulk d + 1
  | .slice elems spare => uptoBulkAll elems + uptoBulkAll spare + 1
  | .agg parts => uptoBulkAll parts + 1
  | .iface _ d => uptoBulk d + 1
  | .map entries => uptoBulkEntries entries + 1
  | .held _ => 1
def uptoBulkAll {H : Type} : List (DataW H) → Nat
  | [] => 0
  | d :: r => uptoBulk d + uptoBulkAll r
def uptoBulkEntries {H : Type} : List (Lit × DataW H) → Nat
  | [] => 0
  | x :: r => uptoBulkEntry x + uptoBulkEntries r
def uptoBulkEntry {H : Type} : Lit × DataW H → Nat
  | (.string bytes, d) => bytes.length + uptoBulk d + 1
  | (_, d) => uptoBulk d + 1
 end
def uptoSmall : (H : Type) → List (DataW H) → Bool := fun _ ds => decide (uptoBulkAll ds ≤ 1048576)
def OpenSpec.upto (s : _root_.Go.ChangeSpec) : _root_.Go.OpenSpec := { _root_.Go.OpenSpec.ofChange s with cond := some uptoSmall }

/-- 'windowpanelaw11.InlinePlaces', WHERE WHAT IT READS IS OF BULK AT MOST 1048576: true; the input reads as it did. -/
def inlinePlacesUptoRow : OpenClaim := { program := "ytnhbegdoedbpeaa", sum := "8895df333fe0e26563fd385bca886392d0555c975d6727f6f998ead6d5f2dc2b", func := "windowpane/windowpanelaw11.InlinePlaces", spec := "inlinePlaces", unfollowed := true, recurses := true, apart := false, narrowed := true }
def InlinePlacesUptoSaid : Prop := inlinePlacesUptoRow.holds Try.pinned (OpenSpec.upto inlinePlacesSpec)

/-- 'windowpanelaw11.InlineBeside', WHERE WHAT IT READS IS OF BULK AT MOST 1048576: true; the input reads as it did. -/
def inlineBesideUptoRow : OpenClaim := { program := "ytnhbegdoedbpeaa", sum := "8895df333fe0e26563fd385bca886392d0555c975d6727f6f998ead6d5f2dc2b", func := "windowpane/windowpanelaw11.InlineBeside", spec := "inlineBeside", unfollowed := true, recurses := true, apart := false, narrowed := true }
def InlineBesideUptoSaid : Prop := inlineBesideUptoRow.holds Try.pinned (OpenSpec.upto inlineBesideSpec)

/-- 'windowpanelaw11.InlineBase', WHERE WHAT IT READS IS OF BULK AT MOST 1048576: true; the input reads as it did. -/
def inlineBaseUptoRow : OpenClaim := { program := "ytnhbegdoedbpeaa", sum := "8895df333fe0e26563fd385bca886392d0555c975d6727f6f998ead6d5f2dc2b", func := "windowpane/windowpanelaw11.InlineBase", spec := "inlineBase", unfollowed := true, recurses := true, apart := false, narrowed := true }
def InlineBaseUptoSaid : Prop := inlineBaseUptoRow.holds Try.pinned (OpenSpec.upto inlineBaseSpec)

/-- 'windowpanelaw11.InlineTurned', WHERE WHAT IT READS IS OF BULK AT MOST 1048576: true; the input reads as it did. -/
def inlineTurnedUptoRow : OpenClaim := { program := "ytnhbegdoedbpeaa", sum := "8895df333fe0e26563fd385bca886392d0555c975d6727f6f998ead6d5f2dc2b", func := "windowpane/windowpanelaw11.InlineTurned", spec := "inlineTurned", unfollowed := true, recurses := true, apart := false, narrowed := true }
def InlineTurnedUptoSaid : Prop := inlineTurnedUptoRow.holds Try.pinned (OpenSpec.upto inlineTurnedSpec)

/-- 'windowpanelaw11.InlineMore', WHERE WHAT IT READS IS OF BULK AT MOST 1048576: true; the input reads as it did. -/
def inlineMoreUptoRow : OpenClaim := { program := "ytnhbegdoedbpeaa", sum := "8895df333fe0e26563fd385bca886392d0555c975d6727f6f998ead6d5f2dc2b", func := "windowpane/windowpanelaw11.InlineMore", spec := "inlineMore", unfollowed := true, recurses := true, apart := false, narrowed := true }
def InlineMoreUptoSaid : Prop := inlineMoreUptoRow.holds Try.pinned (OpenSpec.upto inlineMoreSpec)

end Rows
end Go.Proofs.Ytnhbegdoedbpeaa
