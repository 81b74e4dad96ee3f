/-
  No cell of these rows narrows 'for every input' (looked for: loops, veiled, ifaces, maps, wideKeys, modest, calm, conditions, laid).
  DERIVED. THE GIVEN ROWS OF THIS SEAT. 7 by the template 'for every input the law returns true; each argument reads behind the call as it read before'; 0 by the template 'total and deterministic' (their statements: YtpjhhndjbpegcaaTotals.lean).
  GIVEN WITH THE SEED: the statements are not yours to turn. If you find one false, say at which input.
  Laid BY PROGRAM, IN A SANDBOX (cutbox-rows.mjs): the forced cells as the released guide's own fill.sh prints them over the translation 58043e4f50360d04… (all of the seat's roots in one cut). By AI agents, Wed Nov 11 2026. No macro, syntax, notation, axiom, sorry.
-/
import Derived.Test.YtpjhhndjbpegcaaChecked
import GoSem.Claim
import GoSem.ClaimJoined
import GoSem.ClaimMapViews
import Derived.JoinedTies
import Derived.KernelRfl
namespace Go.Proofs.Ytpjhhndjbpegcaa
/- THE CELL 'sum', in the pinned program and in every row, IS THE sha256 OF THE DUMP (.gsa) THAT YtpjhhndjbpegcaaProg.lean LOADS. Nothing in Lean hashes anything: it is a label: what it is worth is what the hold of that sum in a sandbox is worth. -/
noncomputable def Try.pinned : Pinned := { name := "ytpjhhndjbpegcaa", sum := "58043e4f50360d0457fb9f39c5674790f895cea8058b234817fd3a285c3a5c34", checked := Try.checked }
namespace Rows
def none {H : Type} : Left H := { results := [], args := [] }

/-- 'windowpanelaw17.FlexMain': WHATEVER THE INPUT: true; the input reads as it did. -/
def flexMainSpec : ChangeSpec := { name := "flexMain", fn := fun _ => fun
  | [d1, d2] => { results := [.lit (.bool true)], args := [d1, d2] }
  | _ => none }
def flexMainRow : OpenClaim := { program := "ytpjhhndjbpegcaa", sum := "58043e4f50360d0457fb9f39c5674790f895cea8058b234817fd3a285c3a5c34", func := "windowpane/windowpanelaw17.FlexMain", spec := "flexMain", unfollowed := true, recurses := true, named := ["math/bits.divideError", "math/bits.overflowError"], apart := false }
def FlexMainSaid : Prop := flexMainRow.holds Try.pinned (OpenSpec.ofChange flexMainSpec)

/-- ITS FALSE NEIGHBOUR: 'it returns false'. Refute it at one input. -/
def flexMainWrong : ChangeSpec := { name := "flexMain", fn := fun _ => fun
  | [d1, d2] => { results := [.lit (.bool false)], args := [d1, d2] }
  | _ => none }
def FlexMainWrongFalsely : Prop := flexMainRow.holds Try.pinned (OpenSpec.ofChange flexMainWrong)

/-- 'windowpanelaw17.FlexCross': WHATEVER THE INPUT: true; the input reads as it did. -/
def flexCrossSpec : ChangeSpec := { name := "flexCross", fn := fun _ => fun
  | [d1, d2, d3] => { results := [.lit (.bool true)], args := [d1, d2, d3] }
  | _ => none }
def flexCrossRow : OpenClaim := { program := "ytpjhhndjbpegcaa", sum := "58043e4f50360d0457fb9f39c5674790f895cea8058b234817fd3a285c3a5c34", func := "windowpane/windowpanelaw17.FlexCross", spec := "flexCross", apart := false }
def FlexCrossSaid : Prop := flexCrossRow.holds Try.pinned (OpenSpec.ofChange flexCrossSpec)

/-- ITS FALSE NEIGHBOUR: 'it returns false'. Refute it at one input. -/
def flexCrossWrong : ChangeSpec := { name := "flexCross", fn := fun _ => fun
  | [d1, d2, d3] => { results := [.lit (.bool false)], args := [d1, d2, d3] }
  | _ => none }
def FlexCrossWrongFalsely : Prop := flexCrossRow.holds Try.pinned (OpenSpec.ofChange flexCrossWrong)

/-- 'windowpanelaw17.FlexBeside': WHATEVER THE INPUT: true; the input reads as it did. -/
def flexBesideSpec : ChangeSpec := { name := "flexBeside", fn := fun _ => fun
  | [d1, d2] => { results := [.lit (.bool true)], args := [d1, d2] }
  | _ => none }
def flexBesideRow : OpenClaim := { program := "ytpjhhndjbpegcaa", sum := "58043e4f50360d0457fb9f39c5674790f895cea8058b234817fd3a285c3a5c34", func := "windowpane/windowpanelaw17.FlexBeside", spec := "flexBeside", unfollowed := true, recurses := true, named := ["math/bits.divideError", "math/bits.overflowError"], apart := false }
def FlexBesideSaid : Prop := flexBesideRow.holds Try.pinned (OpenSpec.ofChange flexBesideSpec)

/-- ITS FALSE NEIGHBOUR: 'it returns false'. Refute it at one input. -/
def flexBesideWrong : ChangeSpec := { name := "flexBeside", fn := fun _ => fun
  | [d1, d2] => { results := [.lit (.bool false)], args := [d1, d2] }
  | _ => none }
def FlexBesideWrongFalsely : Prop := flexBesideRow.holds Try.pinned (OpenSpec.ofChange flexBesideWrong)

/-- 'windowpanelaw17.FlexAsked': WHATEVER THE INPUT: true; the input reads as it did. -/
def flexAskedSpec : ChangeSpec := { name := "flexAsked", fn := fun _ => fun
  | [d1, d2] => { results := [.lit (.bool true)], args := [d1, d2] }
  | _ => none }
def flexAskedRow : OpenClaim := { program := "ytpjhhndjbpegcaa", sum := "58043e4f50360d0457fb9f39c5674790f895cea8058b234817fd3a285c3a5c34", func := "windowpane/windowpanelaw17.FlexAsked", spec := "flexAsked", unfollowed := true, recurses := true, named := ["math/bits.divideError", "math/bits.overflowError"], apart := false }
def FlexAskedSaid : Prop := flexAskedRow.holds Try.pinned (OpenSpec.ofChange flexAskedSpec)

/-- ITS FALSE NEIGHBOUR: 'it returns false'. Refute it at one input. -/
def flexAskedWrong : ChangeSpec := { name := "flexAsked", fn := fun _ => fun
  | [d1, d2] => { results := [.lit (.bool false)], args := [d1, d2] }
  | _ => none }
def FlexAskedWrongFalsely : Prop := flexAskedRow.holds Try.pinned (OpenSpec.ofChange flexAskedWrong)

/-- 'windowpanelaw17.FlexBack': WHATEVER THE INPUT: true; the input reads as it did. -/
def flexBackSpec : ChangeSpec := { name := "flexBack", fn := fun _ => fun
  | [d1, d2] => { results := [.lit (.bool true)], args := [d1, d2] }
  | _ => none }
def flexBackRow : OpenClaim := { program := "ytpjhhndjbpegcaa", sum := "58043e4f50360d0457fb9f39c5674790f895cea8058b234817fd3a285c3a5c34", func := "windowpane/windowpanelaw17.FlexBack", spec := "flexBack", unfollowed := true, recurses := true, named := ["math/bits.divideError", "math/bits.overflowError"], apart := false }
def FlexBackSaid : Prop := flexBackRow.holds Try.pinned (OpenSpec.ofChange flexBackSpec)

/-- ITS FALSE NEIGHBOUR: 'it returns false'. Refute it at one input. -/
def flexBackWrong : ChangeSpec := { name := "flexBack", fn := fun _ => fun
  | [d1, d2] => { results := [.lit (.bool false)], args := [d1, d2] }
  | _ => none }
def FlexBackWrongFalsely : Prop := flexBackRow.holds Try.pinned (OpenSpec.ofChange flexBackWrong)

/-- 'windowpanelaw17.FlexAcross': WHATEVER THE INPUT: true; the input reads as it did. -/
def flexAcrossSpec : ChangeSpec := { name := "flexAcross", fn := fun _ => fun
  | [d1, d2] => { results := [.lit (.bool true)], args := [d1, d2] }
  | _ => none }
def flexAcrossRow : OpenClaim := { program := "ytpjhhndjbpegcaa", sum := "58043e4f50360d0457fb9f39c5674790f895cea8058b234817fd3a285c3a5c34", func := "windowpane/windowpanelaw17.FlexAcross", spec := "flexAcross", unfollowed := true, recurses := true, named := ["math/bits.divideError", "math/bits.overflowError"], apart := false }
def FlexAcrossSaid : Prop := flexAcrossRow.holds Try.pinned (OpenSpec.ofChange flexAcrossSpec)

/-- ITS FALSE NEIGHBOUR: 'it returns false'. Refute it at one input. -/
def flexAcrossWrong : ChangeSpec := { name := "flexAcross", fn := fun _ => fun
  | [d1, d2] => { results := [.lit (.bool false)], args := [d1, d2] }
  | _ => none }
def FlexAcrossWrongFalsely : Prop := flexAcrossRow.holds Try.pinned (OpenSpec.ofChange flexAcrossWrong)

/-- 'windowpanelaw17.FlexMore': WHATEVER THE INPUT: true; the input reads as it did. -/
def flexMoreSpec : ChangeSpec := { name := "flexMore", fn := fun _ => fun
  | [d1, d2, d3] => { results := [.lit (.bool true)], args := [d1, d2, d3] }
  | _ => none }
def flexMoreRow : OpenClaim := { program := "ytpjhhndjbpegcaa", sum := "58043e4f50360d0457fb9f39c5674790f895cea8058b234817fd3a285c3a5c34", func := "windowpane/windowpanelaw17.FlexMore", spec := "flexMore", unfollowed := true, recurses := true, named := ["math/bits.divideError", "math/bits.overflowError"], apart := false }
def FlexMoreSaid : Prop := flexMoreRow.holds Try.pinned (OpenSpec.ofChange flexMoreSpec)

/-- ITS FALSE NEIGHBOUR: 'it returns false'. Refute it at one input. -/
def flexMoreWrong : ChangeSpec := { name := "flexMore", fn := fun _ => fun
  | [d1, d2, d3] => { results := [.lit (.bool false)], args := [d1, d2, d3] }
  | _ => none }
def FlexMoreWrongFalsely : Prop := flexMoreRow.holds Try.pinned (OpenSpec.ofChange flexMoreWrong)

/- THE SECOND FORM. 'bulk': how many values and letters a reading holds, each counted each time it is reached (what is shared counts as often as it is met; a slice's spare places count too). A statement '..UptoSaid' is the law's where the arguments, and the package variables that the reading takes, are together of bulk at most 1048576: NARROWER than '..Said'. Prove '..Said' where nothing that the law and all that it calls make is longer than what came in: it says more and counts as full. Else prove '..UptoSaid'. A law counts once. -/
mutual
def uptoBulk {H : Type} : DataW H → Nat
  | .lit (.string bytes) => bytes.length + 1
  | .lit _ => 1
  | .nil => 1
  | .ptr d => uptoBulk d + 1
  | .slice elems spare => uptoBulkAll elems + uptoBulkAll spare + 1
  | .agg parts => uptoBulkAll parts + 1
  | .iface _ d => uptoBulk d + 1
  | .map entries => uptoBulkEntries entries + 1
  | .held _ => 1
def uptoBulkAll {H : Type} : List (DataW H) → Nat
  | [] => 0
  | d :: r => uptoBulk d + uptoBulkAll r
def uptoBulkEntries {H : Type} : List (Lit × DataW H) → Nat
  | [] => 0
  | x :: r => uptoBulkEntry x + uptoBulkEntries r
def uptoBulkEntry {H : Type} : Lit × DataW H → Nat
  | (.string bytes, d) => bytes.length + uptoBulk d + 1
  | (_, d) => uptoBulk d + 1
 end
def uptoSmall : (H : Type) → List (DataW H) → Bool := fun _ ds => decide (uptoBulkAll ds ≤ 1048576)
def OpenSpec.upto (s : _root_.Go.ChangeSpec) : _root_.Go.OpenSpec := { _root_.Go.OpenSpec.ofChange s with cond := some uptoSmall }

/-- 'windowpanelaw17.FlexMain', WHERE WHAT IT READS IS OF BULK AT MOST 1048576: true; the input reads as it did. -/
def flexMainUptoRow : OpenClaim := { program := "ytpjhhndjbpegcaa", sum := "58043e4f50360d0457fb9f39c5674790f895cea8058b234817fd3a285c3a5c34", func := "windowpane/windowpanelaw17.FlexMain", spec := "flexMain", unfollowed := true, recurses := true, named := ["math/bits.divideError", "math/bits.overflowError"], apart := false, narrowed := true }
def FlexMainUptoSaid : Prop := flexMainUptoRow.holds Try.pinned (OpenSpec.upto flexMainSpec)

/-- 'windowpanelaw17.FlexCross', WHERE WHAT IT READS IS OF BULK AT MOST 1048576: true; the input reads as it did. -/
def flexCrossUptoRow : OpenClaim := { program := "ytpjhhndjbpegcaa", sum := "58043e4f50360d0457fb9f39c5674790f895cea8058b234817fd3a285c3a5c34", func := "windowpane/windowpanelaw17.FlexCross", spec := "flexCross", apart := false, narrowed := true }
def FlexCrossUptoSaid : Prop := flexCrossUptoRow.holds Try.pinned (OpenSpec.upto flexCrossSpec)

/-- 'windowpanelaw17.FlexBeside', WHERE WHAT IT READS IS OF BULK AT MOST 1048576: true; the input reads as it did. -/
def flexBesideUptoRow : OpenClaim := { program := "ytpjhhndjbpegcaa", sum := "58043e4f50360d0457fb9f39c5674790f895cea8058b234817fd3a285c3a5c34", func := "windowpane/windowpanelaw17.FlexBeside", spec := "flexBeside", unfollowed := true, recurses := true, named := ["math/bits.divideError", "math/bits.overflowError"], apart := false, narrowed := true }
def FlexBesideUptoSaid : Prop := flexBesideUptoRow.holds Try.pinned (OpenSpec.upto flexBesideSpec)

/-- 'windowpanelaw17.FlexAsked', WHERE WHAT IT READS IS OF BULK AT MOST 1048576: true; the input reads as it did. -/
def flexAskedUptoRow : OpenClaim := { program := "ytpjhhndjbpegcaa", sum := "58043e4f50360d0457fb9f39c5674790f895cea8058b234817fd3a285c3a5c34", func := "windowpane/windowpanelaw17.FlexAsked", spec := "flexAsked", unfollowed := true, recurses := true, named := ["math/bits.divideError", "math/bits.overflowError"], apart := false, narrowed := true }
def FlexAskedUptoSaid : Prop := flexAskedUptoRow.holds Try.pinned (OpenSpec.upto flexAskedSpec)

/-- 'windowpanelaw17.FlexBack', WHERE WHAT IT READS IS OF BULK AT MOST 1048576: true; the input reads as it did. -/
def flexBackUptoRow : OpenClaim := { program := "ytpjhhndjbpegcaa", sum := "58043e4f50360d0457fb9f39c5674790f895cea8058b234817fd3a285c3a5c34", func := "windowpane/windowpanelaw17.FlexBack", spec := "flexBack", unfollowed := true, recurses := true, named := ["math/bits.divideError", "math/bits.overflowError"], apart := false, narrowed := true }
def FlexBackUptoSaid : Prop := flexBackUptoRow.holds Try.pinned (OpenSpec.upto flexBackSpec)

/-- 'windowpanelaw17.FlexAcross', WHERE WHAT IT READS IS OF BULK AT MOST 1048576: true; the input reads as it did. -/
def flexAcrossUptoRow : OpenClaim := { program := "ytpjhhndjbpegcaa", sum := "58043e4f50360d0457fb9f39c5674790f895cea8058b234817fd3a285c3a5c34", func := "windowpane/windowpanelaw17.FlexAcross", spec := "flexAcross", unfollowed := true, recurses := true, named := ["math/bits.divideError", "math/bits.overflowError"], apart := false, narrowed := true }
def FlexAcrossUptoSaid : Prop := flexAcrossUptoRow.holds Try.pinned (OpenSpec.upto flexAcrossSpec)

/-- 'windowpanelaw17.FlexMore', WHERE WHAT IT READS IS OF BULK AT MOST 1048576: true; the input reads as it did. -/
def flexMoreUptoRow : OpenClaim := { program := "ytpjhhndjbpegcaa", sum := "58043e4f50360d0457fb9f39c5674790f895cea8058b234817fd3a285c3a5c34", func := "windowpane/windowpanelaw17.FlexMore", spec := "flexMore", unfollowed := true, recurses := true, named := ["math/bits.divideError", "math/bits.overflowError"], apart := false, narrowed := true }
def FlexMoreUptoSaid : Prop := flexMoreUptoRow.holds Try.pinned (OpenSpec.upto flexMoreSpec)

end Rows
end Go.Proofs.Ytpjhhndjbpegcaa
