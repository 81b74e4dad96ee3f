/-
  No cell of these rows narrows 'for every input' (looked for: loops, veiled, ifaces, maps, wideKeys, modest, calm, conditions, laid).
  DERIVED. THE GIVEN ROWS OF THIS SEAT. 6 by the template 'for every input the law returns true; each argument reads behind the call as it read before'; 0 by the template 'total and deterministic' (their statements: YtjlnaadpiohbnaaTotals.lean).
  GIVEN WITH THE SEED: the statements are not yours to turn. If you find one false, say at which input.
  Laid BY PROGRAM, IN A SANDBOX (cutbox-rows.mjs): the forced cells as the released guide's own fill.sh prints them over the translation 1e9941310850b094… (all of the seat's roots in one cut). By AI agents, Wed Nov 11 2026. No macro, syntax, notation, axiom, sorry.
-/
import Derived.Test.YtjlnaadpiohbnaaChecked
import GoSem.Claim
import GoSem.ClaimJoined
import GoSem.ClaimMapViews
import Derived.JoinedTies
import Derived.KernelRfl
namespace Go.Proofs.Ytjlnaadpiohbnaa
/- THE CELL 'sum', in the pinned program and in every row, IS THE sha256 OF THE DUMP (.gsa) THAT YtjlnaadpiohbnaaProg.lean LOADS. Nothing in Lean hashes anything: it is a label: what it is worth is what the hold of that sum in a sandbox is worth. -/
noncomputable def Try.pinned : Pinned := { name := "ytjlnaadpiohbnaa", sum := "1e9941310850b094e9677af794a9d2c821f224013f878ee17923e3b60fdede20", checked := Try.checked }
namespace Rows
def none {H : Type} : Left H := { results := [], args := [] }

/-- 'windowpanelaw16.FlexibleSizes': WHATEVER THE INPUT: true; the input reads as it did. -/
def flexibleSizesSpec : ChangeSpec := { name := "flexibleSizes", fn := fun _ => fun
  | [d1, d2, d3] => { results := [.lit (.bool true)], args := [d1, d2, d3] }
  | _ => none }
def flexibleSizesRow : OpenClaim := { program := "ytjlnaadpiohbnaa", sum := "1e9941310850b094e9677af794a9d2c821f224013f878ee17923e3b60fdede20", func := "windowpane/windowpanelaw16.FlexibleSizes", spec := "flexibleSizes", unfollowed := true, recurses := true, named := ["math/bits.divideError", "math/bits.overflowError"], apart := false }
def FlexibleSizesSaid : Prop := flexibleSizesRow.holds Try.pinned (OpenSpec.ofChange flexibleSizesSpec)

/-- ITS FALSE NEIGHBOUR: 'it returns false'. Refute it at one input. -/
def flexibleSizesWrong : ChangeSpec := { name := "flexibleSizes", fn := fun _ => fun
  | [d1, d2, d3] => { results := [.lit (.bool false)], args := [d1, d2, d3] }
  | _ => none }
def FlexibleSizesWrongFalsely : Prop := flexibleSizesRow.holds Try.pinned (OpenSpec.ofChange flexibleSizesWrong)

/-- 'windowpanelaw16.FlexibleFull': WHATEVER THE INPUT: true; the input reads as it did. -/
def flexibleFullSpec : ChangeSpec := { name := "flexibleFull", fn := fun _ => fun
  | [d1, d2, d3] => { results := [.lit (.bool true)], args := [d1, d2, d3] }
  | _ => none }
def flexibleFullRow : OpenClaim := { program := "ytjlnaadpiohbnaa", sum := "1e9941310850b094e9677af794a9d2c821f224013f878ee17923e3b60fdede20", func := "windowpane/windowpanelaw16.FlexibleFull", spec := "flexibleFull", unfollowed := true, recurses := true, named := ["math/bits.divideError", "math/bits.overflowError"], apart := false }
def FlexibleFullSaid : Prop := flexibleFullRow.holds Try.pinned (OpenSpec.ofChange flexibleFullSpec)

/-- ITS FALSE NEIGHBOUR: 'it returns false'. Refute it at one input. -/
def flexibleFullWrong : ChangeSpec := { name := "flexibleFull", fn := fun _ => fun
  | [d1, d2, d3] => { results := [.lit (.bool false)], args := [d1, d2, d3] }
  | _ => none }
def FlexibleFullWrongFalsely : Prop := flexibleFullRow.holds Try.pinned (OpenSpec.ofChange flexibleFullWrong)

/-- 'windowpanelaw16.FlexibleWay': WHATEVER THE INPUT: true; the input reads as it did. -/
def flexibleWaySpec : ChangeSpec := { name := "flexibleWay", fn := fun _ => fun
  | [d1, d2, d3] => { results := [.lit (.bool true)], args := [d1, d2, d3] }
  | _ => none }
def flexibleWayRow : OpenClaim := { program := "ytjlnaadpiohbnaa", sum := "1e9941310850b094e9677af794a9d2c821f224013f878ee17923e3b60fdede20", func := "windowpane/windowpanelaw16.FlexibleWay", spec := "flexibleWay", unfollowed := true, recurses := true, named := ["math/bits.divideError", "math/bits.overflowError"], apart := false }
def FlexibleWaySaid : Prop := flexibleWayRow.holds Try.pinned (OpenSpec.ofChange flexibleWaySpec)

/-- ITS FALSE NEIGHBOUR: 'it returns false'. Refute it at one input. -/
def flexibleWayWrong : ChangeSpec := { name := "flexibleWay", fn := fun _ => fun
  | [d1, d2, d3] => { results := [.lit (.bool false)], args := [d1, d2, d3] }
  | _ => none }
def FlexibleWayWrongFalsely : Prop := flexibleWayRow.holds Try.pinned (OpenSpec.ofChange flexibleWayWrong)

/-- 'windowpanelaw16.FlexibleStiff': WHATEVER THE INPUT: true; the input reads as it did. -/
def flexibleStiffSpec : ChangeSpec := { name := "flexibleStiff", fn := fun _ => fun
  | [d1, d2, d3] => { results := [.lit (.bool true)], args := [d1, d2, d3] }
  | _ => none }
def flexibleStiffRow : OpenClaim := { program := "ytjlnaadpiohbnaa", sum := "1e9941310850b094e9677af794a9d2c821f224013f878ee17923e3b60fdede20", func := "windowpane/windowpanelaw16.FlexibleStiff", spec := "flexibleStiff", unfollowed := true, recurses := true, named := ["math/bits.divideError", "math/bits.overflowError"], apart := false }
def FlexibleStiffSaid : Prop := flexibleStiffRow.holds Try.pinned (OpenSpec.ofChange flexibleStiffSpec)

/-- ITS FALSE NEIGHBOUR: 'it returns false'. Refute it at one input. -/
def flexibleStiffWrong : ChangeSpec := { name := "flexibleStiff", fn := fun _ => fun
  | [d1, d2, d3] => { results := [.lit (.bool false)], args := [d1, d2, d3] }
  | _ => none }
def FlexibleStiffWrongFalsely : Prop := flexibleStiffRow.holds Try.pinned (OpenSpec.ofChange flexibleStiffWrong)

/-- 'windowpanelaw16.FlexibleOuter': WHATEVER THE INPUT: true; the input reads as it did. -/
def flexibleOuterSpec : ChangeSpec := { name := "flexibleOuter", fn := fun _ => fun
  | [d1, d2, d3, d4] => { results := [.lit (.bool true)], args := [d1, d2, d3, d4] }
  | _ => none }
def flexibleOuterRow : OpenClaim := { program := "ytjlnaadpiohbnaa", sum := "1e9941310850b094e9677af794a9d2c821f224013f878ee17923e3b60fdede20", func := "windowpane/windowpanelaw16.FlexibleOuter", spec := "flexibleOuter", unfollowed := true, recurses := true, named := ["math/bits.divideError", "math/bits.overflowError"], apart := false }
def FlexibleOuterSaid : Prop := flexibleOuterRow.holds Try.pinned (OpenSpec.ofChange flexibleOuterSpec)

/-- ITS FALSE NEIGHBOUR: 'it returns false'. Refute it at one input. -/
def flexibleOuterWrong : ChangeSpec := { name := "flexibleOuter", fn := fun _ => fun
  | [d1, d2, d3, d4] => { results := [.lit (.bool false)], args := [d1, d2, d3, d4] }
  | _ => none }
def FlexibleOuterWrongFalsely : Prop := flexibleOuterRow.holds Try.pinned (OpenSpec.ofChange flexibleOuterWrong)

/-- 'windowpanelaw16.FlexibleAlike': WHATEVER THE INPUT: true; the input reads as it did. -/
def flexibleAlikeSpec : ChangeSpec := { name := "flexibleAlike", fn := fun _ => fun
  | [d1, d2, d3] => { results := [.lit (.bool true)], args := [d1, d2, d3] }
  | _ => none }
def flexibleAlikeRow : OpenClaim := { program := "ytjlnaadpiohbnaa", sum := "1e9941310850b094e9677af794a9d2c821f224013f878ee17923e3b60fdede20", func := "windowpane/windowpanelaw16.FlexibleAlike", spec := "flexibleAlike", unfollowed := true, recurses := true, named := ["math/bits.divideError", "math/bits.overflowError"], apart := false }
def FlexibleAlikeSaid : Prop := flexibleAlikeRow.holds Try.pinned (OpenSpec.ofChange flexibleAlikeSpec)

/-- ITS FALSE NEIGHBOUR: 'it returns false'. Refute it at one input. -/
def flexibleAlikeWrong : ChangeSpec := { name := "flexibleAlike", fn := fun _ => fun
  | [d1, d2, d3] => { results := [.lit (.bool false)], args := [d1, d2, d3] }
  | _ => none }
def FlexibleAlikeWrongFalsely : Prop := flexibleAlikeRow.holds Try.pinned (OpenSpec.ofChange flexibleAlikeWrong)

/- THE SECOND FORM. 'bulk': how many values and letters a reading holds, each counted each time it is reached (what is shared counts as often as it is met; a slice's spare places count too). A statement '..UptoSaid' is the law's where the arguments, and the package variables that the reading takes, are together of bulk at most 1048576: NARROWER than '..Said'. Prove '..Said' where nothing that the law and all that it calls make is longer than what came in: it says more and counts as full. Else prove '..UptoSaid'. A law counts once. -/
mutual
def uptoBulk {H : Type} : DataW H → Nat
  | .lit (.string bytes) => bytes.length + 1
  | .lit _ => 1
  | .nil => 1
  | .ptr d => uptoBulk d + 1
  | .slice elems spare => uptoBulkAll elems + uptoBulkAll spare + 1
  | .agg parts => uptoBulkAll parts + 1
  | .iface _ d => uptoBulk d + 1
  | .map entries => uptoBulkEntries entries + 1
  | .held _ => 1
def uptoBulkAll {H : Type} : List (DataW H) → Nat
  | [] => 0
  | d :: r => uptoBulk d + uptoBulkAll r
def uptoBulkEntries {H : Type} : List (Lit × DataW H) → Nat
  | [] => 0
  | x :: r => uptoBulkEntry x + uptoBulkEntries r
def uptoBulkEntry {H : Type} : Lit × DataW H → Nat
  | (.string bytes, d) => bytes.length + uptoBulk d + 1
  | (_, d) => uptoBulk d + 1
 end
def uptoSmall : (H : Type) → List (DataW H) → Bool := fun _ ds => decide (uptoBulkAll ds ≤ 1048576)
def OpenSpec.upto (s : _root_.Go.ChangeSpec) : _root_.Go.OpenSpec := { _root_.Go.OpenSpec.ofChange s with cond := some uptoSmall }

/-- 'windowpanelaw16.FlexibleSizes', WHERE WHAT IT READS IS OF BULK AT MOST 1048576: true; the input reads as it did. -/
def flexibleSizesUptoRow : OpenClaim := { program := "ytjlnaadpiohbnaa", sum := "1e9941310850b094e9677af794a9d2c821f224013f878ee17923e3b60fdede20", func := "windowpane/windowpanelaw16.FlexibleSizes", spec := "flexibleSizes", unfollowed := true, recurses := true, named := ["math/bits.divideError", "math/bits.overflowError"], apart := false, narrowed := true }
def FlexibleSizesUptoSaid : Prop := flexibleSizesUptoRow.holds Try.pinned (OpenSpec.upto flexibleSizesSpec)

/-- 'windowpanelaw16.FlexibleFull', WHERE WHAT IT READS IS OF BULK AT MOST 1048576: true; the input reads as it did. -/
def flexibleFullUptoRow : OpenClaim := { program := "ytjlnaadpiohbnaa", sum := "1e9941310850b094e9677af794a9d2c821f224013f878ee17923e3b60fdede20", func := "windowpane/windowpanelaw16.FlexibleFull", spec := "flexibleFull", unfollowed := true, recurses := true, named := ["math/bits.divideError", "math/bits.overflowError"], apart := false, narrowed := true }
def FlexibleFullUptoSaid : Prop := flexibleFullUptoRow.holds Try.pinned (OpenSpec.upto flexibleFullSpec)

/-- 'windowpanelaw16.FlexibleWay', WHERE WHAT IT READS IS OF BULK AT MOST 1048576: true; the input reads as it did. -/
def flexibleWayUptoRow : OpenClaim := { program := "ytjlnaadpiohbnaa", sum := "1e9941310850b094e9677af794a9d2c821f224013f878ee17923e3b60fdede20", func := "windowpane/windowpanelaw16.FlexibleWay", spec := "flexibleWay", unfollowed := true, recurses := true, named := ["math/bits.divideError", "math/bits.overflowError"], apart := false, narrowed := true }
def FlexibleWayUptoSaid : Prop := flexibleWayUptoRow.holds Try.pinned (OpenSpec.upto flexibleWaySpec)

/-- 'windowpanelaw16.FlexibleStiff', WHERE WHAT IT READS IS OF BULK AT MOST 1048576: true; the input reads as it did. -/
def flexibleStiffUptoRow : OpenClaim := { program := "ytjlnaadpiohbnaa", sum := "1e9941310850b094e9677af794a9d2c821f224013f878ee17923e3b60fdede20", func := "windowpane/windowpanelaw16.FlexibleStiff", spec := "flexibleStiff", unfollowed := true, recurses := true, named := ["math/bits.divideError", "math/bits.overflowError"], apart := false, narrowed := true }
def FlexibleStiffUptoSaid : Prop := flexibleStiffUptoRow.holds Try.pinned (OpenSpec.upto flexibleStiffSpec)

/-- 'windowpanelaw16.FlexibleOuter', WHERE WHAT IT READS IS OF BULK AT MOST 1048576: true; the input reads as it did. -/
def flexibleOuterUptoRow : OpenClaim := { program := "ytjlnaadpiohbnaa", sum := "1e9941310850b094e9677af794a9d2c821f224013f878ee17923e3b60fdede20", func := "windowpane/windowpanelaw16.FlexibleOuter", spec := "flexibleOuter", unfollowed := true, recurses := true, named := ["math/bits.divideError", "math/bits.overflowError"], apart := false, narrowed := true }
def FlexibleOuterUptoSaid : Prop := flexibleOuterUptoRow.holds Try.pinned (OpenSpec.upto flexibleOuterSpec)

/-- 'windowpanelaw16.FlexibleAlike', WHERE WHAT IT READS IS OF BULK AT MOST 1048576: true; the input reads as it did. -/
def flexibleAlikeUptoRow : OpenClaim := { program := "ytjlnaadpiohbnaa", sum := "1e9941310850b094e9677af794a9d2c821f224013f878ee17923e3b60fdede20", func := "windowpane/windowpanelaw16.FlexibleAlike", spec := "flexibleAlike", unfollowed := true, recurses := true, named := ["math/bits.divideError", "math/bits.overflowError"], apart := false, narrowed := true }
def FlexibleAlikeUptoSaid : Prop := flexibleAlikeUptoRow.holds Try.pinned (OpenSpec.upto flexibleAlikeSpec)

end Rows
end Go.Proofs.Ytjlnaadpiohbnaa
