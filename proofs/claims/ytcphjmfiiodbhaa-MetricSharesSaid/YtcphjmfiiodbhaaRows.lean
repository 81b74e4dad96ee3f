/-
  No cell of these rows narrows 'for every input' (looked for: loops, veiled, ifaces, maps, wideKeys, modest, calm, conditions, laid).
  DERIVED. THE GIVEN ROWS OF THIS SEAT. 6 by the template 'for every input the law returns true; each argument reads behind the call as it read before'; 0 by the template 'total and deterministic' (their statements: YtcphjmfiiodbhaaTotals.lean).
  GIVEN WITH THE SEED: the statements are not yours to turn. If you find one false, say at which input.
  Laid BY PROGRAM, IN A SANDBOX (cutbox-rows.mjs): the forced cells as the released guide's own fill.sh prints them over the translation 7fb4220356c21f91… (all of the seat's roots in one cut). By AI agents, Wed Nov 11 2026. No macro, syntax, notation, axiom, sorry.
-/
import Derived.Test.YtcphjmfiiodbhaaChecked
import GoSem.Claim
import GoSem.ClaimJoined
import GoSem.ClaimMapViews
import Derived.JoinedTies
import Derived.KernelRfl
namespace Go.Proofs.Ytcphjmfiiodbhaa
/- THE CELL 'sum', in the pinned program and in every row, IS THE sha256 OF THE DUMP (.gsa) THAT YtcphjmfiiodbhaaProg.lean LOADS. Nothing in Lean hashes anything: it is a label: what it is worth is what the hold of that sum in a sandbox is worth. -/
noncomputable def Try.pinned : Pinned := { name := "ytcphjmfiiodbhaa", sum := "7fb4220356c21f91cb0080c7b391f0ff139396f550f1517f0e38c8bfdc3f0848", checked := Try.checked }
namespace Rows
def none {H : Type} : Left H := { results := [], args := [] }

/-- 'windowpanelaw08.MetricShares': WHATEVER THE INPUT: true; the input reads as it did. -/
def metricSharesSpec : ChangeSpec := { name := "metricShares", fn := fun _ => fun
  | [d1, d2] => { results := [.lit (.bool true)], args := [d1, d2] }
  | _ => none }
def metricSharesRow : OpenClaim := { program := "ytcphjmfiiodbhaa", sum := "7fb4220356c21f91cb0080c7b391f0ff139396f550f1517f0e38c8bfdc3f0848", func := "windowpane/windowpanelaw08.MetricShares", spec := "metricShares", inPlace := ["internal/bytealg.IndexByteString", "internal/bytealg.IndexString"], unfollowed := true, recurses := true, named := ["internal/bytealg.MaxLen"], apart := false }
def MetricSharesSaid : Prop := metricSharesRow.holds Try.pinned (OpenSpec.ofChange metricSharesSpec)

/-- ITS FALSE NEIGHBOUR: 'it returns false'. Refute it at one input. -/
def metricSharesWrong : ChangeSpec := { name := "metricShares", fn := fun _ => fun
  | [d1, d2] => { results := [.lit (.bool false)], args := [d1, d2] }
  | _ => none }
def MetricSharesWrongFalsely : Prop := metricSharesRow.holds Try.pinned (OpenSpec.ofChange metricSharesWrong)

/-- 'windowpanelaw08.MetricWidths': WHATEVER THE INPUT: true; the input reads as it did. -/
def metricWidthsSpec : ChangeSpec := { name := "metricWidths", fn := fun _ => fun
  | [d1, d2] => { results := [.lit (.bool true)], args := [d1, d2] }
  | _ => none }
def metricWidthsRow : OpenClaim := { program := "ytcphjmfiiodbhaa", sum := "7fb4220356c21f91cb0080c7b391f0ff139396f550f1517f0e38c8bfdc3f0848", func := "windowpane/windowpanelaw08.MetricWidths", spec := "metricWidths", inPlace := ["internal/bytealg.IndexByteString", "internal/bytealg.IndexString"], unfollowed := true, recurses := true, named := ["internal/bytealg.MaxLen"], apart := false }
def MetricWidthsSaid : Prop := metricWidthsRow.holds Try.pinned (OpenSpec.ofChange metricWidthsSpec)

/-- ITS FALSE NEIGHBOUR: 'it returns false'. Refute it at one input. -/
def metricWidthsWrong : ChangeSpec := { name := "metricWidths", fn := fun _ => fun
  | [d1, d2] => { results := [.lit (.bool false)], args := [d1, d2] }
  | _ => none }
def MetricWidthsWrongFalsely : Prop := metricWidthsRow.holds Try.pinned (OpenSpec.ofChange metricWidthsWrong)

/-- 'windowpanelaw08.MetricBeside': WHATEVER THE INPUT: true; the input reads as it did. -/
def metricBesideSpec : ChangeSpec := { name := "metricBeside", fn := fun _ => fun
  | [d1, d2, d3] => { results := [.lit (.bool true)], args := [d1, d2, d3] }
  | _ => none }
def metricBesideRow : OpenClaim := { program := "ytcphjmfiiodbhaa", sum := "7fb4220356c21f91cb0080c7b391f0ff139396f550f1517f0e38c8bfdc3f0848", func := "windowpane/windowpanelaw08.MetricBeside", spec := "metricBeside", inPlace := ["internal/bytealg.IndexByteString", "internal/bytealg.IndexString"], unfollowed := true, recurses := true, named := ["internal/bytealg.MaxLen"], apart := false }
def MetricBesideSaid : Prop := metricBesideRow.holds Try.pinned (OpenSpec.ofChange metricBesideSpec)

/-- ITS FALSE NEIGHBOUR: 'it returns false'. Refute it at one input. -/
def metricBesideWrong : ChangeSpec := { name := "metricBeside", fn := fun _ => fun
  | [d1, d2, d3] => { results := [.lit (.bool false)], args := [d1, d2, d3] }
  | _ => none }
def MetricBesideWrongFalsely : Prop := metricBesideRow.holds Try.pinned (OpenSpec.ofChange metricBesideWrong)

/-- 'windowpanelaw08.MetricFonts': WHATEVER THE INPUT: true; the input reads as it did. -/
def metricFontsSpec : ChangeSpec := { name := "metricFonts", fn := fun _ => fun
  | [d1, d2, d3] => { results := [.lit (.bool true)], args := [d1, d2, d3] }
  | _ => none }
def metricFontsRow : OpenClaim := { program := "ytcphjmfiiodbhaa", sum := "7fb4220356c21f91cb0080c7b391f0ff139396f550f1517f0e38c8bfdc3f0848", func := "windowpane/windowpanelaw08.MetricFonts", spec := "metricFonts", inPlace := ["internal/bytealg.IndexByteString", "internal/bytealg.IndexString"], unfollowed := true, recurses := true, named := ["internal/bytealg.MaxLen"], apart := false }
def MetricFontsSaid : Prop := metricFontsRow.holds Try.pinned (OpenSpec.ofChange metricFontsSpec)

/-- ITS FALSE NEIGHBOUR: 'it returns false'. Refute it at one input. -/
def metricFontsWrong : ChangeSpec := { name := "metricFonts", fn := fun _ => fun
  | [d1, d2, d3] => { results := [.lit (.bool false)], args := [d1, d2, d3] }
  | _ => none }
def MetricFontsWrongFalsely : Prop := metricFontsRow.holds Try.pinned (OpenSpec.ofChange metricFontsWrong)

/-- 'windowpanelaw08.MetricRunes': WHATEVER THE INPUT: true; the input reads as it did. -/
def metricRunesSpec : ChangeSpec := { name := "metricRunes", fn := fun _ => fun
  | [d1, d2, d3] => { results := [.lit (.bool true)], args := [d1, d2, d3] }
  | _ => none }
def metricRunesRow : OpenClaim := { program := "ytcphjmfiiodbhaa", sum := "7fb4220356c21f91cb0080c7b391f0ff139396f550f1517f0e38c8bfdc3f0848", func := "windowpane/windowpanelaw08.MetricRunes", spec := "metricRunes", inPlace := ["internal/bytealg.IndexByteString", "internal/bytealg.IndexString"], unfollowed := true, recurses := true, named := ["internal/bytealg.MaxLen"], apart := false }
def MetricRunesSaid : Prop := metricRunesRow.holds Try.pinned (OpenSpec.ofChange metricRunesSpec)

/-- ITS FALSE NEIGHBOUR: 'it returns false'. Refute it at one input. -/
def metricRunesWrong : ChangeSpec := { name := "metricRunes", fn := fun _ => fun
  | [d1, d2, d3] => { results := [.lit (.bool false)], args := [d1, d2, d3] }
  | _ => none }
def MetricRunesWrongFalsely : Prop := metricRunesRow.holds Try.pinned (OpenSpec.ofChange metricRunesWrong)

/-- 'windowpanelaw08.MetricMore': WHATEVER THE INPUT: true; the input reads as it did. -/
def metricMoreSpec : ChangeSpec := { name := "metricMore", fn := fun _ => fun
  | [d1, d2, d3] => { results := [.lit (.bool true)], args := [d1, d2, d3] }
  | _ => none }
def metricMoreRow : OpenClaim := { program := "ytcphjmfiiodbhaa", sum := "7fb4220356c21f91cb0080c7b391f0ff139396f550f1517f0e38c8bfdc3f0848", func := "windowpane/windowpanelaw08.MetricMore", spec := "metricMore", inPlace := ["internal/bytealg.IndexByteString", "internal/bytealg.IndexString"], unfollowed := true, recurses := true, named := ["internal/bytealg.MaxLen"], apart := false }
def MetricMoreSaid : Prop := metricMoreRow.holds Try.pinned (OpenSpec.ofChange metricMoreSpec)

/-- ITS FALSE NEIGHBOUR: 'it returns false'. Refute it at one input. -/
def metricMoreWrong : ChangeSpec := { name := "metricMore", fn := fun _ => fun
  | [d1, d2, d3] => { results := [.lit (.bool false)], args := [d1, d2, d3] }
  | _ => none }
def MetricMoreWrongFalsely : Prop := metricMoreRow.holds Try.pinned (OpenSpec.ofChange metricMoreWrong)

/- THE SECOND FORM. 'bulk': how many values and letters a reading holds, each counted each time it is reached (what is shared counts as often as it is met; a slice's spare places count too). A statement '..UptoSaid' is the law's where the arguments, and the package variables that the reading takes, are together of bulk at most 1048576: NARROWER than '..Said'. Prove '..Said' where nothing that the law and all that it calls make is longer than what came in: it says more and counts as full. Else prove '..UptoSaid'. A law counts once. -/
mutual
def uptoBulk {H : Type} : DataW H → Nat
  | .lit (.string bytes) => bytes.length + 1
  | .lit _ => 1
  | .nil => 1
  | .ptr d => uptoBulk d + 1
  | .slice elems spare => uptoBulkAll elems + uptoBulkAll spare + 1
  | .agg parts => uptoBulkAll parts + 1
  | .iface _ d => uptoBulk d + 1
  | .map entries => uptoBulkEntries entries + 1
  | .held _ => 1
def uptoBulkAll {H : Type} : List (DataW H) → Nat
  | [] => 0
  | d :: r => uptoBulk d + uptoBulkAll r
def uptoBulkEntries {H : Type} : List (Lit × DataW H) → Nat
  | [] => 0
  | x :: r => uptoBulkEntry x + uptoBulkEntries r
def uptoBulkEntry {H : Type} : Lit × DataW H → Nat
  | (.string bytes, d) => bytes.length + uptoBulk d + 1
  | (_, d) => uptoBulk d + 1
 end
def uptoSmall : (H : Type) → List (DataW H) → Bool := fun _ ds => decide (uptoBulkAll ds ≤ 1048576)
def OpenSpec.upto (s : _root_.Go.ChangeSpec) : _root_.Go.OpenSpec := { _root_.Go.OpenSpec.ofChange s with cond := some uptoSmall }

/-- 'windowpanelaw08.MetricShares', WHERE WHAT IT READS IS OF BULK AT MOST 1048576: true; the input reads as it did. -/
def metricSharesUptoRow : OpenClaim := { program := "ytcphjmfiiodbhaa", sum := "7fb4220356c21f91cb0080c7b391f0ff139396f550f1517f0e38c8bfdc3f0848", func := "windowpane/windowpanelaw08.MetricShares", spec := "metricShares", inPlace := ["internal/bytealg.IndexByteString", "internal/bytealg.IndexString"], unfollowed := true, recurses := true, named := ["internal/bytealg.MaxLen"], apart := false, narrowed := true }
def MetricSharesUptoSaid : Prop := metricSharesUptoRow.holds Try.pinned (OpenSpec.upto metricSharesSpec)

/-- 'windowpanelaw08.MetricWidths', WHERE WHAT IT READS IS OF BULK AT MOST 1048576: true; the input reads as it did. -/
def metricWidthsUptoRow : OpenClaim := { program := "ytcphjmfiiodbhaa", sum := "7fb4220356c21f91cb0080c7b391f0ff139396f550f1517f0e38c8bfdc3f0848", func := "windowpane/windowpanelaw08.MetricWidths", spec := "metricWidths", inPlace := ["internal/bytealg.IndexByteString", "internal/bytealg.IndexString"], unfollowed := true, recurses := true, named := ["internal/bytealg.MaxLen"], apart := false, narrowed := true }
def MetricWidthsUptoSaid : Prop := metricWidthsUptoRow.holds Try.pinned (OpenSpec.upto metricWidthsSpec)

/-- 'windowpanelaw08.MetricBeside', WHERE WHAT IT READS IS OF BULK AT MOST 1048576: true; the input reads as it did. -/
def metricBesideUptoRow : OpenClaim := { program := "ytcphjmfiiodbhaa", sum := "7fb4220356c21f91cb0080c7b391f0ff139396f550f1517f0e38c8bfdc3f0848", func := "windowpane/windowpanelaw08.MetricBeside", spec := "metricBeside", inPlace := ["internal/bytealg.IndexByteString", "internal/bytealg.IndexString"], unfollowed := true, recurses := true, named := ["internal/bytealg.MaxLen"], apart := false, narrowed := true }
def MetricBesideUptoSaid : Prop := metricBesideUptoRow.holds Try.pinned (OpenSpec.upto metricBesideSpec)

/-- 'windowpanelaw08.MetricFonts', WHERE WHAT IT READS IS OF BULK AT MOST 1048576: true; the input reads as it did. -/
def metricFontsUptoRow : OpenClaim := { program := "ytcphjmfiiodbhaa", sum := "7fb4220356c21f91cb0080c7b391f0ff139396f550f1517f0e38c8bfdc3f0848", func := "windowpane/windowpanelaw08.MetricFonts", spec := "metricFonts", inPlace := ["internal/bytealg.IndexByteString", "internal/bytealg.IndexString"], unfollowed := true, recurses := true, named := ["internal/bytealg.MaxLen"], apart := false, narrowed := true }
def MetricFontsUptoSaid : Prop := metricFontsUptoRow.holds Try.pinned (OpenSpec.upto metricFontsSpec)

/-- 'windowpanelaw08.MetricRunes', WHERE WHAT IT READS IS OF BULK AT MOST 1048576: true; the input reads as it did. -/
def metricRunesUptoRow : OpenClaim := { program := "ytcphjmfiiodbhaa", sum := "7fb4220356c21f91cb0080c7b391f0ff139396f550f1517f0e38c8bfdc3f0848", func := "windowpane/windowpanelaw08.MetricRunes", spec := "metricRunes", inPlace := ["internal/bytealg.IndexByteString", "internal/bytealg.IndexString"], unfollowed := true, recurses := true, named := ["internal/bytealg.MaxLen"], apart := false, narrowed := true }
def MetricRunesUptoSaid : Prop := metricRunesUptoRow.holds Try.pinned (OpenSpec.upto metricRunesSpec)

/-- 'windowpanelaw08.MetricMore', WHERE WHAT IT READS IS OF BULK AT MOST 1048576: true; the input reads as it did. -/
def metricMoreUptoRow : OpenClaim := { program := "ytcphjmfiiodbhaa", sum := "7fb4220356c21f91cb0080c7b391f0ff139396f550f1517f0e38c8bfdc3f0848", func := "windowpane/windowpanelaw08.MetricMore", spec := "metricMore", inPlace := ["internal/bytealg.IndexByteString", "internal/bytealg.IndexString"], unfollowed := true, recurses := true, named := ["internal/bytealg.MaxLen"], apart := false, narrowed := true }
def MetricMoreUptoSaid : Prop := metricMoreUptoRow.holds Try.pinned (OpenSpec.upto metricMoreSpec)

end Rows
end Go.Proofs.Ytcphjmfiiodbhaa
