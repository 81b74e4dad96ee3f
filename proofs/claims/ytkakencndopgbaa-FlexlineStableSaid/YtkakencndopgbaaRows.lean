/-
  No cell of these rows narrows 'for every input' (looked for: loops, veiled, ifaces, maps, wideKeys, modest, calm, conditions, laid).
  DERIVED. THE GIVEN ROWS OF THIS SEAT. 6 by the template 'for every input the law returns true; each argument reads behind the call as it read before'; 0 by the template 'total and deterministic' (their statements: YtkakencndopgbaaTotals.lean).
  GIVEN WITH THE SEED: the statements are not yours to turn. If you find one false, say at which input.
  Laid BY PROGRAM, IN A SANDBOX (cutbox-rows.mjs): the forced cells as the released guide's own fill.sh prints them over the translation e5621b8a858a0a2c… (all of the seat's roots in one cut). By AI agents, Wed Nov 11 2026. No macro, syntax, notation, axiom, sorry.
-/
import Derived.Test.YtkakencndopgbaaChecked
import GoSem.Claim
import GoSem.ClaimJoined
import GoSem.ClaimMapViews
import Derived.JoinedTies
import Derived.KernelRfl
namespace Go.Proofs.Ytkakencndopgbaa
/- THE CELL 'sum', in the pinned program and in every row, IS THE sha256 OF THE DUMP (.gsa) THAT YtkakencndopgbaaProg.lean LOADS. Nothing in Lean hashes anything: it is a label: what it is worth is what the hold of that sum in a sandbox is worth. -/
noncomputable def Try.pinned : Pinned := { name := "ytkakencndopgbaa", sum := "e5621b8a858a0a2c0d16e2b60601b6dc4a1bde05dcf03c4a66aacf729572241b", checked := Try.checked }
namespace Rows
def none {H : Type} : Left H := { results := [], args := [] }

/-- 'windowpanelaw15.FlexlineOrders': WHATEVER THE INPUT: true; the input reads as it did. -/
def flexlineOrdersSpec : ChangeSpec := { name := "flexlineOrders", fn := fun _ => fun
  | [d] => { results := [.lit (.bool true)], args := [d] }
  | _ => none }
def flexlineOrdersRow : OpenClaim := { program := "ytkakencndopgbaa", sum := "e5621b8a858a0a2c0d16e2b60601b6dc4a1bde05dcf03c4a66aacf729572241b", func := "windowpane/windowpanelaw15.FlexlineOrders", spec := "flexlineOrders", unfollowed := true, recurses := true, apart := false }
def FlexlineOrdersSaid : Prop := flexlineOrdersRow.holds Try.pinned (OpenSpec.ofChange flexlineOrdersSpec)

/-- ITS FALSE NEIGHBOUR: 'it returns false'. Refute it at one input. -/
def flexlineOrdersWrong : ChangeSpec := { name := "flexlineOrders", fn := fun _ => fun
  | [d] => { results := [.lit (.bool false)], args := [d] }
  | _ => none }
def FlexlineOrdersWrongFalsely : Prop := flexlineOrdersRow.holds Try.pinned (OpenSpec.ofChange flexlineOrdersWrong)

/-- 'windowpanelaw15.FlexlineSplits': WHATEVER THE INPUT: true; the input reads as it did. -/
def flexlineSplitsSpec : ChangeSpec := { name := "flexlineSplits", fn := fun _ => fun
  | [d1, d2, d3, d4] => { results := [.lit (.bool true)], args := [d1, d2, d3, d4] }
  | _ => none }
def flexlineSplitsRow : OpenClaim := { program := "ytkakencndopgbaa", sum := "e5621b8a858a0a2c0d16e2b60601b6dc4a1bde05dcf03c4a66aacf729572241b", func := "windowpane/windowpanelaw15.FlexlineSplits", spec := "flexlineSplits", unfollowed := true, recurses := true, apart := false }
def FlexlineSplitsSaid : Prop := flexlineSplitsRow.holds Try.pinned (OpenSpec.ofChange flexlineSplitsSpec)

/-- ITS FALSE NEIGHBOUR: 'it returns false'. Refute it at one input. -/
def flexlineSplitsWrong : ChangeSpec := { name := "flexlineSplits", fn := fun _ => fun
  | [d1, d2, d3, d4] => { results := [.lit (.bool false)], args := [d1, d2, d3, d4] }
  | _ => none }
def FlexlineSplitsWrongFalsely : Prop := flexlineSplitsRow.holds Try.pinned (OpenSpec.ofChange flexlineSplitsWrong)

/-- 'windowpanelaw15.FlexlineAll': WHATEVER THE INPUT: true; the input reads as it did. -/
def flexlineAllSpec : ChangeSpec := { name := "flexlineAll", fn := fun _ => fun
  | [d1, d2, d3] => { results := [.lit (.bool true)], args := [d1, d2, d3] }
  | _ => none }
def flexlineAllRow : OpenClaim := { program := "ytkakencndopgbaa", sum := "e5621b8a858a0a2c0d16e2b60601b6dc4a1bde05dcf03c4a66aacf729572241b", func := "windowpane/windowpanelaw15.FlexlineAll", spec := "flexlineAll", unfollowed := true, recurses := true, apart := false }
def FlexlineAllSaid : Prop := flexlineAllRow.holds Try.pinned (OpenSpec.ofChange flexlineAllSpec)

/-- ITS FALSE NEIGHBOUR: 'it returns false'. Refute it at one input. -/
def flexlineAllWrong : ChangeSpec := { name := "flexlineAll", fn := fun _ => fun
  | [d1, d2, d3] => { results := [.lit (.bool false)], args := [d1, d2, d3] }
  | _ => none }
def FlexlineAllWrongFalsely : Prop := flexlineAllRow.holds Try.pinned (OpenSpec.ofChange flexlineAllWrong)

/-- 'windowpanelaw15.FlexlineOne': WHATEVER THE INPUT: true; the input reads as it did. -/
def flexlineOneSpec : ChangeSpec := { name := "flexlineOne", fn := fun _ => fun
  | [d1, d2, d3] => { results := [.lit (.bool true)], args := [d1, d2, d3] }
  | _ => none }
def flexlineOneRow : OpenClaim := { program := "ytkakencndopgbaa", sum := "e5621b8a858a0a2c0d16e2b60601b6dc4a1bde05dcf03c4a66aacf729572241b", func := "windowpane/windowpanelaw15.FlexlineOne", spec := "flexlineOne", unfollowed := true, recurses := true, apart := false }
def FlexlineOneSaid : Prop := flexlineOneRow.holds Try.pinned (OpenSpec.ofChange flexlineOneSpec)

/-- ITS FALSE NEIGHBOUR: 'it returns false'. Refute it at one input. -/
def flexlineOneWrong : ChangeSpec := { name := "flexlineOne", fn := fun _ => fun
  | [d1, d2, d3] => { results := [.lit (.bool false)], args := [d1, d2, d3] }
  | _ => none }
def FlexlineOneWrongFalsely : Prop := flexlineOneRow.holds Try.pinned (OpenSpec.ofChange flexlineOneWrong)

/-- 'windowpanelaw15.FlexlineWider': WHATEVER THE INPUT: true; the input reads as it did. -/
def flexlineWiderSpec : ChangeSpec := { name := "flexlineWider", fn := fun _ => fun
  | [d1, d2, d3, d4] => { results := [.lit (.bool true)], args := [d1, d2, d3, d4] }
  | _ => none }
def flexlineWiderRow : OpenClaim := { program := "ytkakencndopgbaa", sum := "e5621b8a858a0a2c0d16e2b60601b6dc4a1bde05dcf03c4a66aacf729572241b", func := "windowpane/windowpanelaw15.FlexlineWider", spec := "flexlineWider", unfollowed := true, recurses := true, apart := false }
def FlexlineWiderSaid : Prop := flexlineWiderRow.holds Try.pinned (OpenSpec.ofChange flexlineWiderSpec)

/-- ITS FALSE NEIGHBOUR: 'it returns false'. Refute it at one input. -/
def flexlineWiderWrong : ChangeSpec := { name := "flexlineWider", fn := fun _ => fun
  | [d1, d2, d3, d4] => { results := [.lit (.bool false)], args := [d1, d2, d3, d4] }
  | _ => none }
def FlexlineWiderWrongFalsely : Prop := flexlineWiderRow.holds Try.pinned (OpenSpec.ofChange flexlineWiderWrong)

/-- 'windowpanelaw15.FlexlineStable': WHATEVER THE INPUT: true; the input reads as it did. -/
def flexlineStableSpec : ChangeSpec := { name := "flexlineStable", fn := fun _ => fun
  | [d] => { results := [.lit (.bool true)], args := [d] }
  | _ => none }
def flexlineStableRow : OpenClaim := { program := "ytkakencndopgbaa", sum := "e5621b8a858a0a2c0d16e2b60601b6dc4a1bde05dcf03c4a66aacf729572241b", func := "windowpane/windowpanelaw15.FlexlineStable", spec := "flexlineStable", unfollowed := true, recurses := true, apart := false }
def FlexlineStableSaid : Prop := flexlineStableRow.holds Try.pinned (OpenSpec.ofChange flexlineStableSpec)

/-- ITS FALSE NEIGHBOUR: 'it returns false'. Refute it at one input. -/
def flexlineStableWrong : ChangeSpec := { name := "flexlineStable", fn := fun _ => fun
  | [d] => { results := [.lit (.bool false)], args := [d] }
  | _ => none }
def FlexlineStableWrongFalsely : Prop := flexlineStableRow.holds Try.pinned (OpenSpec.ofChange flexlineStableWrong)

/- THE SECOND FORM. 'bulk': how many values and letters a reading holds, each counted each time it is reached (what is shared counts as often as it is met; a slice's spare places count too). A statement '..UptoSaid' is the law's where the arguments, and the package variables that the reading takes, are together of bulk at most 1048576: NARROWER than '..Said'. Prove '..Said' where nothing that the law and all that it calls make is longer than what came in: it says more and counts as full. Else prove '..UptoSaid'. A law counts once. -/
mutual
def uptoBulk {H : Type} : DataW H → Nat
  | .lit (.string bytes) => bytes.length + 1
  | .lit _ => 1
  | .nil => 1
  | .ptr d => uptoBulk d + 1
  | .slice elems spare => uptoBulkAll elems + uptoBulkAll spare + 1
  | .agg parts => uptoBulkAll parts + 1
  | .iface _ d => uptoBulk d + 1
  | .map entries => uptoBulkEntries entries + 1
  | .held _ => 1
def uptoBulkAll {H : Type} : List (DataW H) → Nat
  | [] => 0
  | d :: r => uptoBulk d + uptoBulkAll r
def uptoBulkEntries {H : Type} : List (Lit × DataW H) → Nat
  | [] => 0
  | x :: r => uptoBulkEntry x + uptoBulkEntries r
def uptoBulkEntry {H : Type} : Lit × DataW H → Nat
  | (.string bytes, d) => bytes.length + uptoBulk d + 1
  | (_, d) => uptoBulk d + 1
 end
def uptoSmall : (H : Type) → List (DataW H) → Bool := fun _ ds => decide (uptoBulkAll ds ≤ 1048576)
def OpenSpec.upto (s : _root_.Go.ChangeSpec) : _root_.Go.OpenSpec := { _root_.Go.OpenSpec.ofChange s with cond := some uptoSmall }

/-- 'windowpanelaw15.FlexlineOrders', WHERE WHAT IT READS IS OF BULK AT MOST 1048576: true; the input reads as it did. -/
def flexlineOrdersUptoRow : OpenClaim := { program := "ytkakencndopgbaa", sum := "e5621b8a858a0a2c0d16e2b60601b6dc4a1bde05dcf03c4a66aacf729572241b", func := "windowpane/windowpanelaw15.FlexlineOrders", spec := "flexlineOrders", unfollowed := true, recurses := true, apart := false, narrowed := true }
def FlexlineOrdersUptoSaid : Prop := flexlineOrdersUptoRow.holds Try.pinned (OpenSpec.upto flexlineOrdersSpec)

/-- 'windowpanelaw15.FlexlineSplits', WHERE WHAT IT READS IS OF BULK AT MOST 1048576: true; the input reads as it did. -/
def flexlineSplitsUptoRow : OpenClaim := { program := "ytkakencndopgbaa", sum := "e5621b8a858a0a2c0d16e2b60601b6dc4a1bde05dcf03c4a66aacf729572241b", func := "windowpane/windowpanelaw15.FlexlineSplits", spec := "flexlineSplits", unfollowed := true, recurses := true, apart := false, narrowed := true }
def FlexlineSplitsUptoSaid : Prop := flexlineSplitsUptoRow.holds Try.pinned (OpenSpec.upto flexlineSplitsSpec)

/-- 'windowpanelaw15.FlexlineAll', WHERE WHAT IT READS IS OF BULK AT MOST 1048576: true; the input reads as it did. -/
def flexlineAllUptoRow : OpenClaim := { program := "ytkakencndopgbaa", sum := "e5621b8a858a0a2c0d16e2b60601b6dc4a1bde05dcf03c4a66aacf729572241b", func := "windowpane/windowpanelaw15.FlexlineAll", spec := "flexlineAll", unfollowed := true, recurses := true, apart := false, narrowed := true }
def FlexlineAllUptoSaid : Prop := flexlineAllUptoRow.holds Try.pinned (OpenSpec.upto flexlineAllSpec)

/-- 'windowpanelaw15.FlexlineOne', WHERE WHAT IT READS IS OF BULK AT MOST 1048576: true; the input reads as it did. -/
def flexlineOneUptoRow : OpenClaim := { program := "ytkakencndopgbaa", sum := "e5621b8a858a0a2c0d16e2b60601b6dc4a1bde05dcf03c4a66aacf729572241b", func := "windowpane/windowpanelaw15.FlexlineOne", spec := "flexlineOne", unfollowed := true, recurses := true, apart := false, narrowed := true }
def FlexlineOneUptoSaid : Prop := flexlineOneUptoRow.holds Try.pinned (OpenSpec.upto flexlineOneSpec)

/-- 'windowpanelaw15.FlexlineWider', WHERE WHAT IT READS IS OF BULK AT MOST 1048576: true; the input reads as it did. -/
def flexlineWiderUptoRow : OpenClaim := { program := "ytkakencndopgbaa", sum := "e5621b8a858a0a2c0d16e2b60601b6dc4a1bde05dcf03c4a66aacf729572241b", func := "windowpane/windowpanelaw15.FlexlineWider", spec := "flexlineWider", unfollowed := true, recurses := true, apart := false, narrowed := true }
def FlexlineWiderUptoSaid : Prop := flexlineWiderUptoRow.holds Try.pinned (OpenSpec.upto flexlineWiderSpec)

/-- 'windowpanelaw15.FlexlineStable', WHERE WHAT IT READS IS OF BULK AT MOST 1048576: true; the input reads as it did. -/
def flexlineStableUptoRow : OpenClaim := { program := "ytkakencndopgbaa", sum := "e5621b8a858a0a2c0d16e2b60601b6dc4a1bde05dcf03c4a66aacf729572241b", func := "windowpane/windowpanelaw15.FlexlineStable", spec := "flexlineStable", unfollowed := true, recurses := true, apart := false, narrowed := true }
def FlexlineStableUptoSaid : Prop := flexlineStableUptoRow.holds Try.pinned (OpenSpec.upto flexlineStableSpec)

end Rows
end Go.Proofs.Ytkakencndopgbaa
