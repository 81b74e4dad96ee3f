/-
  No cell of these rows narrows 'for every input' (looked for: loops, veiled, ifaces, maps, wideKeys, modest, calm, conditions, laid).
  DERIVED. THE GIVEN ROWS OF THIS SEAT. 9 by the template 'for every input the law returns true; each argument reads behind the call as it read before'; 0 by the template 'total and deterministic' (their statements: YtcipphmijdibjaaTotals.lean).
  GIVEN WITH THE SEED: the statements are not yours to turn. If you find one false, say at which input.
  Laid BY PROGRAM, IN A SANDBOX (cutbox-rows.mjs): the forced cells as the released guide's own fill.sh prints them over the translation d027255c7a52d2c2… (all of the seat's roots in one cut). By AI agents, Wed Nov 11 2026. No macro, syntax, notation, axiom, sorry.
-/
import Derived.Test.YtcipphmijdibjaaChecked
import GoSem.Claim
import GoSem.ClaimJoined
import GoSem.ClaimMapViews
import Derived.JoinedTies
import Derived.KernelRfl
namespace Go.Proofs.Ytcipphmijdibjaa
/- THE CELL 'sum', in the pinned program and in every row, IS THE sha256 OF THE DUMP (.gsa) THAT YtcipphmijdibjaaProg.lean LOADS. Nothing in Lean hashes anything: it is a label: what it is worth is what the hold of that sum in a sandbox is worth. -/
noncomputable def Try.pinned : Pinned := { name := "ytcipphmijdibjaa", sum := "d027255c7a52d2c24d46eb1d7706e9bc88866821d26b5cad9fc0c2158c388bb4", checked := Try.checked }
namespace Rows
def none {H : Type} : Left H := { results := [], args := [] }

/-- 'windowpanelaw01.FixedSums': WHATEVER THE INPUT: true; the input reads as it did. -/
def fixedSumsSpec : ChangeSpec := { name := "fixedSums", fn := fun _ => fun
  | [d] => { results := [.lit (.bool true)], args := [d] }
  | _ => none }
def fixedSumsRow : OpenClaim := { program := "ytcipphmijdibjaa", sum := "d027255c7a52d2c24d46eb1d7706e9bc88866821d26b5cad9fc0c2158c388bb4", func := "windowpane/windowpanelaw01.FixedSums", spec := "fixedSums", apart := false }
def FixedSumsSaid : Prop := fixedSumsRow.holds Try.pinned (OpenSpec.ofChange fixedSumsSpec)

/-- ITS FALSE NEIGHBOUR: 'it returns false'. Refute it at one input. -/
def fixedSumsWrong : ChangeSpec := { name := "fixedSums", fn := fun _ => fun
  | [d] => { results := [.lit (.bool false)], args := [d] }
  | _ => none }
def FixedSumsWrongFalsely : Prop := fixedSumsRow.holds Try.pinned (OpenSpec.ofChange fixedSumsWrong)

/-- 'windowpanelaw01.FixedPairs': WHATEVER THE INPUT: true; the input reads as it did. -/
def fixedPairsSpec : ChangeSpec := { name := "fixedPairs", fn := fun _ => fun
  | [d1, d2, d3] => { results := [.lit (.bool true)], args := [d1, d2, d3] }
  | _ => none }
def fixedPairsRow : OpenClaim := { program := "ytcipphmijdibjaa", sum := "d027255c7a52d2c24d46eb1d7706e9bc88866821d26b5cad9fc0c2158c388bb4", func := "windowpane/windowpanelaw01.FixedPairs", spec := "fixedPairs", apart := false }
def FixedPairsSaid : Prop := fixedPairsRow.holds Try.pinned (OpenSpec.ofChange fixedPairsSpec)

/-- ITS FALSE NEIGHBOUR: 'it returns false'. Refute it at one input. -/
def fixedPairsWrong : ChangeSpec := { name := "fixedPairs", fn := fun _ => fun
  | [d1, d2, d3] => { results := [.lit (.bool false)], args := [d1, d2, d3] }
  | _ => none }
def FixedPairsWrongFalsely : Prop := fixedPairsRow.holds Try.pinned (OpenSpec.ofChange fixedPairsWrong)

/-- 'windowpanelaw01.FixedShares': WHATEVER THE INPUT: true; the input reads as it did. -/
def fixedSharesSpec : ChangeSpec := { name := "fixedShares", fn := fun _ => fun
  | [d1, d2] => { results := [.lit (.bool true)], args := [d1, d2] }
  | _ => none }
def fixedSharesRow : OpenClaim := { program := "ytcipphmijdibjaa", sum := "d027255c7a52d2c24d46eb1d7706e9bc88866821d26b5cad9fc0c2158c388bb4", func := "windowpane/windowpanelaw01.FixedShares", spec := "fixedShares", unfollowed := true, recurses := true, named := ["math/bits.divideError", "math/bits.overflowError"], apart := false }
def FixedSharesSaid : Prop := fixedSharesRow.holds Try.pinned (OpenSpec.ofChange fixedSharesSpec)

/-- ITS FALSE NEIGHBOUR: 'it returns false'. Refute it at one input. -/
def fixedSharesWrong : ChangeSpec := { name := "fixedShares", fn := fun _ => fun
  | [d1, d2] => { results := [.lit (.bool false)], args := [d1, d2] }
  | _ => none }
def FixedSharesWrongFalsely : Prop := fixedSharesRow.holds Try.pinned (OpenSpec.ofChange fixedSharesWrong)

/-- 'windowpanelaw01.FixedBack': WHATEVER THE INPUT: true; the input reads as it did. -/
def fixedBackSpec : ChangeSpec := { name := "fixedBack", fn := fun _ => fun
  | [d1, d2] => { results := [.lit (.bool true)], args := [d1, d2] }
  | _ => none }
def fixedBackRow : OpenClaim := { program := "ytcipphmijdibjaa", sum := "d027255c7a52d2c24d46eb1d7706e9bc88866821d26b5cad9fc0c2158c388bb4", func := "windowpane/windowpanelaw01.FixedBack", spec := "fixedBack", unfollowed := true, recurses := true, named := ["math/bits.divideError", "math/bits.overflowError"], apart := false }
def FixedBackSaid : Prop := fixedBackRow.holds Try.pinned (OpenSpec.ofChange fixedBackSpec)

/-- ITS FALSE NEIGHBOUR: 'it returns false'. Refute it at one input. -/
def fixedBackWrong : ChangeSpec := { name := "fixedBack", fn := fun _ => fun
  | [d1, d2] => { results := [.lit (.bool false)], args := [d1, d2] }
  | _ => none }
def FixedBackWrongFalsely : Prop := fixedBackRow.holds Try.pinned (OpenSpec.ofChange fixedBackWrong)

/-- 'windowpanelaw01.FixedOrder': WHATEVER THE INPUT: true; the input reads as it did. -/
def fixedOrderSpec : ChangeSpec := { name := "fixedOrder", fn := fun _ => fun
  | [d1, d2] => { results := [.lit (.bool true)], args := [d1, d2] }
  | _ => none }
def fixedOrderRow : OpenClaim := { program := "ytcipphmijdibjaa", sum := "d027255c7a52d2c24d46eb1d7706e9bc88866821d26b5cad9fc0c2158c388bb4", func := "windowpane/windowpanelaw01.FixedOrder", spec := "fixedOrder", unfollowed := true, recurses := true, named := ["math/bits.divideError", "math/bits.overflowError"], apart := false }
def FixedOrderSaid : Prop := fixedOrderRow.holds Try.pinned (OpenSpec.ofChange fixedOrderSpec)

/-- ITS FALSE NEIGHBOUR: 'it returns false'. Refute it at one input. -/
def fixedOrderWrong : ChangeSpec := { name := "fixedOrder", fn := fun _ => fun
  | [d1, d2] => { results := [.lit (.bool false)], args := [d1, d2] }
  | _ => none }
def FixedOrderWrongFalsely : Prop := fixedOrderRow.holds Try.pinned (OpenSpec.ofChange fixedOrderWrong)

/-- 'windowpanelaw01.FixedGiven': WHATEVER THE INPUT: true; the input reads as it did. -/
def fixedGivenSpec : ChangeSpec := { name := "fixedGiven", fn := fun _ => fun
  | [d1, d2] => { results := [.lit (.bool true)], args := [d1, d2] }
  | _ => none }
def fixedGivenRow : OpenClaim := { program := "ytcipphmijdibjaa", sum := "d027255c7a52d2c24d46eb1d7706e9bc88866821d26b5cad9fc0c2158c388bb4", func := "windowpane/windowpanelaw01.FixedGiven", spec := "fixedGiven", unfollowed := true, recurses := true, named := ["math/bits.divideError", "math/bits.overflowError"], apart := false }
def FixedGivenSaid : Prop := fixedGivenRow.holds Try.pinned (OpenSpec.ofChange fixedGivenSpec)

/-- ITS FALSE NEIGHBOUR: 'it returns false'. Refute it at one input. -/
def fixedGivenWrong : ChangeSpec := { name := "fixedGiven", fn := fun _ => fun
  | [d1, d2] => { results := [.lit (.bool false)], args := [d1, d2] }
  | _ => none }
def FixedGivenWrongFalsely : Prop := fixedGivenRow.holds Try.pinned (OpenSpec.ofChange fixedGivenWrong)

/-- 'windowpanelaw01.FixedTurned': WHATEVER THE INPUT: true; the input reads as it did. -/
def fixedTurnedSpec : ChangeSpec := { name := "fixedTurned", fn := fun _ => fun
  | [d1, d2, d3, d4] => { results := [.lit (.bool true)], args := [d1, d2, d3, d4] }
  | _ => none }
def fixedTurnedRow : OpenClaim := { program := "ytcipphmijdibjaa", sum := "d027255c7a52d2c24d46eb1d7706e9bc88866821d26b5cad9fc0c2158c388bb4", func := "windowpane/windowpanelaw01.FixedTurned", spec := "fixedTurned", unfollowed := true, recurses := true, named := ["math/bits.divideError", "math/bits.overflowError"], apart := false }
def FixedTurnedSaid : Prop := fixedTurnedRow.holds Try.pinned (OpenSpec.ofChange fixedTurnedSpec)

/-- ITS FALSE NEIGHBOUR: 'it returns false'. Refute it at one input. -/
def fixedTurnedWrong : ChangeSpec := { name := "fixedTurned", fn := fun _ => fun
  | [d1, d2, d3, d4] => { results := [.lit (.bool false)], args := [d1, d2, d3, d4] }
  | _ => none }
def FixedTurnedWrongFalsely : Prop := fixedTurnedRow.holds Try.pinned (OpenSpec.ofChange fixedTurnedWrong)

/-- 'windowpanelaw01.FixedWhole': WHATEVER THE INPUT: true; the input reads as it did. -/
def fixedWholeSpec : ChangeSpec := { name := "fixedWhole", fn := fun _ => fun
  | [d1, d2, d3, d4] => { results := [.lit (.bool true)], args := [d1, d2, d3, d4] }
  | _ => none }
def fixedWholeRow : OpenClaim := { program := "ytcipphmijdibjaa", sum := "d027255c7a52d2c24d46eb1d7706e9bc88866821d26b5cad9fc0c2158c388bb4", func := "windowpane/windowpanelaw01.FixedWhole", spec := "fixedWhole", unfollowed := true, recurses := true, named := ["math/bits.divideError", "math/bits.overflowError"], apart := false }
def FixedWholeSaid : Prop := fixedWholeRow.holds Try.pinned (OpenSpec.ofChange fixedWholeSpec)

/-- ITS FALSE NEIGHBOUR: 'it returns false'. Refute it at one input. -/
def fixedWholeWrong : ChangeSpec := { name := "fixedWhole", fn := fun _ => fun
  | [d1, d2, d3, d4] => { results := [.lit (.bool false)], args := [d1, d2, d3, d4] }
  | _ => none }
def FixedWholeWrongFalsely : Prop := fixedWholeRow.holds Try.pinned (OpenSpec.ofChange fixedWholeWrong)

/-- 'windowpanelaw01.FixedBetween': WHATEVER THE INPUT: true; the input reads as it did. -/
def fixedBetweenSpec : ChangeSpec := { name := "fixedBetween", fn := fun _ => fun
  | [d1, d2, d3] => { results := [.lit (.bool true)], args := [d1, d2, d3] }
  | _ => none }
def fixedBetweenRow : OpenClaim := { program := "ytcipphmijdibjaa", sum := "d027255c7a52d2c24d46eb1d7706e9bc88866821d26b5cad9fc0c2158c388bb4", func := "windowpane/windowpanelaw01.FixedBetween", spec := "fixedBetween", unfollowed := true, recurses := true, named := ["math/bits.divideError", "math/bits.overflowError"], apart := false }
def FixedBetweenSaid : Prop := fixedBetweenRow.holds Try.pinned (OpenSpec.ofChange fixedBetweenSpec)

/-- ITS FALSE NEIGHBOUR: 'it returns false'. Refute it at one input. -/
def fixedBetweenWrong : ChangeSpec := { name := "fixedBetween", fn := fun _ => fun
  | [d1, d2, d3] => { results := [.lit (.bool false)], args := [d1, d2, d3] }
  | _ => none }
def FixedBetweenWrongFalsely : Prop := fixedBetweenRow.holds Try.pinned (OpenSpec.ofChange fixedBetweenWrong)

/- THE SECOND FORM. 'bulk': how many values and letters a reading holds, each counted each time it is reached (what is shared counts as often as it is met; a slice's spare places count too). A statement '..UptoSaid' is the law's where the arguments, and the package variables that the reading takes, are together of bulk at most 1048576: NARROWER than '..Said'. Prove '..Said' where nothing that the law and all that it calls make is longer than what came in: it says more and counts as full. Else prove '..UptoSaid'. A law counts once. -/
mutual
def uptoBulk {H : Type} : DataW H → Nat
  | .lit (.string bytes) => bytes.length + 1
  | .lit _ => 1
  | .nil => 1
  | .ptr d => uptoBulk d + 1
  | .slice elems spare => uptoBulkAll elems + uptoBulkAll spare + 1
  | .agg parts => uptoBulkAll parts + 1
  | .iface _ d => uptoBulk d + 1
  | .map entries => uptoBulkEntries entries + 1
  | .held _ => 1
def uptoBulkAll {H : Type} : List (DataW H) → Nat
  | [] => 0
  | d :: r => uptoBulk d + uptoBulkAll r
def uptoBulkEntries {H : Type} : List (Lit × DataW H) → Nat
  | [] => 0
  | x :: r => uptoBulkEntry x + uptoBulkEntries r
def uptoBulkEntry {H : Type} : Lit × DataW H → Nat
  | (.string bytes, d) => bytes.length + uptoBulk d + 1
  | (_, d) => uptoBulk d + 1
 end
def uptoSmall : (H : Type) → List (DataW H) → Bool := fun _ ds => decide (uptoBulkAll ds ≤ 1048576)
def OpenSpec.upto (s : _root_.Go.ChangeSpec) : _root_.Go.OpenSpec := { _root_.Go.OpenSpec.ofChange s with cond := some uptoSmall }

/-- 'windowpanelaw01.FixedSums', WHERE WHAT IT READS IS OF BULK AT MOST 1048576: true; the input reads as it did. -/
def fixedSumsUptoRow : OpenClaim := { program := "ytcipphmijdibjaa", sum := "d027255c7a52d2c24d46eb1d7706e9bc88866821d26b5cad9fc0c2158c388bb4", func := "windowpane/windowpanelaw01.FixedSums", spec := "fixedSums", apart := false, narrowed := true }
def FixedSumsUptoSaid : Prop := fixedSumsUptoRow.holds Try.pinned (OpenSpec.upto fixedSumsSpec)

/-- 'windowpanelaw01.FixedPairs', WHERE WHAT IT READS IS OF BULK AT MOST 1048576: true; the input reads as it did. -/
def fixedPairsUptoRow : OpenClaim := { program := "ytcipphmijdibjaa", sum := "d027255c7a52d2c24d46eb1d7706e9bc88866821d26b5cad9fc0c2158c388bb4", func := "windowpane/windowpanelaw01.FixedPairs", spec := "fixedPairs", apart := false, narrowed := true }
def FixedPairsUptoSaid : Prop := fixedPairsUptoRow.holds Try.pinned (OpenSpec.upto fixedPairsSpec)

/-- 'windowpanelaw01.FixedShares', WHERE WHAT IT READS IS OF BULK AT MOST 1048576: true; the input reads as it did. -/
def fixedSharesUptoRow : OpenClaim := { program := "ytcipphmijdibjaa", sum := "d027255c7a52d2c24d46eb1d7706e9bc88866821d26b5cad9fc0c2158c388bb4", func := "windowpane/windowpanelaw01.FixedShares", spec := "fixedShares", unfollowed := true, recurses := true, named := ["math/bits.divideError", "math/bits.overflowError"], apart := false, narrowed := true }
def FixedSharesUptoSaid : Prop := fixedSharesUptoRow.holds Try.pinned (OpenSpec.upto fixedSharesSpec)

/-- 'windowpanelaw01.FixedBack', WHERE WHAT IT READS IS OF BULK AT MOST 1048576: true; the input reads as it did. -/
def fixedBackUptoRow : OpenClaim := { program := "ytcipphmijdibjaa", sum := "d027255c7a52d2c24d46eb1d7706e9bc88866821d26b5cad9fc0c2158c388bb4", func := "windowpane/windowpanelaw01.FixedBack", spec := "fixedBack", unfollowed := true, recurses := true, named := ["math/bits.divideError", "math/bits.overflowError"], apart := false, narrowed := true }
def FixedBackUptoSaid : Prop := fixedBackUptoRow.holds Try.pinned (OpenSpec.upto fixedBackSpec)

/-- 'windowpanelaw01.FixedOrder', WHERE WHAT IT READS IS OF BULK AT MOST 1048576: true; the input reads as it did. -/
def fixedOrderUptoRow : OpenClaim := { program := "ytcipphmijdibjaa", sum := "d027255c7a52d2c24d46eb1d7706e9bc88866821d26b5cad9fc0c2158c388bb4", func := "windowpane/windowpanelaw01.FixedOrder", spec := "fixedOrder", unfollowed := true, recurses := true, named := ["math/bits.divideError", "math/bits.overflowError"], apart := false, narrowed := true }
def FixedOrderUptoSaid : Prop := fixedOrderUptoRow.holds Try.pinned (OpenSpec.upto fixedOrderSpec)

/-- 'windowpanelaw01.FixedGiven', WHERE WHAT IT READS IS OF BULK AT MOST 1048576: true; the input reads as it did. -/
def fixedGivenUptoRow : OpenClaim := { program := "ytcipphmijdibjaa", sum := "d027255c7a52d2c24d46eb1d7706e9bc88866821d26b5cad9fc0c2158c388bb4", func := "windowpane/windowpanelaw01.FixedGiven", spec := "fixedGiven", unfollowed := true, recurses := true, named := ["math/bits.divideError", "math/bits.overflowError"], apart := false, narrowed := true }
def FixedGivenUptoSaid : Prop := fixedGivenUptoRow.holds Try.pinned (OpenSpec.upto fixedGivenSpec)

/-- 'windowpanelaw01.FixedTurned', WHERE WHAT IT READS IS OF BULK AT MOST 1048576: true; the input reads as it did. -/
def fixedTurnedUptoRow : OpenClaim := { program := "ytcipphmijdibjaa", sum := "d027255c7a52d2c24d46eb1d7706e9bc88866821d26b5cad9fc0c2158c388bb4", func := "windowpane/windowpanelaw01.FixedTurned", spec := "fixedTurned", unfollowed := true, recurses := true, named := ["math/bits.divideError", "math/bits.overflowError"], apart := false, narrowed := true }
def FixedTurnedUptoSaid : Prop := fixedTurnedUptoRow.holds Try.pinned (OpenSpec.upto fixedTurnedSpec)

/-- 'windowpanelaw01.FixedWhole', WHERE WHAT IT READS IS OF BULK AT MOST 1048576: true; the input reads as it did. -/
def fixedWholeUptoRow : OpenClaim := { program := "ytcipphmijdibjaa", sum := "d027255c7a52d2c24d46eb1d7706e9bc88866821d26b5cad9fc0c2158c388bb4", func := "windowpane/windowpanelaw01.FixedWhole", spec := "fixedWhole", unfollowed := true, recurses := true, named := ["math/bits.divideError", "math/bits.overflowError"], apart := false, narrowed := true }
def FixedWholeUptoSaid : Prop := fixedWholeUptoRow.holds Try.pinned (OpenSpec.upto fixedWholeSpec)

/-- 'windowpanelaw01.FixedBetween', WHERE WHAT IT READS IS OF BULK AT MOST 1048576: true; the input reads as it did. -/
def fixedBetweenUptoRow : OpenClaim := { program := "ytcipphmijdibjaa", sum := "d027255c7a52d2c24d46eb1d7706e9bc88866821d26b5cad9fc0c2158c388bb4", func := "windowpane/windowpanelaw01.FixedBetween", spec := "fixedBetween", unfollowed := true, recurses := true, named := ["math/bits.divideError", "math/bits.overflowError"], apart := false, narrowed := true }
def FixedBetweenUptoSaid : Prop := fixedBetweenUptoRow.holds Try.pinned (OpenSpec.upto fixedBetweenSpec)

end Rows
end Go.Proofs.Ytcipphmijdibjaa
