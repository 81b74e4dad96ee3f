/-
  No cell of these rows narrows 'for every input' (looked for: loops, veiled, ifaces, maps, wideKeys, modest, calm, conditions, laid).
  DERIVED. THE GIVEN ROWS OF THIS SEAT. 5 by the template 'for every input the law returns true; each argument reads behind the call as it read before'; 0 by the template 'total and deterministic' (their statements: YtjnfbnngpcnffaaTotals.lean).
  GIVEN WITH THE SEED: the statements are not yours to turn. If you find one false, say at which input.
  Laid BY PROGRAM, IN A SANDBOX (cutbox-rows.mjs): the forced cells as the released guide's own fill.sh prints them over the translation 21fbefe7950c562f… (all of the seat's roots in one cut). By AI agents, Wed Nov 11 2026. No macro, syntax, notation, axiom, sorry.
-/
import Derived.Test.YtjnfbnngpcnffaaChecked
import GoSem.Claim
import GoSem.ClaimJoined
import GoSem.ClaimMapViews
import Derived.JoinedTies
import Derived.KernelRfl
namespace Go.Proofs.Ytjnfbnngpcnffaa
/- THE CELL 'sum', in the pinned program and in every row, IS THE sha256 OF THE DUMP (.gsa) THAT YtjnfbnngpcnffaaProg.lean LOADS. Nothing in Lean hashes anything: it is a label: what it is worth is what the hold of that sum in a sandbox is worth. -/
noncomputable def Try.pinned : Pinned := { name := "ytjnfbnngpcnffaa", sum := "21fbefe7950c562fe71dc5652802a49dd1ae0bb8848210427b9d16786d1fd60b", checked := Try.checked }
namespace Rows
def none {H : Type} : Left H := { results := [], args := [] }

/-- 'windowpanelaw13.MarginJoins': WHATEVER THE INPUT: true; the input reads as it did. -/
def marginJoinsSpec : ChangeSpec := { name := "marginJoins", fn := fun _ => fun
  | [d1, d2] => { results := [.lit (.bool true)], args := [d1, d2] }
  | _ => none }
def marginJoinsRow : OpenClaim := { program := "ytjnfbnngpcnffaa", sum := "21fbefe7950c562fe71dc5652802a49dd1ae0bb8848210427b9d16786d1fd60b", func := "windowpane/windowpanelaw13.MarginJoins", spec := "marginJoins", apart := false }
def MarginJoinsSaid : Prop := marginJoinsRow.holds Try.pinned (OpenSpec.ofChange marginJoinsSpec)

/-- ITS FALSE NEIGHBOUR: 'it returns false'. Refute it at one input. -/
def marginJoinsWrong : ChangeSpec := { name := "marginJoins", fn := fun _ => fun
  | [d1, d2] => { results := [.lit (.bool false)], args := [d1, d2] }
  | _ => none }
def MarginJoinsWrongFalsely : Prop := marginJoinsRow.holds Try.pinned (OpenSpec.ofChange marginJoinsWrong)

/-- 'windowpanelaw13.MarginOrder': WHATEVER THE INPUT: true; the input reads as it did. -/
def marginOrderSpec : ChangeSpec := { name := "marginOrder", fn := fun _ => fun
  | [d1, d2, d3] => { results := [.lit (.bool true)], args := [d1, d2, d3] }
  | _ => none }
def marginOrderRow : OpenClaim := { program := "ytjnfbnngpcnffaa", sum := "21fbefe7950c562fe71dc5652802a49dd1ae0bb8848210427b9d16786d1fd60b", func := "windowpane/windowpanelaw13.MarginOrder", spec := "marginOrder", apart := false }
def MarginOrderSaid : Prop := marginOrderRow.holds Try.pinned (OpenSpec.ofChange marginOrderSpec)

/-- ITS FALSE NEIGHBOUR: 'it returns false'. Refute it at one input. -/
def marginOrderWrong : ChangeSpec := { name := "marginOrder", fn := fun _ => fun
  | [d1, d2, d3] => { results := [.lit (.bool false)], args := [d1, d2, d3] }
  | _ => none }
def MarginOrderWrongFalsely : Prop := marginOrderRow.holds Try.pinned (OpenSpec.ofChange marginOrderWrong)

/-- 'windowpanelaw13.MarginComes': WHATEVER THE INPUT: true; the input reads as it did. -/
def marginComesSpec : ChangeSpec := { name := "marginComes", fn := fun _ => fun
  | [d] => { results := [.lit (.bool true)], args := [d] }
  | _ => none }
def marginComesRow : OpenClaim := { program := "ytjnfbnngpcnffaa", sum := "21fbefe7950c562fe71dc5652802a49dd1ae0bb8848210427b9d16786d1fd60b", func := "windowpane/windowpanelaw13.MarginComes", spec := "marginComes", apart := false }
def MarginComesSaid : Prop := marginComesRow.holds Try.pinned (OpenSpec.ofChange marginComesSpec)

/-- ITS FALSE NEIGHBOUR: 'it returns false'. Refute it at one input. -/
def marginComesWrong : ChangeSpec := { name := "marginComes", fn := fun _ => fun
  | [d] => { results := [.lit (.bool false)], args := [d] }
  | _ => none }
def MarginComesWrongFalsely : Prop := marginComesRow.holds Try.pinned (OpenSpec.ofChange marginComesWrong)

/-- 'windowpanelaw13.MarginMore': WHATEVER THE INPUT: true; the input reads as it did. -/
def marginMoreSpec : ChangeSpec := { name := "marginMore", fn := fun _ => fun
  | [d1, d2, d3] => { results := [.lit (.bool true)], args := [d1, d2, d3] }
  | _ => none }
def marginMoreRow : OpenClaim := { program := "ytjnfbnngpcnffaa", sum := "21fbefe7950c562fe71dc5652802a49dd1ae0bb8848210427b9d16786d1fd60b", func := "windowpane/windowpanelaw13.MarginMore", spec := "marginMore", apart := false }
def MarginMoreSaid : Prop := marginMoreRow.holds Try.pinned (OpenSpec.ofChange marginMoreSpec)

/-- ITS FALSE NEIGHBOUR: 'it returns false'. Refute it at one input. -/
def marginMoreWrong : ChangeSpec := { name := "marginMore", fn := fun _ => fun
  | [d1, d2, d3] => { results := [.lit (.bool false)], args := [d1, d2, d3] }
  | _ => none }
def MarginMoreWrongFalsely : Prop := marginMoreRow.holds Try.pinned (OpenSpec.ofChange marginMoreWrong)

/-- 'windowpanelaw13.MarginOpposite': WHATEVER THE INPUT: true; the input reads as it did. -/
def marginOppositeSpec : ChangeSpec := { name := "marginOpposite", fn := fun _ => fun
  | [d] => { results := [.lit (.bool true)], args := [d] }
  | _ => none }
def marginOppositeRow : OpenClaim := { program := "ytjnfbnngpcnffaa", sum := "21fbefe7950c562fe71dc5652802a49dd1ae0bb8848210427b9d16786d1fd60b", func := "windowpane/windowpanelaw13.MarginOpposite", spec := "marginOpposite", apart := false }
def MarginOppositeSaid : Prop := marginOppositeRow.holds Try.pinned (OpenSpec.ofChange marginOppositeSpec)

/-- ITS FALSE NEIGHBOUR: 'it returns false'. Refute it at one input. -/
def marginOppositeWrong : ChangeSpec := { name := "marginOpposite", fn := fun _ => fun
  | [d] => { results := [.lit (.bool false)], args := [d] }
  | _ => none }
def MarginOppositeWrongFalsely : Prop := marginOppositeRow.holds Try.pinned (OpenSpec.ofChange marginOppositeWrong)

/- THE SECOND FORM. 'bulk': how many values and letters a reading holds, each counted each time it is reached (what is shared counts as often as it is met; a slice's spare places count too). A statement '..UptoSaid' is the law's where the arguments, and the package variables that the reading takes, are together of bulk at most 1048576: NARROWER than '..Said'. Prove '..Said' where nothing that the law and all that it calls make is longer than what came in: it says more and counts as full. Else prove '..UptoSaid'. A law counts once. -/
mutual
def uptoBulk {H : Type} : DataW H → Nat
  | .lit (.string bytes) => bytes.length + 1
  | .lit _ => 1
  | .nil => 1
  | .ptr d => uptoBulk d + 1
  | .slice elems spare => uptoBulkAll elems + uptoBulkAll spare + 1
  | .agg parts => uptoBulkAll parts + 1
  | .iface _ d => uptoBulk d + 1
  | .map entries => uptoBulkEntries entries + 1
  | .held _ => 1
def uptoBulkAll {H : Type} : List (DataW H) → Nat
  | [] => 0
  | d :: r => uptoBulk d + uptoBulkAll r
def uptoBulkEntries {H : Type} : List (Lit × DataW H) → Nat
  | [] => 0
  | x :: r => uptoBulkEntry x + uptoBulkEntries r
def uptoBulkEntry {H : Type} : Lit × DataW H → Nat
  | (.string bytes, d) => bytes.length + uptoBulk d + 1
  | (_, d) => uptoBulk d + 1
 end
def uptoSmall : (H : Type) → List (DataW H) → Bool := fun _ ds => decide (uptoBulkAll ds ≤ 1048576)
def OpenSpec.upto (s : _root_.Go.ChangeSpec) : _root_.Go.OpenSpec := { _root_.Go.OpenSpec.ofChange s with cond := some uptoSmall }

/-- 'windowpanelaw13.MarginJoins', WHERE WHAT IT READS IS OF BULK AT MOST 1048576: true; the input reads as it did. -/
def marginJoinsUptoRow : OpenClaim := { program := "ytjnfbnngpcnffaa", sum := "21fbefe7950c562fe71dc5652802a49dd1ae0bb8848210427b9d16786d1fd60b", func := "windowpane/windowpanelaw13.MarginJoins", spec := "marginJoins", apart := false, narrowed := true }
def MarginJoinsUptoSaid : Prop := marginJoinsUptoRow.holds Try.pinned (OpenSpec.upto marginJoinsSpec)

/-- 'windowpanelaw13.MarginOrder', WHERE WHAT IT READS IS OF BULK AT MOST 1048576: true; the input reads as it did. -/
def marginOrderUptoRow : OpenClaim := { program := "ytjnfbnngpcnffaa", sum := "21fbefe7950c562fe71dc5652802a49dd1ae0bb8848210427b9d16786d1fd60b", func := "windowpane/windowpanelaw13.MarginOrder", spec := "marginOrder", apart := false, narrowed := true }
def MarginOrderUptoSaid : Prop := marginOrderUptoRow.holds Try.pinned (OpenSpec.upto marginOrderSpec)

/-- 'windowpanelaw13.MarginComes', WHERE WHAT IT READS IS OF BULK AT MOST 1048576: true; the input reads as it did. -/
def marginComesUptoRow : OpenClaim := { program := "ytjnfbnngpcnffaa", sum := "21fbefe7950c562fe71dc5652802a49dd1ae0bb8848210427b9d16786d1fd60b", func := "windowpane/windowpanelaw13.MarginComes", spec := "marginComes", apart := false, narrowed := true }
def MarginComesUptoSaid : Prop := marginComesUptoRow.holds Try.pinned (OpenSpec.upto marginComesSpec)

/-- 'windowpanelaw13.MarginMore', WHERE WHAT IT READS IS OF BULK AT MOST 1048576: true; the input reads as it did. -/
def marginMoreUptoRow : OpenClaim := { program := "ytjnfbnngpcnffaa", sum := "21fbefe7950c562fe71dc5652802a49dd1ae0bb8848210427b9d16786d1fd60b", func := "windowpane/windowpanelaw13.MarginMore", spec := "marginMore", apart := false, narrowed := true }
def MarginMoreUptoSaid : Prop := marginMoreUptoRow.holds Try.pinned (OpenSpec.upto marginMoreSpec)

/-- 'windowpanelaw13.MarginOpposite', WHERE WHAT IT READS IS OF BULK AT MOST 1048576: true; the input reads as it did. -/
def marginOppositeUptoRow : OpenClaim := { program := "ytjnfbnngpcnffaa", sum := "21fbefe7950c562fe71dc5652802a49dd1ae0bb8848210427b9d16786d1fd60b", func := "windowpane/windowpanelaw13.MarginOpposite", spec := "marginOpposite", apart := false, narrowed := true }
def MarginOppositeUptoSaid : Prop := marginOppositeUptoRow.holds Try.pinned (OpenSpec.upto marginOppositeSpec)

end Rows
end Go.Proofs.Ytjnfbnngpcnffaa
