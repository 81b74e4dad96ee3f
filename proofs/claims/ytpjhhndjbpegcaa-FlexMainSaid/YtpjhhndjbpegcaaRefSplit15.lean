/-
  The document's Split, and Same over lines. What is asked of Split.
-/
import Derived.Test.YtpjhhndjbpegcaaRows15
import Derived.Test.YtpjhhndjbpegcaaLong15
import Derived.Deep.Cut
import Derived.Deep.QuietTactic
import Derived.BigQuiet
namespace Go.Proofs.Ytpjhhndjbpegcaa
open Go.RowKit

def castL (l : List (Nat × Nat)) : List Mg := l.map (fun x => ((x.1 : Int), (x.2 : Int)))
theorem castL_len (l : List (Nat × Nat)) : (castL l).length = l.length := by simp [castL]
theorem new_line (W : World) (T : TypeId) (a b : Int) : LnIn15 (W.alloc (.cells #[.int .i64 a, .int .i64 b] T)) (.slice (some ⟨W.heap.size, 0, none⟩) 1 1) [(a, b)] := lns_new15 [(a, b)] (by simp) T
theorem longF_part (f : Nat → Int) (gap : Int) {i j : Nat} (h : i < j) : gap * (((j - i : Nat) : Int) - 1) + sumQ (fun k => f (i + k)) (j - i) = longF f gap i j := by
  unfold longF
  rw [sumF_sumQ, show ((j - i : Nat) : Int) = (j : Int) - i by omega]
end Go.Proofs.Ytpjhhndjbpegcaa
