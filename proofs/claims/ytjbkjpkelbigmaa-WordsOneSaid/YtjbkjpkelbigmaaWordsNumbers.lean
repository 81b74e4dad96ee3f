/-
  The law WordsNumbers: any number's word, its size, any integer folded, any number unfolded are what the document says.
-/
import Derived.Test.YtjbkjpkelbigmaaSize
import Derived.Test.YtjbkjpkelbigmaaFold
import Derived.Test.YtjbkjpkelbigmaaSameBytes
namespace Go.Proofs.Ytjbkjpkelbigmaa
open Go.RowKit

theorem wf_u64 {a : Int} (h : (Lit.int .u64 a).wf = true) : ∃ n : Nat, a = (n : Nat) ∧ n < 18446744073709551616 := by
  have h1 : IntKind.u64.min = 0 := by decide
  have h2 : IntKind.u64.max = 18446744073709551615 := by decide
  simp only [Lit.wf, h1, h2, Bool.and_eq_true, decide_eq_true_eq] at h
  exact ⟨a.toNat, by omega, by omega⟩
theorem wf_i64 {a : Int} (h : (Lit.int .i64 a).wf = true) : -9223372036854775808 ≤ a ∧ a ≤ 9223372036854775807 := by
  have h1 : IntKind.i64.min = -9223372036854775808 := by decide
  have h2 : IntKind.i64.max = 9223372036854775807 := by decide
  simpa only [Lit.wf, h1, h2, Bool.and_eq_true, decide_eq_true_eq] using h

set_option maxRecDepth 100000 in
set_option maxHeartbeats 2000000 in
theorem walkWordsNumbers (a0 : Int) (a1 : Int) (w0 : (Lit.int .u64 a0).wf = true) (w1 : (Lit.int .i64 a1).wf = true) (w : World) :
    Calls Try.prog 3 #[.int .u64 a0, .int .i64 a1] w fun e w' => e = .returned (.bool true) ∧ Below w.heap.size w w' := by
  obtain ⟨n, rfl, hn⟩ := wf_u64 w0
  obtain ⟨hi0, hi1⟩ := wf_i64 w1
  have HN := Lib.hid hn; have HI0 := Lib.hid hi0; have HI1 := Lib.hid hi1
  have HT := Lib.hid (word_ten hn)
  clear w0 w1 hn hi0 hi1
  go_enter Try.func3, Try.ntmps3
  go_wp2_with fail
  refine (refPut_any n HN.out _).mono ?_
  rintro e w1 ⟨A, c, rfl, h1, h2, h3, hb, ho, hbel⟩
  have J := Lib.hid hb; have K := Lib.hid hbel
  clear hb ho hbel h1 h2 h3
  go_wp2_with fail
  refine (put_any n HN.out _).mono ?_
  rintro e w2 ⟨B, d, rfl, h1, h2, h3, hb, ho, hbel⟩
  have J2 := Lib.hid hb; have J1 := Lib.hid (J.out.below hbel); have K2 := Lib.hid (K.out.trans (hbel.mono K.out.size))
  clear hb ho hbel h1 h2 h3 J K
  go_wp2_with fail
  refine (same_any B A _ _ d c _ _ _ J2.out J1.out (by have := HT.out; omega) (by have := HT.out; omega) true (by simp)).mono ?_
  rintro e w3 ⟨rfl, hd⟩
  have K3 := Lib.hid (K2.out.trans (hd.below.mono K2.out.size))
  clear hd J1 J2 K2
  go_wp2_with fail
  refine (size_any n HN.out _).mono ?_
  rintro e w4 ⟨rfl, hbel⟩
  have K4 := Lib.hid (K3.out.trans (hbel.mono K3.out.size))
  clear hbel K3
  go_wp2_with fail
  refine (fold_any a1 HI0.out HI1.out _).mono ?_
  rintro e w5 ⟨rfl, rfl⟩
  go_wp2_with fail
  refine (refFold_any a1 HI0.out HI1.out _).mono ?_
  rintro e w5 ⟨rfl, rfl⟩
  go_wp2_with fail
  refine (unfold_any n HN.out _).mono ?_
  rintro e w5 ⟨rfl, rfl⟩
  go_wp2_with fail
  refine (refUnfold_any n HN.out _).mono ?_
  rintro e w5 ⟨rfl, rfl⟩
  go_wp2
  go_ret
  exact ⟨rfl, K4.out⟩
end Go.Proofs.Ytjbkjpkelbigmaa
