/-
  The law FixedPairs: of whatever numbers, what Sub, Mul, Part and Clamp answer is what the document's answer.
-/
import Derived.Test.YtcipphmijdibjaaPart
namespace Go.Proofs.Ytcipphmijdibjaa
open Go.RowKit

theorem big_of_wf {x : Int} (h : (Lit.int .i64 x).wf = true) : Big x := by
  have h1 : IntKind.i64.min = -9223372036854775808 := by decide
  have h2 : IntKind.i64.max = 9223372036854775807 := by decide
  simp only [Lit.wf, h1, h2, Bool.and_eq_true, decide_eq_true_eq] at h
  exact h
theorem walkFixedPairs (a b c : Int) (ha : (Lit.int .i64 a).wf = true) (hb : (Lit.int .i64 b).wf = true) (_hc : (Lit.int .i64 c).wf = true) (w : World) :
    Calls Try.prog 4 #[.int .i64 a, .int .i64 b, .int .i64 c] w fun e w' => e = .returned (.bool true) ∧ Below w.heap.size w w' := by
  have A := Lib.hid (big_of_wf ha)
  have B := Lib.hid (big_of_wf hb)
  clear ha hb _hc
  obtain ⟨p, hp⟩ : ∃ p, subRes a b = p := ⟨_, rfl⟩
  obtain ⟨q, hq⟩ : ∃ p, mulRes a b = p := ⟨_, rfl⟩
  obtain ⟨r, hr⟩ : ∃ p, partRes a b = p := ⟨_, rfl⟩
  obtain ⟨x, hx⟩ : ∃ p, clampV a b c = p := ⟨_, rfl⟩
  obtain ⟨p1, p2⟩ := p
  obtain ⟨q1, q2⟩ := q
  obtain ⟨r1, r2⟩ := r
  have P := Lib.hid hp
  have Q := Lib.hid hq
  have R := Lib.hid hr
  have X := Lib.hid hx
  clear hp hq hr hx
  go_enter Try.func4, Try.ntmps4
  go_wp2_with fail
  refine (sub_any a b A.out B.out _ _ P.out).mono ?_
  rintro e w1 ⟨rfl, K1⟩
  have L1 := Lib.hid K1
  clear K1
  go_wp2_with fail
  refine (refSub_any a b _ _ P.out).mono ?_
  rintro e w2 ⟨rfl, K2⟩
  have L2 := Lib.hid (L1.out.trans (K2.mono L1.out.size))
  clear K2 L1
  go_wp2_with fail
  refine (mul_any a b A.out B.out _ _ Q.out).mono ?_
  rintro e w3 ⟨rfl, K3⟩
  have L3 := Lib.hid (L2.out.trans (K3.mono L2.out.size))
  clear K3 L2
  go_wp2_with fail
  refine (refMul_any a b _ _ Q.out).mono ?_
  rintro e w4 ⟨rfl, rfl⟩
  go_wp2_with fail
  refine (part_any a b B.out _ _ R.out).mono ?_
  rintro e w5 ⟨rfl, K5⟩
  have L5 := Lib.hid (L3.out.trans (K5.mono L3.out.size))
  clear K5 L3
  go_wp2_with fail
  refine (refPart_any a b _ _ R.out).mono ?_
  rintro e w6 ⟨rfl, rfl⟩
  go_wp2_with fail
  refine (clamp_any a b c _ _ X.out).mono ?_
  rintro e w7 ⟨rfl, rfl⟩
  go_wp2_with fail
  refine (refClamp_any a b c _ _ X.out).mono ?_
  rintro e w7 ⟨rfl, rfl⟩
  go_wp2_with fail
  go_ret
  exact ⟨rfl, L5.out⟩
end Go.Proofs.Ytcipphmijdibjaa
