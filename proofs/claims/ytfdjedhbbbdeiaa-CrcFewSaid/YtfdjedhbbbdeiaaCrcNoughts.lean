/-
  The law CrcNoughts: of noughts just four are a datagram with its sum.
-/
import Derived.Test.YtfdjedhbbbdeiaaAwakeC
namespace Go.Proofs.Ytfdjedhbbbdeiaa
open Go.RowKit

theorem wf_i64 {a : Int} (h : (Lit.int .i64 a).wf = true) : -9223372036854775808 ≤ a ∧ a ≤ 9223372036854775807 := by
  have h1 : IntKind.i64.min = -9223372036854775808 := by decide
  have h2 : IntKind.i64.max = 9223372036854775807 := by decide
  simpa only [Lit.wf, h1, h2, Bool.and_eq_true, decide_eq_true_eq] using h

set_option maxRecDepth 100000 in
set_option maxHeartbeats 2000000 in
theorem walkCrcNoughts (a0 : Int) (w0 : (Lit.int .i64 a0).wf = true) (w : World) :
    Calls Try.prog 9 #[.int .i64 a0] w fun e w' => e = .returned (.bool true) ∧ Below w.heap.size w w' := by
  obtain ⟨b1, b2⟩ := wf_i64 w0
  clear w0
  by_cases hn : 0 ≤ a0 ∧ a0 ≤ 132
  · obtain ⟨n, rfl⟩ : ∃ n : Nat, a0 = n := ⟨a0.toNat, by omega⟩
    obtain ⟨h1, h2⟩ := hn
    have d1 : ¬ ((n : Int) < 0) := by omega
    have d2 : ¬ ((132 : Int) < n) := by omega
    go_enter Try.func9, Try.ntmps9
    go_wp2_with fail
    refine (awake_any w).mono ?_
    rintro e w1 ⟨rfl, hb⟩
    have K1 := Lib.hid hb
    clear hb
    obtain ⟨w2, hm, ho, hb⟩ := made_noughts w1 n (by omega)
    have N := Lib.hid (whole_noughts n (by omega) _ w2 ho.bytes)
    have K2 := Lib.hid (K1.out.trans (hb.mono K1.out.size))
    clear ho hb K1
    have e4 : decide ((n : Int) = 4) = decide (n = 4) := by
      by_cases h : n = 4
      · subst h; rfl
      · rw [decide_eq_false h, decide_eq_false (by omega)]
    have e5 : (((n : Nat) : Int) == 4) = decide (n = 4) := by rw [← e4]; rfl
    generalize decide (n = 4) = q at N e4 e5
    go_wp2_with fail
    refine N.out.mono ?_
    rintro e w3 ⟨rfl, hb⟩
    have K3 := Lib.hid (K2.out.trans (hb.mono K2.out.size))
    clear hb K2 N
    go_wp2
    go_ret
    exact ⟨rfl, K3.out⟩
  · by_cases h0 : a0 < 0
    · go_enter Try.func9, Try.ntmps9
      go_wp2_with fail
      refine (awake_any w).mono ?_
      rintro e w1 ⟨rfl, hb⟩
      go_wp2
      go_ret
      exact ⟨rfl, hb⟩
    · have d2 : (132 : Int) < a0 := by omega
      go_enter Try.func9, Try.ntmps9
      go_wp2_with fail
      refine (awake_any w).mono ?_
      rintro e w1 ⟨rfl, hb⟩
      go_wp2
      go_ret
      exact ⟨rfl, hb⟩
end Go.Proofs.Ytfdjedhbbbdeiaa
