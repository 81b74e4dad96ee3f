/-
  The law FixedBetween: what is brought between two numbers lies there, and stays, if it lay there.
-/
import Derived.Test.YtcipphmijdibjaaAwake
namespace Go.Proofs.Ytcipphmijdibjaa
open Go.RowKit

set_option maxHeartbeats 1000000 in
theorem walkFixedBetween (n l m : Int) (_hn : (Lit.int .i64 n).wf = true) (_hl : (Lit.int .i64 l).wf = true) (_hm : (Lit.int .i64 m).wf = true) (w : World) :
    Calls Try.prog 11 #[.int .i64 n, .int .i64 l, .int .i64 m] w fun e w' => e = .returned (.bool true) ∧ Below w.heap.size w w' := by
  clear _hn _hl _hm
  by_cases h1 : m < l
  · have X : Hid (clampV n l m = l) := Lib.hid (by unfold clampV; omega)
    have hl : (l == l) = true := by simp
    go_enter Try.func11, Try.ntmps11
    go_wp2_with fail
    refine (awake_any _).mono ?_
    rintro e w1 ⟨rfl, hb⟩
    have B := Lib.hid hb
    clear hb
    go_wp2_with fail
    refine (clamp_any n l m _ _ X.out).mono ?_
    rintro e w2 ⟨rfl, rfl⟩
    go_wp2_with fail
    go_ret
    exact ⟨rfl, B.out⟩
  · obtain ⟨x, hx⟩ : ∃ x, x = clampV n l m := ⟨_, rfl⟩
    have x1 : l ≤ x := by rw [hx]; unfold clampV; omega
    have x2 : x ≤ m := by rw [hx]; unfold clampV; omega
    have X2 : Hid (clampV x l m = x) := Lib.hid (by unfold clampV; omega)
    have xx : (x == x) = true := by simp
    by_cases c1 : n < l
    · have x3 : x ≤ l := by rw [hx]; unfold clampV; omega
      have e1 : (x == l) = true := by simp; omega
      have X := Lib.hid hx.symm
      clear hx
      have c2 : ¬ m < n := by omega
      have c3 : ¬ l ≤ n := by omega
      have c4 : n ≤ m := by omega
      by_cases e2 : x = n
      · omega
      · go_enter Try.func11, Try.ntmps11
        go_wp2_with fail
        refine (awake_any _).mono ?_
        rintro e w1 ⟨rfl, hb⟩
        have B := Lib.hid hb
        clear hb
        go_wp2_with fail
        refine (clamp_any n l m _ _ X.out).mono ?_
        rintro e w2 ⟨rfl, rfl⟩
        go_wp2_with fail
        refine (clamp_any x l m _ _ X2.out).mono ?_
        rintro e w2 ⟨rfl, rfl⟩
        go_wp2_with fail
        go_ret
        exact ⟨rfl, B.out⟩
    · by_cases c2 : m < n
      · have x3 : m ≤ x := by rw [hx]; unfold clampV; omega
        have e1 : (x == m) = true := by simp; omega
        have X := Lib.hid hx.symm
        clear hx
        have c3 : ¬ n ≤ m := by omega
        have c4 : l ≤ n := by omega
        go_enter Try.func11, Try.ntmps11
        go_wp2_with fail
        refine (awake_any _).mono ?_
        rintro e w1 ⟨rfl, hb⟩
        have B := Lib.hid hb
        clear hb
        go_wp2_with fail
        refine (clamp_any n l m _ _ X.out).mono ?_
        rintro e w2 ⟨rfl, rfl⟩
        go_wp2_with fail
        refine (clamp_any x l m _ _ X2.out).mono ?_
        rintro e w2 ⟨rfl, rfl⟩
        go_wp2_with fail
        go_ret
        exact ⟨rfl, B.out⟩
      · have e1 : (x == n) = true := by rw [hx]; unfold clampV; simp; omega
        have X := Lib.hid hx.symm
        clear hx
        have c3 : n ≤ m := by omega
        have c4 : l ≤ n := by omega
        go_enter Try.func11, Try.ntmps11
        go_wp2_with fail
        refine (awake_any _).mono ?_
        rintro e w1 ⟨rfl, hb⟩
        have B := Lib.hid hb
        clear hb
        go_wp2_with fail
        refine (clamp_any n l m _ _ X.out).mono ?_
        rintro e w2 ⟨rfl, rfl⟩
        go_wp2_with fail
        refine (clamp_any x l m _ _ X2.out).mono ?_
        rintro e w2 ⟨rfl, rfl⟩
        go_wp2_with fail
        go_ret
        exact ⟨rfl, B.out⟩
end Go.Proofs.Ytcipphmijdibjaa
