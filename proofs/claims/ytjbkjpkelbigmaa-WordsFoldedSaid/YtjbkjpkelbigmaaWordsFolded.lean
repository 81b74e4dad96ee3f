/-
  The law WordsFolded: an integer is unfolded as it was, a number folded back; what is farther from 0 on the same side is folded to a greater number; the side is told by the last bit.
-/
import Derived.Test.YtjbkjpkelbigmaaAwakeW
import Derived.Test.YtjbkjpkelbigmaaWordsNumbers
namespace Go.Proofs.Ytjbkjpkelbigmaa
open Go.RowKit

theorem foldN_lt {i : Int} (h0 : -9223372036854775808 ≤ i) (h1 : i ≤ 9223372036854775807) : foldN i < 18446744073709551616 := by unfold foldN; split <;> omega
theorem unfoldI_in {n : Nat} (h : n < 18446744073709551616) : -9223372036854775808 ≤ unfoldI n ∧ unfoldI n ≤ 9223372036854775807 := by unfold unfoldI; split <;> omega
theorem unfold_back (i : Int) (X : Nat) (hX : foldN i = X) (h0 : -9223372036854775808 ≤ i) (h1 : i ≤ 9223372036854775807) (w : World) :
    Calls Try.prog 15 #[.int .u64 (X : Nat)] w fun e w' => e = .returned (.int .i64 i) ∧ w = w' := by
  subst hX
  have := unfold_any (foldN i) (foldN_lt h0 h1) w
  rw [unfold_fold] at this; exact this
theorem fold_back (n : Nat) (hn : n < 18446744073709551616) (w : World) :
    Calls Try.prog 13 #[.int .i64 (unfoldI n)] w fun e w' => e = .returned (.int .u64 (n : Nat)) ∧ w = w' := by
  have h := unfoldI_in hn
  have := fold_any (unfoldI n) h.1 h.2 w
  rw [fold_unfold] at this; exact this
theorem fold_as (i : Int) (X : Nat) (hX : foldN i = X) (h0 : -9223372036854775808 ≤ i) (h1 : i ≤ 9223372036854775807) (w : World) :
    Calls Try.prog 13 #[.int .i64 i] w fun e w' => e = .returned (.int .u64 (X : Nat)) ∧ w = w' := by
  subst hX; exact fold_any i h0 h1 w

set_option maxRecDepth 100000 in
set_option maxHeartbeats 2000000 in
/-- the walk, with what the tests come to -/
theorem folded_walk (i k : Int) (n X Y : Nat) (hX : foldN i = X) (hY : foldN k = Y) (hi : -9223372036854775808 ≤ i ∧ i ≤ 9223372036854775807) (hk : -9223372036854775808 ≤ k ∧ k ≤ 9223372036854775807) (hn : n < 18446744073709551616)
    (si sk bx bi bk : Bool) (h1 : decide (i < 0) = si) (h2 : decide (k < 0) = sk) (h3 : ((X : Int) % 2 == 1) = si) (h4 : si ≠ sk → ((X : Int) != (Y : Int)) = true)
    (h5 : decide (X < Y) = bx) (h6 : decide (k < i) = bi) (h7 : decide (i < k) = bk) (h8 : si = true → sk = true → bx = bi) (h9 : si = false → sk = false → bx = bk) (w : World) :
    Calls Try.prog 7 #[.int .i64 i, .int .i64 k, .int .u64 (n : Nat)] w fun e w' => e = .returned (.bool true) ∧ Below w.heap.size w w' := by
  have HX := Lib.hid hX; have HY := Lib.hid hY; have HI := Lib.hid hi; have HK := Lib.hid hk; have HN := Lib.hid hn
  have hx0 : (0 : Int) ≤ X := by omega
  have UB := Lib.hid (unfoldI_in hn)
  clear hX hY hi hk hn
  cases si <;> cases sk <;> (try have h4' := h4 (by decide)) <;> (try have h8' := h8 rfl rfl) <;> (try have h9' := h9 rfl rfl) <;> clear h4 h8 h9 <;> (try subst h8') <;> (try subst h9')
  all_goals
    go_enter Try.func7, Try.ntmps7
    go_wp2_with fail
    refine (awake_any _).mono ?_
    rintro e w1 ⟨rfl, hb⟩
    have K := Lib.hid hb; clear hb
    go_wp2_with fail
    refine (fold_as i X HX.out HI.out.1 HI.out.2 _).mono ?_
    rintro e w2 ⟨rfl, rfl⟩
    go_wp2_with fail
    refine (fold_as k Y HY.out HK.out.1 HK.out.2 _).mono ?_
    rintro e w2 ⟨rfl, rfl⟩
    go_wp2_with fail
    refine (unfold_back i X HX.out HI.out.1 HI.out.2 _).mono ?_
    rintro e w2 ⟨rfl, rfl⟩
    go_wp2_with fail
    refine (unfold_any n HN.out _).mono ?_
    rintro e w2 ⟨rfl, rfl⟩
    go_wp2_with fail
    refine (fold_back n HN.out _).mono ?_
    rintro e w2 ⟨rfl, rfl⟩
    go_wp2
    go_ret
    exact ⟨by first | rfl | (simp [*]; done), K.out⟩

theorem walkWordsFolded (a0 : Int) (a1 : Int) (a2 : Int) (w0 : (Lit.int .i64 a0).wf = true) (w1 : (Lit.int .i64 a1).wf = true) (w2 : (Lit.int .u64 a2).wf = true) (w : World) :
    Calls Try.prog 7 #[.int .i64 a0, .int .i64 a1, .int .u64 a2] w fun e w' => e = .returned (.bool true) ∧ Below w.heap.size w w' := by
  obtain ⟨n, rfl, hn⟩ := wf_u64 w2
  have hi := wf_i64 w0
  have hk := wf_i64 w1
  refine folded_walk a0 a1 n (foldN a0) (foldN a1) rfl rfl hi hk hn (decide (a0 < 0)) (decide (a1 < 0)) _ _ _ rfl rfl ?_ ?_ rfl rfl rfl ?_ ?_ w
  · rw [Bool.eq_iff_iff]; simp only [beq_iff_eq, decide_eq_true_eq]; unfold foldN; split <;> omega
  · intro h; simp only [bne_iff_ne, ne_eq]; simp only [ne_eq, decide_eq_decide] at h; unfold foldN; split <;> split <;> omega
  · intro h h'; simp only [decide_eq_true_eq] at h h'; rw [decide_eq_decide]; unfold foldN; rw [if_neg (by omega), if_neg (by omega)]; omega
  · intro h h'; simp only [decide_eq_false_iff_not] at h h'; rw [decide_eq_decide]; unfold foldN; rw [if_pos (by omega), if_pos (by omega)]; omega
end Go.Proofs.Ytjbkjpkelbigmaa
