/-
  What a length comes to, and a size as that of its content: style.Resolve, content, limits, and the document's.
-/
import Derived.Test.YtdadlhkbngopaaaStyleMay
import Derived.Test.YtdadlhkbngopaaaPart
import Derived.LoopN
import Derived.WalkLawsBesides
namespace Go.Proofs.Ytdadlhkbngopaaa
open Go.RowKit

/-- a number, whether it is one, an error's number -/
abbrev Told3 := Int × Bool × Int
def resolveR (l : RL) (x : Int) : Told3 :=
  if l.kind = 1 then (if Fit l.n then (l.n, true, 0) else (0, false, 10))
  else if l.kind = 2 then ((partRes l.n x).1, decide ((partRes l.n x).2 = 0), (partRes l.n x).2) else (0, false, 0)
theorem partRes_fit {n x : Int} (h : (partRes n x).2 = 0) : Fit (partRes n x).1 := by
  unfold partRes pair at *
  split
  · simp_all
  · split
    · split
      · assumption
      · simp_all
    · simp_all
theorem partRes_err (n x : Int) : (partRes n x).2 = 0 ∨ (partRes n x).1 = 0 ∧ ((partRes n x).2 = 2 ∨ (partRes n x).2 = 10) := by
  unfold partRes pair
  split
  · exact .inr ⟨rfl, .inl rfl⟩
  · split
    · split
      · exact .inl rfl
      · exact .inr ⟨rfl, .inr rfl⟩
    · exact .inr ⟨rfl, .inr rfl⟩
theorem resolve_yes {l : RL} {x : Int} (h : (resolveR l x).2.1 = true) : Fit (resolveR l x).1 ∧ (resolveR l x).2.2 = 0 := by
  unfold resolveR at *
  by_cases h1 : l.kind = 1
  · rw [if_pos h1] at h ⊢
    by_cases h2 : Fit l.n
    · rw [if_pos h2]; exact ⟨h2, rfl⟩
    · rw [if_neg h2] at h; cases h
  · rw [if_neg h1] at h ⊢
    by_cases h2 : l.kind = 2
    · rw [if_pos h2] at h ⊢
      have h3 : (partRes l.n x).2 = 0 := by simpa using h
      exact ⟨partRes_fit h3, h3⟩
    · rw [if_neg h2] at h; cases h
theorem resolve_no {l : RL} {x : Int} (h : (resolveR l x).2.1 = false) : (resolveR l x).1 = 0 := by
  unfold resolveR at *
  by_cases h1 : l.kind = 1
  · rw [if_pos h1] at h ⊢
    by_cases h2 : Fit l.n
    · rw [if_pos h2] at h; cases h
    · rw [if_neg h2]
  · rw [if_neg h1] at h ⊢
    by_cases h2 : l.kind = 2
    · rw [if_pos h2] at h ⊢
      have h3 : ¬ (partRes l.n x).2 = 0 := by simpa using h
      rcases partRes_err l.n x with h4 | h4
      · exact absurd h4 h3
      · exact h4.1
    · rw [if_neg h2]
theorem ret_told {n : Int} {b : Bool} {e : Int} {p : Told3} (h : p = (n, b, e)) : Ending.returned (.tuple #[.int .i64 n, .bool b, .int .i64 e]) = .returned (.tuple #[.int .i64 p.1, .bool p.2.1, .int .i64 p.2.2]) := by rw [h]

theorem resolve_any (K N x : Int) (hl : RL.ok ⟨K, N⟩) (hx : Big x) (w : World) (p : Told3) (hp : resolveR ⟨K, N⟩ x = p) :
    Calls Try.prog 20 #[.agg #[.int .u8 K, .int .i64 N], .int .i64 x] w fun e w' => e = .returned (.tuple #[.int .i64 p.1, .bool p.2.1, .int .i64 p.2.2]) ∧ Below w.heap.size w w' := by
  have I : Hid (∀ (W : World) (H : Nat) (t : TypeId), W.heap.size = H → Ints (W.alloc (.cells #[.int .i64 N] t)) (some ⟨H, 0, none⟩) 1 (fun _ => N)) := Lib.hid (fun W H t h => by subst h; exact Ints.one W N hl.n t)
  have P0 := Lib.hid (resolveR.eq_1 ⟨K, N⟩ x)
  have HP := Lib.hid hp
  have HX := Lib.hid hx
  clear hx hp
  obtain ⟨⟨k0, k1⟩, n0, n1⟩ := hl
  dsimp only at k0 k1 n0 n1
  by_cases h1 : K = 1
  · have e1 : (K == 1) = true := by simpa using h1
    have H1 := Lib.hid h1
    clear h1
    by_cases h2 : Fit N
    · have D : Hid (allFit (fun _ => N) 1 = true) := Lib.hid (by simp [allFit, h2])
      have Q : Hid (p = (N, true, 0)) := Lib.hid (by rw [← HP.out, P0.out, if_pos H1.out, if_pos h2])
      clear h2
      go_enter Try.func20, Try.ntmps20
      go_wp2_with fail
      refine (fits_any _ _ _ (fun _ => N) _ (I.out _ _ _ (by simp)) (by omega) true D.out).mono ?_
      rintro e w' ⟨rfl, rfl⟩
      go_wp2_with fail
      go_ret3
      exact ⟨ret_told Q.out, ((Below.refl _ _).alloc (Nat.le_refl _) _).alloc (by simp) _⟩
    · have D : Hid (allFit (fun _ => N) 1 = false) := Lib.hid (by simp [allFit, h2])
      have Q : Hid (p = (0, false, 10)) := Lib.hid (by rw [← HP.out, P0.out, if_pos H1.out, if_neg h2])
      clear h2
      go_enter Try.func20, Try.ntmps20
      go_wp2_with fail
      refine (fits_any _ _ _ (fun _ => N) _ (I.out _ _ _ (by simp)) (by omega) false D.out).mono ?_
      rintro e w' ⟨rfl, rfl⟩
      go_wp2_with fail
      go_ret3
      exact ⟨ret_told Q.out, ((Below.refl _ _).alloc (Nat.le_refl _) _).alloc (by simp) _⟩
  · have e1 : (K == 1) = false := by simpa using h1
    have H1 := Lib.hid h1
    clear h1
    by_cases h2 : K = 2
    · have e2 : (K == 2) = true := by simpa using h2
      have Q : Hid (p = ((partRes N x).1, decide ((partRes N x).2 = 0), (partRes N x).2)) := Lib.hid (by rw [← HP.out, P0.out, if_neg H1.out, if_pos h2])
      clear h2
      obtain ⟨q, hq⟩ : ∃ q, partRes N x = q := ⟨_, rfl⟩
      rw [hq] at Q
      have C := Lib.hid (fun W => part_any N x HX.out W q hq)
      clear hq
      obtain ⟨m, er⟩ := q
      dsimp only at C Q
      by_cases h3 : er = 0
      all_goals
        have E3 : (er == 0) = decide (er = 0) := rfl
        have E4 := Lib.hid h3
        first
          | rw [decide_eq_true h3] at E3 Q
          | rw [decide_eq_false h3] at E3 Q
        clear h3
        go_enter Try.func20, Try.ntmps20
        go_wp2_with fail
        refine (C.out _).mono ?_
        rintro e w1 ⟨rfl, hb1⟩
        have B1 : Hid (Below w.heap.size w w1) := Lib.hid (((Below.refl w.heap.size w).alloc (Nat.le_refl _) _).trans (hb1.mono (by simp)))
        clear hb1
        go_wp2_with fail
        go_ret3
        exact ⟨ret_told Q.out, B1.out⟩
    · have e2 : (K == 2) = false := by simpa using h2
      have Q : Hid (p = (0, false, 0)) := Lib.hid (by rw [← HP.out, P0.out, if_neg H1.out, if_neg h2])
      clear h2
      go_enter Try.func20, Try.ntmps20
      go_wp2_with fail
      go_ret3
      exact ⟨ret_told Q.out, (Below.refl _ _).alloc (Nat.le_refl _) _⟩
theorem refResolve_any (K N x : Int) (hl : RL.ok ⟨K, N⟩) (w : World) (p : Told3) (hp : resolveR ⟨K, N⟩ x = p) :
    Calls Try.prog 26 #[.agg #[.int .u8 K, .int .i64 N], .int .i64 x] w fun e w' => e = .returned (.tuple #[.int .i64 p.1, .bool p.2.1, .int .i64 p.2.2]) ∧ Below w.heap.size w w' := by
  have P0 := Lib.hid (resolveR.eq_1 ⟨K, N⟩ x)
  have HP := Lib.hid hp
  clear hp
  obtain ⟨⟨k0, k1⟩, n0, n1⟩ := hl
  dsimp only at k0 k1 n0 n1
  by_cases h1 : K = 1
  · have e1 : (K == 1) = true := by simpa using h1
    have H1 := Lib.hid h1
    clear h1
    by_cases h2 : Fit N
    · have D : Hid (decide (Fit N) = true) := Lib.hid (by simpa using h2)
      have Q : Hid (p = (N, true, 0)) := Lib.hid (by rw [← HP.out, P0.out, if_pos H1.out, if_pos h2])
      clear h2
      go_enter Try.func26, Try.ntmps26
      go_wp2_with fail
      refine (refFits_any _ _ true D.out).mono ?_
      rintro e w' ⟨rfl, rfl⟩
      go_wp2_with fail
      go_ret3
      exact ⟨ret_told Q.out, (Below.refl _ _).alloc (Nat.le_refl _) _⟩
    · have D : Hid (decide (Fit N) = false) := Lib.hid (by simpa using h2)
      have Q : Hid (p = (0, false, 10)) := Lib.hid (by rw [← HP.out, P0.out, if_pos H1.out, if_neg h2])
      clear h2
      go_enter Try.func26, Try.ntmps26
      go_wp2_with fail
      refine (refFits_any _ _ false D.out).mono ?_
      rintro e w' ⟨rfl, rfl⟩
      go_wp2_with fail
      go_ret3
      exact ⟨ret_told Q.out, (Below.refl _ _).alloc (Nat.le_refl _) _⟩
  · have e1 : (K == 1) = false := by simpa using h1
    have H1 := Lib.hid h1
    clear h1
    by_cases h2 : K = 2
    · have e2 : (K == 2) = true := by simpa using h2
      have Q : Hid (p = ((partRes N x).1, decide ((partRes N x).2 = 0), (partRes N x).2)) := Lib.hid (by rw [← HP.out, P0.out, if_neg H1.out, if_pos h2])
      clear h2
      obtain ⟨q, hq⟩ : ∃ q, partRes N x = q := ⟨_, rfl⟩
      rw [hq] at Q
      have C := Lib.hid (fun W => refPart_any N x W q hq)
      clear hq
      obtain ⟨m, er⟩ := q
      dsimp only at C Q
      by_cases h3 : er = 0
      all_goals
        have E3 : (er == 0) = decide (er = 0) := rfl
        have E4 := Lib.hid h3
        first
          | rw [decide_eq_true h3] at E3 Q
          | rw [decide_eq_false h3] at E3 Q
        clear h3
        go_enter Try.func26, Try.ntmps26
        go_wp2_with fail
        refine (C.out _).mono ?_
        rintro e w1 ⟨rfl, rfl⟩
        go_wp2_with fail
        go_ret3
        exact ⟨ret_told Q.out, (Below.refl _ _).alloc (Nat.le_refl _) _⟩
    · have e2 : (K == 2) = false := by simpa using h2
      have Q : Hid (p = (0, false, 0)) := Lib.hid (by rw [← HP.out, P0.out, if_neg H1.out, if_neg h2])
      clear h2
      go_enter Try.func26, Try.ntmps26
      go_wp2_with fail
      go_ret3
      exact ⟨ret_told Q.out, (Below.refl _ _).alloc (Nat.le_refl _) _⟩
end Go.Proofs.Ytdadlhkbngopaaa
