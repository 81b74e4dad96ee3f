/-
  The document's length, natural, within.
-/
import Derived.Test.YtdadlhkbngopaaaStyleEdges
namespace Go.Proofs.Ytdadlhkbngopaaa
open Go.RowKit

theorem natural_any (n m : Int) (w : World) (r : Bool) (hr : decide (0 ≤ n ∧ n ≤ m) = r) : Calls Try.prog 39 #[.int .i64 n, .int .i64 m] w fun e w' => e = .returned (.bool r) ∧ w = w' := by
  by_cases h1 : 0 ≤ n
  · by_cases h2 : n ≤ m
    · have R : Hid (r = true) := Lib.hid (by rw [← hr]; exact decide_eq_true ⟨h1, h2⟩)
      clear hr
      go_enter Try.func39, Try.ntmps39
      go_wp2
      go_ret
      exact ⟨by rw [R.out]; rfl, rfl⟩
    · have R : Hid (r = false) := Lib.hid (by rw [← hr]; exact decide_eq_false fun h => h2 h.2)
      clear hr
      go_enter Try.func39, Try.ntmps39
      go_wp2
      go_ret
      exact ⟨by rw [R.out]; rfl, rfl⟩
  · have R : Hid (r = false) := Lib.hid (by rw [← hr]; exact decide_eq_false fun h => h1 h.1)
    clear hr
    go_enter Try.func39, Try.ntmps39
    go_wp2
    go_ret
    exact ⟨by rw [R.out]; rfl, rfl⟩
theorem far_any (n m : Int) (hm : 0 ≤ m ∧ m ≤ 274877906944) (w : World) (r : Bool) (hr : decide (-m ≤ n ∧ n ≤ m) = r) : Calls Try.prog 40 #[.int .i64 n, .int .i64 m] w fun e w' => e = .returned (.bool r) ∧ w = w' := by
  obtain ⟨m0, m1⟩ := hm
  by_cases h1 : -m ≤ n
  · by_cases h2 : n ≤ m
    · have R : Hid (r = true) := Lib.hid (by rw [← hr]; exact decide_eq_true ⟨h1, h2⟩)
      clear hr
      go_enter Try.func40, Try.ntmps40
      go_wp2
      go_ret
      exact ⟨by rw [R.out]; rfl, rfl⟩
    · have R : Hid (r = false) := Lib.hid (by rw [← hr]; exact decide_eq_false fun h => h2 h.2)
      clear hr
      go_enter Try.func40, Try.ntmps40
      go_wp2
      go_ret
      exact ⟨by rw [R.out]; rfl, rfl⟩
  · have R : Hid (r = false) := Lib.hid (by rw [← hr]; exact decide_eq_false fun h => h1 h.1)
    clear hr
    go_enter Try.func40, Try.ntmps40
    go_wp2
    go_ret
    exact ⟨by rw [R.out]; rfl, rfl⟩
theorem refLength_at (K N : Int) (w : World) (hl : RL.ok ⟨K, N⟩) (r : Bool) (hr : lenB ⟨K, N⟩ 0 = r) :
    Calls Try.prog 38 #[.agg #[.int .u8 K, .int .i64 N]] w fun e w' => e = .returned (.bool r) ∧ Below w.heap.size w w' := by
  have R := Lib.hid (lenB_iff hr)
  clear hr
  obtain ⟨⟨k0, k1⟩, n0, n1⟩ := hl
  dsimp only at k0 k1 n0 n1
  have no : Hid (¬ LenMay ⟨K, N⟩ 0 → r = false) := Lib.hid (fun h => by rw [Bool.eq_false_iff]; exact fun e => h (R.out.1 e))
  by_cases h0 : K = 0
  · have e0 : (K == 0) = true := by simpa using h0
    have R1 : Hid ((N == 0) = r) := Lib.hid (by
      rw [Bool.eq_iff_iff, R.out]; unfold LenMay; subst h0; simp)
    clear h0
    go_enter Try.func38, Try.ntmps38
    go_wp2
    go_ret
    exact ⟨by rw [← R1.out]; rfl, (Below.refl _ _).alloc (Nat.le_refl _) _⟩
  · have e0 : (K == 0) = false := by simpa using h0
    by_cases h1 : K = 1
    · have e1 : (K == 1) = true := by simpa using h1
      by_cases g1 : 0 ≤ N
      · by_cases g2 : N ≤ 274877906944
        · have R1 : Hid (r = true) := Lib.hid (R.out.2 (.inr (.inl ⟨h1, g1, g2⟩)))
          clear h0 h1
          go_enter Try.func38, Try.ntmps38
          go_wp2
          go_ret
          exact ⟨by rw [R1.out]; rfl, (Below.refl _ _).alloc (Nat.le_refl _) _⟩
        · have R1 : Hid (r = false) := Lib.hid (no.out (by unfold LenMay; dsimp only; omega))
          clear h0 h1
          go_enter Try.func38, Try.ntmps38
          go_wp2
          go_ret
          exact ⟨by rw [R1.out]; rfl, (Below.refl _ _).alloc (Nat.le_refl _) _⟩
      · have R1 : Hid (r = false) := Lib.hid (no.out (by unfold LenMay; dsimp only; omega))
        clear h0 h1
        go_enter Try.func38, Try.ntmps38
        go_wp2
        go_ret
        exact ⟨by rw [R1.out]; rfl, (Below.refl _ _).alloc (Nat.le_refl _) _⟩
    · have e1 : (K == 1) = false := by simpa using h1
      by_cases h2 : K = 2
      · have e2 : (K == 2) = true := by simpa using h2
        by_cases g1 : 0 ≤ N
        · by_cases g2 : N ≤ 100000
          · have R1 : Hid (r = true) := Lib.hid (R.out.2 (.inr (.inr ⟨h2, g1, g2⟩)))
            clear h0 h1 h2
            go_enter Try.func38, Try.ntmps38
            go_wp2
            go_ret
            exact ⟨by rw [R1.out]; rfl, (Below.refl _ _).alloc (Nat.le_refl _) _⟩
          · have R1 : Hid (r = false) := Lib.hid (no.out (by unfold LenMay; dsimp only; omega))
            clear h0 h1 h2
            go_enter Try.func38, Try.ntmps38
            go_wp2
            go_ret
            exact ⟨by rw [R1.out]; rfl, (Below.refl _ _).alloc (Nat.le_refl _) _⟩
        · have R1 : Hid (r = false) := Lib.hid (no.out (by unfold LenMay; dsimp only; omega))
          clear h0 h1 h2
          go_enter Try.func38, Try.ntmps38
          go_wp2
          go_ret
          exact ⟨by rw [R1.out]; rfl, (Below.refl _ _).alloc (Nat.le_refl _) _⟩
      · have e2 : (K == 2) = false := by simpa using h2
        have R1 : Hid (r = false) := Lib.hid (no.out (by unfold LenMay; dsimp only; omega))
        clear h0 h1 h2
        go_enter Try.func38, Try.ntmps38
        go_wp2
        go_ret
        exact ⟨by rw [R1.out]; rfl, (Below.refl _ _).alloc (Nat.le_refl _) _⟩

set_option maxRecDepth 100000 in
set_option maxHeartbeats 2000000 in
theorem refEdges_any (s : RS) (hm : mayB s = true) (w : World) (x y : Int) (hx : acrossV s = x) (hy : upV s = y) :
    Calls Try.prog 23 #[.agg s.cells.toArray] w fun e w' => e = .returned (.tuple #[.int .i64 x, .int .i64 y]) ∧ Below w.heap.size w w' := by
  have BX := Box27.new w s.cells.toArray
  have B0 : Hid (Below w.heap.size w (w.alloc (.cells s.cells.toArray 27))) := Lib.hid ((Below.refl _ _).alloc (Nat.le_refl _) _)
  have h0 := may_pad hm (i := 0) (by omega)
  have h1 := may_pad hm (i := 1) (by omega)
  have h2 := may_pad hm (i := 2) (by omega)
  have h3 := may_pad hm (i := 3) (by omega)
  have g0 := may_bord hm (i := 0) (by omega)
  have g1 := may_bord hm (i := 1) (by omega)
  have g2 := may_bord hm (i := 2) (by omega)
  have g3 := may_bord hm (i := 3) (by omega)
  have c22 := BX.cell (k := 22) (v := .int .i64 (s.pad 0)) rfl
  have c23 := BX.cell (k := 23) (v := .int .i64 (s.pad 1)) rfl
  have c24 := BX.cell (k := 24) (v := .int .i64 (s.pad 2)) rfl
  have c25 := BX.cell (k := 25) (v := .int .i64 (s.pad 3)) rfl
  have c26 := BX.cell (k := 26) (v := .int .i64 (s.bord 0)) rfl
  have c27 := BX.cell (k := 27) (v := .int .i64 (s.bord 1)) rfl
  have c28 := BX.cell (k := 28) (v := .int .i64 (s.bord 2)) rfl
  have c29 := BX.cell (k := 29) (v := .int .i64 (s.bord 3)) rfl
  have HX : Hid (s.pad 3 + s.pad 1 + s.bord 3 + s.bord 1 = x) := Lib.hid (by rw [← hx]; unfold acrossV; omega)
  have HY : Hid (s.pad 0 + s.pad 2 + s.bord 0 + s.bord 2 = y) := Lib.hid (by rw [← hy]; unfold upV; omega)
  clear hx hy hm BX
  unfold Side at h0 h1 h2 h3 g0 g1 g2 g3
  generalize s.cells.toArray = X at *
  generalize s.pad 0 = p0 at *
  generalize s.pad 1 = p1 at *
  generalize s.pad 2 = p2 at *
  generalize s.pad 3 = p3 at *
  generalize s.bord 0 = b0 at *
  generalize s.bord 1 = b1 at *
  generalize s.bord 2 = b2 at *
  generalize s.bord 3 = b3 at *
  have v1 : IntKind.i64.wrap (p3 + p1) = p3 + p1 := IntWalk.i64_in _ (by omega)
  have v2 : IntKind.i64.wrap (p3 + p1 + b3) = p3 + p1 + b3 := by clear v1; exact IntWalk.i64_in _ (by omega)
  have v3 : IntKind.i64.wrap (p3 + p1 + b3 + b1) = p3 + p1 + b3 + b1 := by clear v1 v2; exact IntWalk.i64_in _ (by omega)
  have v4 : IntKind.i64.wrap (p0 + p2) = p0 + p2 := by clear v1 v2 v3; exact IntWalk.i64_in _ (by omega)
  have v5 : IntKind.i64.wrap (p0 + p2 + b0) = p0 + p2 + b0 := by clear v1 v2 v3 v4; exact IntWalk.i64_in _ (by omega)
  have v6 : IntKind.i64.wrap (p0 + p2 + b0 + b2) = p0 + p2 + b0 + b2 := by clear v1 v2 v3 v4 v5; exact IntWalk.i64_in _ (by omega)
  clear h0 h1 h2 h3 g0 g1 g2 g3
  go_enter Try.func23, Try.ntmps23
  go_wp2_with fail
  go_quiet (fail)
  go_wp2_with fail
  go_ret2
  exact ⟨by rw [HX.out, HY.out]; rfl, below_q B0.out _⟩
end Go.Proofs.Ytdadlhkbngopaaa
