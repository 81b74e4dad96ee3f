/-
  The landed Hit and Fill.
-/
import Derived.Test.YtieaoebphlcmpaaLand19
import Derived.Test.YtieaoebphlcmpaaPicked
namespace Go.Proofs.Ytieaoebphlcmpaa
open Go.RowKit Go.Shelf

set_option maxRecDepth 100000 in
set_option maxHeartbeats 2000000 in
theorem hit1_19 (f : Fr) (x y : Int) (bx by_ : Nat) (w : World) (hx : w.cell? ⟨bx, 0, none⟩ = some (.int .i64 x)) (hy : w.cell? ⟨by_, 0, none⟩ = some (.int .i64 y)) (b : Bool) (hb : coversF x y f = b) :
    Calls Try.prog 15 #[frV f, .pointer (some ⟨bx, 0, none⟩), .pointer (some ⟨by_, 0, none⟩)] w fun e w' => e = .returned (.bool b) ∧ Below w.heap.size w w' := by
  subst hb
  have hlx := World.block_lt_of_cell? w _ hx
  have hly := World.block_lt_of_cell? w _ hy
  dsimp only at hlx hly
  obtain ⟨f0, f1, f2, fx, fy, fw, fh, f7⟩ := f
  have hx2 := (World.cell?_alloc_lt w (.cells #[.int .i64 f0, .int .i64 f1, .int .i64 f2, .int .i64 fx, .int .i64 fy, .int .i64 fw, .int .i64 fh, .string f7] 29) ⟨bx, 0, none⟩ hlx).trans hx
  have hy2 := (World.cell?_alloc_lt w (.cells #[.int .i64 f0, .int .i64 f1, .int .i64 f2, .int .i64 fx, .int .i64 fy, .int .i64 fw, .int .i64 fh, .string f7] 29) ⟨by_, 0, none⟩ hly).trans hy
  unfold frV coversF
  dsimp only
  obtain ⟨r, hr⟩ : ∃ r, IntKind.i64.wrap (fx + fw) = r := ⟨_, rfl⟩
  obtain ⟨s, hs⟩ : ∃ s, IntKind.i64.wrap (fy + fh) = s := ⟨_, rfl⟩
  rw [hr, hs]
  obtain ⟨c4, hc4⟩ : ∃ c, decide (y < s) = c := ⟨_, rfl⟩
  by_cases h1 : fx ≤ x
  · by_cases h2 : x < r
    · by_cases h3 : fy ≤ y
      · have e : decide (fx ≤ x ∧ x < r ∧ fy ≤ y ∧ y < s) = c4 := by rw [← hc4]; simp [h1, h2, h3]
        rw [e]
        clear e
        go_enter Try.func15, Try.ntmps15
        go_wp2
        go_ret
        exact ⟨rfl, (Below.refl _ w).alloc (Nat.le_refl _) _⟩
      · have h3' : decide (fy ≤ y) = false := decide_eq_false h3
        have e : decide (fx ≤ x ∧ x < r ∧ fy ≤ y ∧ y < s) = false := by simp [h3]
        rw [e]
        clear e h3
        go_enter Try.func15, Try.ntmps15
        go_wp2
        go_ret
        exact ⟨rfl, (Below.refl _ w).alloc (Nat.le_refl _) _⟩
    · have h2' : decide (x < r) = false := decide_eq_false h2
      have e : decide (fx ≤ x ∧ x < r ∧ fy ≤ y ∧ y < s) = false := by simp [h2]
      rw [e]
      clear e h2
      go_enter Try.func15, Try.ntmps15
      go_wp2
      go_ret
      exact ⟨rfl, (Below.refl _ w).alloc (Nat.le_refl _) _⟩
  · have h1' : decide (fx ≤ x) = false := decide_eq_false h1
    have e : decide (fx ≤ x ∧ x < r ∧ fy ≤ y ∧ y < s) = false := by simp [h1]
    rw [e]
    clear e h1
    go_enter Try.func15, Try.ntmps15
    go_wp2
    go_ret
    exact ⟨rfl, (Below.refl _ w).alloc (Nat.le_refl _) _⟩
set_option maxRecDepth 100000 in
set_option maxHeartbeats 2000000 in
theorem hit19 (l : List Fr) (A : Option Addr) (n c : Nat) (x y : Int) (w : World) (hF : FrIn w (.slice A n c) l) (hl : l.length = n) (hn : n ≤ 4096) :
    Calls Try.prog 6 #[.slice A n c, .int .i64 x, .int .i64 y] w fun e w' => e = .returned (.int .i64 (lastP (coversF x y) l l.length)) ∧ Below w.heap.size w w' := by
  have B2 : Hid (Below w.heap.size w ((w.alloc (.cells #[.int .i64 x] 3)).alloc (.cells #[.int .i64 y] 3))) := Lib.hid (((Below.refl _ w).alloc (Nat.le_refl _) _).alloc (by rw [World.size_alloc]; omega) _)
  have K := Lib.hid (lastOf19 l A n c (coversF x y) 15 #[.pointer (some ⟨w.heap.size, 0, none⟩), .pointer (some ⟨w.heap.size + 1, 0, none⟩)] ((w.alloc (.cells #[.int .i64 x] 3)).alloc (.cells #[.int .i64 y] 3)) (hF.keep B2.out) hl hn (enters_of Try.func15 (by kernel_rfl) rfl) (fun f _ W b hW hb => by
    refine hit1_19 f x y w.heap.size (w.heap.size + 1) W ?_ ?_ b hb
    · refine (hW.cell (p := ⟨w.heap.size, 0, none⟩) (by simp only [World.size_alloc]; omega)).trans ?_
      simp
    · refine (hW.cell (p := ⟨w.heap.size + 1, 0, none⟩) (by simp only [World.size_alloc]; omega)).trans ?_
      rw [← World.size_alloc w (.cells #[.int .i64 x] 3), World.cell?_alloc_new]
      rfl))
  have HL := Lib.hid hl
  clear hF hl
  go_enter Try.func6, Try.ntmps6
  go_wp2_with (go_at_call 8; (with_reducible refine K.out.mono ?_); rintro e w1 ⟨rfl, hb1⟩; have B3 := Lib.hid (b_nx19 B2.out hb1); clear hb1)
  go_ret
  exact ⟨by rw [HL.out]; rfl, B3.out⟩
set_option maxRecDepth 100000 in
set_option maxHeartbeats 2000000 in
theorem fill1_19 (f : Fr) (w : World) (b : Bool) (hb : oddF f = b) (hB : BigF f) :
    Calls Try.prog 9 #[frV f] w fun e w' => e = .returned (.bool b) ∧ Below w.heap.size w w' := by
  obtain ⟨f0, f1, f2, fx, fy, fw, fh, f7⟩ := f
  have D : Hid (Below w.heap.size w ((w.alloc (.cells #[.int .i64 f0, .int .i64 f1, .int .i64 f2, .int .i64 fx, .int .i64 fy, .int .i64 fw, .int .i64 fh, .string f7] 29)).alloc (.cells #[.int .i64 fx, .int .i64 fy, .int .i64 fw, .int .i64 fh] 3))) := Lib.hid (((Below.refl _ w).alloc (Nat.le_refl _) _).alloc (by rw [World.size_alloc]; omega) _)
  have I5 : Ints ((w.alloc (.cells #[.int .i64 f0, .int .i64 f1, .int .i64 f2, .int .i64 fx, .int .i64 fy, .int .i64 fw, .int .i64 fh, .string f7] 29)).alloc (.cells #[.int .i64 fx, .int .i64 fy, .int .i64 fw, .int .i64 fh] 3)) (some ⟨w.heap.size + 1, 0, none⟩) 4 (pk [fx, fy, fw, fh]) := by
    have h := pk_new (w.alloc (.cells #[.int .i64 f0, .int .i64 f1, .int .i64 f2, .int .i64 fx, .int .i64 fy, .int .i64 fw, .int .i64 fh, .string f7] 29)) 3 [fx, fy, fw, fh] (by
      intro y hy
      simp only [List.mem_cons, List.not_mem_nil, or_false] at hy
      rcases hy with rfl | rfl | rfl | rfl
      · exact hB.2.2.2.1
      · exact hB.2.2.2.2.1
      · exact hB.2.2.2.2.2.1
      · exact hB.2.2.2.2.2.2.1)
    rw [World.size_alloc] at h
    exact h
  have hfit : allFit (pk [fx, fy, fw, fh]) 4 = !b := by
    rw [← hb]
    unfold oddF
    rw [Bool.not_not]
    exact (pk_all [fx, fy, fw, fh]).trans (fit4_19 ⟨f0, f1, f2, fx, fy, fw, fh, f7⟩)
  have K := Lib.hid (fits_any _ 4 4 _ _ I5 (by omega) (!b) hfit)
  unfold frV
  dsimp only
  clear I5 hfit hb hB
  cases b
  · go_enter Try.func9, Try.ntmps9
    go_wp2_with (go_at_call 10; (with_reducible refine K.out.mono ?_); rintro e w' ⟨rfl, hw'⟩; rw [hw'] at D; clear hw')
    go_ret
    exact ⟨rfl, D.out⟩
  · go_enter Try.func9, Try.ntmps9
    go_wp2_with (go_at_call 10; (with_reducible refine K.out.mono ?_); rintro e w' ⟨rfl, hw'⟩; rw [hw'] at D; clear hw')
    go_ret
    exact ⟨rfl, D.out⟩
end Go.Proofs.Ytieaoebphlcmpaa
