/-
  The landed areas: areaOf, isEmpty, with.
-/
import Derived.Test.YtieaoebphlcmpaaPointsM19
import Derived.Deep.Cut
import Derived.Laws.Rows
import Derived.IntWalk
namespace Go.Proofs.Ytieaoebphlcmpaa
open Go.RowKit

theorem b_nx19 {w W X : World} (hB : Below w.heap.size w W) (hb : Below W.heap.size W X) : Below w.heap.size w X := hB.trans (hb.mono hB.size)
set_option maxRecDepth 100000 in
set_option maxHeartbeats 2000000 in
theorem areaOf19 (f : Fr) (w : World) (hf : fitF f = true) :
    Calls Try.prog 13 #[frV f] w fun e w' => e = .returned (arV (arOf f)) ∧ Below w.heap.size w w' := by
  obtain ⟨f0, f1, f2, fx, fy, fw, fh, f7⟩ := f
  have h := fitF_iff.1 hf
  unfold Fit at h
  dsimp only at h
  have D : Hid (Below w.heap.size w ((w.alloc (.cells #[.int .i64 f0, .int .i64 f1, .int .i64 f2, .int .i64 fx, .int .i64 fy, .int .i64 fw, .int .i64 fh, .string f7] 29)).alloc (.cells #[.int .i64 fx, .int .i64 fy, .int .i64 (fx + fw), .int .i64 (fy + fh)] 33))) := Lib.hid (((Below.refl _ w).alloc (Nat.le_refl _) _).alloc (by rw [World.size_alloc]; omega) _)
  unfold frV arV arOf
  dsimp only
  clear hf
  go_enter Try.func13, Try.ntmps13
  go_wp2_with fail
  refine bodyPost_ret (results_cell_row rfl _ _ (w.heap.size + 1) _ _ _ _ rfl (by rw [← World.size_alloc w]; exact heap_alloc_new _ _) Try.underlying33 rfl (by kernel_rfl)) rfl ?_
  exact ⟨rfl, D.out⟩
set_option maxRecDepth 100000 in
set_option maxHeartbeats 2000000 in
theorem isEmpty19 (a : Ar) (w : World) (b : Bool) (hb : emptyA a = b) :
    Calls Try.prog 18 #[arV a] w fun e w' => e = .returned (.bool b) ∧ Below w.heap.size w w' := by
  obtain ⟨x, y, r, s⟩ := a
  subst hb
  unfold arV emptyA
  dsimp only
  by_cases h1 : r ≤ x
  · have e : decide (r ≤ x ∨ s ≤ y) = true := by simp [h1]
    rw [e]
    clear e
    go_enter Try.func18, Try.ntmps18
    go_wp2
    go_ret
    exact ⟨rfl, (Below.refl _ w).alloc (Nat.le_refl _) _⟩
  · have e : decide (r ≤ x ∨ s ≤ y) = decide (s ≤ y) := by simp [h1]
    rw [e]
    have h1' : decide (r ≤ x) = false := decide_eq_false h1
    obtain ⟨c, hc⟩ : ∃ c, decide (s ≤ y) = c := ⟨_, rfl⟩
    rw [hc]
    clear e h1
    go_enter Try.func18, Try.ntmps18
    go_wp2
    go_ret
    exact ⟨rfl, (Below.refl _ w).alloc (Nat.le_refl _) _⟩

theorem ret4_19 {a b c d a' b' c' d' : Int} (h1 : a = a') (h2 : b = b') (h3 : c = c') (h4 : d = d') : Ending.returned (.agg #[.int .i64 a, .int .i64 b, .int .i64 c, .int .i64 d]) = Ending.returned (.agg #[.int .i64 a', .int .i64 b', .int .i64 c', .int .i64 d']) := by subst h1 h2 h3 h4; rfl
/-- an area in a block -/
def ArB (W : World) (g : Nat) (a : Ar) : Prop := W.heap[g]? = some (.cells #[.int .i64 a.l, .int .i64 a.t, .int .i64 a.r, .int .i64 a.b] 33 (0, 0))
theorem ArB.cell {W : World} {g : Nat} {a : Ar} (h : ArB W g a) : W.cell? ⟨g, 0, none⟩ = some (.int .i64 a.l) ∧ W.cell? ⟨g, 1, none⟩ = some (.int .i64 a.t) ∧ W.cell? ⟨g, 2, none⟩ = some (.int .i64 a.r) ∧ W.cell? ⟨g, 3, none⟩ = some (.int .i64 a.b) := by
  unfold ArB at h
  refine ⟨?_, ?_, ?_, ?_⟩ <;> simp [World.cell?, h]
theorem ArB.frozen {W : World} {g : Nat} {a : Ar} (h : ArB W g a) : W.frozen? ⟨g, 0, none⟩ = false ∧ W.frozen? ⟨g, 1, none⟩ = false ∧ W.frozen? ⟨g, 2, none⟩ = false ∧ W.frozen? ⟨g, 3, none⟩ = false := by
  unfold ArB at h
  refine ⟨?_, ?_, ?_, ?_⟩ <;> simp [World.frozen?, h]
theorem ArB.lt {W : World} {g : Nat} {a : Ar} (h : ArB W g a) : g < W.heap.size := (Array.getElem?_eq_some_iff.1 h).1
theorem ArB.keep {W W' : World} {g : Nat} {a : Ar} (h : ArB W g a) (hb : Below W.heap.size W W') : ArB W' g a := (hb.block g h.lt).trans h
theorem ArB.put {W : World} {g : Nat} {a : Ar} (h : ArB W g a) (x y r s : Int) :
    ArB ((((W.setCell ⟨g, 0, none⟩ (.int .i64 x)).setCell ⟨g, 1, none⟩ (.int .i64 y)).setCell ⟨g, 2, none⟩ (.int .i64 r)).setCell ⟨g, 3, none⟩ (.int .i64 s)) g ⟨x, y, r, s⟩ := by
  unfold ArB at h ⊢
  simp [World.setCell, Array.getElem?_modify, h]
theorem ArB.new (W : World) (a : Ar) : ArB (W.alloc (.cells #[.int .i64 a.l, .int .i64 a.t, .int .i64 a.r, .int .i64 a.b] 33)) W.heap.size a := heap_alloc_new W _
theorem ArB.alloc {W : World} {g : Nat} {a : Ar} (h : ArB W g a) (o : Obj) : ArB (W.alloc o) g a := h.keep ((Below.refl _ _).alloc (Nat.le_refl _) _)
/-- where with stands: its two areas, and the one that it hands back -/
structure Three19 (w W : World) (a b c : Ar) : Prop where
  below : Below w.heap.size w W
  a : ArB W w.heap.size a
  b : ArB W (w.heap.size + 1) b
  c : ArB W (w.heap.size + 1 + 1) c
theorem Three19.new (w : World) (a b : Ar) : Three19 w (((w.alloc (.cells #[.int .i64 a.l, .int .i64 a.t, .int .i64 a.r, .int .i64 a.b] 33)).alloc (.cells #[.int .i64 b.l, .int .i64 b.t, .int .i64 b.r, .int .i64 b.b] 33)).alloc (.cells #[.int .i64 0, .int .i64 0, .int .i64 0, .int .i64 0] 33)) a b arZ := by
  have h2 := ArB.new (w.alloc (.cells #[.int .i64 a.l, .int .i64 a.t, .int .i64 a.r, .int .i64 a.b] 33)) b
  have h3 := ArB.new ((w.alloc (.cells #[.int .i64 a.l, .int .i64 a.t, .int .i64 a.r, .int .i64 a.b] 33)).alloc (.cells #[.int .i64 b.l, .int .i64 b.t, .int .i64 b.r, .int .i64 b.b] 33)) arZ
  simp only [World.size_alloc] at h2 h3
  exact ⟨(((Below.refl _ w).alloc (Nat.le_refl _) _).alloc (by rw [World.size_alloc]; omega) _).alloc (by simp only [World.size_alloc]; omega) _, ((ArB.new w a).alloc _).alloc _, h2.alloc _, h3⟩
theorem Three19.keep {w W W' : World} {a b c : Ar} (h : Three19 w W a b c) (hb : Below W.heap.size W W') : Three19 w W' a b c :=
  ⟨b_nx19 h.below hb, h.a.keep hb, h.b.keep hb, h.c.keep hb⟩
set_option maxRecDepth 100000 in
set_option maxHeartbeats 4000000 in
theorem with19 (a b : Ar) (w : World) :
    Calls Try.prog 12 #[arV a, arV b] w fun e w' => e = .returned (arV (withA a b)) ∧ Below w.heap.size w w' := by
  have T0 := Lib.hid (Three19.new w a b)
  obtain ⟨b1, hb1⟩ : ∃ c, emptyA b = c := ⟨_, rfl⟩
  obtain ⟨b2, hb2⟩ : ∃ c, emptyA a = c := ⟨_, rfl⟩
  have K1 := Lib.hid (fun W => isEmpty19 b W b1 hb1)
  have K2 := Lib.hid (fun W => isEmpty19 a W b2 hb2)
  have R : Hid (withA a b = if b1 = true then a else if b2 = true then b else ⟨min a.l b.l, min a.t b.t, max a.r b.r, max a.b b.b⟩) := Lib.hid (by unfold withA; rw [hb1, hb2])
  clear hb1 hb2
  obtain ⟨ax, ay, ar, ab⟩ := a
  obtain ⟨bx, by_, br, bb⟩ := b
  unfold arV at K1 K2 ⊢
  dsimp only at T0 K1 K2 R ⊢
  cases b1
  · cases b2
    · obtain ⟨p1, m1⟩ : ∃ p, min ax bx = p := ⟨_, rfl⟩
      obtain ⟨p2, m2⟩ : ∃ p, min ay by_ = p := ⟨_, rfl⟩
      obtain ⟨p3, m3⟩ : ∃ p, max ar br = p := ⟨_, rfl⟩
      obtain ⟨p4, m4⟩ : ∃ p, max ab bb = p := ⟨_, rfl⟩
      rw [m1, m2, m3, m4] at R
      go_enter Try.func12, Try.ntmps12
      go_wp2_with (first
        | (go_at_call 18; (with_reducible refine (K1.out _).mono ?_); rintro e w1 ⟨rfl, hb1⟩; have T1 := Lib.hid (T0.out.keep hb1); clear hb1; obtain ⟨a0, a1, a2, a3⟩ := T1.out.a.cell; dsimp only at a0 a1 a2 a3)
        | (go_at_call 18; (with_reducible refine (K2.out _).mono ?_); rintro e w2 ⟨rfl, hb2⟩; have T2 := Lib.hid (T1.out.keep hb2); clear hb2 a0 a1 a2 a3; obtain ⟨a0, a1, a2, a3⟩ := T2.out.a.cell; obtain ⟨b0, b1, b2, b3⟩ := T2.out.b.cell; obtain ⟨f0, f1, f2, f3⟩ := T2.out.c.frozen; obtain ⟨c0, c1, c2, c3⟩ := T2.out.c.cell; dsimp only [arZ] at c0 c1 c2 c3; dsimp only at a0 a1 a2 a3 b0 b1 b2 b3))
      all_goals
        (try simp only [Exit.inBlock, Exit.then])
        refine bodyPost_ret (results_cell_row rfl _ _ (w.heap.size + 1 + 1) _ _ _ _ rfl (T2.out.c.put _ _ _ _) Try.underlying33 rfl (by kernel_rfl)) rfl ?_
        exact ⟨by rw [R.out, if_neg (by simp), if_neg (by simp)]; exact ret4_19 (by dsimp only; omega) (by dsimp only; omega) (by dsimp only; omega) (by dsimp only; omega), (((T2.out.below.setCell (p := ⟨w.heap.size + 1 + 1, 0, none⟩) (by show w.heap.size ≤ w.heap.size + 1 + 1; omega) _).setCell (p := ⟨w.heap.size + 1 + 1, 1, none⟩) (by show w.heap.size ≤ w.heap.size + 1 + 1; omega) _).setCell (p := ⟨w.heap.size + 1 + 1, 2, none⟩) (by show w.heap.size ≤ w.heap.size + 1 + 1; omega) _).setCell (p := ⟨w.heap.size + 1 + 1, 3, none⟩) (by show w.heap.size ≤ w.heap.size + 1 + 1; omega) _⟩
    · go_enter Try.func12, Try.ntmps12
      go_wp2_with (first
        | (go_at_call 18; (with_reducible refine (K1.out _).mono ?_); rintro e w1 ⟨rfl, hb1⟩; have T1 := Lib.hid (T0.out.keep hb1); clear hb1; obtain ⟨a0, a1, a2, a3⟩ := T1.out.a.cell; dsimp only at a0 a1 a2 a3)
        | (go_at_call 18; (with_reducible refine (K2.out _).mono ?_); rintro e w2 ⟨rfl, hb2⟩; have T2 := Lib.hid (T1.out.keep hb2); clear hb2 a0 a1 a2 a3; obtain ⟨b0, b1, b2, b3⟩ := T2.out.b.cell; obtain ⟨f0, f1, f2, f3⟩ := T2.out.c.frozen; obtain ⟨c0, c1, c2, c3⟩ := T2.out.c.cell; dsimp only [arZ] at c0 c1 c2 c3; dsimp only at b0 b1 b2 b3))
      (try simp only [Exit.inBlock, Exit.then])
      refine bodyPost_ret (results_cell_row rfl _ _ (w.heap.size + 1 + 1) _ _ _ _ rfl (T2.out.c.put _ _ _ _) Try.underlying33 rfl (by kernel_rfl)) rfl ?_
      exact ⟨by rw [R.out]; simp, (((T2.out.below.setCell (p := ⟨w.heap.size + 1 + 1, 0, none⟩) (by show w.heap.size ≤ w.heap.size + 1 + 1; omega) _).setCell (p := ⟨w.heap.size + 1 + 1, 1, none⟩) (by show w.heap.size ≤ w.heap.size + 1 + 1; omega) _).setCell (p := ⟨w.heap.size + 1 + 1, 2, none⟩) (by show w.heap.size ≤ w.heap.size + 1 + 1; omega) _).setCell (p := ⟨w.heap.size + 1 + 1, 3, none⟩) (by show w.heap.size ≤ w.heap.size + 1 + 1; omega) _⟩
  · go_enter Try.func12, Try.ntmps12
    go_wp2_with (go_at_call 18; (with_reducible refine (K1.out _).mono ?_); rintro e w2 ⟨rfl, hb1⟩; have T2 := Lib.hid (T0.out.keep hb1); clear hb1; obtain ⟨a0, a1, a2, a3⟩ := T2.out.a.cell; obtain ⟨f0, f1, f2, f3⟩ := T2.out.c.frozen; obtain ⟨c0, c1, c2, c3⟩ := T2.out.c.cell; dsimp only [arZ] at c0 c1 c2 c3; dsimp only at a0 a1 a2 a3)
    (try simp only [Exit.inBlock, Exit.then])
    refine bodyPost_ret (results_cell_row rfl _ _ (w.heap.size + 1 + 1) _ _ _ _ rfl (T2.out.c.put _ _ _ _) Try.underlying33 rfl (by kernel_rfl)) rfl ?_
    exact ⟨by rw [R.out]; simp, (((T2.out.below.setCell (p := ⟨w.heap.size + 1 + 1, 0, none⟩) (by show w.heap.size ≤ w.heap.size + 1 + 1; omega) _).setCell (p := ⟨w.heap.size + 1 + 1, 1, none⟩) (by show w.heap.size ≤ w.heap.size + 1 + 1; omega) _).setCell (p := ⟨w.heap.size + 1 + 1, 2, none⟩) (by show w.heap.size ≤ w.heap.size + 1 + 1; omega) _).setCell (p := ⟨w.heap.size + 1 + 1, 3, none⟩) (by show w.heap.size ≤ w.heap.size + 1 + 1; omega) _⟩
end Go.Proofs.Ytieaoebphlcmpaa
