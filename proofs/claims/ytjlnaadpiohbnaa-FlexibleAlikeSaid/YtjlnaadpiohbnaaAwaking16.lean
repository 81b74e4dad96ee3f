/-
  The furniture of stage 16's laws: box, told, awake.
-/
import Derived.Test.YtjlnaadpiohbnaaNear16
import Derived.Test.YtjlnaadpiohbnaaExam16
namespace Go.Proofs.Ytjlnaadpiohbnaa
open Go.RowKit

set_option maxRecDepth 100000 in
theorem box16 (b g s : Int) (w : World) : Calls Try.prog 32 #[.int .i64 b, .int .i64 g, .int .i64 s] w fun e w' => e = .returned (tmV (bx b g s)) ∧ Below w.heap.size w w' := by
  go_enter Try.func32, Try.ntmps32
  go_wp2_with fail
  refine bodyPost_ret (results_cell_row rfl _ _ w.heap.size _ _ _ _ rfl (heap_alloc_new w _) Try.underlying32 rfl (by kernel_rfl)) rfl ?_
  exact ⟨rfl, (Below.refl _ w).alloc (Nat.le_refl _) _⟩
set_option maxRecDepth 100000 in
set_option maxHeartbeats 2000000 in
theorem told16 (hS : SizesOK 11) (x y : It16) (gap room a b : Int) (hx : ∀ u ∈ [x.base, x.least, x.most, x.grow, x.shrink, x.outer], -9223372036854775808 ≤ u ∧ u ≤ 9223372036854775807) (hy : ∀ u ∈ [y.base, y.least, y.most, y.grow, y.shrink, y.outer], -9223372036854775808 ≤ u ∧ u ≤ 9223372036854775807) (hg : I64 gap) (hr : I64 room) (hE : ∀ o z, SizesIs [x, y] gap room o z → o = [a, b] ∧ z = 0) (w : World) :
    Calls Try.prog 33 #[tmV x, tmV y, .int .i64 gap, .int .i64 room, .int .i64 a, .int .i64 b] w fun e w' => e = .returned (.bool true) ∧ Below w.heap.size w w' := by
  have K : Hid (∀ W : World, Calls Try.prog 11 #[.slice (some ⟨W.heap.size, 0, none⟩) 2 2, .int .i64 gap, .int .i64 room] (W.alloc (.cells (cellsT [x, y]).toArray 32)) fun e w' => ∃ A c, e = .returned (.tuple #[.slice (some ⟨A, 0, none⟩) 2 c, .int .i64 0]) ∧ w'.cell? ⟨A, 0, none⟩ = some (.int .i64 a) ∧ w'.cell? ⟨A, 1, none⟩ = some (.int .i64 b) ∧ Below W.heap.size W w') := Lib.hid (fun W => by
    refine (hS [x, y] _ gap room _ (tms_new [x, y] (by simp) _) (by simp) (fun i hi => ?_) hg hr).mono ?_
    · rcases (show i = 0 ∨ i = 1 by simp at hi; omega) with rfl | rfl
      · exact hx
      · exact hy
    · rintro e w' ⟨v, o, z, rfl, h1, h2, hb⟩
      obtain ⟨rfl, rfl⟩ := hE _ _ h1
      obtain ⟨g, c, rfl, -, -, -, -, h6, -⟩ := own_at h2 (by simp)
      exact ⟨g, c, rfl, h6 0 _ rfl, h6 1 _ rfl, ((Below.refl _ W).alloc (Nat.le_refl _) _).trans (hb.mono (by rw [World.size_alloc]; omega))⟩)
  clear hS hx hy hE hg hr
  obtain ⟨x0, x1, x2, x3, x4, x5⟩ := x
  obtain ⟨y0, y1, y2, y3, y4, y5⟩ := y
  have K2 : Hid (∀ W : World, Calls Try.prog 11 #[.slice (some ⟨W.heap.size, 0, none⟩) 2 2, .int .i64 gap, .int .i64 room] (W.alloc (.cells #[.int .i64 x0, .int .i64 x1, .int .i64 x2, .int .i64 x3, .int .i64 x4, .int .i64 x5, .int .i64 y0, .int .i64 y1, .int .i64 y2, .int .i64 y3, .int .i64 y4, .int .i64 y5] 32)) fun e w' => ∃ A c, e = .returned (.tuple #[.slice (some ⟨A, 0, none⟩) 2 c, .int .i64 0]) ∧ w'.cell? ⟨A, 0, none⟩ = some (.int .i64 a) ∧ w'.cell? ⟨A, 1, none⟩ = some (.int .i64 b) ∧ Below W.heap.size W w') := K
  clear K
  have ea : (a == a) = true := by simp
  have eb : (b == b) = true := by simp
  unfold tmV
  dsimp only
  have P0 : Hid (TmAt ((w.alloc (.cells #[.int .i64 x0, .int .i64 x1, .int .i64 x2, .int .i64 x3, .int .i64 x4, .int .i64 x5] 32)).alloc (.cells #[.int .i64 y0, .int .i64 y1, .int .i64 y2, .int .i64 y3, .int .i64 y4, .int .i64 y5] 32)) w.heap.size 0 ⟨x0, x1, x2, x3, x4, x5⟩ ∧ TmAt ((w.alloc (.cells #[.int .i64 x0, .int .i64 x1, .int .i64 x2, .int .i64 x3, .int .i64 x4, .int .i64 x5] 32)).alloc (.cells #[.int .i64 y0, .int .i64 y1, .int .i64 y2, .int .i64 y3, .int .i64 y4, .int .i64 y5] 32)) (w.heap.size + 1) 0 ⟨y0, y1, y2, y3, y4, y5⟩ ∧ Below w.heap.size w ((w.alloc (.cells #[.int .i64 x0, .int .i64 x1, .int .i64 x2, .int .i64 x3, .int .i64 x4, .int .i64 x5] 32)).alloc (.cells #[.int .i64 y0, .int .i64 y1, .int .i64 y2, .int .i64 y3, .int .i64 y4, .int .i64 y5] 32))) := Lib.hid ⟨by
      have hb : Below (w.alloc (.cells #[.int .i64 x0, .int .i64 x1, .int .i64 x2, .int .i64 x3, .int .i64 x4, .int .i64 x5] 32)).heap.size _ _ := (Below.refl _ (w.alloc (.cells #[.int .i64 x0, .int .i64 x1, .int .i64 x2, .int .i64 x3, .int .i64 x4, .int .i64 x5] 32))).alloc (Nat.le_refl _) (.cells #[.int .i64 y0, .int .i64 y1, .int .i64 y2, .int .i64 y3, .int .i64 y4, .int .i64 y5] 32)
      refine TmAt.keep (TmAt.of fun i u hi hu => ?_) (by rw [World.size_alloc]; omega) hb
      rw [World.cell?_alloc_new, Nat.zero_add, ← hu]
      exact List.getElem?_toArray, by
      rw [show w.heap.size + 1 = (w.alloc (.cells #[.int .i64 x0, .int .i64 x1, .int .i64 x2, .int .i64 x3, .int .i64 x4, .int .i64 x5] 32)).heap.size from (World.size_alloc ..).symm]
      refine TmAt.of fun i u hi hu => ?_
      rw [World.cell?_alloc_new, Nat.zero_add, ← hu]
      exact List.getElem?_toArray, ((Below.refl _ w).alloc (Nat.le_refl _) _).alloc (by rw [World.size_alloc]; omega) _⟩
  go_enter Try.func33, Try.ntmps33
  go_upto_region 1 with fail
  generalize (w.alloc (.cells #[.int .i64 x0, .int .i64 x1, .int .i64 x2, .int .i64 x3, .int .i64 x4, .int .i64 x5] 32)).alloc (.cells #[.int .i64 y0, .int .i64 y1, .int .i64 y2, .int .i64 y3, .int .i64 y4, .int .i64 y5] 32) = w0 at P0 ⊢
  obtain ⟨⟨p0, p1, p2, p3, p4, p5⟩, ⟨q0, q1, q2, q3, q4, q5⟩, -⟩ := P0.out
  have B0 := Lib.hid P0.out.2.2
  clear P0
  simp only [Nat.zero_add] at p0 p1 p2 p3 p4 p5 q0 q1 q2 q3 q4 q5
  go_wp2_with (go_at_call 11; (with_reducible refine (K2.out _).mono ?_); rintro e w1 ⟨A, c, rfl, h1, h2, hb⟩; have B1 := Lib.hid (B0.out.trans (hb.mono B0.out.size)); clear hb)
  go_ret
  exact ⟨by first | rfl | simp, B1.out⟩
/-- the two boxes that were changed, in every world behind -/
def DD16 (w W : World) (g : Nat) : Prop := TmAt W g 0 ⟨10, 0, 12, 1, 1, 0⟩ ∧ TmAt W (g + 1) 0 ⟨30, 25, 1000, 0, 1, 0⟩ ∧ g + 1 < W.heap.size ∧ Below w.heap.size w W
theorem DD16.next {w W W' : World} {g : Nat} (h : DD16 w W g) (hb : Below W.heap.size W W') : DD16 w W' g :=
  ⟨h.1.keep (by have := h.2.2.1; omega) hb, h.2.1.keep h.2.2.1 hb, Nat.lt_of_lt_of_le h.2.2.1 hb.size, b_next16 h.2.2.2 hb⟩
theorem one_keep16 {W W' : World} {g : Nat} {a : Value} (h : g < W.heap.size ∧ W.cell? ⟨g, 0, none⟩ = some a) (hb : Below W.heap.size W W') : g < W'.heap.size ∧ W'.cell? ⟨g, 0, none⟩ = some a :=
  ⟨Nat.lt_of_lt_of_le h.1 hb.size, (hb.cell (p := ⟨g, 0, none⟩) h.1).trans h.2⟩
def AwakeOK16 (f : Nat) : Prop := ∀ w : World, Calls Try.prog f #[] w fun e w' => e = .returned (.bool true) ∧ Below w.heap.size w w'
theorem box_lit (b g s : Int) (v : Value) (h : tmV (bx b g s) = v) (w : World) : Calls Try.prog 32 #[.int .i64 b, .int .i64 g, .int .i64 s] w fun e w' => e = .returned v ∧ Below w.heap.size w w' := by
  subst h
  exact box16 b g s w
set_option maxRecDepth 100000 in
set_option maxHeartbeats 8000000 in
theorem awake16_any (hS : SizesOK 11) (hF : FirstOK 13) : AwakeOK16 15 := by
  intro w
  have QA : Hid (∀ W, Calls Try.prog 32 #[.int .i64 (10), .int .i64 1, .int .i64 1] W fun e w' => e = .returned (.agg #[.int .i64 10, .int .i64 0, .int .i64 1000, .int .i64 1, .int .i64 1, .int .i64 0]) ∧ Below W.heap.size W w') := Lib.hid (box_lit _ _ _ _ rfl)
  have QB : Hid (∀ W, Calls Try.prog 32 #[.int .i64 (30), .int .i64 0, .int .i64 1] W fun e w' => e = .returned (.agg #[.int .i64 30, .int .i64 0, .int .i64 1000, .int .i64 0, .int .i64 1, .int .i64 0]) ∧ Below W.heap.size W w') := Lib.hid (box_lit _ _ _ _ rfl)
  have QC : Hid (∀ W, Calls Try.prog 32 #[.int .i64 (10), .int .i64 0, .int .i64 0] W fun e w' => e = .returned (.agg #[.int .i64 10, .int .i64 0, .int .i64 1000, .int .i64 0, .int .i64 0, .int .i64 0]) ∧ Below W.heap.size W w') := Lib.hid (box_lit _ _ _ _ rfl)
  have QD : Hid (∀ W, Calls Try.prog 32 #[.int .i64 (-1), .int .i64 0, .int .i64 0] W fun e w' => e = .returned (.agg #[.int .i64 (-1), .int .i64 0, .int .i64 1000, .int .i64 0, .int .i64 0, .int .i64 0]) ∧ Below W.heap.size W w') := Lib.hid (box_lit _ _ _ _ rfl)
  have QE : Hid (∀ W, Calls Try.prog 32 #[.int .i64 (10), .int .i64 3, .int .i64 1] W fun e w' => e = .returned (.agg #[.int .i64 10, .int .i64 0, .int .i64 1000, .int .i64 3, .int .i64 1, .int .i64 0]) ∧ Below W.heap.size W w') := Lib.hid (box_lit _ _ _ _ rfl)
  have QF : Hid (∀ W, Calls Try.prog 32 #[.int .i64 (10), .int .i64 0, .int .i64 1] W fun e w' => e = .returned (.agg #[.int .i64 10, .int .i64 0, .int .i64 1000, .int .i64 0, .int .i64 1, .int .i64 0]) ∧ Below W.heap.size W w') := Lib.hid (box_lit _ _ _ _ rfl)
  have TA : Hid (∀ W, Calls Try.prog 33 #[.agg #[.int .i64 10, .int .i64 0, .int .i64 1000, .int .i64 1, .int .i64 1, .int .i64 0], .agg #[.int .i64 10, .int .i64 0, .int .i64 1000, .int .i64 3, .int .i64 1, .int .i64 0], .int .i64 5, .int .i64 (45), .int .i64 15, .int .i64 25] W fun e w' => e = .returned (.bool true) ∧ Below W.heap.size W w') := Lib.hid (fun W => told16 hS ⟨10, 0, 1000, 1, 1, 0⟩ ⟨10, 0, 1000, 3, 1, 0⟩ 5 (45) 15 25 (by decide) (by decide) (by decide) (by decide) (fun _ _ h => exA h) W)
  have TB : Hid (∀ W, Calls Try.prog 33 #[.agg #[.int .i64 10, .int .i64 0, .int .i64 1000, .int .i64 0, .int .i64 1, .int .i64 0], .agg #[.int .i64 10, .int .i64 0, .int .i64 12, .int .i64 1, .int .i64 1, .int .i64 0], .int .i64 0, .int .i64 (50), .int .i64 10, .int .i64 12] W fun e w' => e = .returned (.bool true) ∧ Below W.heap.size W w') := Lib.hid (fun W => told16 hS ⟨10, 0, 1000, 0, 1, 0⟩ ⟨10, 0, 12, 1, 1, 0⟩ 0 (50) 10 12 (by decide) (by decide) (by decide) (by decide) (fun _ _ h => exB h) W)
  have TC : Hid (∀ W, Calls Try.prog 33 #[.agg #[.int .i64 30, .int .i64 0, .int .i64 1000, .int .i64 0, .int .i64 1, .int .i64 0], .agg #[.int .i64 10, .int .i64 0, .int .i64 1000, .int .i64 0, .int .i64 1, .int .i64 0], .int .i64 0, .int .i64 (20), .int .i64 15, .int .i64 5] W fun e w' => e = .returned (.bool true) ∧ Below W.heap.size W w') := Lib.hid (fun W => told16 hS ⟨30, 0, 1000, 0, 1, 0⟩ ⟨10, 0, 1000, 0, 1, 0⟩ 0 (20) 15 5 (by decide) (by decide) (by decide) (by decide) (fun _ _ h => exC h) W)
  have TD : Hid (∀ W, Calls Try.prog 33 #[.agg #[.int .i64 30, .int .i64 25, .int .i64 1000, .int .i64 0, .int .i64 1, .int .i64 0], .agg #[.int .i64 10, .int .i64 0, .int .i64 1000, .int .i64 0, .int .i64 1, .int .i64 0], .int .i64 0, .int .i64 (30), .int .i64 25, .int .i64 5] W fun e w' => e = .returned (.bool true) ∧ Below W.heap.size W w') := Lib.hid (fun W => told16 hS ⟨30, 25, 1000, 0, 1, 0⟩ ⟨10, 0, 1000, 0, 1, 0⟩ 0 (30) 25 5 (by decide) (by decide) (by decide) (by decide) (fun _ _ h => exD h) W)
  have TE : Hid (∀ W, Calls Try.prog 33 #[.agg #[.int .i64 10, .int .i64 0, .int .i64 1000, .int .i64 1, .int .i64 1, .int .i64 0], .agg #[.int .i64 10, .int .i64 0, .int .i64 1000, .int .i64 1, .int .i64 1, .int .i64 0], .int .i64 0, .int .i64 (-1), .int .i64 10, .int .i64 10] W fun e w' => e = .returned (.bool true) ∧ Below W.heap.size W w') := Lib.hid (fun W => told16 hS ⟨10, 0, 1000, 1, 1, 0⟩ ⟨10, 0, 1000, 1, 1, 0⟩ 0 (-1) 10 10 (by decide) (by decide) (by decide) (by decide) (fun _ _ h => exE h) W)
  have SF : Hid (∀ W : World, Calls Try.prog 11 #[.slice (some ⟨W.heap.size, 0, none⟩) 1 1, .int .i64 0, .int .i64 5] (W.alloc (.cells #[.int .i64 10, .int .i64 0, .int .i64 1000, .int .i64 0, .int .i64 0, .int .i64 0] 32)) fun e w' => ∃ A c, e = .returned (.tuple #[.slice (some ⟨A, 0, none⟩) 1 c, .int .i64 0]) ∧ Hid (A < w'.heap.size ∧ w'.cell? ⟨A, 0, none⟩ = some (.int .i64 10)) ∧ Below W.heap.size W w') := Lib.hid (fun W => by
    refine (hS [bx 10 0 0] _ 0 5 _ (tms_new [bx 10 0 0] (by simp) _) (by simp) (fun i hi => by obtain rfl : i = 0 := (by simp at hi; omega); decide) (by decide) (by decide)).mono ?_
    rintro e w' ⟨v, o, z, rfl, h1, h2, hb⟩
    obtain ⟨rfl, rfl⟩ := exF h1
    obtain ⟨g, c, rfl, -, -, -, h5, h6, -⟩ := own_at h2 (by simp)
    exact ⟨g, c, rfl, Lib.hid ⟨h5, h6 0 _ rfl⟩, ((Below.refl _ W).alloc (Nat.le_refl _) _).trans (hb.mono (by rw [World.size_alloc]; omega))⟩)
  have SG : Hid (∀ W : World, Calls Try.prog 11 #[.slice (some ⟨W.heap.size, 0, none⟩) 1 1, .int .i64 0, .int .i64 5] (W.alloc (.cells #[.int .i64 (-1), .int .i64 0, .int .i64 1000, .int .i64 0, .int .i64 0, .int .i64 0] 32)) fun e w' => ∃ A c, e = .returned (.tuple #[.slice A 0 c, .int .i64 2]) ∧ Below W.heap.size W w') := Lib.hid (fun W => by
    refine (hS [bx (-1) 0 0] _ 0 5 _ (tms_new [bx (-1) 0 0] (by simp) _) (by simp) (fun i hi => by obtain rfl : i = 0 := (by simp at hi; omega); decide) (by decide) (by decide)).mono ?_
    rintro e w' ⟨v, o, z, rfl, h1, h2, hb⟩
    obtain ⟨rfl, rfl⟩ := exG h1
    obtain ⟨A, c, rfl, -, -, -⟩ := own_form h2
    exact ⟨A, c, rfl, ((Below.refl _ W).alloc (Nat.le_refl _) _).trans (hb.mono (by rw [World.size_alloc]; omega))⟩)
  have SH : Hid (∀ W : World, Calls Try.prog 11 #[.slice none 0 0, .int .i64 0, .int .i64 5] W fun e w' => ∃ A c, e = .returned (.tuple #[.slice A 0 c, .int .i64 0]) ∧ Below W.heap.size W w') := Lib.hid (fun W => by
    refine (hS [] _ 0 5 _ (TmIn.nil W) (by simp) (fun i hi => absurd hi (by simp)) (by decide) (by decide)).mono ?_
    rintro e w' ⟨v, o, z, rfl, h1, h2, hb⟩
    obtain ⟨rfl, rfl⟩ := exH h1
    obtain ⟨A, c, rfl, -, -, -⟩ := own_form h2
    exact ⟨A, c, rfl, hb⟩)
  have FA : Hid (∀ W, Calls Try.prog 13 #[.agg #[.int .i64 30, .int .i64 25, .int .i64 1000, .int .i64 0, .int .i64 1, .int .i64 0]] W fun e w' => e = .returned (.int .i64 30) ∧ Below W.heap.size W w') := Lib.hid (fun W => hF ⟨30, 25, 1000, 0, 1, 0⟩ W)
  have FB : Hid (∀ W, Calls Try.prog 13 #[.agg #[.int .i64 3, .int .i64 5, .int .i64 4, .int .i64 0, .int .i64 0, .int .i64 0]] W fun e w' => e = .returned (.int .i64 5) ∧ Below W.heap.size W w') := Lib.hid (fun W => hF ⟨3, 5, 4, 0, 0, 0⟩ W)
  clear hS hF
  go_enter Try.func15, Try.ntmps15
  go_upto_region 2 with (first
    | (go_at_call 32; (with_reducible refine (QA.out _).mono ?_); rintro e w1 ⟨rfl, hb⟩; have B1 := Lib.hid hb; clear hb)
    | (go_at_call 32; (with_reducible refine (QB.out _).mono ?_); rintro e w2 ⟨rfl, hb⟩; have B2 := Lib.hid (b_next16 B1.out hb); clear hb))
  have H3 : Hid (((w2.alloc (.cells #[.int .i64 10, .int .i64 0, .int .i64 1000, .int .i64 1, .int .i64 1, .int .i64 0] 32)).alloc (.cells #[.int .i64 30, .int .i64 0, .int .i64 1000, .int .i64 0, .int .i64 1, .int .i64 0] 32)).heap[w2.heap.size]? = some (.cells #[.int .i64 10, .int .i64 0, .int .i64 1000, .int .i64 1, .int .i64 1, .int .i64 0] 32) ∧ ((w2.alloc (.cells #[.int .i64 10, .int .i64 0, .int .i64 1000, .int .i64 1, .int .i64 1, .int .i64 0] 32)).alloc (.cells #[.int .i64 30, .int .i64 0, .int .i64 1000, .int .i64 0, .int .i64 1, .int .i64 0] 32)).heap[w2.heap.size + 1]? = some (.cells #[.int .i64 30, .int .i64 0, .int .i64 1000, .int .i64 0, .int .i64 1, .int .i64 0] 32) ∧ Below w.heap.size w ((w2.alloc (.cells #[.int .i64 10, .int .i64 0, .int .i64 1000, .int .i64 1, .int .i64 1, .int .i64 0] 32)).alloc (.cells #[.int .i64 30, .int .i64 0, .int .i64 1000, .int .i64 0, .int .i64 1, .int .i64 0] 32))) := Lib.hid ⟨by
      rw [((Below.refl _ (w2.alloc (.cells #[.int .i64 10, .int .i64 0, .int .i64 1000, .int .i64 1, .int .i64 1, .int .i64 0] 32))).alloc (Nat.le_refl _) (.cells #[.int .i64 30, .int .i64 0, .int .i64 1000, .int .i64 0, .int .i64 1, .int .i64 0] 32)).block _ (by rw [World.size_alloc]; omega)]
      exact heap_alloc_new w2 _, by
      rw [show w2.heap.size + 1 = (w2.alloc (.cells #[.int .i64 10, .int .i64 0, .int .i64 1000, .int .i64 1, .int .i64 1, .int .i64 0] 32)).heap.size from (World.size_alloc ..).symm]
      exact heap_alloc_new _ _, (B2.out.alloc B2.out.size _).alloc (by rw [World.size_alloc]; have := B2.out.size; omega) _⟩
  have g2 : Hid (w.heap.size ≤ w2.heap.size) := Lib.hid B2.out.size
  clear B1 B2
  generalize (w2.alloc (.cells #[.int .i64 10, .int .i64 0, .int .i64 1000, .int .i64 1, .int .i64 1, .int .i64 0] 32)).alloc (.cells #[.int .i64 30, .int .i64 0, .int .i64 1000, .int .i64 0, .int .i64 1, .int .i64 0] 32) = w3 at H3 ⊢
  generalize w2.heap.size = g at H3 g2 ⊢
  have D : Hid (TmAt ((w3.setCell ⟨g, 2, none⟩ (.int .i64 12)).setCell ⟨g + 1, 1, none⟩ (.int .i64 25)) g 0 ⟨10, 0, 12, 1, 1, 0⟩ ∧ TmAt ((w3.setCell ⟨g, 2, none⟩ (.int .i64 12)).setCell ⟨g + 1, 1, none⟩ (.int .i64 25)) (g + 1) 0 ⟨30, 25, 1000, 0, 1, 0⟩ ∧ g + 1 < ((w3.setCell ⟨g, 2, none⟩ (.int .i64 12)).setCell ⟨g + 1, 1, none⟩ (.int .i64 25)).heap.size ∧ Below w.heap.size w ((w3.setCell ⟨g, 2, none⟩ (.int .i64 12)).setCell ⟨g + 1, 1, none⟩ (.int .i64 25))) := by
    obtain ⟨h1, h2, h3⟩ := H3.out
    have hl := (Array.getElem?_eq_some_iff.1 h2).1
    have hg := g2.out
    refine Lib.hid ⟨?_, ?_, ?_, (h3.setCell hg _).setCell (by show w.heap.size ≤ g + 1; omega) _⟩
    · simp [TmAt, World.cell?, World.setCell, Array.getElem?_modify, h1]
    · simp [TmAt, World.cell?, World.setCell, Array.getElem?_modify, h2]
    · simpa [World.setCell] using hl
  have c1 : w3.cell? ⟨g, 2, none⟩ = some (.int .i64 1000) := by simp [World.cell?, H3.out.1]
  have c2 : w3.cell? ⟨g + 1, 1, none⟩ = some (.int .i64 0) := by simp [World.cell?, H3.out.2.1]
  have f1 : w3.frozen? ⟨g, 2, none⟩ = false := by simp [World.frozen?, H3.out.1]
  have f2 : w3.frozen? ⟨g + 1, 1, none⟩ = false := by simp [World.frozen?, H3.out.2.1]
  clear H3
  go_upto_region 3 with fail
  clear c1 c2 f1 f2
  generalize (w3.setCell ⟨g, 2, none⟩ (.int .i64 12)).setCell ⟨g + 1, 1, none⟩ (.int .i64 25) = w4 at D ⊢
  have D : Hid (DD16 w w4 g) := D
  go_upto_region 4 with (first
    | (go_at_call 32; (with_reducible refine (QC.out _).mono ?_); rintro e wn ⟨rfl, hb⟩; replace D := Lib.hid (D.out.next hb); clear hb)
    | (go_at_call 11; (with_reducible refine (SF.out _).mono ?_); rintro e wn ⟨AL, cL, rfl, L, hb⟩; replace D := Lib.hid (D.out.next hb); clear hb))
  go_upto_region 5 with (first
    | (go_at_call 32; (with_reducible refine (QD.out _).mono ?_); rintro e wn ⟨rfl, hb⟩; replace D := Lib.hid (D.out.next hb); replace L := Lib.hid (one_keep16 L.out hb); clear hb)
    | (go_at_call 11; (with_reducible refine (SG.out _).mono ?_); rintro e wn ⟨AG, cG, rfl, hb⟩; replace D := Lib.hid (D.out.next hb); replace L := Lib.hid (one_keep16 L.out hb); clear hb))
  go_upto_region 6 with (go_at_call 11; (with_reducible refine (SH.out _).mono ?_); rintro e wq ⟨AH, cH, rfl, hb⟩; replace D := Lib.hid (D.out.next hb); replace L := Lib.hid (one_keep16 L.out hb); clear hb)
  -- R6
  have CT : Hid (∀ W, Below wq.heap.size wq W → (W.cell? ⟨g, 0, none⟩ = some (.int .i64 10) ∧ W.cell? ⟨g, 1, none⟩ = some (.int .i64 0) ∧ W.cell? ⟨g, 2, none⟩ = some (.int .i64 12) ∧ W.cell? ⟨g, 3, none⟩ = some (.int .i64 1) ∧ W.cell? ⟨g, 4, none⟩ = some (.int .i64 1) ∧ W.cell? ⟨g, 5, none⟩ = some (.int .i64 0)) ∧
      (W.cell? ⟨g + 1, 0, none⟩ = some (.int .i64 30) ∧ W.cell? ⟨g + 1, 1, none⟩ = some (.int .i64 25) ∧ W.cell? ⟨g + 1, 2, none⟩ = some (.int .i64 1000) ∧ W.cell? ⟨g + 1, 3, none⟩ = some (.int .i64 0) ∧ W.cell? ⟨g + 1, 4, none⟩ = some (.int .i64 1) ∧ W.cell? ⟨g + 1, 5, none⟩ = some (.int .i64 0)) ∧ W.cell? ⟨AL, 0, none⟩ = some (.int .i64 10)) := Lib.hid (fun W hW => ⟨(D.out.next hW).1, (D.out.next hW).2.1, (one_keep16 L.out hW).2⟩)
  refine' wp_region_below [opV (.agg #[.int .i64 10, .int .i64 0, .int .i64 1000, .int .i64 1, .int .i64 1, .int .i64 0]), opV (.agg #[.int .i64 10, .int .i64 0, .int .i64 1000, .int .i64 3, .int .i64 1, .int .i64 0]), opV (.bool true), opV (.bool true), opV (.agg #[.int .i64 10, .int .i64 0, .int .i64 1000, .int .i64 0, .int .i64 1, .int .i64 0]), opV (.agg #[.int .i64 10, .int .i64 0, .int .i64 12, .int .i64 1, .int .i64 1, .int .i64 0]), opV (.bool true), opV (.bool true), opV (.bool true), opV (.agg #[.int .i64 30, .int .i64 0, .int .i64 1000, .int .i64 0, .int .i64 1, .int .i64 0]), opV (.agg #[.int .i64 10, .int .i64 0, .int .i64 1000, .int .i64 0, .int .i64 1, .int .i64 0]), opV (.bool true), opV (.bool true), opV (.bool true), opV (.agg #[.int .i64 30, .int .i64 25, .int .i64 1000, .int .i64 0, .int .i64 1, .int .i64 0]), opV (.agg #[.int .i64 10, .int .i64 0, .int .i64 1000, .int .i64 0, .int .i64 1, .int .i64 0]), opV (.bool true), opV (.bool true), opV (.bool true), opV (.agg #[.int .i64 10, .int .i64 0, .int .i64 1000, .int .i64 1, .int .i64 1, .int .i64 0]), opV (.agg #[.int .i64 10, .int .i64 0, .int .i64 1000, .int .i64 1, .int .i64 1, .int .i64 0]), opV (.bool true), opV (.bool true), opV (.bool true), opV (.int .i64 0), opV (.bool true), opV (.bool true), opV (.bool true), opV (.slice (some ⟨AL, 0, none⟩) 1 cL), opV (.int .i64 1), opV (.bool true), opV (.bool true), opV (.bool true), opV (.slice (some ⟨AL, 0, none⟩) 1 cL), opV (.pointer (some ⟨AL, 0, none⟩)), opV (.int .i64 10), opV (.bool true), opV (.bool true), opV (.bool true), opV (.int .i64 2), opV (.bool true), opV (.bool true), opV (.bool true), opV (.slice AH 0 cH), opV (.int .i64 0), opV (.bool true), opV (.bool true), opV (.bool true), opV (.int .i64 0), opV (.bool true), opV (.bool true), opV (.bool true), opV (.agg #[.int .i64 30, .int .i64 25, .int .i64 1000, .int .i64 0, .int .i64 1, .int .i64 0]), opV (.int .i64 30), opV (.bool true), opV (.bool true), opV (.bool true), opV (.agg #[.int .i64 3, .int .i64 5, .int .i64 4, .int .i64 0, .int .i64 0, .int .i64 0]), opV (.int .i64 5), opV (.bool true), opV (.bool true), opV (.bool true)] rfl (by kernel_rfl) ⟨?s0, ?s1, ?s2, ?s3, ?s4, ?s5, ?s6, ?s7, ?s8, ?s9, ?s10, ?s11, ?s12, ?s13, ?s14, ?s15, ?s16, ?s17, ?s18, ?s19, ?s20, ?s21, ?s22, ?s23, ?s24, ?s25, ?s26, ?s27, ?s28, ?s29, ?s30, ?s31, ?s32, ?s33, ?s34, ?s35, ?s36, ?s37, ?s38, ?s39, ?s40, ?s41, ?s42, ?s43, ?s44, ?s45, ?s46, ?s47, ?s48, ?s49, ?s50, ?s51, ?s52, ?s53, ?s54, ?s55, ?s56, ?s57, ?s58, ?s59, ?s60, ?s61, trivial⟩ ?fin
  case s0 =>
    refine BStep.of [] [] (opV (.agg #[.int .i64 10, .int .i64 0, .int .i64 1000, .int .i64 1, .int .i64 1, .int .i64 0])) (by kernel_rfl) (fun _ _ => by kernel_rfl) rfl ?_
    intro vs wv hB hA
    clear hA
    simp only [fillP]
    clear QB QC QD QE QF TA TB TC TD TE SF SG SH FA FB D L CT g2; (go_wp2_with (go_at_call 32; (with_reducible refine (QA.out _).mono ?_); rintro e w7 ⟨rfl, hb⟩)); exact postB_val rfl hb
  case s1 =>
    refine BStep.of [0] [(29, 0)] (opV (.agg #[.int .i64 10, .int .i64 0, .int .i64 1000, .int .i64 3, .int .i64 1, .int .i64 0])) (by kernel_rfl) (fun _ _ => by kernel_rfl) rfl ?_
    intro vs wv hB hA
    have h0 : vs 0 = _ := hA.1
    clear hA
    simp only [fillP, List.setIfInBounds_toArray, List.set_cons_zero, List.set_cons_succ, h0]
    clear QA QB QC QD QF TA TB TC TD TE SF SG SH FA FB D L CT g2; (go_wp2_with (go_at_call 32; (with_reducible refine (QE.out _).mono ?_); rintro e w7 ⟨rfl, hb⟩)); exact postB_val rfl hb
  case s2 =>
    refine BStep.of [0, 1] [(29, 0), (30, 1)] (opV (.bool true)) (by kernel_rfl) (fun _ _ => by kernel_rfl) rfl ?_
    intro vs wv hB hA
    have h0 : vs 0 = _ := hA.1
    have h1 : vs 1 = _ := hA.2.1
    clear hA
    simp only [fillP, List.setIfInBounds_toArray, List.set_cons_zero, List.set_cons_succ, h0, h1]
    clear QA QB QC QD QE QF TB TC TD TE SF SG SH FA FB D L CT g2; (go_wp2_with (go_at_call 33; (with_reducible refine (TA.out _).mono ?_); rintro e w7 ⟨rfl, hb⟩)); exact postB_val rfl hb
  case s3 =>
    refine BStep.of [2] [(31, 2)] (opV (.bool true)) (by kernel_rfl) (fun _ _ => by kernel_rfl) rfl ?_
    intro vs wv hB hA
    have h2 : vs 2 = _ := hA.1
    clear hA
    simp only [fillP, List.setIfInBounds_toArray, List.set_cons_zero, List.set_cons_succ, h2]
    clear QA QB QC QD QE QF TA TB TC TD TE SF SG SH FA FB D L CT g2; go_wp2_with fail; refine postB_val ?_ (Below.refl _ _); simp only [List.getElem?_cons_succ, List.getElem?_cons_zero]
  case s4 =>
    refine BStep.of [3] [(32, 3)] (opV (.agg #[.int .i64 10, .int .i64 0, .int .i64 1000, .int .i64 0, .int .i64 1, .int .i64 0])) (by kernel_rfl) (fun _ _ => by kernel_rfl) rfl ?_
    intro vs wv hB hA
    have h3 : vs 3 = _ := hA.1
    clear hA
    simp only [fillP, List.setIfInBounds_toArray, List.set_cons_zero, List.set_cons_succ, h3]
    clear QA QB QC QD QE TA TB TC TD TE SF SG SH FA FB D L CT g2; (go_wp2_with (go_at_call 32; (with_reducible refine (QF.out _).mono ?_); rintro e w7 ⟨rfl, hb⟩)); exact postB_val rfl hb
  case s5 =>
    refine BStep.of [3] [(32, 3)] (opV (.agg #[.int .i64 10, .int .i64 0, .int .i64 12, .int .i64 1, .int .i64 1, .int .i64 0])) (by kernel_rfl) (fun _ _ => by kernel_rfl) rfl ?_
    intro vs wv hB hA
    have h3 : vs 3 = _ := hA.1
    clear hA
    simp only [fillP, List.setIfInBounds_toArray, List.set_cons_zero, List.set_cons_succ, h3]
    obtain ⟨⟨p0, p1, p2, p3, p4, p5⟩, -, -⟩ := CT.out wv hB; clear QA QB QC QD QE QF TA TB TC TD TE SF SG SH FA FB D L CT g2; go_wp2_with fail; refine postB_val ?_ (Below.refl _ _); simp only [List.getElem?_cons_succ, List.getElem?_cons_zero]
  case s6 =>
    refine BStep.of [3, 4, 5] [(32, 3), (33, 4), (34, 5)] (opV (.bool true)) (by kernel_rfl) (fun _ _ => by kernel_rfl) rfl ?_
    intro vs wv hB hA
    have h3 : vs 3 = _ := hA.1
    have h4 : vs 4 = _ := hA.2.1
    have h5 : vs 5 = _ := hA.2.2.1
    clear hA
    simp only [fillP, List.setIfInBounds_toArray, List.set_cons_zero, List.set_cons_succ, h3, h4, h5]
    clear QA QB QC QD QE QF TA TC TD TE SF SG SH FA FB D L CT g2; (go_wp2_with (go_at_call 33; (with_reducible refine (TB.out _).mono ?_); rintro e w7 ⟨rfl, hb⟩)); exact postB_val rfl hb
  case s7 =>
    refine BStep.of [3, 6] [(32, 3), (35, 6)] (opV (.bool true)) (by kernel_rfl) (fun _ _ => by kernel_rfl) rfl ?_
    intro vs wv hB hA
    have h3 : vs 3 = _ := hA.1
    have h6 : vs 6 = _ := hA.2.1
    clear hA
    simp only [fillP, List.setIfInBounds_toArray, List.set_cons_zero, List.set_cons_succ, h3, h6]
    clear QA QB QC QD QE QF TA TB TC TD TE SF SG SH FA FB D L CT g2; go_wp2_with fail; refine postB_val ?_ (Below.refl _ _); simp only [List.getElem?_cons_succ, List.getElem?_cons_zero]
  case s8 =>
    refine BStep.of [6, 7] [(35, 6), (36, 7)] (opV (.bool true)) (by kernel_rfl) (fun _ _ => by kernel_rfl) rfl ?_
    intro vs wv hB hA
    have h6 : vs 6 = _ := hA.1
    have h7 : vs 7 = _ := hA.2.1
    clear hA
    simp only [fillP, List.setIfInBounds_toArray, List.set_cons_zero, List.set_cons_succ, h6, h7]
    clear QA QB QC QD QE QF TA TB TC TD TE SF SG SH FA FB D L CT g2; go_wp2_with fail; refine postB_val ?_ (Below.refl _ _); simp only [List.getElem?_cons_succ, List.getElem?_cons_zero]
  case s9 =>
    refine BStep.of [8] [(37, 8)] (opV (.agg #[.int .i64 30, .int .i64 0, .int .i64 1000, .int .i64 0, .int .i64 1, .int .i64 0])) (by kernel_rfl) (fun _ _ => by kernel_rfl) rfl ?_
    intro vs wv hB hA
    have h8 : vs 8 = _ := hA.1
    clear hA
    simp only [fillP, List.setIfInBounds_toArray, List.set_cons_zero, List.set_cons_succ, h8]
    clear QA QC QD QE QF TA TB TC TD TE SF SG SH FA FB D L CT g2; (go_wp2_with (go_at_call 32; (with_reducible refine (QB.out _).mono ?_); rintro e w7 ⟨rfl, hb⟩)); exact postB_val rfl hb
  case s10 =>
    refine BStep.of [8, 9] [(37, 8), (38, 9)] (opV (.agg #[.int .i64 10, .int .i64 0, .int .i64 1000, .int .i64 0, .int .i64 1, .int .i64 0])) (by kernel_rfl) (fun _ _ => by kernel_rfl) rfl ?_
    intro vs wv hB hA
    have h8 : vs 8 = _ := hA.1
    have h9 : vs 9 = _ := hA.2.1
    clear hA
    simp only [fillP, List.setIfInBounds_toArray, List.set_cons_zero, List.set_cons_succ, h8, h9]
    clear QA QB QC QD QE TA TB TC TD TE SF SG SH FA FB D L CT g2; (go_wp2_with (go_at_call 32; (with_reducible refine (QF.out _).mono ?_); rintro e w7 ⟨rfl, hb⟩)); exact postB_val rfl hb
  case s11 =>
    refine BStep.of [8, 9, 10] [(37, 8), (38, 9), (39, 10)] (opV (.bool true)) (by kernel_rfl) (fun _ _ => by kernel_rfl) rfl ?_
    intro vs wv hB hA
    have h8 : vs 8 = _ := hA.1
    have h9 : vs 9 = _ := hA.2.1
    have h10 : vs 10 = _ := hA.2.2.1
    clear hA
    simp only [fillP, List.setIfInBounds_toArray, List.set_cons_zero, List.set_cons_succ, h8, h9, h10]
    clear QA QB QC QD QE QF TA TB TD TE SF SG SH FA FB D L CT g2; (go_wp2_with (go_at_call 33; (with_reducible refine (TC.out _).mono ?_); rintro e w7 ⟨rfl, hb⟩)); exact postB_val rfl hb
  case s12 =>
    refine BStep.of [8, 11] [(37, 8), (40, 11)] (opV (.bool true)) (by kernel_rfl) (fun _ _ => by kernel_rfl) rfl ?_
    intro vs wv hB hA
    have h8 : vs 8 = _ := hA.1
    have h11 : vs 11 = _ := hA.2.1
    clear hA
    simp only [fillP, List.setIfInBounds_toArray, List.set_cons_zero, List.set_cons_succ, h8, h11]
    clear QA QB QC QD QE QF TA TB TC TD TE SF SG SH FA FB D L CT g2; go_wp2_with fail; refine postB_val ?_ (Below.refl _ _); simp only [List.getElem?_cons_succ, List.getElem?_cons_zero]
  case s13 =>
    refine BStep.of [11, 12] [(40, 11), (41, 12)] (opV (.bool true)) (by kernel_rfl) (fun _ _ => by kernel_rfl) rfl ?_
    intro vs wv hB hA
    have h11 : vs 11 = _ := hA.1
    have h12 : vs 12 = _ := hA.2.1
    clear hA
    simp only [fillP, List.setIfInBounds_toArray, List.set_cons_zero, List.set_cons_succ, h11, h12]
    clear QA QB QC QD QE QF TA TB TC TD TE SF SG SH FA FB D L CT g2; go_wp2_with fail; refine postB_val ?_ (Below.refl _ _); simp only [List.getElem?_cons_succ, List.getElem?_cons_zero]
  case s14 =>
    refine BStep.of [13] [(42, 13)] (opV (.agg #[.int .i64 30, .int .i64 25, .int .i64 1000, .int .i64 0, .int .i64 1, .int .i64 0])) (by kernel_rfl) (fun _ _ => by kernel_rfl) rfl ?_
    intro vs wv hB hA
    have h13 : vs 13 = _ := hA.1
    clear hA
    simp only [fillP, List.setIfInBounds_toArray, List.set_cons_zero, List.set_cons_succ, h13]
    obtain ⟨-, ⟨q0, q1, q2, q3, q4, q5⟩, -⟩ := CT.out wv hB; clear QA QB QC QD QE QF TA TB TC TD TE SF SG SH FA FB D L CT g2; go_wp2_with fail; refine postB_val ?_ (Below.refl _ _); simp only [List.getElem?_cons_succ, List.getElem?_cons_zero]
  case s15 =>
    refine BStep.of [13] [(42, 13)] (opV (.agg #[.int .i64 10, .int .i64 0, .int .i64 1000, .int .i64 0, .int .i64 1, .int .i64 0])) (by kernel_rfl) (fun _ _ => by kernel_rfl) rfl ?_
    intro vs wv hB hA
    have h13 : vs 13 = _ := hA.1
    clear hA
    simp only [fillP, List.setIfInBounds_toArray, List.set_cons_zero, List.set_cons_succ, h13]
    clear QA QB QC QD QE TA TB TC TD TE SF SG SH FA FB D L CT g2; (go_wp2_with (go_at_call 32; (with_reducible refine (QF.out _).mono ?_); rintro e w7 ⟨rfl, hb⟩)); exact postB_val rfl hb
  case s16 =>
    refine BStep.of [13, 14, 15] [(42, 13), (43, 14), (44, 15)] (opV (.bool true)) (by kernel_rfl) (fun _ _ => by kernel_rfl) rfl ?_
    intro vs wv hB hA
    have h13 : vs 13 = _ := hA.1
    have h14 : vs 14 = _ := hA.2.1
    have h15 : vs 15 = _ := hA.2.2.1
    clear hA
    simp only [fillP, List.setIfInBounds_toArray, List.set_cons_zero, List.set_cons_succ, h13, h14, h15]
    clear QA QB QC QD QE QF TA TB TC TE SF SG SH FA FB D L CT g2; (go_wp2_with (go_at_call 33; (with_reducible refine (TD.out _).mono ?_); rintro e w7 ⟨rfl, hb⟩)); exact postB_val rfl hb
  case s17 =>
    refine BStep.of [13, 16] [(42, 13), (45, 16)] (opV (.bool true)) (by kernel_rfl) (fun _ _ => by kernel_rfl) rfl ?_
    intro vs wv hB hA
    have h13 : vs 13 = _ := hA.1
    have h16 : vs 16 = _ := hA.2.1
    clear hA
    simp only [fillP, List.setIfInBounds_toArray, List.set_cons_zero, List.set_cons_succ, h13, h16]
    clear QA QB QC QD QE QF TA TB TC TD TE SF SG SH FA FB D L CT g2; go_wp2_with fail; refine postB_val ?_ (Below.refl _ _); simp only [List.getElem?_cons_succ, List.getElem?_cons_zero]
  case s18 =>
    refine BStep.of [16, 17] [(45, 16), (46, 17)] (opV (.bool true)) (by kernel_rfl) (fun _ _ => by kernel_rfl) rfl ?_
    intro vs wv hB hA
    have h16 : vs 16 = _ := hA.1
    have h17 : vs 17 = _ := hA.2.1
    clear hA
    simp only [fillP, List.setIfInBounds_toArray, List.set_cons_zero, List.set_cons_succ, h16, h17]
    clear QA QB QC QD QE QF TA TB TC TD TE SF SG SH FA FB D L CT g2; go_wp2_with fail; refine postB_val ?_ (Below.refl _ _); simp only [List.getElem?_cons_succ, List.getElem?_cons_zero]
  case s19 =>
    refine BStep.of [18] [(47, 18)] (opV (.agg #[.int .i64 10, .int .i64 0, .int .i64 1000, .int .i64 1, .int .i64 1, .int .i64 0])) (by kernel_rfl) (fun _ _ => by kernel_rfl) rfl ?_
    intro vs wv hB hA
    have h18 : vs 18 = _ := hA.1
    clear hA
    simp only [fillP, List.setIfInBounds_toArray, List.set_cons_zero, List.set_cons_succ, h18]
    clear QB QC QD QE QF TA TB TC TD TE SF SG SH FA FB D L CT g2; (go_wp2_with (go_at_call 32; (with_reducible refine (QA.out _).mono ?_); rintro e w7 ⟨rfl, hb⟩)); exact postB_val rfl hb
  case s20 =>
    refine BStep.of [18, 19] [(47, 18), (48, 19)] (opV (.agg #[.int .i64 10, .int .i64 0, .int .i64 1000, .int .i64 1, .int .i64 1, .int .i64 0])) (by kernel_rfl) (fun _ _ => by kernel_rfl) rfl ?_
    intro vs wv hB hA
    have h18 : vs 18 = _ := hA.1
    have h19 : vs 19 = _ := hA.2.1
    clear hA
    simp only [fillP, List.setIfInBounds_toArray, List.set_cons_zero, List.set_cons_succ, h18, h19]
    clear QB QC QD QE QF TA TB TC TD TE SF SG SH FA FB D L CT g2; (go_wp2_with (go_at_call 32; (with_reducible refine (QA.out _).mono ?_); rintro e w7 ⟨rfl, hb⟩)); exact postB_val rfl hb
  case s21 =>
    refine BStep.of [18, 19, 20] [(47, 18), (48, 19), (49, 20)] (opV (.bool true)) (by kernel_rfl) (fun _ _ => by kernel_rfl) rfl ?_
    intro vs wv hB hA
    have h18 : vs 18 = _ := hA.1
    have h19 : vs 19 = _ := hA.2.1
    have h20 : vs 20 = _ := hA.2.2.1
    clear hA
    simp only [fillP, List.setIfInBounds_toArray, List.set_cons_zero, List.set_cons_succ, h18, h19, h20]
    clear QA QB QC QD QE QF TA TB TC TD SF SG SH FA FB D L CT g2; (go_wp2_with (go_at_call 33; (with_reducible refine (TE.out _).mono ?_); rintro e w7 ⟨rfl, hb⟩)); exact postB_val rfl hb
  case s22 =>
    refine BStep.of [18, 21] [(47, 18), (50, 21)] (opV (.bool true)) (by kernel_rfl) (fun _ _ => by kernel_rfl) rfl ?_
    intro vs wv hB hA
    have h18 : vs 18 = _ := hA.1
    have h21 : vs 21 = _ := hA.2.1
    clear hA
    simp only [fillP, List.setIfInBounds_toArray, List.set_cons_zero, List.set_cons_succ, h18, h21]
    clear QA QB QC QD QE QF TA TB TC TD TE SF SG SH FA FB D L CT g2; go_wp2_with fail; refine postB_val ?_ (Below.refl _ _); simp only [List.getElem?_cons_succ, List.getElem?_cons_zero]
  case s23 =>
    refine BStep.of [21, 22] [(50, 21), (51, 22)] (opV (.bool true)) (by kernel_rfl) (fun _ _ => by kernel_rfl) rfl ?_
    intro vs wv hB hA
    have h21 : vs 21 = _ := hA.1
    have h22 : vs 22 = _ := hA.2.1
    clear hA
    simp only [fillP, List.setIfInBounds_toArray, List.set_cons_zero, List.set_cons_succ, h21, h22]
    clear QA QB QC QD QE QF TA TB TC TD TE SF SG SH FA FB D L CT g2; go_wp2_with fail; refine postB_val ?_ (Below.refl _ _); simp only [List.getElem?_cons_succ, List.getElem?_cons_zero]
  case s24 =>
    refine BStep.of [23] [(52, 23)] (opV (.int .i64 0)) (by kernel_rfl) (fun _ _ => by kernel_rfl) rfl ?_
    intro vs wv hB hA
    have h23 : vs 23 = _ := hA.1
    clear hA
    simp only [fillP, List.setIfInBounds_toArray, List.set_cons_zero, List.set_cons_succ, h23]
    clear QA QB QC QD QE QF TA TB TC TD TE SF SG SH FA FB D L CT g2; go_wp2_with fail; refine postB_val ?_ (Below.refl _ _); simp only [List.getElem?_cons_succ, List.getElem?_cons_zero]
  case s25 =>
    refine BStep.of [23, 24] [(52, 23), (53, 24)] (opV (.bool true)) (by kernel_rfl) (fun _ _ => by kernel_rfl) rfl ?_
    intro vs wv hB hA
    have h23 : vs 23 = _ := hA.1
    have h24 : vs 24 = _ := hA.2.1
    clear hA
    simp only [fillP, List.setIfInBounds_toArray, List.set_cons_zero, List.set_cons_succ, h23, h24]
    clear QA QB QC QD QE QF TA TB TC TD TE SF SG SH FA FB D L CT g2; go_wp2_with fail; refine postB_val ?_ (Below.refl _ _); simp only [List.getElem?_cons_succ, List.getElem?_cons_zero]
  case s26 =>
    refine BStep.of [23, 25] [(52, 23), (54, 25)] (opV (.bool true)) (by kernel_rfl) (fun _ _ => by kernel_rfl) rfl ?_
    intro vs wv hB hA
    have h23 : vs 23 = _ := hA.1
    have h25 : vs 25 = _ := hA.2.1
    clear hA
    simp only [fillP, List.setIfInBounds_toArray, List.set_cons_zero, List.set_cons_succ, h23, h25]
    clear QA QB QC QD QE QF TA TB TC TD TE SF SG SH FA FB D L CT g2; go_wp2_with fail; refine postB_val ?_ (Below.refl _ _); simp only [List.getElem?_cons_succ, List.getElem?_cons_zero]
  case s27 =>
    refine BStep.of [23, 26] [(52, 23), (55, 26)] (opV (.bool true)) (by kernel_rfl) (fun _ _ => by kernel_rfl) rfl ?_
    intro vs wv hB hA
    have h23 : vs 23 = _ := hA.1
    have h26 : vs 26 = _ := hA.2.1
    clear hA
    simp only [fillP, List.setIfInBounds_toArray, List.set_cons_zero, List.set_cons_succ, h23, h26]
    clear QA QB QC QD QE QF TA TB TC TD TE SF SG SH FA FB D L CT g2; go_wp2_with fail; refine postB_val ?_ (Below.refl _ _); simp only [List.getElem?_cons_succ, List.getElem?_cons_zero]
  case s28 =>
    refine BStep.of [27] [(56, 27)] (opV (.slice (some ⟨AL, 0, none⟩) 1 cL)) (by kernel_rfl) (fun _ _ => by kernel_rfl) rfl ?_
    intro vs wv hB hA
    have h27 : vs 27 = _ := hA.1
    clear hA
    simp only [fillP, List.setIfInBounds_toArray, List.set_cons_zero, List.set_cons_succ, h27]
    clear QA QB QC QD QE QF TA TB TC TD TE SF SG SH FA FB D L CT g2; go_wp2_with fail; refine postB_val ?_ (Below.refl _ _); simp only [List.getElem?_cons_succ, List.getElem?_cons_zero]
  case s29 =>
    refine BStep.of [27, 28] [(56, 27), (57, 28)] (opV (.int .i64 1)) (by kernel_rfl) (fun _ _ => by kernel_rfl) rfl ?_
    intro vs wv hB hA
    have h27 : vs 27 = _ := hA.1
    have h28 : vs 28 = _ := hA.2.1
    clear hA
    simp only [fillP, List.setIfInBounds_toArray, List.set_cons_zero, List.set_cons_succ, h27, h28]
    clear QA QB QC QD QE QF TA TB TC TD TE SF SG SH FA FB D L CT g2; go_wp2_with fail; refine postB_val ?_ (Below.refl _ _); simp only [List.getElem?_cons_succ, List.getElem?_cons_zero]
  case s30 =>
    refine BStep.of [27, 29] [(56, 27), (58, 29)] (opV (.bool true)) (by kernel_rfl) (fun _ _ => by kernel_rfl) rfl ?_
    intro vs wv hB hA
    have h27 : vs 27 = _ := hA.1
    have h29 : vs 29 = _ := hA.2.1
    clear hA
    simp only [fillP, List.setIfInBounds_toArray, List.set_cons_zero, List.set_cons_succ, h27, h29]
    clear QA QB QC QD QE QF TA TB TC TD TE SF SG SH FA FB D L CT g2; go_wp2_with fail; refine postB_val ?_ (Below.refl _ _); simp only [List.getElem?_cons_succ, List.getElem?_cons_zero]
  case s31 =>
    refine BStep.of [27, 30] [(56, 27), (59, 30)] (opV (.bool true)) (by kernel_rfl) (fun _ _ => by kernel_rfl) rfl ?_
    intro vs wv hB hA
    have h27 : vs 27 = _ := hA.1
    have h30 : vs 30 = _ := hA.2.1
    clear hA
    simp only [fillP, List.setIfInBounds_toArray, List.set_cons_zero, List.set_cons_succ, h27, h30]
    clear QA QB QC QD QE QF TA TB TC TD TE SF SG SH FA FB D L CT g2; go_wp2_with fail; refine postB_val ?_ (Below.refl _ _); simp only [List.getElem?_cons_succ, List.getElem?_cons_zero]
  case s32 =>
    refine BStep.of [27, 31] [(56, 27), (60, 31)] (opV (.bool true)) (by kernel_rfl) (fun _ _ => by kernel_rfl) rfl ?_
    intro vs wv hB hA
    have h27 : vs 27 = _ := hA.1
    have h31 : vs 31 = _ := hA.2.1
    clear hA
    simp only [fillP, List.setIfInBounds_toArray, List.set_cons_zero, List.set_cons_succ, h27, h31]
    clear QA QB QC QD QE QF TA TB TC TD TE SF SG SH FA FB D L CT g2; go_wp2_with fail; refine postB_val ?_ (Below.refl _ _); simp only [List.getElem?_cons_succ, List.getElem?_cons_zero]
  case s33 =>
    refine BStep.of [32] [(61, 32)] (opV (.slice (some ⟨AL, 0, none⟩) 1 cL)) (by kernel_rfl) (fun _ _ => by kernel_rfl) rfl ?_
    intro vs wv hB hA
    have h32 : vs 32 = _ := hA.1
    clear hA
    simp only [fillP, List.setIfInBounds_toArray, List.set_cons_zero, List.set_cons_succ, h32]
    clear QA QB QC QD QE QF TA TB TC TD TE SF SG SH FA FB D L CT g2; go_wp2_with fail; refine postB_val ?_ (Below.refl _ _); simp only [List.getElem?_cons_succ, List.getElem?_cons_zero]
  case s34 =>
    refine BStep.of [32, 33] [(61, 32), (62, 33)] (opV (.pointer (some ⟨AL, 0, none⟩))) (by kernel_rfl) (fun _ _ => by kernel_rfl) rfl ?_
    intro vs wv hB hA
    have h32 : vs 32 = _ := hA.1
    have h33 : vs 33 = _ := hA.2.1
    clear hA
    simp only [fillP, List.setIfInBounds_toArray, List.set_cons_zero, List.set_cons_succ, h32, h33]
    clear QA QB QC QD QE QF TA TB TC TD TE SF SG SH FA FB D L CT g2; go_wp2_with fail; refine postB_val ?_ (Below.refl _ _); simp only [List.getElem?_cons_succ, List.getElem?_cons_zero]
  case s35 =>
    refine BStep.of [32, 34] [(61, 32), (63, 34)] (opV (.int .i64 10)) (by kernel_rfl) (fun _ _ => by kernel_rfl) rfl ?_
    intro vs wv hB hA
    have h32 : vs 32 = _ := hA.1
    have h34 : vs 34 = _ := hA.2.1
    clear hA
    simp only [fillP, List.setIfInBounds_toArray, List.set_cons_zero, List.set_cons_succ, h32, h34]
    obtain ⟨-, -, l0⟩ := CT.out wv hB; clear QA QB QC QD QE QF TA TB TC TD TE SF SG SH FA FB D L CT g2; go_wp2_with fail; refine postB_val ?_ (Below.refl _ _); simp only [List.getElem?_cons_succ, List.getElem?_cons_zero]
  case s36 =>
    refine BStep.of [32, 35] [(61, 32), (64, 35)] (opV (.bool true)) (by kernel_rfl) (fun _ _ => by kernel_rfl) rfl ?_
    intro vs wv hB hA
    have h32 : vs 32 = _ := hA.1
    have h35 : vs 35 = _ := hA.2.1
    clear hA
    simp only [fillP, List.setIfInBounds_toArray, List.set_cons_zero, List.set_cons_succ, h32, h35]
    clear QA QB QC QD QE QF TA TB TC TD TE SF SG SH FA FB D L CT g2; go_wp2_with fail; refine postB_val ?_ (Below.refl _ _); simp only [List.getElem?_cons_succ, List.getElem?_cons_zero]
  case s37 =>
    refine BStep.of [32, 36] [(61, 32), (65, 36)] (opV (.bool true)) (by kernel_rfl) (fun _ _ => by kernel_rfl) rfl ?_
    intro vs wv hB hA
    have h32 : vs 32 = _ := hA.1
    have h36 : vs 36 = _ := hA.2.1
    clear hA
    simp only [fillP, List.setIfInBounds_toArray, List.set_cons_zero, List.set_cons_succ, h32, h36]
    clear QA QB QC QD QE QF TA TB TC TD TE SF SG SH FA FB D L CT g2; go_wp2_with fail; refine postB_val ?_ (Below.refl _ _); simp only [List.getElem?_cons_succ, List.getElem?_cons_zero]
  case s38 =>
    refine BStep.of [32, 37] [(61, 32), (66, 37)] (opV (.bool true)) (by kernel_rfl) (fun _ _ => by kernel_rfl) rfl ?_
    intro vs wv hB hA
    have h32 : vs 32 = _ := hA.1
    have h37 : vs 37 = _ := hA.2.1
    clear hA
    simp only [fillP, List.setIfInBounds_toArray, List.set_cons_zero, List.set_cons_succ, h32, h37]
    clear QA QB QC QD QE QF TA TB TC TD TE SF SG SH FA FB D L CT g2; go_wp2_with fail; refine postB_val ?_ (Below.refl _ _); simp only [List.getElem?_cons_succ, List.getElem?_cons_zero]
  case s39 =>
    refine BStep.of [38] [(67, 38)] (opV (.int .i64 2)) (by kernel_rfl) (fun _ _ => by kernel_rfl) rfl ?_
    intro vs wv hB hA
    have h38 : vs 38 = _ := hA.1
    clear hA
    simp only [fillP, List.setIfInBounds_toArray, List.set_cons_zero, List.set_cons_succ, h38]
    clear QA QB QC QD QE QF TA TB TC TD TE SF SG SH FA FB D L CT g2; go_wp2_with fail; refine postB_val ?_ (Below.refl _ _); simp only [List.getElem?_cons_succ, List.getElem?_cons_zero]
  case s40 =>
    refine BStep.of [38, 39] [(67, 38), (68, 39)] (opV (.bool true)) (by kernel_rfl) (fun _ _ => by kernel_rfl) rfl ?_
    intro vs wv hB hA
    have h38 : vs 38 = _ := hA.1
    have h39 : vs 39 = _ := hA.2.1
    clear hA
    simp only [fillP, List.setIfInBounds_toArray, List.set_cons_zero, List.set_cons_succ, h38, h39]
    clear QA QB QC QD QE QF TA TB TC TD TE SF SG SH FA FB D L CT g2; go_wp2_with fail; refine postB_val ?_ (Below.refl _ _); simp only [List.getElem?_cons_succ, List.getElem?_cons_zero]
  case s41 =>
    refine BStep.of [38, 40] [(67, 38), (69, 40)] (opV (.bool true)) (by kernel_rfl) (fun _ _ => by kernel_rfl) rfl ?_
    intro vs wv hB hA
    have h38 : vs 38 = _ := hA.1
    have h40 : vs 40 = _ := hA.2.1
    clear hA
    simp only [fillP, List.setIfInBounds_toArray, List.set_cons_zero, List.set_cons_succ, h38, h40]
    clear QA QB QC QD QE QF TA TB TC TD TE SF SG SH FA FB D L CT g2; go_wp2_with fail; refine postB_val ?_ (Below.refl _ _); simp only [List.getElem?_cons_succ, List.getElem?_cons_zero]
  case s42 =>
    refine BStep.of [38, 41] [(67, 38), (70, 41)] (opV (.bool true)) (by kernel_rfl) (fun _ _ => by kernel_rfl) rfl ?_
    intro vs wv hB hA
    have h38 : vs 38 = _ := hA.1
    have h41 : vs 41 = _ := hA.2.1
    clear hA
    simp only [fillP, List.setIfInBounds_toArray, List.set_cons_zero, List.set_cons_succ, h38, h41]
    clear QA QB QC QD QE QF TA TB TC TD TE SF SG SH FA FB D L CT g2; go_wp2_with fail; refine postB_val ?_ (Below.refl _ _); simp only [List.getElem?_cons_succ, List.getElem?_cons_zero]
  case s43 =>
    refine BStep.of [42] [(71, 42)] (opV (.slice AH 0 cH)) (by kernel_rfl) (fun _ _ => by kernel_rfl) rfl ?_
    intro vs wv hB hA
    have h42 : vs 42 = _ := hA.1
    clear hA
    simp only [fillP, List.setIfInBounds_toArray, List.set_cons_zero, List.set_cons_succ, h42]
    clear QA QB QC QD QE QF TA TB TC TD TE SF SG SH FA FB D L CT g2; go_wp2_with fail; refine postB_val ?_ (Below.refl _ _); simp only [List.getElem?_cons_succ, List.getElem?_cons_zero]
  case s44 =>
    refine BStep.of [42, 43] [(71, 42), (72, 43)] (opV (.int .i64 0)) (by kernel_rfl) (fun _ _ => by kernel_rfl) rfl ?_
    intro vs wv hB hA
    have h42 : vs 42 = _ := hA.1
    have h43 : vs 43 = _ := hA.2.1
    clear hA
    simp only [fillP, List.setIfInBounds_toArray, List.set_cons_zero, List.set_cons_succ, h42, h43]
    clear QA QB QC QD QE QF TA TB TC TD TE SF SG SH FA FB D L CT g2; go_wp2_with fail; refine postB_val ?_ (Below.refl _ _); simp only [List.getElem?_cons_succ, List.getElem?_cons_zero]
  case s45 =>
    refine BStep.of [42, 44] [(71, 42), (73, 44)] (opV (.bool true)) (by kernel_rfl) (fun _ _ => by kernel_rfl) rfl ?_
    intro vs wv hB hA
    have h42 : vs 42 = _ := hA.1
    have h44 : vs 44 = _ := hA.2.1
    clear hA
    simp only [fillP, List.setIfInBounds_toArray, List.set_cons_zero, List.set_cons_succ, h42, h44]
    clear QA QB QC QD QE QF TA TB TC TD TE SF SG SH FA FB D L CT g2; go_wp2_with fail; refine postB_val ?_ (Below.refl _ _); simp only [List.getElem?_cons_succ, List.getElem?_cons_zero]
  case s46 =>
    refine BStep.of [42, 45] [(71, 42), (74, 45)] (opV (.bool true)) (by kernel_rfl) (fun _ _ => by kernel_rfl) rfl ?_
    intro vs wv hB hA
    have h42 : vs 42 = _ := hA.1
    have h45 : vs 45 = _ := hA.2.1
    clear hA
    simp only [fillP, List.setIfInBounds_toArray, List.set_cons_zero, List.set_cons_succ, h42, h45]
    clear QA QB QC QD QE QF TA TB TC TD TE SF SG SH FA FB D L CT g2; go_wp2_with fail; refine postB_val ?_ (Below.refl _ _); simp only [List.getElem?_cons_succ, List.getElem?_cons_zero]
  case s47 =>
    refine BStep.of [42, 46] [(71, 42), (75, 46)] (opV (.bool true)) (by kernel_rfl) (fun _ _ => by kernel_rfl) rfl ?_
    intro vs wv hB hA
    have h42 : vs 42 = _ := hA.1
    have h46 : vs 46 = _ := hA.2.1
    clear hA
    simp only [fillP, List.setIfInBounds_toArray, List.set_cons_zero, List.set_cons_succ, h42, h46]
    clear QA QB QC QD QE QF TA TB TC TD TE SF SG SH FA FB D L CT g2; go_wp2_with fail; refine postB_val ?_ (Below.refl _ _); simp only [List.getElem?_cons_succ, List.getElem?_cons_zero]
  case s48 =>
    refine BStep.of [47] [(76, 47)] (opV (.int .i64 0)) (by kernel_rfl) (fun _ _ => by kernel_rfl) rfl ?_
    intro vs wv hB hA
    have h47 : vs 47 = _ := hA.1
    clear hA
    simp only [fillP, List.setIfInBounds_toArray, List.set_cons_zero, List.set_cons_succ, h47]
    clear QA QB QC QD QE QF TA TB TC TD TE SF SG SH FA FB D L CT g2; go_wp2_with fail; refine postB_val ?_ (Below.refl _ _); simp only [List.getElem?_cons_succ, List.getElem?_cons_zero]
  case s49 =>
    refine BStep.of [47, 48] [(76, 47), (77, 48)] (opV (.bool true)) (by kernel_rfl) (fun _ _ => by kernel_rfl) rfl ?_
    intro vs wv hB hA
    have h47 : vs 47 = _ := hA.1
    have h48 : vs 48 = _ := hA.2.1
    clear hA
    simp only [fillP, List.setIfInBounds_toArray, List.set_cons_zero, List.set_cons_succ, h47, h48]
    clear QA QB QC QD QE QF TA TB TC TD TE SF SG SH FA FB D L CT g2; go_wp2_with fail; refine postB_val ?_ (Below.refl _ _); simp only [List.getElem?_cons_succ, List.getElem?_cons_zero]
  case s50 =>
    refine BStep.of [47, 49] [(76, 47), (78, 49)] (opV (.bool true)) (by kernel_rfl) (fun _ _ => by kernel_rfl) rfl ?_
    intro vs wv hB hA
    have h47 : vs 47 = _ := hA.1
    have h49 : vs 49 = _ := hA.2.1
    clear hA
    simp only [fillP, List.setIfInBounds_toArray, List.set_cons_zero, List.set_cons_succ, h47, h49]
    clear QA QB QC QD QE QF TA TB TC TD TE SF SG SH FA FB D L CT g2; go_wp2_with fail; refine postB_val ?_ (Below.refl _ _); simp only [List.getElem?_cons_succ, List.getElem?_cons_zero]
  case s51 =>
    refine BStep.of [47, 50] [(76, 47), (79, 50)] (opV (.bool true)) (by kernel_rfl) (fun _ _ => by kernel_rfl) rfl ?_
    intro vs wv hB hA
    have h47 : vs 47 = _ := hA.1
    have h50 : vs 50 = _ := hA.2.1
    clear hA
    simp only [fillP, List.setIfInBounds_toArray, List.set_cons_zero, List.set_cons_succ, h47, h50]
    clear QA QB QC QD QE QF TA TB TC TD TE SF SG SH FA FB D L CT g2; go_wp2_with fail; refine postB_val ?_ (Below.refl _ _); simp only [List.getElem?_cons_succ, List.getElem?_cons_zero]
  case s52 =>
    refine BStep.of [51] [(80, 51)] (opV (.agg #[.int .i64 30, .int .i64 25, .int .i64 1000, .int .i64 0, .int .i64 1, .int .i64 0])) (by kernel_rfl) (fun _ _ => by kernel_rfl) rfl ?_
    intro vs wv hB hA
    have h51 : vs 51 = _ := hA.1
    clear hA
    simp only [fillP, List.setIfInBounds_toArray, List.set_cons_zero, List.set_cons_succ, h51]
    obtain ⟨-, ⟨q0, q1, q2, q3, q4, q5⟩, -⟩ := CT.out wv hB; clear QA QB QC QD QE QF TA TB TC TD TE SF SG SH FA FB D L CT g2; go_wp2_with fail; refine postB_val ?_ (Below.refl _ _); simp only [List.getElem?_cons_succ, List.getElem?_cons_zero]
  case s53 =>
    refine BStep.of [51, 52] [(80, 51), (81, 52)] (opV (.int .i64 30)) (by kernel_rfl) (fun _ _ => by kernel_rfl) rfl ?_
    intro vs wv hB hA
    have h51 : vs 51 = _ := hA.1
    have h52 : vs 52 = _ := hA.2.1
    clear hA
    simp only [fillP, List.setIfInBounds_toArray, List.set_cons_zero, List.set_cons_succ, h51, h52]
    clear QA QB QC QD QE QF TA TB TC TD TE SF SG SH FB D L CT g2; (go_wp2_with (go_at_call 13; (with_reducible refine (FA.out _).mono ?_); rintro e w7 ⟨rfl, hb⟩)); exact postB_val rfl hb
  case s54 =>
    refine BStep.of [51, 53] [(80, 51), (82, 53)] (opV (.bool true)) (by kernel_rfl) (fun _ _ => by kernel_rfl) rfl ?_
    intro vs wv hB hA
    have h51 : vs 51 = _ := hA.1
    have h53 : vs 53 = _ := hA.2.1
    clear hA
    simp only [fillP, List.setIfInBounds_toArray, List.set_cons_zero, List.set_cons_succ, h51, h53]
    clear QA QB QC QD QE QF TA TB TC TD TE SF SG SH FA FB D L CT g2; go_wp2_with fail; refine postB_val ?_ (Below.refl _ _); simp only [List.getElem?_cons_succ, List.getElem?_cons_zero]
  case s55 =>
    refine BStep.of [51, 54] [(80, 51), (83, 54)] (opV (.bool true)) (by kernel_rfl) (fun _ _ => by kernel_rfl) rfl ?_
    intro vs wv hB hA
    have h51 : vs 51 = _ := hA.1
    have h54 : vs 54 = _ := hA.2.1
    clear hA
    simp only [fillP, List.setIfInBounds_toArray, List.set_cons_zero, List.set_cons_succ, h51, h54]
    clear QA QB QC QD QE QF TA TB TC TD TE SF SG SH FA FB D L CT g2; go_wp2_with fail; refine postB_val ?_ (Below.refl _ _); simp only [List.getElem?_cons_succ, List.getElem?_cons_zero]
  case s56 =>
    refine BStep.of [53, 55] [(82, 53), (84, 55)] (opV (.bool true)) (by kernel_rfl) (fun _ _ => by kernel_rfl) rfl ?_
    intro vs wv hB hA
    have h53 : vs 53 = _ := hA.1
    have h55 : vs 55 = _ := hA.2.1
    clear hA
    simp only [fillP, List.setIfInBounds_toArray, List.set_cons_zero, List.set_cons_succ, h53, h55]
    clear QA QB QC QD QE QF TA TB TC TD TE SF SG SH FA FB D L CT g2; go_wp2_with fail; refine postB_val ?_ (Below.refl _ _); simp only [List.getElem?_cons_succ, List.getElem?_cons_zero]
  case s57 =>
    refine BStep.of [56] [(85, 56)] (opV (.agg #[.int .i64 3, .int .i64 5, .int .i64 4, .int .i64 0, .int .i64 0, .int .i64 0])) (by kernel_rfl) (fun _ _ => by kernel_rfl) rfl ?_
    intro vs wv hB hA
    have h56 : vs 56 = _ := hA.1
    clear hA
    simp only [fillP, List.setIfInBounds_toArray, List.set_cons_zero, List.set_cons_succ, h56]
    clear QA QB QC QD QE QF TA TB TC TD TE SF SG SH FA FB D L CT g2; go_wp2_with fail; refine postB_val ?_ (Below.refl _ _); simp only [List.getElem?_cons_succ, List.getElem?_cons_zero]
  case s58 =>
    refine BStep.of [56, 57] [(85, 56), (86, 57)] (opV (.int .i64 5)) (by kernel_rfl) (fun _ _ => by kernel_rfl) rfl ?_
    intro vs wv hB hA
    have h56 : vs 56 = _ := hA.1
    have h57 : vs 57 = _ := hA.2.1
    clear hA
    simp only [fillP, List.setIfInBounds_toArray, List.set_cons_zero, List.set_cons_succ, h56, h57]
    clear QA QB QC QD QE QF TA TB TC TD TE SF SG SH FA D L CT g2; (go_wp2_with (go_at_call 13; (with_reducible refine (FB.out _).mono ?_); rintro e w7 ⟨rfl, hb⟩)); exact postB_val rfl hb
  case s59 =>
    refine BStep.of [56, 58] [(85, 56), (87, 58)] (opV (.bool true)) (by kernel_rfl) (fun _ _ => by kernel_rfl) rfl ?_
    intro vs wv hB hA
    have h56 : vs 56 = _ := hA.1
    have h58 : vs 58 = _ := hA.2.1
    clear hA
    simp only [fillP, List.setIfInBounds_toArray, List.set_cons_zero, List.set_cons_succ, h56, h58]
    clear QA QB QC QD QE QF TA TB TC TD TE SF SG SH FA FB D L CT g2; go_wp2_with fail; refine postB_val ?_ (Below.refl _ _); simp only [List.getElem?_cons_succ, List.getElem?_cons_zero]
  case s60 =>
    refine BStep.of [56, 59] [(85, 56), (88, 59)] (opV (.bool true)) (by kernel_rfl) (fun _ _ => by kernel_rfl) rfl ?_
    intro vs wv hB hA
    have h56 : vs 56 = _ := hA.1
    have h59 : vs 59 = _ := hA.2.1
    clear hA
    simp only [fillP, List.setIfInBounds_toArray, List.set_cons_zero, List.set_cons_succ, h56, h59]
    clear QA QB QC QD QE QF TA TB TC TD TE SF SG SH FA FB D L CT g2; go_wp2_with fail; refine postB_val ?_ (Below.refl _ _); simp only [List.getElem?_cons_succ, List.getElem?_cons_zero]
  case s61 =>
    refine BStep.of [0, 1, 2, 3, 4, 5, 6, 7, 8, 9, 10, 11, 12, 13, 14, 15, 16, 17, 18, 19, 20, 21, 22, 23, 24, 25, 26, 27, 28, 29, 30, 31, 32, 33, 34, 35, 36, 37, 38, 39, 40, 41, 42, 43, 44, 45, 46, 47, 48, 49, 50, 51, 52, 53, 54, 55, 56, 57, 58, 59, 60] [(29, 0), (30, 1), (31, 2), (32, 3), (33, 4), (34, 5), (35, 6), (36, 7), (37, 8), (38, 9), (39, 10), (40, 11), (41, 12), (42, 13), (43, 14), (44, 15), (45, 16), (46, 17), (47, 18), (48, 19), (49, 20), (50, 21), (51, 22), (52, 23), (53, 24), (54, 25), (55, 26), (56, 27), (57, 28), (58, 29), (59, 30), (60, 31), (61, 32), (62, 33), (63, 34), (64, 35), (65, 36), (66, 37), (67, 38), (68, 39), (69, 40), (70, 41), (71, 42), (72, 43), (73, 44), (74, 45), (75, 46), (76, 47), (77, 48), (78, 49), (79, 50), (80, 51), (81, 52), (82, 53), (83, 54), (84, 55), (85, 56), (86, 57), (87, 58), (88, 59), (89, 60)] (opV (.bool true)) (by kernel_rfl) (fun _ _ => by kernel_rfl) rfl ?_
    intro vs wv hB hA
    have h0 : vs 0 = _ := hA.1
    have h1 : vs 1 = _ := hA.2.1
    have h2 : vs 2 = _ := hA.2.2.1
    have h3 : vs 3 = _ := hA.2.2.2.1
    have h4 : vs 4 = _ := hA.2.2.2.2.1
    have h5 : vs 5 = _ := hA.2.2.2.2.2.1
    have h6 : vs 6 = _ := hA.2.2.2.2.2.2.1
    have h7 : vs 7 = _ := hA.2.2.2.2.2.2.2.1
    have h8 : vs 8 = _ := hA.2.2.2.2.2.2.2.2.1
    have h9 : vs 9 = _ := hA.2.2.2.2.2.2.2.2.2.1
    have h10 : vs 10 = _ := hA.2.2.2.2.2.2.2.2.2.2.1
    have h11 : vs 11 = _ := hA.2.2.2.2.2.2.2.2.2.2.2.1
    have h12 : vs 12 = _ := hA.2.2.2.2.2.2.2.2.2.2.2.2.1
    have h13 : vs 13 = _ := hA.2.2.2.2.2.2.2.2.2.2.2.2.2.1
    have h14 : vs 14 = _ := hA.2.2.2.2.2.2.2.2.2.2.2.2.2.2.1
    have h15 : vs 15 = _ := hA.2.2.2.2.2.2.2.2.2.2.2.2.2.2.2.1
    have h16 : vs 16 = _ := hA.2.2.2.2.2.2.2.2.2.2.2.2.2.2.2.2.1
    have h17 : vs 17 = _ := hA.2.2.2.2.2.2.2.2.2.2.2.2.2.2.2.2.2.1
    have h18 : vs 18 = _ := hA.2.2.2.2.2.2.2.2.2.2.2.2.2.2.2.2.2.2.1
    have h19 : vs 19 = _ := hA.2.2.2.2.2.2.2.2.2.2.2.2.2.2.2.2.2.2.2.1
    have h20 : vs 20 = _ := hA.2.2.2.2.2.2.2.2.2.2.2.2.2.2.2.2.2.2.2.2.1
    have h21 : vs 21 = _ := hA.2.2.2.2.2.2.2.2.2.2.2.2.2.2.2.2.2.2.2.2.2.1
    have h22 : vs 22 = _ := hA.2.2.2.2.2.2.2.2.2.2.2.2.2.2.2.2.2.2.2.2.2.2.1
    have h23 : vs 23 = _ := hA.2.2.2.2.2.2.2.2.2.2.2.2.2.2.2.2.2.2.2.2.2.2.2.1
    have h24 : vs 24 = _ := hA.2.2.2.2.2.2.2.2.2.2.2.2.2.2.2.2.2.2.2.2.2.2.2.2.1
    have h25 : vs 25 = _ := hA.2.2.2.2.2.2.2.2.2.2.2.2.2.2.2.2.2.2.2.2.2.2.2.2.2.1
    have h26 : vs 26 = _ := hA.2.2.2.2.2.2.2.2.2.2.2.2.2.2.2.2.2.2.2.2.2.2.2.2.2.2.1
    have h27 : vs 27 = _ := hA.2.2.2.2.2.2.2.2.2.2.2.2.2.2.2.2.2.2.2.2.2.2.2.2.2.2.2.1
    have h28 : vs 28 = _ := hA.2.2.2.2.2.2.2.2.2.2.2.2.2.2.2.2.2.2.2.2.2.2.2.2.2.2.2.2.1
    have h29 : vs 29 = _ := hA.2.2.2.2.2.2.2.2.2.2.2.2.2.2.2.2.2.2.2.2.2.2.2.2.2.2.2.2.2.1
    have h30 : vs 30 = _ := hA.2.2.2.2.2.2.2.2.2.2.2.2.2.2.2.2.2.2.2.2.2.2.2.2.2.2.2.2.2.2.1
    have h31 : vs 31 = _ := hA.2.2.2.2.2.2.2.2.2.2.2.2.2.2.2.2.2.2.2.2.2.2.2.2.2.2.2.2.2.2.2.1
    have h32 : vs 32 = _ := hA.2.2.2.2.2.2.2.2.2.2.2.2.2.2.2.2.2.2.2.2.2.2.2.2.2.2.2.2.2.2.2.2.1
    have h33 : vs 33 = _ := hA.2.2.2.2.2.2.2.2.2.2.2.2.2.2.2.2.2.2.2.2.2.2.2.2.2.2.2.2.2.2.2.2.2.1
    have h34 : vs 34 = _ := hA.2.2.2.2.2.2.2.2.2.2.2.2.2.2.2.2.2.2.2.2.2.2.2.2.2.2.2.2.2.2.2.2.2.2.1
    have h35 : vs 35 = _ := hA.2.2.2.2.2.2.2.2.2.2.2.2.2.2.2.2.2.2.2.2.2.2.2.2.2.2.2.2.2.2.2.2.2.2.2.1
    have h36 : vs 36 = _ := hA.2.2.2.2.2.2.2.2.2.2.2.2.2.2.2.2.2.2.2.2.2.2.2.2.2.2.2.2.2.2.2.2.2.2.2.2.1
    have h37 : vs 37 = _ := hA.2.2.2.2.2.2.2.2.2.2.2.2.2.2.2.2.2.2.2.2.2.2.2.2.2.2.2.2.2.2.2.2.2.2.2.2.2.1
    have h38 : vs 38 = _ := hA.2.2.2.2.2.2.2.2.2.2.2.2.2.2.2.2.2.2.2.2.2.2.2.2.2.2.2.2.2.2.2.2.2.2.2.2.2.2.1
    have h39 : vs 39 = _ := hA.2.2.2.2.2.2.2.2.2.2.2.2.2.2.2.2.2.2.2.2.2.2.2.2.2.2.2.2.2.2.2.2.2.2.2.2.2.2.2.1
    have h40 : vs 40 = _ := hA.2.2.2.2.2.2.2.2.2.2.2.2.2.2.2.2.2.2.2.2.2.2.2.2.2.2.2.2.2.2.2.2.2.2.2.2.2.2.2.2.1
    have h41 : vs 41 = _ := hA.2.2.2.2.2.2.2.2.2.2.2.2.2.2.2.2.2.2.2.2.2.2.2.2.2.2.2.2.2.2.2.2.2.2.2.2.2.2.2.2.2.1
    have h42 : vs 42 = _ := hA.2.2.2.2.2.2.2.2.2.2.2.2.2.2.2.2.2.2.2.2.2.2.2.2.2.2.2.2.2.2.2.2.2.2.2.2.2.2.2.2.2.2.1
    have h43 : vs 43 = _ := hA.2.2.2.2.2.2.2.2.2.2.2.2.2.2.2.2.2.2.2.2.2.2.2.2.2.2.2.2.2.2.2.2.2.2.2.2.2.2.2.2.2.2.2.1
    have h44 : vs 44 = _ := hA.2.2.2.2.2.2.2.2.2.2.2.2.2.2.2.2.2.2.2.2.2.2.2.2.2.2.2.2.2.2.2.2.2.2.2.2.2.2.2.2.2.2.2.2.1
    have h45 : vs 45 = _ := hA.2.2.2.2.2.2.2.2.2.2.2.2.2.2.2.2.2.2.2.2.2.2.2.2.2.2.2.2.2.2.2.2.2.2.2.2.2.2.2.2.2.2.2.2.2.1
    have h46 : vs 46 = _ := hA.2.2.2.2.2.2.2.2.2.2.2.2.2.2.2.2.2.2.2.2.2.2.2.2.2.2.2.2.2.2.2.2.2.2.2.2.2.2.2.2.2.2.2.2.2.2.1
    have h47 : vs 47 = _ := hA.2.2.2.2.2.2.2.2.2.2.2.2.2.2.2.2.2.2.2.2.2.2.2.2.2.2.2.2.2.2.2.2.2.2.2.2.2.2.2.2.2.2.2.2.2.2.2.1
    have h48 : vs 48 = _ := hA.2.2.2.2.2.2.2.2.2.2.2.2.2.2.2.2.2.2.2.2.2.2.2.2.2.2.2.2.2.2.2.2.2.2.2.2.2.2.2.2.2.2.2.2.2.2.2.2.1
    have h49 : vs 49 = _ := hA.2.2.2.2.2.2.2.2.2.2.2.2.2.2.2.2.2.2.2.2.2.2.2.2.2.2.2.2.2.2.2.2.2.2.2.2.2.2.2.2.2.2.2.2.2.2.2.2.2.1
    have h50 : vs 50 = _ := hA.2.2.2.2.2.2.2.2.2.2.2.2.2.2.2.2.2.2.2.2.2.2.2.2.2.2.2.2.2.2.2.2.2.2.2.2.2.2.2.2.2.2.2.2.2.2.2.2.2.2.1
    have h51 : vs 51 = _ := hA.2.2.2.2.2.2.2.2.2.2.2.2.2.2.2.2.2.2.2.2.2.2.2.2.2.2.2.2.2.2.2.2.2.2.2.2.2.2.2.2.2.2.2.2.2.2.2.2.2.2.2.1
    have h52 : vs 52 = _ := hA.2.2.2.2.2.2.2.2.2.2.2.2.2.2.2.2.2.2.2.2.2.2.2.2.2.2.2.2.2.2.2.2.2.2.2.2.2.2.2.2.2.2.2.2.2.2.2.2.2.2.2.2.1
    have h53 : vs 53 = _ := hA.2.2.2.2.2.2.2.2.2.2.2.2.2.2.2.2.2.2.2.2.2.2.2.2.2.2.2.2.2.2.2.2.2.2.2.2.2.2.2.2.2.2.2.2.2.2.2.2.2.2.2.2.2.1
    have h54 : vs 54 = _ := hA.2.2.2.2.2.2.2.2.2.2.2.2.2.2.2.2.2.2.2.2.2.2.2.2.2.2.2.2.2.2.2.2.2.2.2.2.2.2.2.2.2.2.2.2.2.2.2.2.2.2.2.2.2.2.1
    have h55 : vs 55 = _ := hA.2.2.2.2.2.2.2.2.2.2.2.2.2.2.2.2.2.2.2.2.2.2.2.2.2.2.2.2.2.2.2.2.2.2.2.2.2.2.2.2.2.2.2.2.2.2.2.2.2.2.2.2.2.2.2.1
    have h56 : vs 56 = _ := hA.2.2.2.2.2.2.2.2.2.2.2.2.2.2.2.2.2.2.2.2.2.2.2.2.2.2.2.2.2.2.2.2.2.2.2.2.2.2.2.2.2.2.2.2.2.2.2.2.2.2.2.2.2.2.2.2.1
    have h57 : vs 57 = _ := hA.2.2.2.2.2.2.2.2.2.2.2.2.2.2.2.2.2.2.2.2.2.2.2.2.2.2.2.2.2.2.2.2.2.2.2.2.2.2.2.2.2.2.2.2.2.2.2.2.2.2.2.2.2.2.2.2.2.1
    have h58 : vs 58 = _ := hA.2.2.2.2.2.2.2.2.2.2.2.2.2.2.2.2.2.2.2.2.2.2.2.2.2.2.2.2.2.2.2.2.2.2.2.2.2.2.2.2.2.2.2.2.2.2.2.2.2.2.2.2.2.2.2.2.2.2.1
    have h59 : vs 59 = _ := hA.2.2.2.2.2.2.2.2.2.2.2.2.2.2.2.2.2.2.2.2.2.2.2.2.2.2.2.2.2.2.2.2.2.2.2.2.2.2.2.2.2.2.2.2.2.2.2.2.2.2.2.2.2.2.2.2.2.2.2.1
    have h60 : vs 60 = _ := hA.2.2.2.2.2.2.2.2.2.2.2.2.2.2.2.2.2.2.2.2.2.2.2.2.2.2.2.2.2.2.2.2.2.2.2.2.2.2.2.2.2.2.2.2.2.2.2.2.2.2.2.2.2.2.2.2.2.2.2.2.1
    clear hA
    simp only [fillP, List.setIfInBounds_toArray, List.set_cons_zero, List.set_cons_succ, h0, h1, h2, h3, h4, h5, h6, h7, h8, h9, h10, h11, h12, h13, h14, h15, h16, h17, h18, h19, h20, h21, h22, h23, h24, h25, h26, h27, h28, h29, h30, h31, h32, h33, h34, h35, h36, h37, h38, h39, h40, h41, h42, h43, h44, h45, h46, h47, h48, h49, h50, h51, h52, h53, h54, h55, h56, h57, h58, h59, h60]
    clear QA QB QC QD QE QF TA TB TC TD TE SF SG SH FA FB D L CT g2; go_wp2_with fail; refine postB_val ?_ (Below.refl _ _); simp only [List.getElem?_cons_zero]
  case fin =>
    refine fin_of [0, 1, 2, 3, 4, 5, 6, 7, 8, 9, 10, 11, 12, 13, 14, 15, 16, 17, 18, 19, 20, 21, 22, 23, 24, 25, 26, 27, 28, 29, 30, 31, 32, 33, 34, 35, 36, 37, 38, 39, 40, 41, 42, 43, 44, 45, 46, 47, 48, 49, 50, 51, 52, 53, 54, 55, 56, 57, 58, 59, 60, 61] [(29, 0), (30, 1), (31, 2), (32, 3), (33, 4), (34, 5), (35, 6), (36, 7), (37, 8), (38, 9), (39, 10), (40, 11), (41, 12), (42, 13), (43, 14), (44, 15), (45, 16), (46, 17), (47, 18), (48, 19), (49, 20), (50, 21), (51, 22), (52, 23), (53, 24), (54, 25), (55, 26), (56, 27), (57, 28), (58, 29), (59, 30), (60, 31), (61, 32), (62, 33), (63, 34), (64, 35), (65, 36), (66, 37), (67, 38), (68, 39), (69, 40), (70, 41), (71, 42), (72, 43), (73, 44), (74, 45), (75, 46), (76, 47), (77, 48), (78, 49), (79, 50), (80, 51), (81, 52), (82, 53), (83, 54), (84, 55), (85, 56), (86, 57), (87, 58), (88, 59), (89, 60), (0, 61)] (by kernel_rfl) (fun _ _ => by kernel_rfl) ?_
    intro vs wv hB hA
    have h0 : vs 0 = _ := hA.1
    have h1 : vs 1 = _ := hA.2.1
    have h2 : vs 2 = _ := hA.2.2.1
    have h3 : vs 3 = _ := hA.2.2.2.1
    have h4 : vs 4 = _ := hA.2.2.2.2.1
    have h5 : vs 5 = _ := hA.2.2.2.2.2.1
    have h6 : vs 6 = _ := hA.2.2.2.2.2.2.1
    have h7 : vs 7 = _ := hA.2.2.2.2.2.2.2.1
    have h8 : vs 8 = _ := hA.2.2.2.2.2.2.2.2.1
    have h9 : vs 9 = _ := hA.2.2.2.2.2.2.2.2.2.1
    have h10 : vs 10 = _ := hA.2.2.2.2.2.2.2.2.2.2.1
    have h11 : vs 11 = _ := hA.2.2.2.2.2.2.2.2.2.2.2.1
    have h12 : vs 12 = _ := hA.2.2.2.2.2.2.2.2.2.2.2.2.1
    have h13 : vs 13 = _ := hA.2.2.2.2.2.2.2.2.2.2.2.2.2.1
    have h14 : vs 14 = _ := hA.2.2.2.2.2.2.2.2.2.2.2.2.2.2.1
    have h15 : vs 15 = _ := hA.2.2.2.2.2.2.2.2.2.2.2.2.2.2.2.1
    have h16 : vs 16 = _ := hA.2.2.2.2.2.2.2.2.2.2.2.2.2.2.2.2.1
    have h17 : vs 17 = _ := hA.2.2.2.2.2.2.2.2.2.2.2.2.2.2.2.2.2.1
    have h18 : vs 18 = _ := hA.2.2.2.2.2.2.2.2.2.2.2.2.2.2.2.2.2.2.1
    have h19 : vs 19 = _ := hA.2.2.2.2.2.2.2.2.2.2.2.2.2.2.2.2.2.2.2.1
    have h20 : vs 20 = _ := hA.2.2.2.2.2.2.2.2.2.2.2.2.2.2.2.2.2.2.2.2.1
    have h21 : vs 21 = _ := hA.2.2.2.2.2.2.2.2.2.2.2.2.2.2.2.2.2.2.2.2.2.1
    have h22 : vs 22 = _ := hA.2.2.2.2.2.2.2.2.2.2.2.2.2.2.2.2.2.2.2.2.2.2.1
    have h23 : vs 23 = _ := hA.2.2.2.2.2.2.2.2.2.2.2.2.2.2.2.2.2.2.2.2.2.2.2.1
    have h24 : vs 24 = _ := hA.2.2.2.2.2.2.2.2.2.2.2.2.2.2.2.2.2.2.2.2.2.2.2.2.1
    have h25 : vs 25 = _ := hA.2.2.2.2.2.2.2.2.2.2.2.2.2.2.2.2.2.2.2.2.2.2.2.2.2.1
    have h26 : vs 26 = _ := hA.2.2.2.2.2.2.2.2.2.2.2.2.2.2.2.2.2.2.2.2.2.2.2.2.2.2.1
    have h27 : vs 27 = _ := hA.2.2.2.2.2.2.2.2.2.2.2.2.2.2.2.2.2.2.2.2.2.2.2.2.2.2.2.1
    have h28 : vs 28 = _ := hA.2.2.2.2.2.2.2.2.2.2.2.2.2.2.2.2.2.2.2.2.2.2.2.2.2.2.2.2.1
    have h29 : vs 29 = _ := hA.2.2.2.2.2.2.2.2.2.2.2.2.2.2.2.2.2.2.2.2.2.2.2.2.2.2.2.2.2.1
    have h30 : vs 30 = _ := hA.2.2.2.2.2.2.2.2.2.2.2.2.2.2.2.2.2.2.2.2.2.2.2.2.2.2.2.2.2.2.1
    have h31 : vs 31 = _ := hA.2.2.2.2.2.2.2.2.2.2.2.2.2.2.2.2.2.2.2.2.2.2.2.2.2.2.2.2.2.2.2.1
    have h32 : vs 32 = _ := hA.2.2.2.2.2.2.2.2.2.2.2.2.2.2.2.2.2.2.2.2.2.2.2.2.2.2.2.2.2.2.2.2.1
    have h33 : vs 33 = _ := hA.2.2.2.2.2.2.2.2.2.2.2.2.2.2.2.2.2.2.2.2.2.2.2.2.2.2.2.2.2.2.2.2.2.1
    have h34 : vs 34 = _ := hA.2.2.2.2.2.2.2.2.2.2.2.2.2.2.2.2.2.2.2.2.2.2.2.2.2.2.2.2.2.2.2.2.2.2.1
    have h35 : vs 35 = _ := hA.2.2.2.2.2.2.2.2.2.2.2.2.2.2.2.2.2.2.2.2.2.2.2.2.2.2.2.2.2.2.2.2.2.2.2.1
    have h36 : vs 36 = _ := hA.2.2.2.2.2.2.2.2.2.2.2.2.2.2.2.2.2.2.2.2.2.2.2.2.2.2.2.2.2.2.2.2.2.2.2.2.1
    have h37 : vs 37 = _ := hA.2.2.2.2.2.2.2.2.2.2.2.2.2.2.2.2.2.2.2.2.2.2.2.2.2.2.2.2.2.2.2.2.2.2.2.2.2.1
    have h38 : vs 38 = _ := hA.2.2.2.2.2.2.2.2.2.2.2.2.2.2.2.2.2.2.2.2.2.2.2.2.2.2.2.2.2.2.2.2.2.2.2.2.2.2.1
    have h39 : vs 39 = _ := hA.2.2.2.2.2.2.2.2.2.2.2.2.2.2.2.2.2.2.2.2.2.2.2.2.2.2.2.2.2.2.2.2.2.2.2.2.2.2.2.1
    have h40 : vs 40 = _ := hA.2.2.2.2.2.2.2.2.2.2.2.2.2.2.2.2.2.2.2.2.2.2.2.2.2.2.2.2.2.2.2.2.2.2.2.2.2.2.2.2.1
    have h41 : vs 41 = _ := hA.2.2.2.2.2.2.2.2.2.2.2.2.2.2.2.2.2.2.2.2.2.2.2.2.2.2.2.2.2.2.2.2.2.2.2.2.2.2.2.2.2.1
    have h42 : vs 42 = _ := hA.2.2.2.2.2.2.2.2.2.2.2.2.2.2.2.2.2.2.2.2.2.2.2.2.2.2.2.2.2.2.2.2.2.2.2.2.2.2.2.2.2.2.1
    have h43 : vs 43 = _ := hA.2.2.2.2.2.2.2.2.2.2.2.2.2.2.2.2.2.2.2.2.2.2.2.2.2.2.2.2.2.2.2.2.2.2.2.2.2.2.2.2.2.2.2.1
    have h44 : vs 44 = _ := hA.2.2.2.2.2.2.2.2.2.2.2.2.2.2.2.2.2.2.2.2.2.2.2.2.2.2.2.2.2.2.2.2.2.2.2.2.2.2.2.2.2.2.2.2.1
    have h45 : vs 45 = _ := hA.2.2.2.2.2.2.2.2.2.2.2.2.2.2.2.2.2.2.2.2.2.2.2.2.2.2.2.2.2.2.2.2.2.2.2.2.2.2.2.2.2.2.2.2.2.1
    have h46 : vs 46 = _ := hA.2.2.2.2.2.2.2.2.2.2.2.2.2.2.2.2.2.2.2.2.2.2.2.2.2.2.2.2.2.2.2.2.2.2.2.2.2.2.2.2.2.2.2.2.2.2.1
    have h47 : vs 47 = _ := hA.2.2.2.2.2.2.2.2.2.2.2.2.2.2.2.2.2.2.2.2.2.2.2.2.2.2.2.2.2.2.2.2.2.2.2.2.2.2.2.2.2.2.2.2.2.2.2.1
    have h48 : vs 48 = _ := hA.2.2.2.2.2.2.2.2.2.2.2.2.2.2.2.2.2.2.2.2.2.2.2.2.2.2.2.2.2.2.2.2.2.2.2.2.2.2.2.2.2.2.2.2.2.2.2.2.1
    have h49 : vs 49 = _ := hA.2.2.2.2.2.2.2.2.2.2.2.2.2.2.2.2.2.2.2.2.2.2.2.2.2.2.2.2.2.2.2.2.2.2.2.2.2.2.2.2.2.2.2.2.2.2.2.2.2.1
    have h50 : vs 50 = _ := hA.2.2.2.2.2.2.2.2.2.2.2.2.2.2.2.2.2.2.2.2.2.2.2.2.2.2.2.2.2.2.2.2.2.2.2.2.2.2.2.2.2.2.2.2.2.2.2.2.2.2.1
    have h51 : vs 51 = _ := hA.2.2.2.2.2.2.2.2.2.2.2.2.2.2.2.2.2.2.2.2.2.2.2.2.2.2.2.2.2.2.2.2.2.2.2.2.2.2.2.2.2.2.2.2.2.2.2.2.2.2.2.1
    have h52 : vs 52 = _ := hA.2.2.2.2.2.2.2.2.2.2.2.2.2.2.2.2.2.2.2.2.2.2.2.2.2.2.2.2.2.2.2.2.2.2.2.2.2.2.2.2.2.2.2.2.2.2.2.2.2.2.2.2.1
    have h53 : vs 53 = _ := hA.2.2.2.2.2.2.2.2.2.2.2.2.2.2.2.2.2.2.2.2.2.2.2.2.2.2.2.2.2.2.2.2.2.2.2.2.2.2.2.2.2.2.2.2.2.2.2.2.2.2.2.2.2.1
    have h54 : vs 54 = _ := hA.2.2.2.2.2.2.2.2.2.2.2.2.2.2.2.2.2.2.2.2.2.2.2.2.2.2.2.2.2.2.2.2.2.2.2.2.2.2.2.2.2.2.2.2.2.2.2.2.2.2.2.2.2.2.1
    have h55 : vs 55 = _ := hA.2.2.2.2.2.2.2.2.2.2.2.2.2.2.2.2.2.2.2.2.2.2.2.2.2.2.2.2.2.2.2.2.2.2.2.2.2.2.2.2.2.2.2.2.2.2.2.2.2.2.2.2.2.2.2.1
    have h56 : vs 56 = _ := hA.2.2.2.2.2.2.2.2.2.2.2.2.2.2.2.2.2.2.2.2.2.2.2.2.2.2.2.2.2.2.2.2.2.2.2.2.2.2.2.2.2.2.2.2.2.2.2.2.2.2.2.2.2.2.2.2.1
    have h57 : vs 57 = _ := hA.2.2.2.2.2.2.2.2.2.2.2.2.2.2.2.2.2.2.2.2.2.2.2.2.2.2.2.2.2.2.2.2.2.2.2.2.2.2.2.2.2.2.2.2.2.2.2.2.2.2.2.2.2.2.2.2.2.1
    have h58 : vs 58 = _ := hA.2.2.2.2.2.2.2.2.2.2.2.2.2.2.2.2.2.2.2.2.2.2.2.2.2.2.2.2.2.2.2.2.2.2.2.2.2.2.2.2.2.2.2.2.2.2.2.2.2.2.2.2.2.2.2.2.2.2.1
    have h59 : vs 59 = _ := hA.2.2.2.2.2.2.2.2.2.2.2.2.2.2.2.2.2.2.2.2.2.2.2.2.2.2.2.2.2.2.2.2.2.2.2.2.2.2.2.2.2.2.2.2.2.2.2.2.2.2.2.2.2.2.2.2.2.2.2.1
    have h60 : vs 60 = _ := hA.2.2.2.2.2.2.2.2.2.2.2.2.2.2.2.2.2.2.2.2.2.2.2.2.2.2.2.2.2.2.2.2.2.2.2.2.2.2.2.2.2.2.2.2.2.2.2.2.2.2.2.2.2.2.2.2.2.2.2.2.1
    have h61 : vs 61 = _ := hA.2.2.2.2.2.2.2.2.2.2.2.2.2.2.2.2.2.2.2.2.2.2.2.2.2.2.2.2.2.2.2.2.2.2.2.2.2.2.2.2.2.2.2.2.2.2.2.2.2.2.2.2.2.2.2.2.2.2.2.2.2.1
    clear hA
    simp only [fillP, List.setIfInBounds_toArray, List.set_cons_zero, List.set_cons_succ, h0, h1, h2, h3, h4, h5, h6, h7, h8, h9, h10, h11, h12, h13, h14, h15, h16, h17, h18, h19, h20, h21, h22, h23, h24, h25, h26, h27, h28, h29, h30, h31, h32, h33, h34, h35, h36, h37, h38, h39, h40, h41, h42, h43, h44, h45, h46, h47, h48, h49, h50, h51, h52, h53, h54, h55, h56, h57, h58, h59, h60, h61]
    go_wp2_with fail
    go_ret
    exact ⟨by first | rfl | simp, (D.out.next hB).2.2.2⟩
end Go.Proofs.Ytjlnaadpiohbnaa
