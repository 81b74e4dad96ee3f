/-
  The law WidthEquation: of any Solve that answers as is asked.
-/
import Derived.Test.YtdadlhkbngopaaaAskAt12
namespace Go.Proofs.Ytdadlhkbngopaaa
open Go.RowKit

set_option maxRecDepth 100000 in
set_option maxHeartbeats 4000000 in
theorem equation12 (hS : SolveOK 12) (hA : AwakeOK12 16) (x : Int) (a : RA) (w : World) (hx : big x) (ha : a.ok) :
    Calls Try.prog 5 #[.int .i64 x, askedV a] w fun e w' => e = .returned (.bool true) ∧ Below w.heap.size w w' := by
  have B0 : Hid (Below w.heap.size w (w.alloc (.cells a.cells.toArray 29))) := Lib.hid ((Below.refl _ w).alloc (Nat.le_refl _) _)
  have A0 := Lib.hid (AskAt.new w a)
  have KA := Lib.hid (fun W => hA W)
  obtain ⟨l, m, r, e, hst⟩ : ∃ l m r e, solveA x a = (l, m, r, e) := ⟨_, _, _, _, rfl⟩
  have KS := Lib.hid (fun W => solve_lets hS hx ha hst W)
  have TO := Lib.hid (solve_told hst)
  clear hS hA hst
  unfold askedV at KS ⊢
  unfold RA.cells at B0 A0
  rcases TO.out with ⟨rfl, G, F, rfl, rfl, rfl⟩ | ⟨he, rfl, rfl, rfl⟩
  · obtain ⟨f0, f1, f2, f3, f4⟩ := eq_facts G
    have t1 := F.1
    have t2 := F.2.1
    have t3 := F.2.2
    have t4 := G.edges
    unfold Fit at t1 t2 t3
    have hw := G.width
    obtain ⟨is, width, least, most, left, right, al, ar, edges⟩ := a
    dsimp only at B0 A0 KS f0 f1 f2 f3 f4 t1 t2 t3 t4 hw ⊢
    generalize leftA x (⟨is, width, least, most, left, right, al, ar, edges⟩ : RA) = l at KS f0 t1
    generalize wideA x (⟨is, width, least, most, left, right, al, ar, edges⟩ : RA) = m at KS f0 f1 f2 f3 f4 t2
    generalize rightA x (⟨is, width, least, most, left, right, al, ar, edges⟩ : RA) = r at KS f0 t3
    have b1 : IntKind.i64.wrap (l + edges) = l + edges := IntWalk.i64_in _ (by omega)
    have b2 : IntKind.i64.wrap (l + edges + m) = l + edges + m := IntWalk.i64_in _ (by omega)
    have b3 : IntKind.i64.wrap (l + edges + m + r) = x := by rw [f0]; exact IntWalk.i64_in _ (by have := G.x; omega)
    have d1 : decide (m < 0) = false := decide_eq_false (by omega)
    have FX := Lib.hid (And.intro f1 (And.intro f2 (And.intro f3 f4)))
    have FW := Lib.hid hw
    clear TO F f0 f1 f2 f3 f4 t1 t2 t3 t4 hw G
    go_enter Try.func5, Try.ntmps5
    go_upto_region 1 with fail
    generalize w.alloc (.cells #[.bool is, .int .i64 width, .int .i64 least, .int .i64 most, .int .i64 left, .int .i64 right, .bool al, .bool ar, .int .i64 edges] 29) = w0 at B0 A0 ⊢
    go_upto_region 3 with (go_at_call 16; (with_reducible refine (KA.out _).mono ?_); rintro e w1 ⟨rfl, hb⟩; have B1 : Hid (Below w.heap.size w w1) := Lib.hid (B0.out.trans (hb.mono B0.out.size)); have A1 : Hid (AskAt w1 w.heap.size (⟨is, width, least, most, left, right, al, ar, edges⟩ : RA)) := Lib.hid (AskAt.keep A0.out hb); clear hb)
    obtain ⟨y0, y1, y2, y3, y4, y5, y6, y7, y8⟩ := A1.out.cells
    dsimp only at y0 y1 y2 y3 y4 y5 y6 y7 y8
    go_upto_region 4 with (go_at_call 12; (with_reducible refine (KS.out _).mono ?_); rintro e w2 ⟨rfl, hb⟩; have B2 : Hid (Below w.heap.size w w2) := Lib.hid (B1.out.trans (hb.mono B1.out.size)); have A2 : Hid (AskAt w2 w.heap.size (⟨is, width, least, most, left, right, al, ar, edges⟩ : RA)) := Lib.hid (AskAt.keep A1.out hb); clear hb)
    clear y0 y1 y2 y3 y4 y5 y6 y7 y8 KA KS A0 A1 B0 B1
    obtain ⟨y0, y1, y2, y3, y4, y5, y6, y7, y8⟩ := A2.out.cells
    dsimp only at y0 y1 y2 y3 y4 y5 y6 y7 y8
    by_cases c1 : most < least
    · have e1 : m = least := FX.out.2.1 c1
      subst e1
      clear FX FW
      go_wp2_with fail
      go_ret
      exact ⟨rfl, B2.out⟩
    · obtain ⟨g1, g2⟩ := FX.out.2.2.1 (by omega)
      have g3 := FX.out.2.2.2
      have g1' : decide (least ≤ m) = true := decide_eq_true g1
      have g2' : decide (m ≤ most) = true := decide_eq_true g2
      cases is with
      | false =>
        clear FX FW g3
        go_wp2_with fail
        go_ret
        exact ⟨rfl, B2.out⟩
      | true =>
        by_cases c2 : width < least
        · clear FX FW g3
          go_wp2_with fail
          go_ret
          exact ⟨rfl, B2.out⟩
        · by_cases c3 : most < width
          · clear FX FW g3
            go_wp2_with fail
            go_ret
            exact ⟨rfl, B2.out⟩
          · have e1 : m = width := g3 rfl (by omega) (by omega)
            clear FX FW g3
            subst e1
            go_wp2_with fail
            go_ret
            exact ⟨rfl, B2.out⟩
  · obtain ⟨is, width, least, most, left, right, al, ar, edges⟩ := a
    dsimp only at B0 A0 KS ⊢
    clear TO
    go_enter Try.func5, Try.ntmps5
    go_upto_region 1 with fail
    generalize w.alloc (.cells #[.bool is, .int .i64 width, .int .i64 least, .int .i64 most, .int .i64 left, .int .i64 right, .bool al, .bool ar, .int .i64 edges] 29) = w0 at B0 A0 ⊢
    go_upto_region 3 with (go_at_call 16; (with_reducible refine (KA.out _).mono ?_); rintro e w1 ⟨rfl, hb⟩; have B1 : Hid (Below w.heap.size w w1) := Lib.hid (B0.out.trans (hb.mono B0.out.size)); have A1 : Hid (AskAt w1 w.heap.size (⟨is, width, least, most, left, right, al, ar, edges⟩ : RA)) := Lib.hid (AskAt.keep A0.out hb); clear hb)
    obtain ⟨y0, y1, y2, y3, y4, y5, y6, y7, y8⟩ := A1.out.cells
    dsimp only at y0 y1 y2 y3 y4 y5 y6 y7 y8
    rcases he with rfl | rfl
    all_goals (
      go_wp2_with (go_at_call 12; (with_reducible refine (KS.out _).mono ?_); rintro e w2 ⟨rfl, hb⟩; have B2 : Hid (Below w.heap.size w w2) := Lib.hid (B1.out.trans (hb.mono B1.out.size)); clear hb)
      go_ret
      exact ⟨rfl, B2.out⟩)
end Go.Proofs.Ytdadlhkbngopaaa
