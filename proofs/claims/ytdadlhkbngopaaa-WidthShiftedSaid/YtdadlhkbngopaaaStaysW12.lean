/-
  The law WidthStays: of any Solve that answers as is asked.
-/
import Derived.Test.YtdadlhkbngopaaaAskAt12
namespace Go.Proofs.Ytdadlhkbngopaaa
open Go.RowKit

set_option maxRecDepth 100000 in
set_option maxHeartbeats 4000000 in
theorem stays12 (hS : SolveOK 12) (hA : AwakeOK12 16) (x : Int) (a : RA) (w : World) (hx : big x) (ha : a.ok) :
    Calls Try.prog 6 #[.int .i64 x, askedV a] w fun e w' => e = .returned (.bool true) ∧ Below w.heap.size w w' := by
  have B0 : Hid (Below w.heap.size w (w.alloc (.cells a.cells.toArray 29))) := Lib.hid ((Below.refl _ w).alloc (Nat.le_refl _) _)
  have A0 := Lib.hid (AskAt.new w a)
  have KA := Lib.hid (fun W => hA W)
  obtain ⟨l, m, r, e, hst⟩ : ∃ l m r e, solveA x a = (l, m, r, e) := ⟨_, _, _, _, rfl⟩
  have KS := Lib.hid (fun W => solve_lets hS hx ha hst W)
  have TO := Lib.hid (solve_told hst)
  clear hS hA hst
  unfold askedV at KS ⊢
  unfold RA.cells at B0 A0
  rcases TO.out with ⟨rfl, G, F, rfl, rfl, rfl⟩ | ⟨he, rfl, rfl, rfl⟩
  · obtain ⟨f0, f1, f2, f3⟩ := @stay_facts x a
    have t0 := left0_in G
    have t1 := right0_in G
    have t2 := F.2.1
    have t4 := G.edges
    unfold Fit at t2
    have hw : freeA x a = x - (a.edges + wideA x a + left0 a + right0 a) := by unfold freeA; omega
    obtain ⟨is, width, least, most, left, right, al, ar, edges⟩ := a
    dsimp only at B0 A0 KS f0 f1 f2 f3 t0 t1 t2 t4 hw ⊢
    generalize leftA x (⟨is, width, least, most, left, right, al, ar, edges⟩ : RA) = l at KS f0 f1 f2
    generalize wideA x (⟨is, width, least, most, left, right, al, ar, edges⟩ : RA) = m at KS hw t2
    generalize rightA x (⟨is, width, least, most, left, right, al, ar, edges⟩ : RA) = r at KS f3
    generalize freeA x (⟨is, width, least, most, left, right, al, ar, edges⟩ : RA) = fr at f2 f3 hw
    have hl0 : left0 (⟨is, width, least, most, left, right, al, ar, edges⟩ : RA) = if al = true then 0 else left := rfl
    have hr0 : right0 (⟨is, width, least, most, left, right, al, ar, edges⟩ : RA) = if ar = true then 0 else right := rfl
    rw [hl0] at hw t0
    rw [hr0] at hw t1
    have FX := Lib.hid (And.intro f0 (And.intro f1 (And.intro f2 (And.intro f3 (And.intro t0 (And.intro t1 (And.intro t2 (And.intro t4 hw))))))))
    clear TO F f0 f1 f2 f3 t0 t1 t2 t4 hw hl0 hr0 G
    go_enter Try.func6, Try.ntmps6
    go_upto_region 1 with fail
    generalize w.alloc (.cells #[.bool is, .int .i64 width, .int .i64 least, .int .i64 most, .int .i64 left, .int .i64 right, .bool al, .bool ar, .int .i64 edges] 29) = w0 at B0 A0 ⊢
    go_upto_region 3 with (go_at_call 16; (with_reducible refine (KA.out _).mono ?_); rintro e w1 ⟨rfl, hb⟩; have B1 : Hid (Below w.heap.size w w1) := Lib.hid (B0.out.trans (hb.mono B0.out.size)); have A1 : Hid (AskAt w1 w.heap.size (⟨is, width, least, most, left, right, al, ar, edges⟩ : RA)) := Lib.hid (AskAt.keep A0.out hb); clear hb)
    obtain ⟨y0, y1, y2, y3, y4, y5, y6, y7, y8⟩ := A1.out.cells
    dsimp only at y0 y1 y2 y3 y4 y5 y6 y7 y8
    go_upto_region 4 with (go_at_call 12; (with_reducible refine (KS.out _).mono ?_); rintro e w2 ⟨rfl, hb⟩; have B2 : Hid (Below w.heap.size w w2) := Lib.hid (B1.out.trans (hb.mono B1.out.size)); have A2 : Hid (AskAt w2 w.heap.size (⟨is, width, least, most, left, right, al, ar, edges⟩ : RA)) := Lib.hid (AskAt.keep A1.out hb); clear hb)
    clear y0 y1 y2 y3 y4 y5 y6 y7 y8 KA KS A0 A1 B0 B1
    obtain ⟨y0, y1, y2, y3, y4, y5, y6, y7, y8⟩ := A2.out.cells
    dsimp only at y0 y1 y2 y3 y4 y5 y6 y7 y8
    obtain ⟨f0, f1, f2, f3, t0, t1, t2, t4, hw⟩ := FX.out
    clear FX A2
    by_cases hf : fr < 0
    · cases al
      all_goals cases ar
      all_goals simp only [Bool.false_eq_true, if_true, if_false, forall_const, false_imp_iff, implies_true] at f0 f1 f2 f3 t0 t1 hw
      · obtain rfl : l = left := f0
        have b1 : IntKind.i64.wrap (edges + m) = edges + m := IntWalk.i64_in _ (by omega)
        have b2 : IntKind.i64.wrap (edges + m + l) = edges + m + l := IntWalk.i64_in _ (by omega)
        have b3 : IntKind.i64.wrap (edges + m + l + right) = edges + m + l + right := IntWalk.i64_in _ (by omega)
        have d1 : decide (x < edges + m + l + right) = true := decide_eq_true (by omega)
        (try clear f0); (try clear f1); (try clear f2); (try clear f3); clear t0 t1 t2 t4 hw hf
        go_wp2_with fail
        go_ret
        exact ⟨rfl, B2.out⟩
      · obtain rfl : l = left := f0
        have b1 : IntKind.i64.wrap (edges + m) = edges + m := IntWalk.i64_in _ (by omega)
        have b2 : IntKind.i64.wrap (edges + m + l) = edges + m + l := IntWalk.i64_in _ (by omega)
        have d1 : decide (x < edges + m + l) = true := decide_eq_true (by omega)
        (try clear f0); (try clear f1); (try clear f2); (try clear f3); clear t0 t1 t2 t4 hw hf
        go_wp2_with fail
        go_ret
        exact ⟨rfl, B2.out⟩
      · have d0 : decide (l < 0) = false := decide_eq_false (by omega)
        have b1 : IntKind.i64.wrap (edges + m) = edges + m := IntWalk.i64_in _ (by omega)
        have b3 : IntKind.i64.wrap (edges + m + right) = edges + m + right := IntWalk.i64_in _ (by omega)
        have d1 : decide (x < edges + m + right) = true := decide_eq_true (by omega)
        obtain rfl : l = 0 := by omega
        (try clear f0); (try clear f1); (try clear f2); (try clear f3); clear t0 t1 t2 t4 hw hf
        go_wp2_with fail
        go_ret
        exact ⟨rfl, B2.out⟩
      · have d0 : decide (l < 0) = false := decide_eq_false (by omega)
        have b1 : IntKind.i64.wrap (edges + m) = edges + m := IntWalk.i64_in _ (by omega)
        have d1 : decide (x < edges + m) = true := decide_eq_true (by omega)
        obtain rfl : l = 0 := by omega
        (try clear f0); (try clear f1); (try clear f2); (try clear f3); clear t0 t1 t2 t4 hw hf
        go_wp2_with fail
        go_ret
        exact ⟨rfl, B2.out⟩
    · cases al
      all_goals cases ar
      all_goals simp only [Bool.false_eq_true, if_true, if_false, forall_const, false_imp_iff, implies_true] at f0 f1 f2 f3 t0 t1 hw
      · obtain rfl : l = left := f0
        have b1 : IntKind.i64.wrap (edges + m) = edges + m := IntWalk.i64_in _ (by omega)
        have b2 : IntKind.i64.wrap (edges + m + l) = edges + m + l := IntWalk.i64_in _ (by omega)
        have b3 : IntKind.i64.wrap (edges + m + l + right) = edges + m + l + right := IntWalk.i64_in _ (by omega)
        have d1 : decide (x < edges + m + l + right) = false := decide_eq_false (by omega)
        (try clear f0); (try clear f1); (try clear f2); (try clear f3); clear t0 t1 t2 t4 hw hf
        go_wp2_with fail
        go_ret
        exact ⟨rfl, B2.out⟩
      · obtain rfl : l = left := f0
        have b1 : IntKind.i64.wrap (edges + m) = edges + m := IntWalk.i64_in _ (by omega)
        have b2 : IntKind.i64.wrap (edges + m + l) = edges + m + l := IntWalk.i64_in _ (by omega)
        have d1 : decide (x < edges + m + l) = false := decide_eq_false (by omega)
        have d2 : decide (0 ≤ r) = true := decide_eq_true (by omega)
        (try clear f0); (try clear f1); (try clear f2); (try clear f3); clear t0 t1 t2 t4 hw hf
        go_wp2_with fail
        go_ret
        exact ⟨rfl, B2.out⟩
      · have d0 : decide (l < 0) = false := decide_eq_false (by omega)
        have b1 : IntKind.i64.wrap (edges + m) = edges + m := IntWalk.i64_in _ (by omega)
        have b3 : IntKind.i64.wrap (edges + m + right) = edges + m + right := IntWalk.i64_in _ (by omega)
        have d1 : decide (x < edges + m + right) = false := decide_eq_false (by omega)
        obtain rfl : r = right := by omega
        (try clear f0); (try clear f1); (try clear f2); (try clear f3); clear t0 t1 t2 t4 hw hf
        go_wp2_with fail
        go_ret
        exact ⟨rfl, B2.out⟩
      · have d0 : decide (l < 0) = false := decide_eq_false (by omega)
        have b1 : IntKind.i64.wrap (edges + m) = edges + m := IntWalk.i64_in _ (by omega)
        have d1 : decide (x < edges + m) = false := decide_eq_false (by omega)
        have d2 : decide (0 ≤ r) = true := decide_eq_true (by omega)
        (try clear f0); (try clear f1); (try clear f2); (try clear f3); clear t0 t1 t2 t4 hw hf
        go_wp2_with fail
        go_ret
        exact ⟨rfl, B2.out⟩
  · obtain ⟨is, width, least, most, left, right, al, ar, edges⟩ := a
    dsimp only at B0 A0 KS ⊢
    clear TO
    go_enter Try.func6, Try.ntmps6
    go_upto_region 1 with fail
    generalize w.alloc (.cells #[.bool is, .int .i64 width, .int .i64 least, .int .i64 most, .int .i64 left, .int .i64 right, .bool al, .bool ar, .int .i64 edges] 29) = w0 at B0 A0 ⊢
    go_upto_region 3 with (go_at_call 16; (with_reducible refine (KA.out _).mono ?_); rintro e w1 ⟨rfl, hb⟩; have B1 : Hid (Below w.heap.size w w1) := Lib.hid (B0.out.trans (hb.mono B0.out.size)); have A1 : Hid (AskAt w1 w.heap.size (⟨is, width, least, most, left, right, al, ar, edges⟩ : RA)) := Lib.hid (AskAt.keep A0.out hb); clear hb)
    obtain ⟨y0, y1, y2, y3, y4, y5, y6, y7, y8⟩ := A1.out.cells
    dsimp only at y0 y1 y2 y3 y4 y5 y6 y7 y8
    rcases he with rfl | rfl
    all_goals (
      go_wp2_with (go_at_call 12; (with_reducible refine (KS.out _).mono ?_); rintro e w2 ⟨rfl, hb⟩; have B2 : Hid (Below w.heap.size w w2) := Lib.hid (B1.out.trans (hb.mono B1.out.size)); clear hb)
      go_ret
      exact ⟨rfl, B2.out⟩)
end Go.Proofs.Ytdadlhkbngopaaa
