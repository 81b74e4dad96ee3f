/-
  The law WidthSolves: of any Solve and Fit that answer as is asked.
-/
import Derived.Test.YtdadlhkbngopaaaAskAt12
import Derived.Deep.RegionHeld3
namespace Go.Proofs.Ytdadlhkbngopaaa
open Go.RowKit

set_option maxRecDepth 100000 in
set_option maxHeartbeats 8000000 in
theorem solves12 (hS : SolveOK 12) (hF : FitOK 14) (x : Int) (a : RA) (w : World) (hx : big x) (ha : a.ok) :
    Calls Try.prog 4 #[.int .i64 x, askedV a] w fun e w' => e = .returned (.bool true) ∧ Below w.heap.size w w' := by
  have B0 : Hid (Below w.heap.size w (w.alloc (.cells a.cells.toArray 29))) := Lib.hid ((Below.refl _ w).alloc (Nat.le_refl _) _)
  have A0 := Lib.hid (AskAt.new w a)
  obtain ⟨l, m, r, e, hst⟩ : ∃ l m r e, solveA x a = (l, m, r, e) := ⟨_, _, _, _, rfl⟩
  have KS := Lib.hid (fun W => solve_lets hS hx ha hst W)
  have KR : Hid (∀ W, Calls Try.prog 13 #[.int .i64 x, askedV a] W fun e' w' => e' = .returned (.tuple #[.int .i64 l, .int .i64 m, .int .i64 r, .int .i64 e]) ∧ Below W.heap.size W w') := Lib.hid (fun W => by
    have := refSolve_any x a W hx ha
    rw [hst] at this
    exact this)
  obtain ⟨q, hq⟩ : ∃ q, fitW a.least a.most x = q := ⟨_, rfl⟩
  have KF : Hid (∀ W, Calls Try.prog 14 #[.int .i64 a.least, .int .i64 a.most, .int .i64 x] W fun e' w' => e' = .returned (.int .i64 q) ∧ Below W.heap.size W w') := Lib.hid (fun W => by have := hF a.least a.most x W; rwa [hq] at this)
  have KG : Hid (∀ W, Calls Try.prog 15 #[.int .i64 a.least, .int .i64 a.most, .int .i64 x] W fun e' w' => e' = .returned (.int .i64 q) ∧ Below W.heap.size W w') := Lib.hid (fun W => by have := refFit_any12 a.least a.most x W; rwa [hq] at this)
  clear hS hF hst hq
  unfold askedV at KS KR ⊢
  unfold RA.cells at B0 A0
  obtain ⟨is, width, least, most, left, right, al, ar, edges⟩ := a
  dsimp only at B0 A0 KS KR KF KG ⊢
  go_enter Try.func4, Try.ntmps4
  go_upto_region 1 with fail
  generalize w.alloc (.cells #[.bool is, .int .i64 width, .int .i64 least, .int .i64 most, .int .i64 left, .int .i64 right, .bool al, .bool ar, .int .i64 edges] 29) = w0 at B0 A0 ⊢
  obtain ⟨y0, y1, y2, y3, y4, y5, y6, y7, y8⟩ := AskAt.cells (a := (⟨is, width, least, most, left, right, al, ar, edges⟩ : RA)) A0.out
  dsimp only at y0 y1 y2 y3 y4 y5 y6 y7 y8
  go_upto_region 2 with (go_at_call 12; (with_reducible refine (KS.out _).mono ?_); rintro e w1 ⟨rfl, hb⟩; have B1 : Hid (Below w.heap.size w w1) := Lib.hid (B0.out.trans (hb.mono B0.out.size)); have A1 : Hid (AskAt w1 w.heap.size (⟨is, width, least, most, left, right, al, ar, edges⟩ : RA)) := Lib.hid (AskAt.keep A0.out hb); clear hb)
  clear y0 y1 y2 y3 y4 y5 y6 y7 y8 A0 B0 KS
  obtain ⟨y0, y1, y2, y3, y4, y5, y6, y7, y8⟩ := A1.out.cells
  dsimp only at y0 y1 y2 y3 y4 y5 y6 y7 y8
  go_upto_region 3 with (go_at_call 13; (with_reducible refine (KR.out _).mono ?_); rintro e w2 ⟨rfl, hb⟩; have B2 : Hid (Below w.heap.size w w2) := Lib.hid (B1.out.trans (hb.mono B1.out.size)); have A2 : Hid (AskAt w2 w.heap.size (⟨is, width, least, most, left, right, al, ar, edges⟩ : RA)) := Lib.hid (AskAt.keep A1.out hb); clear hb)
  clear y0 y1 y2 y3 y4 y5 y6 y7 y8 A1 B1 KR
  have CS : Hid (∀ W, Below w2.heap.size w2 W → W.cell? ⟨w.heap.size, 0, none⟩ = some (.bool is) ∧ W.cell? ⟨w.heap.size, 1, none⟩ = some (.int .i64 width) ∧ W.cell? ⟨w.heap.size, 2, none⟩ = some (.int .i64 least) ∧ W.cell? ⟨w.heap.size, 3, none⟩ = some (.int .i64 most) ∧ W.cell? ⟨w.heap.size, 4, none⟩ = some (.int .i64 left) ∧ W.cell? ⟨w.heap.size, 5, none⟩ = some (.int .i64 right) ∧ W.cell? ⟨w.heap.size, 6, none⟩ = some (.bool al) ∧ W.cell? ⟨w.heap.size, 7, none⟩ = some (.bool ar) ∧ W.cell? ⟨w.heap.size, 8, none⟩ = some (.int .i64 edges)) := Lib.hid (fun W hb => (A2.out.keep hb).cells)
  have C0 := Lib.hid (CS.out _ (Below.refl _ _))
  have BD : Hid (Below w2.heap.size w2 w2.drew) := Lib.hid (Below.refl _ w2).drew
  have k1 : (l == l) = true := by simp
  have k2 : (m == m) = true := by simp
  have k3 : (r == r) = true := by simp
  have k4 : (e == e) = true := by simp
  clear A2
  go_region_held3 (fun W => W.cell? ⟨w.heap.size, 0, none⟩ = some (.bool is) ∧ W.cell? ⟨w.heap.size, 1, none⟩ = some (.int .i64 width) ∧ W.cell? ⟨w.heap.size, 2, none⟩ = some (.int .i64 least) ∧ W.cell? ⟨w.heap.size, 3, none⟩ = some (.int .i64 most) ∧ W.cell? ⟨w.heap.size, 4, none⟩ = some (.int .i64 left) ∧ W.cell? ⟨w.heap.size, 5, none⟩ = some (.int .i64 right) ∧ W.cell? ⟨w.heap.size, 6, none⟩ = some (.bool al) ∧ W.cell? ⟨w.heap.size, 7, none⟩ = some (.bool ar) ∧ W.cell? ⟨w.heap.size, 8, none⟩ = some (.int .i64 edges))
    (first | exact C0.out | exact C3.out | exact C4.out)
    (first
    | (go_at_call 14; (with_reducible refine (KF.out _).mono ?_); rintro e3 w3 ⟨rfl, hb⟩; (first | (have B3 : Hid (Below w2.heap.size w2 w3) := Lib.hid (BD.out.trans hb)) | (have B3 : Hid (Below w2.heap.size w2 w3) := Lib.hid (B4.out.trans (hb.mono B4.out.size)))); have C3 := Lib.hid (CS.out w3 B3.out); clear hb)
    | (go_at_call 15; (with_reducible refine (KG.out _).mono ?_); rintro e4 w4 ⟨rfl, hb⟩; (first | (have B4 : Hid (Below w2.heap.size w2 w4) := Lib.hid (BD.out.trans hb)) | (have B4 : Hid (Below w2.heap.size w2 w4) := Lib.hid (B3.out.trans (hb.mono B3.out.size)))); have C4 := Lib.hid (CS.out w4 B4.out); clear hb))
  all_goals (
    go_wp2_with fail
    go_ret
    first
      | exact ⟨by first | rfl | simp, B2.out.trans (B4.out.mono B2.out.size)⟩
      | exact ⟨by first | rfl | simp, B2.out.trans (B3.out.mono B2.out.size)⟩)
end Go.Proofs.Ytdadlhkbngopaaa
