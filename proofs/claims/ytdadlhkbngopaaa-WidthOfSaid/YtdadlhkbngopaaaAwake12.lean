/-
  The law's awake, of any Solve and Fit that answer as is asked: the chapter's examples.
-/
import Derived.Test.YtdadlhkbngopaaaAskAt12
import Derived.Laws.Rows
namespace Go.Proofs.Ytdadlhkbngopaaa
open Go.RowKit

def baseA : RA := ⟨false, 0, 0, 1000, 5, 7, false, false, 10⟩
set_option maxRecDepth 100000 in
theorem base_any12 (w : World) : Calls Try.prog 31 #[] w fun e w' => e = .returned (.agg #[.bool false, .int .i64 0, .int .i64 0, .int .i64 1000, .int .i64 5, .int .i64 7, .bool false, .bool false, .int .i64 10]) ∧ Below w.heap.size w w' := by
  go_enter Try.func31, Try.ntmps31
  go_wp2_with fail
  refine bodyPost_ret (results_cell_row rfl _ _ w.heap.size _ _ _ _ rfl (heap_alloc_new w _) Try.underlying29 rfl (by kernel_rfl)) rfl ?_
  exact ⟨rfl, (Below.refl _ w).alloc (Nat.le_refl _) _⟩
set_option maxRecDepth 100000 in
set_option maxHeartbeats 2000000 in
theorem told_any12 (hS : SolveOK 12) (a : RA) (ha : a.ok) (l m r : Int) (h : solveA 100 a = (l, m, r, 0)) (w : World) : Calls Try.prog 32 #[askedV a, .int .i64 l, .int .i64 m, .int .i64 r] w fun e w' => e = .returned (.bool true) ∧ Below w.heap.size w w' := by
  have KS := Lib.hid (fun W => solve_lets hS (x := 100) (by unfold big; omega) ha h W)
  have B0 : Hid (Below w.heap.size w (w.alloc (.cells a.cells.toArray 29))) := Lib.hid ((Below.refl _ w).alloc (Nat.le_refl _) _)
  unfold askedV at KS ⊢
  unfold RA.cells at B0
  obtain ⟨is, width, least, most, left, right, al, ar, edges⟩ := a
  dsimp only at B0 KS ⊢
  clear hS h ha
  go_enter Try.func32, Try.ntmps32
  go_wp2_with (go_at_call 12; (with_reducible refine (KS.out _).mono ?_); rintro e w1 ⟨rfl, hb⟩; have B1 : Hid (Below w.heap.size w w1) := Lib.hid (B0.out.trans (hb.mono B0.out.size)); clear hb)
  go_ret
  exact ⟨by first | rfl | simp, B1.out⟩
theorem fit_lit12 {f : Nat} (hF : FitOK f) (n m r q : Int) (h : fitW n m r = q) (w : World) : Calls Try.prog f #[.int .i64 n, .int .i64 m, .int .i64 r] w fun e w' => e = .returned (.int .i64 q) ∧ Below w.heap.size w w' := by
  have := hF n m r w
  rwa [h] at this
set_option maxRecDepth 100000 in
set_option maxHeartbeats 8000000 in
theorem awake12_any (hS : SolveOK 12) (hF : FitOK 14) : AwakeOK12 16 := by
  intro w
  have B := Lib.hid (Below.refl w.heap.size w)
  go_enter Try.func16, Try.ntmps16
  go_upto_region 8 with (go_at_call 31; (with_reducible refine (base_any12 _).mono ?_); rintro e wx ⟨rfl, hb⟩; replace B := Lib.hid (B.out.trans (hb.mono B.out.size)); clear hb)
  -- the six
  have Q0 : Hid (AskAt ((((((wx.alloc (.cells #[.bool true, .int .i64 50, .int .i64 0, .int .i64 1000, .int .i64 5, .int .i64 7, .bool false, .bool false, .int .i64 10] 29)).alloc (.cells #[.bool true, .int .i64 50, .int .i64 0, .int .i64 1000, .int .i64 5, .int .i64 7, .bool true, .bool false, .int .i64 10] 29)).alloc (.cells #[.bool true, .int .i64 51, .int .i64 0, .int .i64 1000, .int .i64 5, .int .i64 7, .bool true, .bool true, .int .i64 10] 29)).alloc (.cells #[.bool true, .int .i64 200, .int .i64 0, .int .i64 1000, .int .i64 5, .int .i64 7, .bool true, .bool true, .int .i64 10] 29)).alloc (.cells #[.bool false, .int .i64 0, .int .i64 0, .int .i64 30, .int .i64 5, .int .i64 7, .bool false, .bool true, .int .i64 10] 29)).alloc (.cells #[.bool false, .int .i64 0, .int .i64 90, .int .i64 1000, .int .i64 5, .int .i64 7, .bool false, .bool false, .int .i64 10] 29)) (wx.heap.size) (⟨true, 50, 0, 1000, 5, 7, false, false, 10⟩ : RA)) := Lib.hid (by
    have h := AskAt.new wx (⟨true, 50, 0, 1000, 5, 7, false, false, 10⟩ : RA)
    exact (((((h.put _).put _).put _).put _).put _))
  have Q1 : Hid (AskAt ((((((wx.alloc (.cells #[.bool true, .int .i64 50, .int .i64 0, .int .i64 1000, .int .i64 5, .int .i64 7, .bool false, .bool false, .int .i64 10] 29)).alloc (.cells #[.bool true, .int .i64 50, .int .i64 0, .int .i64 1000, .int .i64 5, .int .i64 7, .bool true, .bool false, .int .i64 10] 29)).alloc (.cells #[.bool true, .int .i64 51, .int .i64 0, .int .i64 1000, .int .i64 5, .int .i64 7, .bool true, .bool true, .int .i64 10] 29)).alloc (.cells #[.bool true, .int .i64 200, .int .i64 0, .int .i64 1000, .int .i64 5, .int .i64 7, .bool true, .bool true, .int .i64 10] 29)).alloc (.cells #[.bool false, .int .i64 0, .int .i64 0, .int .i64 30, .int .i64 5, .int .i64 7, .bool false, .bool true, .int .i64 10] 29)).alloc (.cells #[.bool false, .int .i64 0, .int .i64 90, .int .i64 1000, .int .i64 5, .int .i64 7, .bool false, .bool false, .int .i64 10] 29)) (wx.heap.size + 1) (⟨true, 50, 0, 1000, 5, 7, true, false, 10⟩ : RA)) := Lib.hid (by
    have h := AskAt.new (wx.alloc (.cells #[.bool true, .int .i64 50, .int .i64 0, .int .i64 1000, .int .i64 5, .int .i64 7, .bool false, .bool false, .int .i64 10] 29)) (⟨true, 50, 0, 1000, 5, 7, true, false, 10⟩ : RA)
    simp only [World.size_alloc] at h
    exact ((((h.put _).put _).put _).put _))
  have Q2 : Hid (AskAt ((((((wx.alloc (.cells #[.bool true, .int .i64 50, .int .i64 0, .int .i64 1000, .int .i64 5, .int .i64 7, .bool false, .bool false, .int .i64 10] 29)).alloc (.cells #[.bool true, .int .i64 50, .int .i64 0, .int .i64 1000, .int .i64 5, .int .i64 7, .bool true, .bool false, .int .i64 10] 29)).alloc (.cells #[.bool true, .int .i64 51, .int .i64 0, .int .i64 1000, .int .i64 5, .int .i64 7, .bool true, .bool true, .int .i64 10] 29)).alloc (.cells #[.bool true, .int .i64 200, .int .i64 0, .int .i64 1000, .int .i64 5, .int .i64 7, .bool true, .bool true, .int .i64 10] 29)).alloc (.cells #[.bool false, .int .i64 0, .int .i64 0, .int .i64 30, .int .i64 5, .int .i64 7, .bool false, .bool true, .int .i64 10] 29)).alloc (.cells #[.bool false, .int .i64 0, .int .i64 90, .int .i64 1000, .int .i64 5, .int .i64 7, .bool false, .bool false, .int .i64 10] 29)) (wx.heap.size + 1 + 1) (⟨true, 51, 0, 1000, 5, 7, true, true, 10⟩ : RA)) := Lib.hid (by
    have h := AskAt.new ((wx.alloc (.cells #[.bool true, .int .i64 50, .int .i64 0, .int .i64 1000, .int .i64 5, .int .i64 7, .bool false, .bool false, .int .i64 10] 29)).alloc (.cells #[.bool true, .int .i64 50, .int .i64 0, .int .i64 1000, .int .i64 5, .int .i64 7, .bool true, .bool false, .int .i64 10] 29)) (⟨true, 51, 0, 1000, 5, 7, true, true, 10⟩ : RA)
    simp only [World.size_alloc] at h
    exact (((h.put _).put _).put _))
  have Q3 : Hid (AskAt ((((((wx.alloc (.cells #[.bool true, .int .i64 50, .int .i64 0, .int .i64 1000, .int .i64 5, .int .i64 7, .bool false, .bool false, .int .i64 10] 29)).alloc (.cells #[.bool true, .int .i64 50, .int .i64 0, .int .i64 1000, .int .i64 5, .int .i64 7, .bool true, .bool false, .int .i64 10] 29)).alloc (.cells #[.bool true, .int .i64 51, .int .i64 0, .int .i64 1000, .int .i64 5, .int .i64 7, .bool true, .bool true, .int .i64 10] 29)).alloc (.cells #[.bool true, .int .i64 200, .int .i64 0, .int .i64 1000, .int .i64 5, .int .i64 7, .bool true, .bool true, .int .i64 10] 29)).alloc (.cells #[.bool false, .int .i64 0, .int .i64 0, .int .i64 30, .int .i64 5, .int .i64 7, .bool false, .bool true, .int .i64 10] 29)).alloc (.cells #[.bool false, .int .i64 0, .int .i64 90, .int .i64 1000, .int .i64 5, .int .i64 7, .bool false, .bool false, .int .i64 10] 29)) (wx.heap.size + 1 + 1 + 1) (⟨true, 200, 0, 1000, 5, 7, true, true, 10⟩ : RA)) := Lib.hid (by
    have h := AskAt.new (((wx.alloc (.cells #[.bool true, .int .i64 50, .int .i64 0, .int .i64 1000, .int .i64 5, .int .i64 7, .bool false, .bool false, .int .i64 10] 29)).alloc (.cells #[.bool true, .int .i64 50, .int .i64 0, .int .i64 1000, .int .i64 5, .int .i64 7, .bool true, .bool false, .int .i64 10] 29)).alloc (.cells #[.bool true, .int .i64 51, .int .i64 0, .int .i64 1000, .int .i64 5, .int .i64 7, .bool true, .bool true, .int .i64 10] 29)) (⟨true, 200, 0, 1000, 5, 7, true, true, 10⟩ : RA)
    simp only [World.size_alloc] at h
    exact ((h.put _).put _))
  have Q4 : Hid (AskAt ((((((wx.alloc (.cells #[.bool true, .int .i64 50, .int .i64 0, .int .i64 1000, .int .i64 5, .int .i64 7, .bool false, .bool false, .int .i64 10] 29)).alloc (.cells #[.bool true, .int .i64 50, .int .i64 0, .int .i64 1000, .int .i64 5, .int .i64 7, .bool true, .bool false, .int .i64 10] 29)).alloc (.cells #[.bool true, .int .i64 51, .int .i64 0, .int .i64 1000, .int .i64 5, .int .i64 7, .bool true, .bool true, .int .i64 10] 29)).alloc (.cells #[.bool true, .int .i64 200, .int .i64 0, .int .i64 1000, .int .i64 5, .int .i64 7, .bool true, .bool true, .int .i64 10] 29)).alloc (.cells #[.bool false, .int .i64 0, .int .i64 0, .int .i64 30, .int .i64 5, .int .i64 7, .bool false, .bool true, .int .i64 10] 29)).alloc (.cells #[.bool false, .int .i64 0, .int .i64 90, .int .i64 1000, .int .i64 5, .int .i64 7, .bool false, .bool false, .int .i64 10] 29)) (wx.heap.size + 1 + 1 + 1 + 1) (⟨false, 0, 0, 30, 5, 7, false, true, 10⟩ : RA)) := Lib.hid (by
    have h := AskAt.new ((((wx.alloc (.cells #[.bool true, .int .i64 50, .int .i64 0, .int .i64 1000, .int .i64 5, .int .i64 7, .bool false, .bool false, .int .i64 10] 29)).alloc (.cells #[.bool true, .int .i64 50, .int .i64 0, .int .i64 1000, .int .i64 5, .int .i64 7, .bool true, .bool false, .int .i64 10] 29)).alloc (.cells #[.bool true, .int .i64 51, .int .i64 0, .int .i64 1000, .int .i64 5, .int .i64 7, .bool true, .bool true, .int .i64 10] 29)).alloc (.cells #[.bool true, .int .i64 200, .int .i64 0, .int .i64 1000, .int .i64 5, .int .i64 7, .bool true, .bool true, .int .i64 10] 29)) (⟨false, 0, 0, 30, 5, 7, false, true, 10⟩ : RA)
    simp only [World.size_alloc] at h
    exact (h.put _))
  have Q5 : Hid (AskAt ((((((wx.alloc (.cells #[.bool true, .int .i64 50, .int .i64 0, .int .i64 1000, .int .i64 5, .int .i64 7, .bool false, .bool false, .int .i64 10] 29)).alloc (.cells #[.bool true, .int .i64 50, .int .i64 0, .int .i64 1000, .int .i64 5, .int .i64 7, .bool true, .bool false, .int .i64 10] 29)).alloc (.cells #[.bool true, .int .i64 51, .int .i64 0, .int .i64 1000, .int .i64 5, .int .i64 7, .bool true, .bool true, .int .i64 10] 29)).alloc (.cells #[.bool true, .int .i64 200, .int .i64 0, .int .i64 1000, .int .i64 5, .int .i64 7, .bool true, .bool true, .int .i64 10] 29)).alloc (.cells #[.bool false, .int .i64 0, .int .i64 0, .int .i64 30, .int .i64 5, .int .i64 7, .bool false, .bool true, .int .i64 10] 29)).alloc (.cells #[.bool false, .int .i64 0, .int .i64 90, .int .i64 1000, .int .i64 5, .int .i64 7, .bool false, .bool false, .int .i64 10] 29)) (wx.heap.size + 1 + 1 + 1 + 1 + 1) (⟨false, 0, 90, 1000, 5, 7, false, false, 10⟩ : RA)) := Lib.hid (by
    have h := AskAt.new (((((wx.alloc (.cells #[.bool true, .int .i64 50, .int .i64 0, .int .i64 1000, .int .i64 5, .int .i64 7, .bool false, .bool false, .int .i64 10] 29)).alloc (.cells #[.bool true, .int .i64 50, .int .i64 0, .int .i64 1000, .int .i64 5, .int .i64 7, .bool true, .bool false, .int .i64 10] 29)).alloc (.cells #[.bool true, .int .i64 51, .int .i64 0, .int .i64 1000, .int .i64 5, .int .i64 7, .bool true, .bool true, .int .i64 10] 29)).alloc (.cells #[.bool true, .int .i64 200, .int .i64 0, .int .i64 1000, .int .i64 5, .int .i64 7, .bool true, .bool true, .int .i64 10] 29)).alloc (.cells #[.bool false, .int .i64 0, .int .i64 0, .int .i64 30, .int .i64 5, .int .i64 7, .bool false, .bool true, .int .i64 10] 29)) (⟨false, 0, 90, 1000, 5, 7, false, false, 10⟩ : RA)
    simp only [World.size_alloc] at h
    exact h)
  have BW : Hid (Below w.heap.size w ((((((wx.alloc (.cells #[.bool true, .int .i64 50, .int .i64 0, .int .i64 1000, .int .i64 5, .int .i64 7, .bool false, .bool false, .int .i64 10] 29)).alloc (.cells #[.bool true, .int .i64 50, .int .i64 0, .int .i64 1000, .int .i64 5, .int .i64 7, .bool true, .bool false, .int .i64 10] 29)).alloc (.cells #[.bool true, .int .i64 51, .int .i64 0, .int .i64 1000, .int .i64 5, .int .i64 7, .bool true, .bool true, .int .i64 10] 29)).alloc (.cells #[.bool true, .int .i64 200, .int .i64 0, .int .i64 1000, .int .i64 5, .int .i64 7, .bool true, .bool true, .int .i64 10] 29)).alloc (.cells #[.bool false, .int .i64 0, .int .i64 0, .int .i64 30, .int .i64 5, .int .i64 7, .bool false, .bool true, .int .i64 10] 29)).alloc (.cells #[.bool false, .int .i64 0, .int .i64 90, .int .i64 1000, .int .i64 5, .int .i64 7, .bool false, .bool false, .int .i64 10] 29))) := Lib.hid (by
    have h := B.out
    have s := h.size
    exact ((((((h.alloc (by first | omega | (simp only [World.size_alloc]; omega)) _).alloc (by first | omega | (simp only [World.size_alloc]; omega)) _).alloc (by first | omega | (simp only [World.size_alloc]; omega)) _).alloc (by first | omega | (simp only [World.size_alloc]; omega)) _).alloc (by first | omega | (simp only [World.size_alloc]; omega)) _).alloc (by first | omega | (simp only [World.size_alloc]; omega)) _))
  clear B
  generalize ((((((wx.alloc (.cells #[.bool true, .int .i64 50, .int .i64 0, .int .i64 1000, .int .i64 5, .int .i64 7, .bool false, .bool false, .int .i64 10] 29)).alloc (.cells #[.bool true, .int .i64 50, .int .i64 0, .int .i64 1000, .int .i64 5, .int .i64 7, .bool true, .bool false, .int .i64 10] 29)).alloc (.cells #[.bool true, .int .i64 51, .int .i64 0, .int .i64 1000, .int .i64 5, .int .i64 7, .bool true, .bool true, .int .i64 10] 29)).alloc (.cells #[.bool true, .int .i64 200, .int .i64 0, .int .i64 1000, .int .i64 5, .int .i64 7, .bool true, .bool true, .int .i64 10] 29)).alloc (.cells #[.bool false, .int .i64 0, .int .i64 0, .int .i64 30, .int .i64 5, .int .i64 7, .bool false, .bool true, .int .i64 10] 29)).alloc (.cells #[.bool false, .int .i64 0, .int .i64 90, .int .i64 1000, .int .i64 5, .int .i64 7, .bool false, .bool false, .int .i64 10] 29)) = w6 at Q0 Q1 Q2 Q3 Q4 Q5 BW ⊢
  generalize wx.heap.size = g at Q0 Q1 Q2 Q3 Q4 Q5 ⊢
  have T0 := Lib.hid (told_any12 hS (⟨false, 0, 0, 1000, 5, 7, false, false, 10⟩ : RA) ⟨by unfold big; decide, by unfold big; decide, by unfold big; decide, by unfold big; decide, by unfold big; decide, by unfold big; decide⟩ 5 78 7 (by kernel_rfl))
  have T1 := Lib.hid (told_any12 hS (⟨true, 50, 0, 1000, 5, 7, false, false, 10⟩ : RA) ⟨by unfold big; decide, by unfold big; decide, by unfold big; decide, by unfold big; decide, by unfold big; decide, by unfold big; decide⟩ 5 50 35 (by kernel_rfl))
  have T2 := Lib.hid (told_any12 hS (⟨true, 50, 0, 1000, 5, 7, true, false, 10⟩ : RA) ⟨by unfold big; decide, by unfold big; decide, by unfold big; decide, by unfold big; decide, by unfold big; decide, by unfold big; decide⟩ 33 50 7 (by kernel_rfl))
  have T3 := Lib.hid (told_any12 hS (⟨true, 51, 0, 1000, 5, 7, true, true, 10⟩ : RA) ⟨by unfold big; decide, by unfold big; decide, by unfold big; decide, by unfold big; decide, by unfold big; decide, by unfold big; decide⟩ 19 51 20 (by kernel_rfl))
  have T4 := Lib.hid (told_any12 hS (⟨true, 200, 0, 1000, 5, 7, true, true, 10⟩ : RA) ⟨by unfold big; decide, by unfold big; decide, by unfold big; decide, by unfold big; decide, by unfold big; decide, by unfold big; decide⟩ 0 200 (-110) (by kernel_rfl))
  have T5 := Lib.hid (told_any12 hS (⟨false, 0, 0, 30, 5, 7, false, true, 10⟩ : RA) ⟨by unfold big; decide, by unfold big; decide, by unfold big; decide, by unfold big; decide, by unfold big; decide, by unfold big; decide⟩ 5 30 55 (by kernel_rfl))
  have T6 := Lib.hid (told_any12 hS (⟨false, 0, 90, 1000, 5, 7, false, false, 10⟩ : RA) ⟨by unfold big; decide, by unfold big; decide, by unfold big; decide, by unfold big; decide, by unfold big; decide, by unfold big; decide⟩ 5 90 (-5) (by kernel_rfl))
  have F0 := Lib.hid (fit_lit12 hF 3 9 5 5 (by decide))
  have F1 := Lib.hid (fit_lit12 hF 3 9 1 3 (by decide))
  have F2 := Lib.hid (fit_lit12 hF 3 9 20 9 (by decide))
  unfold askedV at T0 T1 T2 T3 T4 T5 T6
  dsimp only at T0 T1 T2 T3 T4 T5 T6
  clear hS hF
  go_wp2_with (go_at_call 31; (with_reducible refine (base_any12 _).mono ?_); rintro e wy ⟨rfl, hb⟩; replace BW := Lib.hid (BW.out.trans (hb.mono BW.out.size)); replace Q0 := Lib.hid (Q0.out.keep hb); replace Q1 := Lib.hid (Q1.out.keep hb); replace Q2 := Lib.hid (Q2.out.keep hb); replace Q3 := Lib.hid (Q3.out.keep hb); replace Q4 := Lib.hid (Q4.out.keep hb); replace Q5 := Lib.hid (Q5.out.keep hb); clear hb)
  (with_reducible refine (T0.out _).mono ?_)
  rintro e wt0 ⟨rfl, hb⟩
  replace BW := Lib.hid (BW.out.trans (hb.mono BW.out.size))
  replace Q0 := Lib.hid (Q0.out.keep hb)
  replace Q1 := Lib.hid (Q1.out.keep hb)
  replace Q2 := Lib.hid (Q2.out.keep hb)
  replace Q3 := Lib.hid (Q3.out.keep hb)
  replace Q4 := Lib.hid (Q4.out.keep hb)
  replace Q5 := Lib.hid (Q5.out.keep hb)
  clear hb T0
  obtain ⟨y0, y1, y2, y3, y4, y5, y6, y7, y8⟩ := Q0.out.cells
  dsimp only at y0 y1 y2 y3 y4 y5 y6 y7 y8
  go_wp2_with fail
  (with_reducible refine (T1.out _).mono ?_)
  rintro e wt1 ⟨rfl, hb⟩
  replace BW := Lib.hid (BW.out.trans (hb.mono BW.out.size))
  replace Q1 := Lib.hid (Q1.out.keep hb)
  replace Q2 := Lib.hid (Q2.out.keep hb)
  replace Q3 := Lib.hid (Q3.out.keep hb)
  replace Q4 := Lib.hid (Q4.out.keep hb)
  replace Q5 := Lib.hid (Q5.out.keep hb)
  clear hb T1
  clear y0 y1 y2 y3 y4 y5 y6 y7 y8 Q0
  obtain ⟨y0, y1, y2, y3, y4, y5, y6, y7, y8⟩ := Q1.out.cells
  dsimp only at y0 y1 y2 y3 y4 y5 y6 y7 y8
  go_wp2_with fail
  (with_reducible refine (T2.out _).mono ?_)
  rintro e wt2 ⟨rfl, hb⟩
  replace BW := Lib.hid (BW.out.trans (hb.mono BW.out.size))
  replace Q2 := Lib.hid (Q2.out.keep hb)
  replace Q3 := Lib.hid (Q3.out.keep hb)
  replace Q4 := Lib.hid (Q4.out.keep hb)
  replace Q5 := Lib.hid (Q5.out.keep hb)
  clear hb T2
  clear y0 y1 y2 y3 y4 y5 y6 y7 y8 Q1
  obtain ⟨y0, y1, y2, y3, y4, y5, y6, y7, y8⟩ := Q2.out.cells
  dsimp only at y0 y1 y2 y3 y4 y5 y6 y7 y8
  go_wp2_with fail
  (with_reducible refine (T3.out _).mono ?_)
  rintro e wt3 ⟨rfl, hb⟩
  replace BW := Lib.hid (BW.out.trans (hb.mono BW.out.size))
  replace Q3 := Lib.hid (Q3.out.keep hb)
  replace Q4 := Lib.hid (Q4.out.keep hb)
  replace Q5 := Lib.hid (Q5.out.keep hb)
  clear hb T3
  clear y0 y1 y2 y3 y4 y5 y6 y7 y8 Q2
  obtain ⟨y0, y1, y2, y3, y4, y5, y6, y7, y8⟩ := Q3.out.cells
  dsimp only at y0 y1 y2 y3 y4 y5 y6 y7 y8
  go_wp2_with fail
  (with_reducible refine (T4.out _).mono ?_)
  rintro e wt4 ⟨rfl, hb⟩
  replace BW := Lib.hid (BW.out.trans (hb.mono BW.out.size))
  replace Q4 := Lib.hid (Q4.out.keep hb)
  replace Q5 := Lib.hid (Q5.out.keep hb)
  clear hb T4
  clear y0 y1 y2 y3 y4 y5 y6 y7 y8 Q3
  obtain ⟨y0, y1, y2, y3, y4, y5, y6, y7, y8⟩ := Q4.out.cells
  dsimp only at y0 y1 y2 y3 y4 y5 y6 y7 y8
  go_wp2_with fail
  (with_reducible refine (T5.out _).mono ?_)
  rintro e wt5 ⟨rfl, hb⟩
  replace BW := Lib.hid (BW.out.trans (hb.mono BW.out.size))
  replace Q5 := Lib.hid (Q5.out.keep hb)
  clear hb T5
  clear y0 y1 y2 y3 y4 y5 y6 y7 y8 Q4
  obtain ⟨y0, y1, y2, y3, y4, y5, y6, y7, y8⟩ := Q5.out.cells
  dsimp only at y0 y1 y2 y3 y4 y5 y6 y7 y8
  go_wp2_with fail
  (with_reducible refine (T6.out _).mono ?_)
  rintro e wt6 ⟨rfl, hb⟩
  replace BW := Lib.hid (BW.out.trans (hb.mono BW.out.size))
  clear hb T6
  clear y0 y1 y2 y3 y4 y5 y6 y7 y8 Q5
  go_wp2_with fail
  (with_reducible refine (F0.out _).mono ?_)
  rintro e wf0 ⟨rfl, hb⟩
  replace BW := Lib.hid (BW.out.trans (hb.mono BW.out.size))
  clear hb F0
  go_wp2_with fail
  (with_reducible refine (F1.out _).mono ?_)
  rintro e wf1 ⟨rfl, hb⟩
  replace BW := Lib.hid (BW.out.trans (hb.mono BW.out.size))
  clear hb F1
  go_wp2_with fail
  (with_reducible refine (F2.out _).mono ?_)
  rintro e wf2 ⟨rfl, hb⟩
  replace BW := Lib.hid (BW.out.trans (hb.mono BW.out.size))
  clear hb F2
  go_wp2_with fail
  go_ret
  exact ⟨by first | rfl | simp, BW.out⟩
end Go.Proofs.Ytdadlhkbngopaaa
