/-
  The law WidthMiddle: of any Solve that answers as is asked.
-/
import Derived.Test.YtdadlhkbngopaaaAskAt12
namespace Go.Proofs.Ytdadlhkbngopaaa
open Go.RowKit

theorem mid_facts {x : Int} {a : RA} (h1 : a.al = true) (h2 : a.ar = true) : freeA x a = x - a.edges - wideA x a ∧ (0 ≤ freeA x a → rightA x a = leftA x a ∨ rightA x a = leftA x a + 1) := by
  have e1 : left0 a = 0 := by unfold left0; rw [if_pos h1]
  have e2 : right0 a = 0 := by unfold right0; rw [if_pos h2]
  refine ⟨by unfold freeA; omega, fun h => ?_⟩
  unfold leftA rightA
  rw [if_neg (by rw [h1]; simp; omega), if_pos ⟨h1, h2⟩, if_neg (by rw [h1]; simp; omega), if_pos ⟨h1, h2⟩]
  omega
theorem mid_solve {x : Int} {a : RA} (h : Good12 x a) : solveA x ⟨false, a.width, 0, 1099511627776, a.left, a.right, true, true, a.edges⟩ = if x < a.edges then (0, 0, x - a.edges, 0) else (0, x - a.edges, 0, 0) := by
  have hx := h.x
  have he := h.edges
  have G : Good12 x ⟨false, a.width, 0, 1099511627776, a.left, a.right, true, true, a.edges⟩ := ⟨h.x, ⟨by show (0 : Int) ≤ 0; omega, by show (0 : Int) ≤ 1099511627776; omega⟩, ⟨by show (0 : Int) ≤ 1099511627776; omega, by show (1099511627776 : Int) ≤ 1099511627776; omega⟩, h.edges, h.left, h.right, fun c => by cases c⟩
  have w0 : wide0 x ⟨false, a.width, 0, 1099511627776, a.left, a.right, true, true, a.edges⟩ = x - 0 - 0 - a.edges := rfl
  have wa : wideA x ⟨false, a.width, 0, 1099511627776, a.left, a.right, true, true, a.edges⟩ = if x < a.edges then 0 else x - a.edges := by
    unfold wideA clampV
    rw [w0]
    dsimp only
    split <;> split <;> omega
  have fr : freeA x ⟨false, a.width, 0, 1099511627776, a.left, a.right, true, true, a.edges⟩ = if x < a.edges then x - a.edges else 0 := by
    have e : freeA x ⟨false, a.width, 0, 1099511627776, a.left, a.right, true, true, a.edges⟩ = x - 0 - a.edges - wideA x ⟨false, a.width, 0, 1099511627776, a.left, a.right, true, true, a.edges⟩ - 0 := rfl
    rw [e, wa]
    split <;> omega
  have la : leftA x ⟨false, a.width, 0, 1099511627776, a.left, a.right, true, true, a.edges⟩ = 0 := by
    unfold leftA
    rw [fr]
    by_cases c : x < a.edges
    · rw [if_pos c, if_pos (.inl (by omega))]; rfl
    · rw [if_neg c, if_neg (by simp), if_pos ⟨rfl, rfl⟩]; rfl
  have ra : rightA x ⟨false, a.width, 0, 1099511627776, a.left, a.right, true, true, a.edges⟩ = if x < a.edges then x - a.edges else 0 := by
    unfold rightA
    rw [fr]
    by_cases c : x < a.edges
    · rw [if_pos c, if_pos (.inl (by omega))]
      show 0 + (x - a.edges) = _
      omega
    · rw [if_neg c, if_neg (by simp), if_pos ⟨rfl, rfl⟩]; rfl
  rw [solve_good G, la, wa, ra]
  · split <;> rfl
  · refine ⟨?_, ?_, ?_⟩
    · rw [la]; unfold Fit; omega
    · rw [wa]; unfold Fit; split <;> omega
    · rw [ra]; unfold Fit; split <;> omega
set_option maxRecDepth 100000 in
set_option maxHeartbeats 4000000 in
theorem middle12 (hS : SolveOK 12) (hA : AwakeOK12 16) (x : Int) (a : RA) (w : World) (hx : big x) (ha : a.ok) :
    Calls Try.prog 7 #[.int .i64 x, askedV a] w fun e w' => e = .returned (.bool true) ∧ Below w.heap.size w w' := by
  have B0 : Hid (Below w.heap.size w (w.alloc (.cells a.cells.toArray 29))) := Lib.hid ((Below.refl _ w).alloc (Nat.le_refl _) _)
  have A0 := Lib.hid (AskAt.new w a)
  have KA := Lib.hid (fun W => hA W)
  obtain ⟨is, width, least, most, left, right, al, ar, edges⟩ := a
  have ha1 : RA.ok (⟨is, width, least, most, left, right, true, true, edges⟩ : RA) := ⟨ha.width, ha.least, ha.most, ha.left, ha.right, ha.edges⟩
  have ha2 : RA.ok (⟨false, width, 0, 1099511627776, left, right, true, true, edges⟩ : RA) := ⟨ha.width, ⟨by show (-9223372036854775808 : Int) ≤ 0; omega, by show (0 : Int) ≤ 9223372036854775807; omega⟩, ⟨by show (-9223372036854775808 : Int) ≤ 1099511627776; omega, by show (1099511627776 : Int) ≤ 9223372036854775807; omega⟩, ha.left, ha.right, ha.edges⟩
  obtain ⟨l, m, r, e, hst⟩ : ∃ l m r e, solveA x (⟨is, width, least, most, left, right, true, true, edges⟩ : RA) = (l, m, r, e) := ⟨_, _, _, _, rfl⟩
  have KS := Lib.hid (fun W => solve_lets hS hx ha1 hst W)
  have KT := Lib.hid (fun l' m' r' e' (h : solveA x (⟨false, width, 0, 1099511627776, left, right, true, true, edges⟩ : RA) = (l', m', r', e')) W => solve_lets hS hx ha2 h W)
  have TO := Lib.hid (solve_told hst)
  clear hS hA hst ha ha1 ha2
  unfold askedV at KS KT ⊢
  unfold RA.cells at B0 A0
  dsimp only at B0 A0 KS KT ⊢
  have A1 : Hid (∀ W, AskAt W w.heap.size (⟨is, width, least, most, left, right, al, ar, edges⟩ : RA) → AskAt ((W.setCell ⟨w.heap.size, 6, none⟩ (.bool true)).setCell ⟨w.heap.size, 7, none⟩ (.bool true)) w.heap.size (⟨is, width, least, most, left, right, true, true, edges⟩ : RA)) := Lib.hid (fun W h => (h.set 6 _ (⟨is, width, least, most, left, right, true, ar, edges⟩ : RA) rfl).set 7 _ _ rfl)
  have A2 : Hid (∀ W, AskAt W w.heap.size (⟨is, width, least, most, left, right, true, true, edges⟩ : RA) → AskAt (((W.setCell ⟨w.heap.size, 0, none⟩ (.bool false)).setCell ⟨w.heap.size, 2, none⟩ (.int .i64 0)).setCell ⟨w.heap.size, 3, none⟩ (.int .i64 1099511627776)) w.heap.size (⟨false, width, 0, 1099511627776, left, right, true, true, edges⟩ : RA)) := Lib.hid (fun W h => ((h.set 0 _ (⟨false, width, least, most, left, right, true, true, edges⟩ : RA) rfl).set 2 _ (⟨false, width, 0, most, left, right, true, true, edges⟩ : RA) rfl).set 3 _ _ rfl)
  go_enter Try.func7, Try.ntmps7
  go_upto_region 1 with fail
  generalize w.alloc (.cells #[.bool is, .int .i64 width, .int .i64 least, .int .i64 most, .int .i64 left, .int .i64 right, .bool al, .bool ar, .int .i64 edges] 29) = w0 at B0 A0 ⊢
  go_upto_region 3 with (go_at_call 16; (with_reducible refine (KA.out _).mono ?_); rintro e w1 ⟨rfl, hb⟩; have B1 : Hid (Below w.heap.size w w1) := Lib.hid (B0.out.trans (hb.mono B0.out.size)); have Q1 : Hid (AskAt w1 w.heap.size (⟨is, width, least, most, left, right, al, ar, edges⟩ : RA)) := Lib.hid (AskAt.keep A0.out hb); clear hb)
  obtain ⟨y0, y1, y2, y3, y4, y5, y6, y7, y8⟩ := Q1.out.cells
  dsimp only at y0 y1 y2 y3 y4 y5 y6 y7 y8
  have z6 := Q1.out.fro 6
  have z7 := Q1.out.fro 7
  go_upto_region 4 with fail
  have Q2 := Lib.hid (A1.out _ Q1.out)
  have B2 : Hid (Below w.heap.size w ((w1.setCell ⟨w.heap.size, 6, none⟩ (.bool true)).setCell ⟨w.heap.size, 7, none⟩ (.bool true))) := Lib.hid ((B1.out.setCell (Nat.le_refl _) _).setCell (Nat.le_refl _) _)
  generalize (w1.setCell ⟨w.heap.size, 6, none⟩ (.bool true)).setCell ⟨w.heap.size, 7, none⟩ (.bool true) = w2 at Q2 B2 ⊢
  clear y0 y1 y2 y3 y4 y5 y6 y7 y8 z6 z7 KA A0 B0 B1 Q1 A1
  obtain ⟨y0, y1, y2, y3, y4, y5, y6, y7, y8⟩ := Q2.out.cells
  dsimp only at y0 y1 y2 y3 y4 y5 y6 y7 y8
  rcases TO.out with ⟨rfl, G, F, rfl, rfl, rfl⟩ | ⟨he, rfl, rfl, rfl⟩
  · obtain ⟨f1, f2⟩ := @mid_facts x (⟨is, width, least, most, left, right, true, true, edges⟩ : RA) rfl rfl
    have ms := mid_solve G
    have t1 := F.1
    have t2 := F.2.1
    have t4 := G.edges
    have t5 := G.x
    unfold Fit at t1 t2
    dsimp only at f1 f2 t1 t2 t4 ms
    generalize leftA x (⟨is, width, least, most, left, right, true, true, edges⟩ : RA) = l at KS f2 t1
    generalize wideA x (⟨is, width, least, most, left, right, true, true, edges⟩ : RA) = m at KS f1 t2
    generalize rightA x (⟨is, width, least, most, left, right, true, true, edges⟩ : RA) = r at KS f2
    generalize freeA x (⟨is, width, least, most, left, right, true, true, edges⟩ : RA) = fr at f1 f2
    clear TO F G
    go_upto_region 5 with (go_at_call 12; (with_reducible refine (KS.out _).mono ?_); rintro e w3 ⟨rfl, hb⟩; have B3 : Hid (Below w.heap.size w w3) := Lib.hid (B2.out.trans (hb.mono B2.out.size)); have Q3 : Hid (AskAt w3 w.heap.size (⟨is, width, least, most, left, right, true, true, edges⟩ : RA)) := Lib.hid (AskAt.keep Q2.out hb); clear hb)
    clear y0 y1 y2 y3 y4 y5 y6 y7 y8
    obtain ⟨y0, y1, y2, y3, y4, y5, y6, y7, y8⟩ := Q3.out.cells
    dsimp only at y0 y1 y2 y3 y4 y5 y6 y7 y8
    have b1 : IntKind.i64.wrap (x - edges) = x - edges := IntWalk.i64_in _ (by omega)
    have b2 : IntKind.i64.wrap (x - edges - m) = fr := by rw [← f1]; exact IntWalk.i64_in _ (by omega)
    have b3 : IntKind.i64.wrap (l + 1) = l + 1 := IntWalk.i64_in _ (by omega)
    have FX := Lib.hid (And.intro f2 (And.intro ms (And.intro t4 t5)))
    clear f1 f2 t1 t2 t4 t5 ms KS Q2 B2
    go_upto_region 7 with fail
    go_cut [44] from 13 (fun p wx => p = .bool false ∧ wx = w3)
    case first =>
      as_aux_lemma =>
        by_cases c : 0 ≤ fr
        · rcases FX.out.1 c with h | h
          · have e1 : (r != l) = false := by simp [h]
            have c' : decide (0 ≤ fr) = true := decide_eq_true c
            subst h
            clear FX
            go_wp2_with fail
            go_meet
            exact ⟨rfl, rfl⟩
          · have c' : decide (0 ≤ fr) = true := decide_eq_true c
            have e1 : (r != l) = true := by simp; omega
            have e2 : (r != l + 1) = false := by simp [h]
            clear FX h
            go_wp2_with fail
            go_meet
            exact ⟨rfl, rfl⟩
        · have c' : decide (0 ≤ fr) = false := decide_eq_false c
          clear FX
          go_wp2_with fail
          go_meet
          exact ⟨rfl, rfl⟩
    case rest =>
      obtain ⟨rfl, hw⟩ := hcut
      obtain rfl := hw.symm
      clear hw b1 b2 b3
      have z0 := Q3.out.fro 0
      have z2 := Q3.out.fro 2
      have z3 := Q3.out.fro 3
      go_upto_region 10 with fail
      have Q4 := Lib.hid (A2.out _ Q3.out)
      have B4 : Hid (Below w.heap.size w (((w3.setCell ⟨w.heap.size, 0, none⟩ (.bool false)).setCell ⟨w.heap.size, 2, none⟩ (.int .i64 0)).setCell ⟨w.heap.size, 3, none⟩ (.int .i64 1099511627776))) := Lib.hid (((B3.out.setCell (Nat.le_refl _) _).setCell (Nat.le_refl _) _).setCell (Nat.le_refl _) _)
      generalize ((w3.setCell ⟨w.heap.size, 0, none⟩ (.bool false)).setCell ⟨w.heap.size, 2, none⟩ (.int .i64 0)).setCell ⟨w.heap.size, 3, none⟩ (.int .i64 1099511627776) = w4 at Q4 B4 ⊢
      clear y0 y1 y2 y3 y4 y5 y6 y7 y8 z0 z2 z3 B3 Q3 A2
      obtain ⟨y0, y1, y2, y3, y4, y5, y6, y7, y8⟩ := Q4.out.cells
      dsimp only at y0 y1 y2 y3 y4 y5 y6 y7 y8
      obtain ⟨-, ms, t4, t5⟩ := FX.out
      have b1 : IntKind.i64.wrap (x - edges) = x - edges := IntWalk.i64_in _ (by omega)
      by_cases c : x < edges
      · rw [if_pos c] at ms
        have KU := Lib.hid (KT.out _ _ _ _ ms)
        have c1 : ((x - edges) == 0) = false := by simp; omega
        have c2 : decide (x - edges < 0) = true := decide_eq_true (by omega)
        obtain ⟨d, hd⟩ : ∃ d, x - edges = d := ⟨_, rfl⟩
        replace b1 := b1.trans hd
        rw [hd] at c1 c2 KU
        clear KT FX ms c t4 t5 hd
        go_wp2_with (go_at_call 12; (with_reducible refine (KU.out _).mono ?_); rintro e w5 ⟨rfl, hb⟩; have B5 : Hid (Below w.heap.size w w5) := Lib.hid (B4.out.trans (hb.mono B4.out.size)); have Q5 : Hid (AskAt w5 w.heap.size (⟨false, width, 0, 1099511627776, left, right, true, true, edges⟩ : RA)) := Lib.hid (AskAt.keep Q4.out hb); obtain ⟨-, -, -, -, -, -, -, -, v8⟩ := Q5.out.cells; dsimp only at v8; clear hb)
        go_ret
        exact ⟨rfl, B5.out⟩
      · rw [if_neg c] at ms
        have KU := Lib.hid (KT.out _ _ _ _ ms)
        obtain ⟨d, hd⟩ : ∃ d, x - edges = d := ⟨_, rfl⟩
        replace b1 := b1.trans hd
        rw [hd] at KU
        clear KT FX ms c t4 t5 hd
        go_wp2_with (go_at_call 12; (with_reducible refine (KU.out _).mono ?_); rintro e w5 ⟨rfl, hb⟩; have B5 : Hid (Below w.heap.size w w5) := Lib.hid (B4.out.trans (hb.mono B4.out.size)); have Q5 : Hid (AskAt w5 w.heap.size (⟨false, width, 0, 1099511627776, left, right, true, true, edges⟩ : RA)) := Lib.hid (AskAt.keep Q4.out hb); obtain ⟨-, -, -, -, -, -, -, -, v8⟩ := Q5.out.cells; dsimp only at v8; clear hb)
        go_ret
        exact ⟨rfl, B5.out⟩
  · rcases he with rfl | rfl
    all_goals (
      go_wp2_with (go_at_call 12; (with_reducible refine (KS.out _).mono ?_); rintro e w3 ⟨rfl, hb⟩; have B3 : Hid (Below w.heap.size w w3) := Lib.hid (B2.out.trans (hb.mono B2.out.size)); clear hb)
      go_ret
      exact ⟨rfl, B3.out⟩)
end Go.Proofs.Ytdadlhkbngopaaa
