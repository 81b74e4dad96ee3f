/-
  The landed Solve answers as the chapter says.
-/
import Derived.Test.YtdadlhkbngopaaaSolve12
import Derived.Laws.Rows
namespace Go.Proofs.Ytdadlhkbngopaaa
open Go.RowKit

/-- where it stands: what is asked for, in a block of its own -/
structure SolveAt (w W : World) (a : RA) : Prop where
  ask : AskAt W w.heap.size a
  below : Below w.heap.size w W
theorem SolveAt.new (w : World) (a : RA) : SolveAt w (w.alloc (.cells a.cells.toArray 29)) a := ⟨AskAt.new w a, (Below.refl _ w).alloc (Nat.le_refl _) _⟩
theorem SolveAt.set {w W : World} {a : RA} (h : SolveAt w W a) (j : Nat) (v : Value) (a' : RA) (e : a.cells.set j v = a'.cells) : SolveAt w (W.setCell ⟨w.heap.size, j, none⟩ v) a' :=
  ⟨h.ask.set j v a' e, h.below.setCell (by show w.heap.size ≤ w.heap.size; omega) _⟩
theorem SolveAt.of {w W W' : World} {a : RA} (h : SolveAt w W a) (hb : Below W.heap.size W W') : SolveAt w W' a := ⟨h.ask.keep hb, h.below.trans (hb.mono h.below.size)⟩
theorem asked_size12 (a : RA) : (Try.prog.info? 29).map (·.size) = some a.cells.toArray.size := by
  show (Try.prog.info? 29).map (·.size) = some 9
  kernel_rfl
set_option maxRecDepth 100000 in
set_option maxHeartbeats 4000000 in
theorem solved_any (x : Int) (a : RA) (h : Good12 x a) (w : World) (l m r : Int) (hl : leftA x a = l) (hm : wideA x a = m) (hr : rightA x a = r) :
    Calls Try.prog 28 #[.agg a.cells.toArray, .int .i64 x] w fun e w' => e = .returned (.tuple #[.int .i64 l, .int .i64 m, .int .i64 r]) ∧ Below w.heap.size w w' := by
  have l0 := left0_in h
  have r0 := right0_in h
  have fi := freeA_in h
  have wi := wideA_in h
  have hx := h.x
  have he := h.edges
  have hk1 := h.least
  have hk2 := h.most
  have MS := marg_same (x := x) (a := a)
  have A0 := Lib.hid (SolveAt.new w a)
  obtain ⟨is, width, least, most, left, right, al, ar, edges⟩ := a
  have EW : wideA x ⟨is, width, least, most, left, right, al, ar, edges⟩ = clampV (if is = true then width else x - left0 ⟨is, width, least, most, left, right, al, ar, edges⟩ - edges - right0 ⟨is, width, least, most, left, right, al, ar, edges⟩) least most := by
    unfold wideA wide0 clampV
    dsimp only at hk1 hk2 ⊢
    repeat' split
    all_goals omega
  have EF : freeA x ⟨is, width, least, most, left, right, al, ar, edges⟩ = x - left0 ⟨is, width, least, most, left, right, al, ar, edges⟩ - edges - right0 ⟨is, width, least, most, left, right, al, ar, edges⟩ - wideA x ⟨is, width, least, most, left, right, al, ar, edges⟩ := by
    unfold freeA
    dsimp only
    omega
  have EL0 : left0 ⟨is, width, least, most, left, right, al, ar, edges⟩ = if al = true then 0 else left := rfl
  have ER0 : right0 ⟨is, width, least, most, left, right, al, ar, edges⟩ = if ar = true then 0 else right := rfl
  rw [hl, hr] at MS
  rw [hm] at EW wi EF
  clear hl hm hr h hk1 hk2
  generalize left0 ⟨is, width, least, most, left, right, al, ar, edges⟩ = L0 at *
  generalize right0 ⟨is, width, least, most, left, right, al, ar, edges⟩ = R0 at *
  generalize freeA x ⟨is, width, least, most, left, right, al, ar, edges⟩ = FR at *
  dsimp only at MS he
  obtain ⟨RM, hRM⟩ : ∃ y, x - L0 - edges - R0 = y := ⟨_, rfl⟩
  rw [hRM] at EW EF
  have b1 : Hid (IntKind.i64.wrap (x - L0) = x - L0) := Lib.hid (IntWalk.i64_in _ (by omega))
  have b2 : Hid (IntKind.i64.wrap (x - L0 - edges) = x - L0 - edges) := Lib.hid (IntWalk.i64_in _ (by omega))
  have b3 : Hid (IntKind.i64.wrap (x - L0 - edges - R0) = RM) := Lib.hid ((IntWalk.i64_in _ (by omega)).trans hRM)
  have b4 : Hid (IntKind.i64.wrap (RM - m) = FR) := Lib.hid (by rw [EF]; exact IntWalk.i64_in _ (by omega))
  obtain ⟨W1, hW1⟩ : ∃ y, (if is = true then width else RM) = y := ⟨_, rfl⟩
  rw [hW1] at EW
  have KC := Lib.hid (fun W => clamp_any W1 least most W m EW.symm)
  have KM := Lib.hid (fun W => margins_any is W1 least most L0 R0 al ar edges FR r0 fi W l r MS)
  have EL := Lib.hid EL0
  have ER := Lib.hid ER0
  have E1 := Lib.hid hW1
  clear l0 r0 fi wi hx he MS EW EF EL0 ER0 hRM hW1
  unfold RA.cells at A0 ⊢
  dsimp only at A0 ⊢
  go_enter Try.func28, Try.ntmps28
  go_upto_region 1 with fail
  generalize w.alloc (.cells (List.toArray [.bool is, .int .i64 width, .int .i64 least, .int .i64 most, .int .i64 left, .int .i64 right, .bool al, .bool ar, .int .i64 edges]) 29) = w0 at A0 ⊢
  obtain ⟨y0, y1, y2, y3, y4, y5, y6, y7, y8⟩ := A0.out.ask.cells
  dsimp only at y0 y1 y2 y3 y4 y5 y6 y7 y8
  have z4 := A0.out.ask.fro 4
  go_upto_if 9 with fail
  go_cut [4] from 8 (fun p wx => p = .int .i64 0 ∧ Hid (SolveAt w wx ⟨is, width, least, most, L0, right, al, ar, edges⟩))
  case first =>
    as_aux_lemma =>
      cases al with
      | false =>
        have E0 : L0 = left := EL.out
        go_wp2_with fail
        go_meet
        exact ⟨rfl, by rw [E0]; exact A0⟩
      | true =>
        have E0 : L0 = 0 := EL.out
        go_wp2_with fail
        go_meet
        exact ⟨rfl, Lib.hid (by rw [E0]; exact A0.out.set 4 _ _ rfl)⟩
  case rest =>
    obtain ⟨rfl, A1⟩ := hcut
    clear A0 y0 y1 y2 y3 y4 y5 y6 y7 y8 z4 EL
    obtain ⟨y0, y1, y2, y3, y4, y5, y6, y7, y8⟩ := A1.out.ask.cells
    dsimp only at y0 y1 y2 y3 y4 y5 y6 y7 y8
    have z5 := A1.out.ask.fro 5
    go_upto_if 12 with fail
    go_cut [4] from 8 (fun p wx => p = .int .i64 0 ∧ Hid (SolveAt w wx ⟨is, width, least, most, L0, R0, al, ar, edges⟩))
    case first =>
      as_aux_lemma =>
        cases ar with
        | false =>
          have E0 : R0 = right := ER.out
          go_wp2_with fail
          go_meet
          exact ⟨rfl, by rw [E0]; exact A1⟩
        | true =>
          have E0 : R0 = 0 := ER.out
          go_wp2_with fail
          go_meet
          exact ⟨rfl, Lib.hid (by rw [E0]; exact A1.out.set 5 _ _ rfl)⟩
    case rest =>
      obtain ⟨rfl, A2⟩ := hcut
      clear A1 y0 y1 y2 y3 y4 y5 y6 y7 y8 z5 ER
      obtain ⟨y0, y1, y2, y3, y4, y5, y6, y7, y8⟩ := A2.out.ask.cells
      dsimp only at y0 y1 y2 y3 y4 y5 y6 y7 y8
      have z1 := A2.out.ask.fro 1
      have c1 := b1.out
      have c2 := b2.out
      have c3 := b3.out
      go_upto_if 26 with fail
      clear c1 c2 c3 b1 b2 b3
      go_cut [4] from 8 (fun p wx => p = .int .i64 0 ∧ Hid (SolveAt w wx ⟨is, W1, least, most, L0, R0, al, ar, edges⟩))
      case first =>
        as_aux_lemma =>
          cases is with
          | false =>
            have E0 : W1 = RM := E1.out.symm
            go_wp2_with fail
            go_meet
            exact ⟨rfl, Lib.hid (by rw [E0]; exact A2.out.set 1 _ _ rfl)⟩
          | true =>
            have E0 : W1 = width := E1.out.symm
            go_wp2_with fail
            go_meet
            exact ⟨rfl, by rw [E0]; exact A2⟩
      case rest =>
        obtain ⟨rfl, A3⟩ := hcut
        clear A2 y0 y1 y2 y3 y4 y5 y6 y7 y8 z1 E1
        obtain ⟨y0, y1, y2, y3, y4, y5, y6, y7, y8⟩ := A3.out.ask.cells
        dsimp only at y0 y1 y2 y3 y4 y5 y6 y7 y8
        have c4 := b4.out
        have SZ : Hid ((Try.prog.info? 29).map (·.size) = some (#[.bool is, .int .i64 W1, .int .i64 least, .int .i64 most, .int .i64 L0, .int .i64 R0, .bool al, .bool ar, .int .i64 edges] : Array Value).size) := Lib.hid (asked_size12 ⟨is, W1, least, most, L0, R0, al, ar, edges⟩)
        have HB : Hid (wc.heap[w.heap.size]? = some (.cells #[.bool is, .int .i64 W1, .int .i64 least, .int .i64 most, .int .i64 L0, .int .i64 R0, .bool al, .bool ar, .int .i64 edges] 29)) := Lib.hid A3.out.ask
        go_upto_region 9 with (go_at_call 45; (with_reducible refine (KC.out _).mono ?_); rintro e6 w' ⟨rfl, rfl⟩)
        go_wp2_with (first
          | (refine wpList_load_row (o := ⟨some 37, _, _, _, _, _⟩) rfl 29 _ rfl w.heap.size rfl _ #[.bool is, .int .i64 W1, .int .i64 least, .int .i64 most, .int .i64 L0, .int .i64 R0, .bool al, .bool ar, .int .i64 edges] _ _ HB.out Try.underlying29 rfl SZ.out ?_)
          | (go_at_call 46; (with_reducible refine (KM.out _).mono ?_); rintro e6 w' ⟨rfl, hb⟩; have A4 := Lib.hid (A3.out.of hb); clear hb))
        go_ret3
        exact ⟨rfl, A4.out.below⟩
def low5 (x a b c d : Int) : Int := if d < (if c < (if b < (if a < x then a else x) then b else (if a < x then a else x)) then c else (if b < (if a < x then a else x) then b else (if a < x then a else x))) then d else (if c < (if b < (if a < x then a else x) then b else (if a < x then a else x)) then c else (if b < (if a < x then a else x) then b else (if a < x then a else x)))
theorem low5_iff (x a b c d : Int) : low5 x a b c d < 0 ↔ x < 0 ∨ a < 0 ∨ b < 0 ∨ c < 0 ∨ d < 0 := by
  unfold low5
  repeat' split
  all_goals omega
theorem run_min_int5 {P : Program} (w : World) (ts : Array TypeId) (t : TypeId) (k k1 k2 k3 k4 : IntKind) (x a b c d : Int) : (Builtin.min_ ts t #[.int k x, .int k1 a, .int k2 b, .int k3 c, .int k4 d]).run P w = .ok (.int k (low5 x a b c d)) w := by
  simp [Builtin.min_, Builtin.min2, low5]
attribute [local go_sem] run_min_int5
set_option maxRecDepth 100000 in
set_option maxHeartbeats 4000000 in
theorem solve_ok : SolveOK 12 := by
  intro x a w hx ha
  obtain ⟨l, hl⟩ : ∃ l, (solveA x a).1 = l := ⟨_, rfl⟩
  obtain ⟨m, hm⟩ : ∃ m, (solveA x a).2.1 = m := ⟨_, rfl⟩
  obtain ⟨r, hr⟩ : ∃ r, (solveA x a).2.2.1 = r := ⟨_, rfl⟩
  obtain ⟨e, he⟩ : ∃ e, (solveA x a).2.2.2 = e := ⟨_, rfl⟩
  have ST : Hid (solveA x a = (l, m, r, e)) := Lib.hid (by rw [← hl, ← hm, ← hr, ← he])
  rw [hl, hm, hr, he]
  clear hl hm hr he
  have A0 := Lib.hid (SolveAt.new w a)
  obtain ⟨is, width, least, most, left, right, al, ar, edges⟩ := a
  obtain ⟨W1, hW1⟩ : ∃ y, (if is = true then width else 0) = y := ⟨_, rfl⟩
  have E1 := Lib.hid hW1
  have HB : Hid (low5 x least most edges W1 < 0 ↔ Bad x ⟨is, width, least, most, left, right, al, ar, edges⟩) := Lib.hid (by
    rw [low5_iff, ← hW1]
    unfold Bad
    dsimp only
    cases is with
    | true => simp
    | false => simp)
  have HF : Hid ((∀ y ∈ [x, least, most, edges, W1, left, right], Fit y) ↔ FitA x ⟨is, width, least, most, left, right, al, ar, edges⟩) := Lib.hid (by
    rw [← hW1]
    unfold FitA
    dsimp only
    cases is with
    | true =>
      simp only [List.forall_mem_cons, List.not_mem_nil, false_implies, implies_true, and_true, if_pos, forall_const]
      constructor
      · rintro ⟨h1, h2, h3, h4, h5, h6, h7⟩; exact ⟨h1, h2, h3, h6, h7, h4, h5⟩
      · rintro ⟨h1, h2, h3, h4, h5, h6, h7⟩; exact ⟨h1, h2, h3, h6, h7, h4, h5⟩
    | false =>
      have z : Fit (if false = true then width else 0) := by unfold Fit; simp
      simp only [List.forall_mem_cons, List.not_mem_nil, false_implies, implies_true, and_true, Bool.false_eq_true]
      constructor
      · rintro ⟨h1, h2, h3, h4, h5, h6, h7⟩; exact ⟨h1, h2, h3, h6, h7, h4⟩
      · rintro ⟨h1, h2, h3, h4, h5, h6⟩; exact ⟨h1, h2, h3, h6, z, h4, h5⟩)
  have BD : Hid (∀ y ∈ [x, least, most, edges, W1, left, right], -9223372036854775808 ≤ y ∧ y ≤ 9223372036854775807) := Lib.hid (by
    have h1 := ha.width
    have h2 := ha.least
    have h3 := ha.most
    have h4 := ha.left
    have h5 := ha.right
    have h6 := ha.edges
    unfold big at h1 h2 h3 h4 h5 h6 hx
    dsimp only at h1 h2 h3 h4 h5 h6
    intro y hy
    simp only [List.mem_cons, List.not_mem_nil, or_false] at hy
    rcases hy with rfl | rfl | rfl | rfl | rfl | rfl | rfl
    · exact hx
    · exact h2
    · exact h3
    · exact h6
    · rw [← hW1]; split <;> omega
    · exact h4
    · exact h5)
  clear hx ha hW1
  unfold askedV
  unfold RA.cells at A0
  dsimp only at A0 ⊢
  go_enter Try.func12, Try.ntmps12
  go_upto_region 1 with fail
  generalize w.alloc (.cells (List.toArray [.bool is, .int .i64 width, .int .i64 least, .int .i64 most, .int .i64 left, .int .i64 right, .bool al, .bool ar, .int .i64 edges]) 29) = w0 at A0 ⊢
  obtain ⟨y0, y1, y2, y3, y4, y5, y6, y7, y8⟩ := A0.out.ask.cells
  dsimp only at y0 y1 y2 y3 y4 y5 y6 y7 y8
  have z1 := A0.out.ask.fro 1
  go_upto_if 10 with fail
  go_cut [4] from 8 (fun p wx => p = .int .i64 0 ∧ Hid (SolveAt w wx ⟨is, W1, least, most, left, right, al, ar, edges⟩))
  case first =>
    as_aux_lemma =>
      cases is with
      | false =>
        have E0 : W1 = 0 := E1.out.symm
        go_wp2_with fail
        go_meet
        exact ⟨rfl, Lib.hid (by rw [E0]; exact A0.out.set 1 _ _ rfl)⟩
      | true =>
        have E0 : W1 = width := E1.out.symm
        go_wp2_with fail
        go_meet
        exact ⟨rfl, by rw [E0]; exact A0⟩
  case rest =>
    obtain ⟨rfl, A1⟩ := hcut
    clear A0 y0 y1 y2 y3 y4 y5 y6 y7 y8 z1
    obtain ⟨y0, y1, y2, y3, y4, y5, y6, y7, y8⟩ := A1.out.ask.cells
    dsimp only at y0 y1 y2 y3 y4 y5 y6 y7 y8
    by_cases hb : low5 x least most edges W1 < 0
    · have R : Hid (l = 0 ∧ m = 0 ∧ r = 0 ∧ e = 2) := Lib.hid (by
        have h := ST.out
        unfold solveA at h
        rw [if_pos (HB.out.1 hb)] at h
        cases h
        exact ⟨rfl, rfl, rfl, rfl⟩)
      have d1 : decide (low5 x least most edges W1 < 0) = true := decide_eq_true hb
      clear ST HB HF BD
      go_wp2_with fail
      refine bodyPost_ret (results_tmp4' rfl _ _ _) rfl ?_
      obtain ⟨rfl, rfl, rfl, rfl⟩ := R.out
      exact ⟨rfl, A1.out.below⟩
    · have NB := Lib.hid (fun c => hb (HB.out.2 c))
      have ST1 := Lib.hid (by
        have h := ST.out
        unfold solveA at h
        rwa [if_neg NB.out] at h)
      have d1 : decide (low5 x least most edges W1 < 0) = false := decide_eq_false hb
      obtain ⟨fF, hfF⟩ : ∃ b, decide (∀ y ∈ [x, least, most, edges, W1, left, right], Fit y) = b := ⟨_, rfl⟩
      have I3 := Lib.hid (picked_new wc 3 [x, least, most, edges, W1, left, right] BD.out)
      have K3 := Lib.hid (fits_any _ _ 7 _ _ I3.out (by simp) fF ((all_picked [x, least, most, edges, W1, left, right]).trans hfF))
      have HT := Lib.hid hfF
      have B5 : Hid (SolveAt w (wc.alloc (.cells #[.int .i64 x, .int .i64 least, .int .i64 most, .int .i64 edges, .int .i64 W1, .int .i64 left, .int .i64 right] 3)) ⟨is, W1, least, most, left, right, al, ar, edges⟩) := Lib.hid (A1.out.of ((Below.refl _ _).alloc (Nat.le_refl _) _))
      clear hfF I3 BD hb HB ST
      go_upto_if 38 with (go_at_call 27; refine K3.out.mono ?_; rintro e6 w6 ⟨rfl, hw'⟩; have A6 : Hid (SolveAt w w6 ⟨is, W1, least, most, left, right, al, ar, edges⟩) := Lib.hid (by rw [← hw']; exact B5.out); clear hw')
      clear B5 K3 A1 y0 y1 y2 y3 y4 y5 y6 y7 y8 d1
      cases fF with
      | false =>
        have R : Hid (l = 0 ∧ m = 0 ∧ r = 0 ∧ e = 10) := Lib.hid (by
          have h := ST1.out
          rw [if_pos (fun c => of_decide_eq_false HT.out (HF.out.2 c))] at h
          cases h
          exact ⟨rfl, rfl, rfl, rfl⟩)
        clear ST1 HF HT
        go_wp2_with fail
        refine bodyPost_ret (results_tmp4' rfl _ _ _) rfl ?_
        obtain ⟨rfl, rfl, rfl, rfl⟩ := R.out
        exact ⟨rfl, A6.out.below⟩
      | true =>
        have FA : FitA x ⟨is, width, least, most, left, right, al, ar, edges⟩ := HF.out.1 (of_decide_eq_true HT.out)
        have GD := good_of NB.out FA
        have ST2 := Lib.hid (by
          have h := ST1.out
          rwa [if_neg (fun c => c FA)] at h)
        have G1 : Good12 x ⟨is, W1, least, most, left, right, al, ar, edges⟩ := by
          refine ⟨GD.x, GD.least, GD.most, GD.edges, GD.left, GD.right, fun hi => ?_⟩
          have h := GD.width hi
          have e1 := E1.out
          dsimp only at hi h ⊢
          rw [← e1, if_pos hi]
          exact h
        have q1 : leftA x ⟨is, W1, least, most, left, right, al, ar, edges⟩ = leftA x ⟨is, width, least, most, left, right, al, ar, edges⟩ := by
          rw [← E1.out]
          cases is <;> rfl
        have q2 : wideA x ⟨is, W1, least, most, left, right, al, ar, edges⟩ = wideA x ⟨is, width, least, most, left, right, al, ar, edges⟩ := by
          rw [← E1.out]
          cases is <;> rfl
        have q3 : rightA x ⟨is, W1, least, most, left, right, al, ar, edges⟩ = rightA x ⟨is, width, least, most, left, right, al, ar, edges⟩ := by
          rw [← E1.out]
          cases is <;> rfl
        have KS := Lib.hid (fun W => solved_any x _ G1 W _ _ _ q1 q2 q3)
        have wi := wideA_in GD
        have li : -5497558138880 ≤ leftA x ⟨is, width, least, most, left, right, al, ar, edges⟩ ∧ leftA x ⟨is, width, least, most, left, right, al, ar, edges⟩ ≤ 5497558138880 := by
          have h1 := left0_in GD
          have h2 := freeA_in GD
          unfold leftA
          repeat' split
          all_goals omega
        have ri : -10995116277760 ≤ rightA x ⟨is, width, least, most, left, right, al, ar, edges⟩ ∧ rightA x ⟨is, width, least, most, left, right, al, ar, edges⟩ ≤ 10995116277760 := by
          have h1 := right0_in GD
          have h2 := freeA_in GD
          unfold rightA
          repeat' split
          all_goals omega
        obtain ⟨LA, hLA⟩ : ∃ y, leftA x ⟨is, width, least, most, left, right, al, ar, edges⟩ = y := ⟨_, rfl⟩
        obtain ⟨WA, hWA⟩ : ∃ y, wideA x ⟨is, width, least, most, left, right, al, ar, edges⟩ = y := ⟨_, rfl⟩
        obtain ⟨RB, hRB⟩ : ∃ y, rightA x ⟨is, width, least, most, left, right, al, ar, edges⟩ = y := ⟨_, rfl⟩
        rw [hLA, hWA, hRB] at KS
        rw [hLA] at li
        rw [hWA] at wi
        rw [hRB] at ri
        have ST3 : Hid ((if Fit LA ∧ Fit WA ∧ Fit RB then (LA, WA, RB, 0) else (0, 0, 0, 10)) = (l, m, r, e)) := Lib.hid (by
          have h := ST2.out
          rw [hLA, hWA, hRB] at h
          by_cases c : FitT x ⟨is, width, least, most, left, right, al, ar, edges⟩
          · rw [if_pos c] at h
            rw [if_pos (by unfold FitT at c; rwa [hLA, hWA, hRB] at c)]
            exact h
          · rw [if_neg c] at h
            rw [if_neg (by unfold FitT at c; rwa [hLA, hWA, hRB] at c)]
            exact h)
        clear ST1 ST2 HF HT FA NB GD G1 q1 q2 q3 hLA hWA hRB
        unfold RA.cells at KS
        dsimp only at KS
        have HX : Hid (w6.heap[w.heap.size]? = some (.cells #[.bool is, .int .i64 W1, .int .i64 least, .int .i64 most, .int .i64 left, .int .i64 right, .bool al, .bool ar, .int .i64 edges] 29)) := Lib.hid A6.out.ask
        have SZ : Hid ((Try.prog.info? 29).map (·.size) = some (#[.bool is, .int .i64 W1, .int .i64 least, .int .i64 most, .int .i64 left, .int .i64 right, .bool al, .bool ar, .int .i64 edges] : Array Value).size) := Lib.hid (asked_size12 ⟨is, W1, least, most, left, right, al, ar, edges⟩)
        have FW : Hid (Fit WA) := Lib.hid (by unfold Fit; omega)
        have BL : Hid (∀ y ∈ [LA, RB], -9223372036854775808 ≤ y ∧ y ≤ 9223372036854775807) := Lib.hid (by
          intro y hy
          simp only [List.mem_cons, List.not_mem_nil, or_false] at hy
          rcases hy with rfl | rfl <;> omega)
        clear wi li ri
        go_upto_region 8 with (first
          | (refine wpList_load_row (o := ⟨some 40, _, _, _, _, _⟩) rfl 29 _ rfl w.heap.size rfl _ #[.bool is, .int .i64 W1, .int .i64 least, .int .i64 most, .int .i64 left, .int .i64 right, .bool al, .bool ar, .int .i64 edges] _ _ HX.out Try.underlying29 rfl SZ.out ?_)
          | (go_at_call 28; (with_reducible refine (KS.out _).mono ?_); rintro e6 w7 ⟨rfl, hb⟩; have A7 := Lib.hid (A6.out.of hb); clear hb))
        clear HX SZ KS A6
        obtain ⟨fT, hfT⟩ : ∃ b, decide (∀ y ∈ [LA, RB], Fit y) = b := ⟨_, rfl⟩
        have I3 := Lib.hid (picked_new w7 3 [LA, RB] BL.out)
        have K3 := Lib.hid (fits_any _ _ 2 _ _ I3.out (by simp) fT ((all_picked [LA, RB]).trans hfT))
        have HT := Lib.hid hfT
        have B8 : Hid (Below w.heap.size w (w7.alloc (.cells #[.int .i64 LA, .int .i64 RB] 3))) := Lib.hid (A7.out.below.alloc A7.out.below.size _)
        clear hfT I3 BL A7
        cases fT with
        | true =>
          have R : Hid (l = LA ∧ m = WA ∧ r = RB ∧ e = 0) := Lib.hid (by
            have h := ST3.out
            have h2 := of_decide_eq_true HT.out
            rw [if_pos ⟨h2 LA (by simp), FW.out, h2 RB (by simp)⟩] at h
            cases h
            exact ⟨rfl, rfl, rfl, rfl⟩)
          clear ST3 HT
          go_wp2_with (go_at_call 27; refine K3.out.mono ?_; rintro e6 w' ⟨rfl, hw'⟩; have B9 : Hid (Below w.heap.size w w') := Lib.hid (by rw [← hw']; exact B8.out); clear hw')
          refine bodyPost_ret (results_tmp4' rfl _ _ _) rfl ?_
          obtain ⟨rfl, rfl, rfl, rfl⟩ := R.out
          exact ⟨rfl, B9.out⟩
        | false =>
          have R : Hid (l = 0 ∧ m = 0 ∧ r = 0 ∧ e = 10) := Lib.hid (by
            have h := ST3.out
            have h2 := of_decide_eq_false HT.out
            rw [if_neg (fun c => h2 (by
              intro y hy
              simp only [List.mem_cons, List.not_mem_nil, or_false] at hy
              rcases hy with rfl | rfl
              · exact c.1
              · exact c.2.2))] at h
            cases h
            exact ⟨rfl, rfl, rfl, rfl⟩)
          clear ST3 HT
          go_wp2_with (go_at_call 27; refine K3.out.mono ?_; rintro e6 w' ⟨rfl, hw'⟩; have B9 : Hid (Below w.heap.size w w') := Lib.hid (by rw [← hw']; exact B8.out); clear hw')
          refine bodyPost_ret (results_tmp4' rfl _ _ _) rfl ?_
          obtain ⟨rfl, rfl, rfl, rfl⟩ := R.out
          exact ⟨rfl, B9.out⟩
end Go.Proofs.Ytdadlhkbngopaaa
