/-
  The landed pile's end, and the landed Stack.
-/
import Derived.Test.YtidbfkbeploagaaPile14
namespace Go.Proofs.Ytidbfkbeploagaa
open Go.RowKit

/-- the pile at its end -/
def PEnd (W : World) (p : Nat) (v : Value) (ats : List Int) (r : Sk) : Prop := ∃ y' wt' o', PIt W p v ats r y' wt' o'
set_option maxRecDepth 100000 in
set_option maxHeartbeats 4000000 in
theorem pend14 {W : World} {p : Nat} {v : Value} {ats : List Int} {s : St} {n : Int} (h : PIt W p v ats (tkS s) s.y s.wt s.out) (h0 : s.out = true → s.y = 0) (hs : StB n s) (hn : n ≤ 4096) (below : Bool) :
    Calls Try.prog 25 #[.pointer (some ⟨p, 0, none⟩), .bool below] W fun e W' => e = .returned (.tuple #[]) ∧ PEnd W' p v ats (endS s ats below) ∧ But p W W' := by
  have H := Lib.hid h
  have HP := Lib.hid h.pile.lt
  have K0 := Lib.hid (pnext14 h (by have := hs.y; omega) hs.wt)
  have H0 := Lib.hid h0
  clear h h0 hs hn
  obtain ⟨r, hr⟩ : ∃ r, endS s ats below = r := ⟨_, rfl⟩
  rw [hr]
  have HR := Lib.hid hr
  clear hr
  unfold endS downS at HR
  obtain ⟨y, ⟨wa, wb⟩, out, ⟨t1, t2⟩⟩ := s
  dsimp only [tkS] at H HR K0 H0 ⊢
  have x10 := H.out.pile.more.2.2.2
  have x7 := H.out.pile.more.1
  have x8 := H.out.pile.more.2.1
  have x9 := H.out.pile.more.2.2.1
  dsimp only at x8 x9
  have c1 := H.out.pile.cells.2.1
  have f1 := H.out.pile.fro 1
  have f2 := H.out.pile.fro 2
  have f3 := H.out.pile.fro 3
  have f4 := H.out.pile.fro 4
  have f5 := H.out.pile.fro 5
  have f6 := H.out.pile.fro 6
  have f7 := H.out.pile.fro 7
  obtain ⟨-, o1, o2, o3, o4, o5, o6⟩ := H.out.pile.cells
  simp only [mgZ] at o1 o2 o3 o4 o5 o6
  cases out with
  | true =>
    obtain rfl : y = 0 := H0.out rfl
    have RE : Hid (r = ⟨ats, 0, (wa, wb), mgZ, below⟩) := Lib.hid (by have h := HR.out; simpa using h.symm)
    have I1 := Lib.hid ((((H.out.tell 2 (.int .i64 wa) ⟨ats, 0, (wa, t2), mgZ, false⟩ 0 (wa, wb) true rfl).tell 3 (.int .i64 wb) ⟨ats, 0, (wa, wb), mgZ, false⟩ 0 (wa, wb) true rfl).tell 6 (.bool below) ⟨ats, 0, (wa, wb), mgZ, below⟩ 0 (wa, wb) true rfl).tell 1 (.int .i64 0) ⟨ats, 0, (wa, wb), mgZ, below⟩ 0 (wa, wb) true rfl)
    have N1 := Lib.hid (((((But.refl p W).cell 2 (.int .i64 wa)).cell 3 (.int .i64 wb)).cell 6 (.bool below)).cell 1 (.int .i64 0))
    clear K0 H0 HR
    go_enter Try.func25, Try.ntmps25
    go_wp2_with fail
    refine bodyPost_end (results_none rfl _ _ _) rfl ?_
    exact ⟨rfl, ⟨_, _, _, by rw [RE.out]; exact I1.out⟩, N1.out⟩
  | false =>
    have e0 : (if false = true then y else y + wa + wb) = y + wa + wb := if_neg (by decide)
    rw [e0] at K0
    clear e0 H0
    cases below with
    | true =>
      have I1 := Lib.hid ((H.out.tell 4 (.int .i64 wa) ⟨ats, 0, (t1, t2), (wa, 0), false⟩ y (wa, wb) false rfl).tell 5 (.int .i64 wb) ⟨ats, 0, (t1, t2), (wa, wb), false⟩ y (wa, wb) false rfl)
      have N1 := Lib.hid (((But.refl p W).cell 4 (.int .i64 wa)).cell 5 (.int .i64 wb))
      by_cases h : 0 ≤ y
      · have RE : Hid (r = ⟨ats, y, (t1, t2), (wa, wb), false⟩) := Lib.hid (by
            have h1 := HR.out
            rw [← h1]
            by_cases h2 : 0 < y
            · simp [h2]
            · have h3 : y = 0 := by omega
              simp [h3])
        have d1 : decide (0 ≤ y) = true := decide_eq_true h
        have d2 : decide (y < 0) = false := decide_eq_false (by omega)
        have I2 := Lib.hid (I1.out.tell 1 (.int .i64 y) ⟨ats, y, (t1, t2), (wa, wb), false⟩ y (wa, wb) false rfl)
        have N2 := Lib.hid (N1.out.cell 1 (.int .i64 y))
        clear HR K0
        go_enter Try.func25, Try.ntmps25
        go_wp2_with fail
        refine bodyPost_end (results_none rfl _ _ _) rfl ?_
        exact ⟨rfl, ⟨_, _, _, by rw [RE.out]; exact I2.out⟩, N2.out⟩
      · have RE : Hid (r = ⟨ats, 0, (t1, t2), (wa, wb), false⟩) := Lib.hid (by
            have h1 := HR.out
            have h2 : ¬ 0 < y := by omega
            simpa [h2] using h1.symm)
        have d1 : decide (0 ≤ y) = false := decide_eq_false h
        have I2 := Lib.hid (I1.out.tell 1 (.int .i64 0) ⟨ats, 0, (t1, t2), (wa, wb), false⟩ y (wa, wb) false rfl)
        have N2 := Lib.hid (N1.out.cell 1 (.int .i64 0))
        clear HR K0
        go_enter Try.func25, Try.ntmps25
        go_wp2_with fail
        refine bodyPost_end (results_none rfl _ _ _) rfl ?_
        exact ⟨rfl, ⟨_, _, _, by rw [RE.out]; exact I2.out⟩, N2.out⟩
    | false =>
      obtain ⟨yy, hyy⟩ : ∃ yy, y + wa + wb = yy := ⟨_, rfl⟩
      rw [hyy] at HR K0
      clear hyy c1 x7 x8 x9 o1 o2 o3 o4 o5 o6 f1 f2 f3 f4 f5 f6 f7
      go_enter Try.func25, Try.ntmps25
      go_upto_region 5 with (go_at_call 36; (with_reducible refine K0.out.mono ?_); rintro e w3 ⟨rfl, hb⟩; have H3 := Lib.hid (H.out.of hb); have N3 := Lib.hid (But.of HP.out hb); have f7 := H3.out.pile.fro 7; have x7 := H3.out.pile.more.1; clear hb)
      have I1 := Lib.hid (H3.out.tell 7 (.int .i64 yy) ⟨ats, 0, (t1, t2), mgZ, false⟩ yy (wa, wb) false rfl)
      have N1 := Lib.hid (N3.out.cell 7 (.int .i64 yy))
      clear f7 x7 H3 N3 K0
      generalize w3.setCell ⟨p, 7, none⟩ (.int .i64 yy) = w4 at I1 N1 ⊢
      have x7 := I1.out.pile.more.1
      have f1 := I1.out.pile.fro 1
      have o1 := I1.out.pile.cells.2.1
      dsimp only at o1
      by_cases h : 0 ≤ yy
      · have RE : Hid (r = ⟨ats, yy, (t1, t2), mgZ, false⟩) := Lib.hid (by
            have h1 := HR.out
            rw [← h1]
            by_cases h2 : 0 < yy
            · simp [h2]
            · have h3 : yy = 0 := by omega
              simp [h3])
        have d1 : decide (0 ≤ yy) = true := decide_eq_true h
        have d2 : decide (yy < 0) = false := decide_eq_false (by omega)
        have I2 := Lib.hid (I1.out.tell 1 (.int .i64 yy) ⟨ats, yy, (t1, t2), mgZ, false⟩ yy (wa, wb) false rfl)
        have N2 := Lib.hid (N1.out.cell 1 (.int .i64 yy))
        clear HR
        go_wp2_with fail
        refine bodyPost_end (results_none rfl _ _ _) rfl ?_
        exact ⟨rfl, ⟨_, _, _, by rw [RE.out]; exact I2.out⟩, N2.out⟩
      · have RE : Hid (r = ⟨ats, 0, (t1, t2), mgZ, false⟩) := Lib.hid (by
            have h1 := HR.out
            have h2 : ¬ 0 < yy := by omega
            simpa [h2] using h1.symm)
        have d1 : decide (0 ≤ yy) = false := decide_eq_false h
        have I2 := Lib.hid (I1.out.tell 1 (.int .i64 0) ⟨ats, 0, (t1, t2), mgZ, false⟩ yy (wa, wb) false rfl)
        have N2 := Lib.hid (N1.out.cell 1 (.int .i64 0))
        clear HR
        go_wp2_with fail
        refine bodyPost_end (results_none rfl _ _ _) rfl ?_
        exact ⟨rfl, ⟨_, _, _, by rw [RE.out]; exact I2.out⟩, N2.out⟩
theorem out_zero (l : List Kd) : ∀ s : St, (s.out = true → s.y = 0) → (runS s l).out = true → (runS s l).y = 0 := by
  induction l with
  | nil => exact fun s h => h
  | cons k l ih =>
    intro s h
    refine ih (stepS s k) ?_
    unfold stepS
    split
    · exact h
    · intro e; cases e
theorem stackA_err {l : List Kd} {e : Int} (above below : Bool) (h : askedE l = e) (he : e ≠ 0) : stackA l above below = (skZ, e) := by unfold stackA; rw [h, if_pos he]
/-- what the loop bears: the pile, the places, and that all ahead of it is as it was -/
structure LIt (wb W : World) (p : Nat) (v : Value) (ats : List Int) (s : St) : Prop where
  it : PIt W p v ats (tkS s) s.y s.wt s.out
  below : Below p wb W

set_option maxRecDepth 100000 in
set_option maxHeartbeats 8000000 in
theorem stack14_any : StackOK 10 := by
  intro l v above below w hv hn hbig
  have HV := Lib.hid hv
  have KW := Lib.hid (fun W (hW : KdIn W v l) => anyWrong14 l v W hW hn hbig)
  have KO := Lib.hid (fun W (hW : KdIn W v l) => anyOver14 l v W hW hn hbig)
  obtain ⟨A, c, rfl, -, -, -⟩ := hv
  obtain ⟨n, en⟩ : ∃ n, l.length = n := ⟨_, rfl⟩
  have HL := Lib.hid en
  rw [en] at HV KW KO hn ⊢
  clear en hbig
  have R0 := Lib.hid (SkAt.new w (.slice none 0 0) skZ)
  have B0 : Hid (Below w.heap.size w (w.alloc (.cells (skCells (.slice none 0 0) skZ).toArray 27))) := Lib.hid ((Below.refl _ w).alloc (Nat.le_refl _) _)
  unfold skCells skZ mgZ at B0
  dsimp only at B0
  go_enter Try.func10, Try.ntmps10
  go_upto_region 1 with fail
  replace R0 : Hid (SkAt (w.alloc (.cells #[.slice none 0 0, .int .i64 0, .int .i64 0, .int .i64 0, .int .i64 0, .int .i64 0, .bool false] 27)) w.heap.size (.slice none 0 0) skZ) := R0
  generalize w.alloc (.cells #[.slice none 0 0, .int .i64 0, .int .i64 0, .int .i64 0, .int .i64 0, .int .i64 0, .bool false] 27) = w0 at R0 B0 ⊢
  by_cases h0 : 2048 < n
  · have hz : (2048 : Int) < n := by omega
    have hz2 : decide ((2048 : Int) < n) = true := decide_eq_true hz
    have ST : Hid (stackA l above below = (skZ, 2)) := Lib.hid (stackA_err above below (ask_long (by have := HL.out; omega)) (by decide))
    clear KW KO h0
    obtain ⟨y0, y1, y2, y3, y4, y5, y6⟩ := R0.out.cells
    simp only [skZ, mgZ] at y1 y2 y3 y4 y5 y6
    have z0 := R0.out.fro 0
    have z1 := R0.out.fro 1
    have z2 := R0.out.fro 2
    have z3 := R0.out.fro 3
    have z4 := R0.out.fro 4
    have z5 := R0.out.fro 5
    have z6 := R0.out.fro 6
    have FE := Lib.hid (R0.out.whole (.slice none 0 0) 0 0 0 0 0 false)
    have FB := Lib.hid (below_whole B0.out (Nat.le_refl _) (.slice none 0 0) 0 0 0 0 0 false)
    go_wp2_with fail
    refine bodyPost_ret (results_row_tmp14 rfl _ _ w.heap.size _ _ _ _ rfl FE.out Try.underlying27 rfl (by kernel_rfl)) rfl ?_
    exact ⟨.slice none 0 0, by rw [ST.out]; rfl, by rw [ST.out]; exact ownsI14.nil _ _, FB.out⟩
  · have hz : ¬ (2048 : Int) < n := by omega
    have hz2 : decide ((2048 : Int) < n) = false := decide_eq_false hz
    have K1 := Lib.hid (KW.out _ (HV.out.keep B0.out))
    go_upto_region 3 with (go_at_call 21; (with_reducible refine K1.out.mono ?_); rintro e w1 ⟨r1, rfl, hr1, hb⟩; have Q1 := Lib.hid hr1; have B1 := Lib.hid (b_next B0.out hb); have R1 := Lib.hid (R0.out.keep hb); clear hb hr1; obtain ⟨y0, y1, y2, y3, y4, y5, y6⟩ := R1.out.cells; simp only [skZ, mgZ] at y1 y2 y3 y4 y5 y6; have z0 := R1.out.fro 0; have z1 := R1.out.fro 1; have z2 := R1.out.fro 2; have z3 := R1.out.fro 3; have z4 := R1.out.fro 4; have z5 := R1.out.fro 5; have z6 := R1.out.fro 6; cases r1)
    rotate_left
    · have ST : Hid (stackA l above below = (skZ, 2)) := Lib.hid (by
        obtain ⟨j, hj, hbad⟩ := Q1.out.1 trivial
        exact stackA_err above below (ask_bad (by have := HL.out; omega) hbad) (by decide))
      have FE := Lib.hid (R1.out.whole (.slice none 0 0) 0 0 0 0 0 false)
      have FB := Lib.hid (below_whole B1.out (Nat.le_refl _) (.slice none 0 0) 0 0 0 0 0 false)
      refine bodyPost_ret (results_row_tmp14 rfl _ _ w.heap.size _ _ _ _ rfl FE.out Try.underlying27 rfl (by kernel_rfl)) rfl ?_
      exact ⟨.slice none 0 0, by rw [ST.out]; rfl, by rw [ST.out]; exact ownsI14.nil _ _, FB.out⟩
    clear K1 KW R0 B0 y0 y1 y2 y3 y4 y5 y6 z0 z1 z2 z3 z4 z5 z6
    have QB : Hid (∀ j, j < l.length → ¬ BadK (kAt l j)) := Lib.hid (fun j hj hb => by
      have := Q1.out.2 ⟨j, by have := HL.out; omega, hb⟩
      cases this)
    have K2 := Lib.hid (KO.out _ (HV.out.keep B1.out))
    go_upto_region 5 with (go_at_call 21; (with_reducible refine K2.out.mono ?_); rintro e w2 ⟨r2, rfl, hr2, hb⟩; have Q2 := Lib.hid hr2; have B2 := Lib.hid (b_next B1.out hb); have R2 := Lib.hid (R1.out.keep hb); clear hb hr2; obtain ⟨y0, y1, y2, y3, y4, y5, y6⟩ := R2.out.cells; simp only [skZ, mgZ] at y1 y2 y3 y4 y5 y6; have z0 := R2.out.fro 0; have z1 := R2.out.fro 1; have z2 := R2.out.fro 2; have z3 := R2.out.fro 3; have z4 := R2.out.fro 4; have z5 := R2.out.fro 5; have z6 := R2.out.fro 6; cases r2)
    rotate_left
    · have ST : Hid (stackA l above below = (skZ, 10)) := Lib.hid (by
        have h := ask_end (far := true) (by have := HL.out; omega) QB.out (by rw [HL.out]; simpa using Q2.out)
        exact stackA_err above below h (by decide))
      have FE := Lib.hid (R2.out.whole (.slice none 0 0) 0 0 0 0 0 false)
      have FB := Lib.hid (below_whole B2.out (Nat.le_refl _) (.slice none 0 0) 0 0 0 0 0 false)
      refine bodyPost_ret (results_row_tmp14 rfl _ _ w.heap.size _ _ _ _ rfl FE.out Try.underlying27 rfl (by kernel_rfl)) rfl ?_
      exact ⟨.slice none 0 0, by rw [ST.out]; rfl, by rw [ST.out]; exact ownsI14.nil _ _, FB.out⟩
    clear K2 KO R1 B1 y0 y1 y2 y3 y4 y5 y6 z0 z1 z2 z3 z4 z5 z6
    have HE : Hid (askedE l = 0) := Lib.hid (by
      have h := ask_end (far := false) (by have := HL.out; omega) QB.out (by rw [HL.out]; exact Q2.out)
      rw [h, if_neg (by decide)])
    clear QB Q1 Q2
    obtain ⟨hl8, hg⟩ := askedE_ok HE.out
    have HG := Lib.hid hg
    have hn8 : n ≤ 2048 := by have := HL.out; omega
    clear h0 hg hl8 hz hz2
    have I0 : Hid (LIt (w2.alloc (.cells #[.slice none 0 0, .int .i64 0, .int .i64 0, .int .i64 0, .int .i64 0, .int .i64 0, .bool false, .int .i64 0, .int .i64 0, .int .i64 0, .bool above] 50)) (w2.alloc (.cells #[.slice none 0 0, .int .i64 0, .int .i64 0, .int .i64 0, .int .i64 0, .int .i64 0, .bool false, .int .i64 0, .int .i64 0, .int .i64 0, .bool above] 50)) w2.heap.size (.slice none 0 0) [] (startS above)) := Lib.hid ⟨⟨PlAt.new w2 (.slice none 0 0) (tkS (startS above)) 0 mgZ above, ownsI14.nil _ _⟩, Below.refl _ _⟩
    have B3 : Hid (Below w.heap.size w (w2.alloc (.cells #[.slice none 0 0, .int .i64 0, .int .i64 0, .int .i64 0, .int .i64 0, .int .i64 0, .bool false, .int .i64 0, .int .i64 0, .int .i64 0, .bool above] 50))) := Lib.hid (B2.out.alloc B2.out.size _)
    have R3 : Hid (SkAt (w2.alloc (.cells #[.slice none 0 0, .int .i64 0, .int .i64 0, .int .i64 0, .int .i64 0, .int .i64 0, .bool false, .int .i64 0, .int .i64 0, .int .i64 0, .bool above] 50)) w.heap.size (.slice none 0 0) skZ) := Lib.hid (R2.out.keep ((Below.refl _ w2).alloc (Nat.le_refl _) _))
    have LP : Hid (w.heap.size < w2.heap.size) := Lib.hid R2.out.lt
    go_upto_region 6 with fail
    clear R2 B2
    generalize w2.alloc (.cells #[.slice none 0 0, .int .i64 0, .int .i64 0, .int .i64 0, .int .i64 0, .int .i64 0, .bool false, .int .i64 0, .int .i64 0, .int .i64 0, .bool above] 50) = wb at I0 B3 R3 ⊢
    generalize w2.heap.size = p at I0 LP ⊢
    go_wp2_with fail
    go_loopg [27] n (fun g1 vi wr => ∃ (k : Nat) (vA : Value), vi = .int .i64 k ∧ k ≤ n ∧ n - k ≤ g1 ∧ Hid (LIt wb wr p vA (atsS (startS above) (l.take k)) (runS (startS above) (l.take k))))
    case atStart => exact ⟨0, .slice none 0 0, rfl, by omega, by omega, I0⟩
    case round =>
      obtain ⟨k, vA, rfl, hk, hg1, HS⟩ := hrel
      obtain ⟨wo, hwo⟩ : ∃ wo, wo = wr := ⟨_, rfl⟩
      subst hwo
      clear I0
      have SB := Lib.hid (run_bd2 HG.out (by have := HL.out; omega) above k)
      have BW : Hid (Below w.heap.size w wo) := Lib.hid (B3.out.trans (HS.out.below.mono (Nat.le_of_lt LP.out)))
      by_cases hlt : k < n
      · have hz1 : (k : Int) < n := by omega
        have hz0 : (0 : Int) ≤ k := by omega
        have wi : IntKind.i64.wrap ((k : Int) + 1) = (k : Int) + 1 := IntWalk.i64_in _ (by omega)
        obtain ⟨b, off, c1, e', hbl, -, hk6⟩ := HV.out.get (i := k) (by have := HL.out; omega)
        injection e' with e1 e2 e3
        subst e1 e3
        clear e2
        have K6 := (hk6 k (by have := HL.out; omega)).keep hbl BW.out
        have GK := Lib.hid (HG.out (kAt l k) (by rw [kAt_get (by have := HL.out; omega)]; exact List.getElem_mem _))
        have RS := Lib.hid (run_at above (l := l) (k := k) (by have := HL.out; omega))
        have AS := Lib.hid (ats_at above (l := l) (k := k) (by have := HL.out; omega))
        have AL : Hid ((atsS (startS above) (l.take k)).length ≤ 90000) := Lib.hid (by rw [atsS_len, List.length_take]; omega)
        clear hbl hk6
        generalize kAt l k = x at K6 GK RS AS
        generalize runS (startS above) (l.take k) = s at HS SB RS AS ⊢
        generalize atsS (startS above) (l.take k) = ats at HS AS AL
        have BA : Hid (Below wo.heap.size wo (wo.alloc (.cells (kdCells x).toArray 35))) := Lib.hid ((Below.refl _ _).alloc (Nat.le_refl _) _)
        have KP := Lib.hid (pput14 (HS.out.it.of BA.out) x GK.out SB.out (by omega) AL.out)
        have CK := Lib.hid (KbAt.new wo x)
        have BA2 : Hid (Below p wb (wo.alloc (.cells (kdCells x).toArray 35))) := Lib.hid (HS.out.below.trans (BA.out.mono (Nat.le_of_lt HS.out.it.pile.lt)))
        rw [← RS.out, ← AS.out] at KP
        clear RS AS AL SB GK HS BA
        obtain ⟨⟨tu, td⟩, ⟨bu, bd⟩, hh, thr⟩ := x
        unfold KdAt at K6
        unfold kdV kdCells at KP
        unfold kdCells at CK BA2
        dsimp only at K6 KP CK BA2
        obtain ⟨a0, a1, a2, a3, a4, a5⟩ := K6
        go_wp2_with (go_at_call 24; (with_reducible refine KP.out.mono ?_); rintro e w5 ⟨rfl, hp, hb⟩; have HP := Lib.hid hp; have B5 := Lib.hid (BA2.out.trans hb); clear hp hb)
        obtain ⟨v5, HP⟩ := HP.out
        go_roundg (n - (k + 1))
        case measure => omega
        case rel => exact ⟨k + 1, v5, by go_num, by omega, Nat.le_refl _, Lib.hid ⟨HP, B5.out⟩⟩
      · obtain rfl : k = n := by omega
        have hz1 : ¬ (k : Int) < k := by omega
        have et : l.take k = l := by rw [← HL.out, List.take_length]
        rw [et] at HS SB
        have RT : Hid (toldS l above below = endS (runS (startS above) l) (atsS (startS above) l) below) := Lib.hid rfl
        have SA : Hid (stackA l above below = if FitS (toldS l above below) then (toldS l above below, 0) else (skZ, 10)) := Lib.hid (by unfold stackA; rw [HE.out, if_neg (by decide)])
        have AB := Lib.hid (ats_bd HG.out (by have := HL.out; omega) above)
        have AL : Hid ((atsS (startS above) l).length = k) := Lib.hid (by rw [atsS_len]; exact HL.out)
        have OZ := Lib.hid (out_zero l (startS above) (fun _ => rfl))
        clear et HG HE HV
        generalize runS (startS above) l = s at HS SB RT OZ ⊢
        generalize atsS (startS above) l = ats at HS AB AL RT
        obtain ⟨R, hR⟩ : ∃ R, toldS l above below = R := ⟨_, rfl⟩
        rw [hR] at RT SA
        clear hR
        have RT2 : Hid (R.ats = ats) := Lib.hid (by rw [RT.out]; unfold endS; split <;> rfl)
        have HRB : Hid (-9223372036854775808 ≤ R.h ∧ R.h ≤ 9223372036854775807) := Lib.hid (by
          have yb := SB.out.y
          have mb := SB.out.wt
          unfold MayM at mb
          rw [RT.out]
          unfold endS downS
          repeat' split
          all_goals (dsimp only; omega))
        obtain ⟨A9, c9, e9, -, -, -⟩ := own_form HS.out.it.own
        rw [AL.out] at e9
        subst e9
        have KE := Lib.hid (pend14 HS.out.it OZ.out SB.out (by omega) below)
        rw [← RT.out] at KE
        have BL := Lib.hid HS.out.below
        clear RT OZ SB HS BW
        go_upto_region 12 with (go_at_call 25; (with_reducible refine KE.out.mono ?_); rintro e wc ⟨rfl, hI, hN⟩; have H7 := Lib.hid hI; have B7 := Lib.hid (BL.out.trans hN.below); clear hI hN)
        obtain ⟨y', wt', o', I7⟩ := H7.out
        have I7 := Lib.hid I7
        clear H7 KE BL
        have SA : Hid (stackA l above below = if (∀ a ∈ ats, Fit a) ∧ Fit R.h then (R, 0) else (skZ, 10)) := Lib.hid (by
          have h := SA.out
          rw [h]
          by_cases c : FitS R
          · rw [if_pos c, if_pos (by rw [← RT2.out]; exact c)]
          · rw [if_neg c, if_neg (by rw [← RT2.out]; exact c)])
        obtain ⟨fA, hfA⟩ : ∃ b, decide (∀ y ∈ ats, Fit y) = b := ⟨_, rfl⟩
        obtain ⟨fH, hfH⟩ : ∃ b, decide (∀ y ∈ [R.h], Fit y) = b := ⟨_, rfl⟩
        have IA : Hid (Ints wc A9 k (pk ats)) := Lib.hid (by
          have h := I7.out.own
          unfold ownsI14 at h
          rw [AL.out] at h
          exact Ints.of_own h (fun i hi => pk_at ats i (by have := AL.out; omega)) (fun i hi => by
            have hm := List.mem_of_getElem? (pk_at ats i (by have := AL.out; omega))
            have := AB.out _ hm
            omega))
        have KAll := Lib.hid (fits_any A9 k c9 (pk ats) wc IA.out (by omega) fA (by rw [← AL.out]; exact (pk_all ats).trans hfA))
        have IH := Lib.hid (pk_new wc 3 [R.h] (fun y hy => by
          simp only [List.mem_cons, List.not_mem_nil, or_false] at hy
          rw [hy]
          exact HRB.out))
        have KFit := Lib.hid (fits_any _ _ 1 _ _ IH.out (by simp) fH ((pk_all [R.h]).trans hfH))
        have CF : Hid (Below wc.heap.size wc (wc.alloc (.cells #[.int .i64 R.h] 3))) := Lib.hid ((Below.refl _ _).alloc (Nat.le_refl _) _)
        have FA := Lib.hid hfA
        have FH : Hid (decide (Fit R.h) = fH) := Lib.hid (by rw [← hfH]; exact decide_eq_decide.2 ⟨fun h y hy => by (simp only [List.mem_cons, List.not_mem_nil, or_false] at hy; rw [hy]; exact h), fun h => h _ (by simp)⟩)
        have RC : Hid (SkAt wc w.heap.size (.slice none 0 0) skZ) := Lib.hid (R3.out.keepB B7.out LP.out)
        have BC : Hid (Below w.heap.size w wc) := Lib.hid (B3.out.trans (B7.out.mono (Nat.le_of_lt LP.out)))
        have OC : Hid (wc.ownsRow (p + 1) 3 1 (.slice A9 k c9) ats.length (ats.map (Value.int .i64))) := Lib.hid I7.out.own
        have LPC : Hid (w.heap.size < p + 1) := Lib.hid (Nat.lt_succ_of_lt LP.out)
        obtain ⟨R0, Rh, ⟨Rt1, Rt2⟩, ⟨Rb1, Rb2⟩, Rth⟩ := R
        dsimp only at KFit FH SA RT2 CF
        obtain ⟨o0, o1, o2, o3, o4, o5, o6⟩ := I7.out.pile.cells
        dsimp only at o1 o2 o3 o4 o5 o6
        clear hfA hfH IA IH AB HRB R3 B3 B7 LP
        cases fA with
        | false =>
          have SE : Hid (stackA l above below = (skZ, 10)) := Lib.hid (by
            rw [SA.out, if_neg]
            rintro ⟨c1, c2⟩
            exact of_decide_eq_false FA.out c1)
          obtain ⟨y0, y1, y2, y3, y4, y5, y6⟩ := RC.out.cells
          simp only [skZ, mgZ] at y1 y2 y3 y4 y5 y6
          have z0 := RC.out.fro 0
          have z1 := RC.out.fro 1
          have z2 := RC.out.fro 2
          have z3 := RC.out.fro 3
          have z4 := RC.out.fro 4
          have z5 := RC.out.fro 5
          have z6 := RC.out.fro 6
          have FE := Lib.hid (RC.out.whole (.slice none 0 0) 0 0 0 0 0 false)
          have FB := Lib.hid (below_whole BC.out (Nat.le_refl _) (.slice none 0 0) 0 0 0 0 0 false)
          clear SA FA FH KFit CF RC BC OC o1 o2 o3 o4 o5 o6
          go_wp2_with (go_at_call 26; (with_reducible refine KAll.out.mono ?_); rintro e6 w6 ⟨rfl, rfl⟩)
          refine bodyPost_ret (results_row_tmp14 rfl _ _ w.heap.size _ _ _ _ rfl FE.out Try.underlying27 rfl (by kernel_rfl)) rfl ?_
          exact ⟨.slice none 0 0, by rw [SE.out]; rfl, by rw [SE.out]; exact ownsI14.nil _ _, FB.out⟩
        | true =>
          have RD := Lib.hid (RC.out.keep CF.out)
          have BD := Lib.hid (b_next BC.out CF.out)
          have OD := Lib.hid (own_keep OC.out CF.out)
          have ID := Lib.hid (I7.out.pile.keep CF.out)
          obtain ⟨d0, d1, d2, d3, d4, d5, d6⟩ := ID.out.cells
          dsimp only at d1 d2 d3 d4 d5 d6
          obtain ⟨y0, y1, y2, y3, y4, y5, y6⟩ := RD.out.cells
          simp only [skZ, mgZ] at y1 y2 y3 y4 y5 y6
          have z0 := RD.out.fro 0
          have z1 := RD.out.fro 1
          have z2 := RD.out.fro 2
          have z3 := RD.out.fro 3
          have z4 := RD.out.fro 4
          have z5 := RD.out.fro 5
          have z6 := RD.out.fro 6
          cases fH with
          | false =>
            have SE : Hid (stackA l above below = (skZ, 10)) := Lib.hid (by
              rw [SA.out, if_neg]
              rintro ⟨c1, c2⟩
              exact of_decide_eq_false FH.out c2)
            have FE := Lib.hid (RD.out.whole (.slice none 0 0) 0 0 0 0 0 false)
            have FB := Lib.hid (below_whole BD.out (Nat.le_refl _) (.slice none 0 0) 0 0 0 0 0 false)
            clear SA FA FH RC BC OC RD BD OD ID I7
            go_wp2_with (first
              | (go_at_call 26; (with_reducible refine KAll.out.mono ?_); rintro e6 w6 ⟨rfl, rfl⟩)
              | (go_at_call 26; refine KFit.out.mono ?_; rintro e6 w6 ⟨rfl, rfl⟩))
            refine bodyPost_ret (results_row_tmp14 rfl _ _ w.heap.size _ _ _ _ rfl FE.out Try.underlying27 rfl (by kernel_rfl)) rfl ?_
            exact ⟨.slice none 0 0, by rw [SE.out]; rfl, by rw [SE.out]; exact ownsI14.nil _ _, FB.out⟩
          | true =>
            have SE : Hid (stackA l above below = (⟨R0, Rh, (Rt1, Rt2), (Rb1, Rb2), Rth⟩, 0)) := Lib.hid (by rw [SA.out, if_pos ⟨of_decide_eq_true FA.out, of_decide_eq_true FH.out⟩])
            have FE := Lib.hid (RD.out.whole (.slice A9 k c9) Rh Rt1 Rt2 Rb1 Rb2 Rth)
            have FB := Lib.hid (below_whole BD.out (Nat.le_refl _) (.slice A9 k c9) Rh Rt1 Rt2 Rb1 Rb2 Rth)
            have FO := Lib.hid (own_base (own_whole OD.out LPC.out (.slice A9 k c9) Rh Rt1 Rt2 Rb1 Rb2 Rth) (Nat.le_of_lt LPC.out))
            clear SA FA FH RC BC OC RD BD OD ID I7
            go_wp2_with (first
              | (go_at_call 26; (with_reducible refine KAll.out.mono ?_); rintro e6 w6 ⟨rfl, rfl⟩)
              | (go_at_call 26; refine KFit.out.mono ?_; rintro e6 w6 ⟨rfl, rfl⟩))
            refine bodyPost_ret (results_row_tmp14 rfl _ _ w.heap.size _ _ _ _ rfl FE.out Try.underlying27 rfl (by kernel_rfl)) rfl ?_
            exact ⟨.slice A9 k c9, by rw [SE.out]; rfl, by rw [SE.out]; show ownsI14 _ _ _ R0; rw [RT2.out]; exact FO.out, FB.out⟩
end Go.Proofs.Ytidbfkbeploagaa
