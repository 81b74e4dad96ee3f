/-
  The document's Stack.
-/
import Derived.Test.YtidbfkbeploagaaStackAt14
import Derived.Test.YtidbfkbeploagaaRely
import Derived.Deep.LoopGhost
namespace Go.Proofs.Ytidbfkbeploagaa
open Go.RowKit

theorem take_kid {l : List Kd} {k : Nat} (h : k < l.length) : l.take (k + 1) = l.take k ++ [kAt l k] := by rw [kAt_get h, List.take_succ_eq_append_getElem h]
def tkS (s : St) : Sk := ⟨[], 0, s.top, mgZ, false⟩
theorem run_at {l : List Kd} (above : Bool) {k : Nat} (h : k < l.length) : runS (startS above) (l.take (k + 1)) = stepS (runS (startS above) (l.take k)) (kAt l k) := by rw [take_kid h, runS_snoc]
theorem ats_at {l : List Kd} (above : Bool) {k : Nat} (h : k < l.length) : atsS (startS above) (l.take (k + 1)) = atsS (startS above) (l.take k) ++ [atS (runS (startS above) (l.take k)) (kAt l k)] := by rw [take_kid h, atsS_snoc]
theorem run_bd2 {l : List Kd} (hg : ∀ k ∈ l, GoodK k) (hl : l.length ≤ 2048) (above : Bool) (k : Nat) : StB 2048 (runS (startS above) (l.take k)) := by
  have h := run_bd (l := l.take k) (fun x hx => hg x (List.mem_of_mem_take hx)) (start_bd above)
  have hk : ((l.take k).length : Int) ≤ 2048 := by rw [List.length_take]; omega
  exact ⟨by have := h.y; omega, h.wt, h.top⟩
theorem ats_bd {l : List Kd} (hg : ∀ k ∈ l, GoodK k) (hl : l.length ≤ 2048) (above : Bool) : ∀ y ∈ atsS (startS above) l, -9007199254740992 - 1099511627776 ≤ y ∧ y ≤ 9007199254740992 + 1099511627776 := by
  have key : ∀ k, k ≤ l.length → ∀ y ∈ atsS (startS above) (l.take k), -9007199254740992 - 1099511627776 ≤ y ∧ y ≤ 9007199254740992 + 1099511627776 := by
    intro k
    induction k with
    | zero => intro _ y hy; simp [atsS] at hy
    | succ k ih =>
      intro hk y hy
      rw [ats_at above (by omega)] at hy
      rcases List.mem_append.1 hy with hy | hy
      · exact ih (by omega) y hy
      · simp only [List.mem_cons, List.not_mem_nil, or_false] at hy
        rw [hy]
        have h1 := run_bd2 hg hl above k
        have h2 := at_bd h1 (hg (kAt l k) (by rw [kAt_get (by omega)]; exact List.getElem_mem _))
        omega
  have := key l.length (Nat.le_refl _)
  rwa [List.take_length] at this
set_option maxRecDepth 100000 in
set_option maxHeartbeats 8000000 in
theorem refStack14 : StackOK 9 := by
  intro l v above below w hv hn hbig
  have HV := Lib.hid hv
  have KA := Lib.hid (fun W (hW : KdIn W v l) => refAsked14 l v W hW hn hbig)
  obtain ⟨A, c, rfl, -, -, -⟩ := hv
  obtain ⟨n, en⟩ : ∃ n, l.length = n := ⟨_, rfl⟩
  have HL := Lib.hid en
  rw [en] at HV KA hn ⊢
  clear en hbig
  obtain ⟨e, he⟩ : ∃ e, askedE l = e := ⟨_, rfl⟩
  rw [he] at KA
  have HE := Lib.hid he
  clear he
  have R0 := Lib.hid (SkAt.new w (.slice none 0 0) skZ)
  have B0 : Hid (Below w.heap.size w (w.alloc (.cells (skCells (.slice none 0 0) skZ).toArray 27))) := Lib.hid ((Below.refl _ w).alloc (Nat.le_refl _) _)
  unfold skCells skZ mgZ at B0
  dsimp only at B0
  go_enter Try.func9, Try.ntmps9
  go_upto_region 1 with fail
  have R0 : Hid (SkAt (w.alloc (.cells #[.slice none 0 0, .int .i64 0, .int .i64 0, .int .i64 0, .int .i64 0, .int .i64 0, .bool false] 27)) w.heap.size (.slice none 0 0) skZ) := R0
  generalize w.alloc (.cells #[.slice none 0 0, .int .i64 0, .int .i64 0, .int .i64 0, .int .i64 0, .int .i64 0, .bool false] 27) = w0 at R0 B0 ⊢
  go_upto_region 2 with (go_at_call 17; (with_reducible refine (KA.out _ (HV.out.keep B0.out)).mono ?_); rintro e1 w1 ⟨rfl, hb⟩; have B1 := Lib.hid (b_next B0.out hb); have R1 := Lib.hid (R0.out.keep hb); clear hb)
  clear KA R0 B0
  by_cases h0 : e ≠ 0
  · have ST : Hid (stackA l above below = (skZ, e)) := Lib.hid (by unfold stackA; rw [HE.out, if_pos h0])
    have n1 : (e == 0) = false := by simp [h0]
    have n2 : (e != 0) = true := by simp [h0]
    obtain ⟨y0, y1, y2, y3, y4, y5, y6⟩ := R1.out.cells
    simp only [skZ, mgZ] at y1 y2 y3 y4 y5 y6
    have z0 := R1.out.fro 0
    have z1 := R1.out.fro 1
    have z2 := R1.out.fro 2
    have z3 := R1.out.fro 3
    have z4 := R1.out.fro 4
    have z5 := R1.out.fro 5
    have z6 := R1.out.fro 6
    have FE := Lib.hid (R1.out.whole (.slice none 0 0) 0 0 0 0 0 false)
    have FB := Lib.hid (below_whole B1.out (Nat.le_refl _) (.slice none 0 0) 0 0 0 0 0 false)
    clear h0 HE
    go_wp2_with fail
    refine bodyPost_ret (results_row_tmp14 rfl _ _ w.heap.size _ _ _ _ rfl FE.out Try.underlying27 rfl (by kernel_rfl)) rfl ?_
    exact ⟨.slice none 0 0, by rw [ST.out]; rfl, by rw [ST.out]; exact ownsI14.nil _ _, FB.out⟩
  · obtain rfl : e = 0 := by omega
    obtain ⟨hl8, hg⟩ := askedE_ok HE.out
    have HG := Lib.hid hg
    have hn8 : n ≤ 2048 := by have := HL.out; omega
    clear h0 hg hl8
    go_upto_region 6 with fail
    have I0 : Hid (SIt w ((w1.alloc (.cells #[.slice none 0 0, .int .i64 0, .int .i64 0, .int .i64 0, .int .i64 0, .int .i64 0, .bool false] 27)).alloc (.cells #[.int .i64 0, .int .i64 0] 25)) w.heap.size w1.heap.size (w1.heap.size + 1) (.slice none 0 0) [] (tkS (startS above)) mgZ) := Lib.hid (by
      have c1 : Below w1.heap.size w1 (w1.alloc (.cells #[.slice none 0 0, .int .i64 0, .int .i64 0, .int .i64 0, .int .i64 0, .int .i64 0, .bool false] 27)) := (Below.refl _ _).alloc (Nat.le_refl _) _
      have c2 : Below (w1.alloc (.cells #[.slice none 0 0, .int .i64 0, .int .i64 0, .int .i64 0, .int .i64 0, .int .i64 0, .bool false] 27)).heap.size (w1.alloc (.cells #[.slice none 0 0, .int .i64 0, .int .i64 0, .int .i64 0, .int .i64 0, .int .i64 0, .bool false] 27)) ((w1.alloc (.cells #[.slice none 0 0, .int .i64 0, .int .i64 0, .int .i64 0, .int .i64 0, .int .i64 0, .bool false] 27)).alloc (.cells #[.int .i64 0, .int .i64 0] 25)) := (Below.refl _ _).alloc (Nat.le_refl _) _
      have o1 : SkAt (w1.alloc (.cells #[.slice none 0 0, .int .i64 0, .int .i64 0, .int .i64 0, .int .i64 0, .int .i64 0, .bool false] 27)) w1.heap.size (.slice none 0 0) (tkS (startS above)) := SkAt.new w1 (.slice none 0 0) (tkS (startS above))
      have m1 := MgAt.new (w1.alloc (.cells #[.slice none 0 0, .int .i64 0, .int .i64 0, .int .i64 0, .int .i64 0, .int .i64 0, .bool false] 27)) mgZ
      rw [World.size_alloc] at m1
      refine ⟨b_next (b_next B1.out c1) c2, (R1.out.keep c1).keep c2, o1.keep c2, m1, ownsI14.nil _ _, Nat.le_refl _, R1.out.lt, by omega, ?_⟩
      rw [World.size_alloc, World.size_alloc]
      omega)
    clear B1 R1
    generalize (w1.alloc (.cells #[.slice none 0 0, .int .i64 0, .int .i64 0, .int .i64 0, .int .i64 0, .int .i64 0, .bool false] 27)).alloc (.cells #[.int .i64 0, .int .i64 0] 25) = w2 at I0 ⊢
    generalize w1.heap.size = o at I0 ⊢
    go_wp2_with fail
    go_loopg [10, 12, 13] n (fun g1 vy vo vi wr => ∃ (k : Nat) (vA : Value), vi = .int .i64 k ∧ vy = .int .i64 (runS (startS above) (l.take k)).y ∧ vo = .bool (runS (startS above) (l.take k)).out ∧ k ≤ n ∧ n - k ≤ g1 ∧ Hid (SIt w wr w.heap.size o (o + 1) vA (atsS (startS above) (l.take k)) (tkS (runS (startS above) (l.take k))) (runS (startS above) (l.take k)).wt))
    case atStart => exact ⟨0, .slice none 0 0, rfl, rfl, rfl, by omega, by omega, I0⟩
    case round =>
      obtain ⟨k, vA, rfl, rfl, rfl, hk, hg1, HS⟩ := hrel
      obtain ⟨wo, hwo⟩ : ∃ wo, wo = wr := ⟨_, rfl⟩
      subst hwo
      have SB := Lib.hid (run_bd2 HG.out (by have := HL.out; omega) above k)
      by_cases hlt : k < n
      · have hz1 : (k : Int) < n := by omega
        have hz0 : (0 : Int) ≤ k := by omega
        have wi : IntKind.i64.wrap ((k : Int) + 1) = (k : Int) + 1 := IntWalk.i64_in _ (by omega)
        obtain ⟨b, off, c1, e', hbl, -, hk6⟩ := HV.out.get (i := k) (by have := HL.out; omega)
        injection e' with e1 e2 e3
        subst e1 e3
        clear e2
        have K6 : Hid (∀ W, Below w.heap.size w W → KdAt W b (off + k * 6) (kAt l k)) := Lib.hid (fun W hW => ⟨(hW.cell (p := ⟨b, off + k * 6, none⟩) hbl).trans (hk6 k (by have := HL.out; omega)).1, (hW.cell (p := ⟨b, off + k * 6 + 1, none⟩) hbl).trans (hk6 k (by have := HL.out; omega)).2.1, (hW.cell (p := ⟨b, off + k * 6 + 2, none⟩) hbl).trans (hk6 k (by have := HL.out; omega)).2.2.1, (hW.cell (p := ⟨b, off + k * 6 + 3, none⟩) hbl).trans (hk6 k (by have := HL.out; omega)).2.2.2.1, (hW.cell (p := ⟨b, off + k * 6 + 4, none⟩) hbl).trans (hk6 k (by have := HL.out; omega)).2.2.2.2.1, (hW.cell (p := ⟨b, off + k * 6 + 5, none⟩) hbl).trans (hk6 k (by have := HL.out; omega)).2.2.2.2.2⟩)
        have GK := Lib.hid (HG.out (kAt l k) (by rw [kAt_get (by have := HL.out; omega)]; exact List.getElem_mem _))
        have RS := Lib.hid (run_at above (l := l) (k := k) (by have := HL.out; omega))
        have AS := Lib.hid (ats_at above (l := l) (k := k) (by have := HL.out; omega))
        have AL : Hid ((atsS (startS above) (l.take k)).length ≤ 90000) := Lib.hid (by rw [atsS_len, List.length_take]; omega)
        clear hbl hk6
        generalize kAt l k = x at K6 GK RS AS
        generalize runS (startS above) (l.take k) = s at HS SB RS AS ⊢
        generalize atsS (startS above) (l.take k) = ats at HS AS AL
        have ATB := Lib.hid (at_bd SB.out GK.out)
        have STB := Lib.hid (step_bd SB.out GK.out)
        have J1 := Lib.hid (fun W => join14_any s.wt x.t W)
        have J2 := Lib.hid (fun W => join14_any (mjoin s.wt x.t) x.b W)
        have M1 := Lib.hid (mjoin_may SB.out.wt GK.out.t)
        obtain ⟨at1, hat⟩ : ∃ y, atS s x = y := ⟨_, rfl⟩
        rw [hat] at AS ATB
        have HA := Lib.hid hat
        clear hat
        unfold atS at HA
        unfold stepS atS at RS
        unfold mgV at J1 J2
        obtain ⟨⟨tu, td⟩, ⟨bu, bd⟩, hh, thr⟩ := x
        obtain ⟨y, ⟨wa, wb⟩, out, ⟨t1, t2⟩⟩ := s
        dsimp only at HA RS J1 J2 M1 HS
        obtain ⟨⟨m1, m2⟩, hm⟩ : ∃ m, mjoin (wa, wb) (tu, td) = m := ⟨_, rfl⟩
        rw [hm] at HA RS J1 J2 M1
        obtain ⟨⟨p1, p2⟩, hp⟩ : ∃ m, mjoin (m1, m2) (bu, bd) = m := ⟨_, rfl⟩
        rw [hp] at RS J2
        dsimp only at HA RS J1 J2 M1 ⊢
        rw [HA.out] at RS
        clear hm hp
        unfold KdAt at K6
        dsimp only at K6
        go_upto_region 9 with fail
        refine' wp_region_last [opV _, opV _, opV _, opV _, opV _, opV _, opV (.agg #[.int .i64 m1, .int .i64 m2])] 7 _ rfl (by kernel_rfl) rfl (by kernel_rfl) ⟨?s0, ?s1, ?s2, ?s3, ?s4, ?s5, ?s6, trivial⟩ rfl ?fin
        case s0 =>
          refine BStep.of [] [] (opV _) (by kernel_rfl) (fun _ _ => by kernel_rfl) rfl ?_
          intro vs wv hB hA
          clear hA
          simp only [fillP]
          have q0 := (MgAt.cells (HS.out.of hB).mine).1; have q1 := (MgAt.cells (HS.out.of hB).mine).2; have c0 := (K6.out wv (HS.out.of hB).below).1; have c1 := (K6.out wv (HS.out.of hB).below).2.1; dsimp only at q0 q1; go_wp2_with fail
          refine postB_val ?_ (Below.refl _ _)
          simp only [List.getElem?_cons_succ, List.getElem?_cons_zero]
          rfl
        case s1 =>
          refine BStep.of [] [] (opV _) (by kernel_rfl) (fun _ _ => by kernel_rfl) rfl ?_
          intro vs wv hB hA
          clear hA
          simp only [fillP]
          have q0 := (MgAt.cells (HS.out.of hB).mine).1; have q1 := (MgAt.cells (HS.out.of hB).mine).2; have c0 := (K6.out wv (HS.out.of hB).below).1; have c1 := (K6.out wv (HS.out.of hB).below).2.1; dsimp only at q0 q1; go_wp2_with fail
          refine postB_val ?_ (Below.refl _ _)
          simp only [List.getElem?_cons_succ, List.getElem?_cons_zero]
          rfl
        case s2 =>
          refine BStep.of [] [] (opV _) (by kernel_rfl) (fun _ _ => by kernel_rfl) rfl ?_
          intro vs wv hB hA
          clear hA
          simp only [fillP]
          have q0 := (MgAt.cells (HS.out.of hB).mine).1; have q1 := (MgAt.cells (HS.out.of hB).mine).2; have c0 := (K6.out wv (HS.out.of hB).below).1; have c1 := (K6.out wv (HS.out.of hB).below).2.1; dsimp only at q0 q1; go_wp2_with fail
          refine postB_val ?_ (Below.refl _ _)
          simp only [List.getElem?_cons_succ, List.getElem?_cons_zero]
          rfl
        case s3 =>
          refine BStep.of [1, 2] [(30, 1), (31, 2)] (opV _) (by kernel_rfl) (fun _ _ => by kernel_rfl) rfl ?_
          intro vs wv hB hA
          have h1 : vs 1 = _ := hA.1
          have h2 : vs 2 = _ := hA.2.1
          clear hA
          simp only [fillP, List.setIfInBounds_toArray, List.set_cons_zero, List.set_cons_succ, h1, h2]
          have q0 := (MgAt.cells (HS.out.of hB).mine).1; have q1 := (MgAt.cells (HS.out.of hB).mine).2; have c0 := (K6.out wv (HS.out.of hB).below).1; have c1 := (K6.out wv (HS.out.of hB).below).2.1; dsimp only at q0 q1; go_wp2_with fail
          refine postB_val ?_ (Below.refl _ _)
          simp only [List.getElem?_cons_succ, List.getElem?_cons_zero]
          rfl
        case s4 =>
          refine BStep.of [3] [(32, 3)] (opV _) (by kernel_rfl) (fun _ _ => by kernel_rfl) rfl ?_
          intro vs wv hB hA
          have h3 : vs 3 = _ := hA.1
          clear hA
          simp only [fillP, List.setIfInBounds_toArray, List.set_cons_zero, List.set_cons_succ, h3]
          have q0 := (MgAt.cells (HS.out.of hB).mine).1; have q1 := (MgAt.cells (HS.out.of hB).mine).2; have c0 := (K6.out wv (HS.out.of hB).below).1; have c1 := (K6.out wv (HS.out.of hB).below).2.1; dsimp only at q0 q1; go_wp2_with fail
          refine postB_val ?_ (Below.refl _ _)
          simp only [List.getElem?_cons_succ, List.getElem?_cons_zero]
          rfl
        case s5 =>
          refine BStep.of [4] [(33, 4)] (opV _) (by kernel_rfl) (fun _ _ => by kernel_rfl) rfl ?_
          intro vs wv hB hA
          have h4 : vs 4 = _ := hA.1
          clear hA
          simp only [fillP, List.setIfInBounds_toArray, List.set_cons_zero, List.set_cons_succ, h4]
          have q0 := (MgAt.cells (HS.out.of hB).mine).1; have q1 := (MgAt.cells (HS.out.of hB).mine).2; have c0 := (K6.out wv (HS.out.of hB).below).1; have c1 := (K6.out wv (HS.out.of hB).below).2.1; dsimp only at q0 q1; go_wp2_with fail
          refine postB_val ?_ (Below.refl _ _)
          simp only [List.getElem?_cons_succ, List.getElem?_cons_zero]
          rfl
        case s6 =>
          refine BStep.of [0, 5] [(29, 0), (34, 5)] (opV (.agg #[.int .i64 m1, .int .i64 m2])) (by kernel_rfl) (fun _ _ => by kernel_rfl) rfl ?_
          intro vs wv hB hA
          have h0 : vs 0 = _ := hA.1
          have h5 : vs 5 = _ := hA.2.1
          clear hA
          simp only [fillP, List.setIfInBounds_toArray, List.set_cons_zero, List.set_cons_succ, h0, h5]
          (go_wp2_with (go_at_call 18; (with_reducible refine (J1.out _).mono ?_); rintro e w7 ⟨rfl, hb⟩)); exact postB_val rfl hb
        case fin =>
          refine last_of [0, 1, 2, 3, 4, 5, 6] [(29, 0), (30, 1), (31, 2), (32, 3), (33, 4), (34, 5), (35, 6)] (by kernel_rfl) (fun _ _ => by kernel_rfl) ?_
          intro vs wv hB hA
          have h0 : vs 0 = _ := hA.1
          have h1 : vs 1 = _ := hA.2.1
          have h2 : vs 2 = _ := hA.2.2.1
          have h3 : vs 3 = _ := hA.2.2.2.1
          have h4 : vs 4 = _ := hA.2.2.2.2.1
          have h5 : vs 5 = _ := hA.2.2.2.2.2.1
          have h6 : vs 6 = _ := hA.2.2.2.2.2.2.1
          clear hA
          simp only [fillP, List.setIfInBounds_toArray, List.set_cons_zero, List.set_cons_succ, h0, h1, h2, h3, h4, h5, h6]
          have I1 := Lib.hid (HS.out.of hB)
          clear HS J1
          have q0 := (MgAt.cells I1.out.mine).1
          have q1 := (MgAt.cells I1.out.mine).2
          have z0 := MgAt.fro I1.out.mine 0
          have z1 := MgAt.fro I1.out.mine 1
          dsimp only at q0 q1
          go_upto_region 10 with fail
          have I2 := Lib.hid (I1.out.wait m1 m2)
          clear q0 q1 z0 z1 I1 hB
          generalize (wv.setCell ⟨o + 1, 0, none⟩ (.int .i64 m1)).setCell ⟨o + 1, 1, none⟩ (.int .i64 m2) = w7 at I2 ⊢
          have q0 := (MgAt.cells I2.out.mine).1
          have q1 := (MgAt.cells I2.out.mine).2
          dsimp only at q0 q1
          have yb := SB.out.y
          have mb := M1.out
          unfold MayM at mb
          dsimp only at yb mb
          have b1 : IntKind.i64.wrap (y + m1) = y + m1 := IntWalk.i64_in _ (by omega)
          have b2 : IntKind.i64.wrap (y + m1 + m2) = y + m1 + m2 := IntWalk.i64_in _ (by omega)
          clear yb mb
          go_upto_if 38 with fail
          go_cut [14] from 23 to 78 (fun p wx => p = .int .i64 at1 ∧ wx = w7)
          case first =>
            cases out with
            | true =>
              have E0 : Hid (y = at1) := Lib.hid HA.out
              go_wp2_with fail
              go_meet
              exact ⟨by rw [E0.out], rfl⟩
            | false =>
              have E0 : Hid (y + m1 + m2 = at1) := Lib.hid HA.out
              go_wp2_with fail
              go_meet
              exact ⟨by rw [E0.out], rfl⟩
          case rest =>
            obtain ⟨rfl, hw⟩ := hcut
            obtain rfl := hw.symm
            clear hw b1 b2 q0 q1 HA
            obtain ⟨o0, -, -, -, -, -, -⟩ := I2.out.out.cells
            go_upto_region 14 with ((with_reducible change wpList _ _ _ (Oper.mk (some 50) _ _ _ _ _ :: _) _ _); refine wpList_append_i14 rfl _ _ rfl (o + 1 + 1) _ ats rfl I2.out.own at1 _ rfl AL.out (by have := I2.out.lt; omega) ?_; intro v5 w8 hO hB; obtain ⟨A9, n9, c9, rfl⟩ : ∃ A n c, v5 = Value.slice A n c := (by obtain ⟨A9, c9, e9, -, -, -⟩ := own_form hO; exact ⟨_, _, _, e9⟩); have O8 := Lib.hid hO; have B8 := Lib.hid hB; have y0 := (I2.out.out.keepB hB (by omega)).cells.1; have z0 := (I2.out.out.keepB hB (by omega)).fro 0; clear hO hB)
            have I3 := Lib.hid (I2.out.put at1 B8.out O8.out)
            rw [← AS.out] at I3
            clear y0 z0 B8 O8 I2 o0 AS AL
            generalize w8.setCell ⟨o, 0, none⟩ (.slice A9 n9 c9) = w9 at I3 ⊢
            have c2 := (K6.out w9 I3.out.below).2.2.1
            have c3 := (K6.out w9 I3.out.below).2.2.2.1
            have c4 := (K6.out w9 I3.out.below).2.2.2.2.1
            have c5 := (K6.out w9 I3.out.below).2.2.2.2.2
            cases thr with
            | true =>
              go_wp2_with fail
              clear c2 c3 c4 c5
              refine' wp_region_last [opV _, opV _, opV _, opV _, opV _, opV _, opV (.agg #[.int .i64 p1, .int .i64 p2])] 7 _ rfl (by kernel_rfl) rfl (by kernel_rfl) ⟨?s0, ?s1, ?s2, ?s3, ?s4, ?s5, ?s6, trivial⟩ rfl ?fin
              case s0 =>
                refine BStep.of [] [] (opV _) (by kernel_rfl) (fun _ _ => by kernel_rfl) rfl ?_
                intro vs wv hB hA
                clear hA
                simp only [fillP]
                have q0 := (MgAt.cells (I3.out.of hB).mine).1; have q1 := (MgAt.cells (I3.out.of hB).mine).2; have c2 := (K6.out wv (I3.out.of hB).below).2.2.1; have c3 := (K6.out wv (I3.out.of hB).below).2.2.2.1; dsimp only at q0 q1; go_wp2_with fail
                refine postB_val ?_ (Below.refl _ _)
                simp only [List.getElem?_cons_succ, List.getElem?_cons_zero]
                rfl
              case s1 =>
                refine BStep.of [] [] (opV _) (by kernel_rfl) (fun _ _ => by kernel_rfl) rfl ?_
                intro vs wv hB hA
                clear hA
                simp only [fillP]
                have q0 := (MgAt.cells (I3.out.of hB).mine).1; have q1 := (MgAt.cells (I3.out.of hB).mine).2; have c2 := (K6.out wv (I3.out.of hB).below).2.2.1; have c3 := (K6.out wv (I3.out.of hB).below).2.2.2.1; dsimp only at q0 q1; go_wp2_with fail
                refine postB_val ?_ (Below.refl _ _)
                simp only [List.getElem?_cons_succ, List.getElem?_cons_zero]
                rfl
              case s2 =>
                refine BStep.of [] [] (opV _) (by kernel_rfl) (fun _ _ => by kernel_rfl) rfl ?_
                intro vs wv hB hA
                clear hA
                simp only [fillP]
                have q0 := (MgAt.cells (I3.out.of hB).mine).1; have q1 := (MgAt.cells (I3.out.of hB).mine).2; have c2 := (K6.out wv (I3.out.of hB).below).2.2.1; have c3 := (K6.out wv (I3.out.of hB).below).2.2.2.1; dsimp only at q0 q1; go_wp2_with fail
                refine postB_val ?_ (Below.refl _ _)
                simp only [List.getElem?_cons_succ, List.getElem?_cons_zero]
                rfl
              case s3 =>
                refine BStep.of [1, 2] [(58, 1), (59, 2)] (opV _) (by kernel_rfl) (fun _ _ => by kernel_rfl) rfl ?_
                intro vs wv hB hA
                have h1 : vs 1 = _ := hA.1
                have h2 : vs 2 = _ := hA.2.1
                clear hA
                simp only [fillP, List.setIfInBounds_toArray, List.set_cons_zero, List.set_cons_succ, h1, h2]
                have q0 := (MgAt.cells (I3.out.of hB).mine).1; have q1 := (MgAt.cells (I3.out.of hB).mine).2; have c2 := (K6.out wv (I3.out.of hB).below).2.2.1; have c3 := (K6.out wv (I3.out.of hB).below).2.2.2.1; dsimp only at q0 q1; go_wp2_with fail
                refine postB_val ?_ (Below.refl _ _)
                simp only [List.getElem?_cons_succ, List.getElem?_cons_zero]
                rfl
              case s4 =>
                refine BStep.of [3] [(60, 3)] (opV _) (by kernel_rfl) (fun _ _ => by kernel_rfl) rfl ?_
                intro vs wv hB hA
                have h3 : vs 3 = _ := hA.1
                clear hA
                simp only [fillP, List.setIfInBounds_toArray, List.set_cons_zero, List.set_cons_succ, h3]
                have q0 := (MgAt.cells (I3.out.of hB).mine).1; have q1 := (MgAt.cells (I3.out.of hB).mine).2; have c2 := (K6.out wv (I3.out.of hB).below).2.2.1; have c3 := (K6.out wv (I3.out.of hB).below).2.2.2.1; dsimp only at q0 q1; go_wp2_with fail
                refine postB_val ?_ (Below.refl _ _)
                simp only [List.getElem?_cons_succ, List.getElem?_cons_zero]
                rfl
              case s5 =>
                refine BStep.of [4] [(61, 4)] (opV _) (by kernel_rfl) (fun _ _ => by kernel_rfl) rfl ?_
                intro vs wv hB hA
                have h4 : vs 4 = _ := hA.1
                clear hA
                simp only [fillP, List.setIfInBounds_toArray, List.set_cons_zero, List.set_cons_succ, h4]
                have q0 := (MgAt.cells (I3.out.of hB).mine).1; have q1 := (MgAt.cells (I3.out.of hB).mine).2; have c2 := (K6.out wv (I3.out.of hB).below).2.2.1; have c3 := (K6.out wv (I3.out.of hB).below).2.2.2.1; dsimp only at q0 q1; go_wp2_with fail
                refine postB_val ?_ (Below.refl _ _)
                simp only [List.getElem?_cons_succ, List.getElem?_cons_zero]
                rfl
              case s6 =>
                refine BStep.of [0, 5] [(57, 0), (62, 5)] (opV (.agg #[.int .i64 p1, .int .i64 p2])) (by kernel_rfl) (fun _ _ => by kernel_rfl) rfl ?_
                intro vs wv hB hA
                have h0 : vs 0 = _ := hA.1
                have h5 : vs 5 = _ := hA.2.1
                clear hA
                simp only [fillP, List.setIfInBounds_toArray, List.set_cons_zero, List.set_cons_succ, h0, h5]
                (go_wp2_with (go_at_call 18; (with_reducible refine (J2.out _).mono ?_); rintro e w7 ⟨rfl, hb⟩)); exact postB_val rfl hb
              case fin =>
                refine last_of [0, 1, 2, 3, 4, 5, 6] [(57, 0), (58, 1), (59, 2), (60, 3), (61, 4), (62, 5), (63, 6)] (by kernel_rfl) (fun _ _ => by kernel_rfl) ?_
                intro vs wv hB hA
                have h0 : vs 0 = _ := hA.1
                have h1 : vs 1 = _ := hA.2.1
                have h2 : vs 2 = _ := hA.2.2.1
                have h3 : vs 3 = _ := hA.2.2.2.1
                have h4 : vs 4 = _ := hA.2.2.2.2.1
                have h5 : vs 5 = _ := hA.2.2.2.2.2.1
                have h6 : vs 6 = _ := hA.2.2.2.2.2.2.1
                clear hA
                simp only [fillP, List.setIfInBounds_toArray, List.set_cons_zero, List.set_cons_succ, h0, h1, h2, h3, h4, h5, h6]
                have I4 := Lib.hid (I3.out.of hB)
                clear I3 J2
                have q0 := (MgAt.cells I4.out.mine).1
                have q1 := (MgAt.cells I4.out.mine).2
                have z0 := MgAt.fro I4.out.mine 0
                have z1 := MgAt.fro I4.out.mine 1
                dsimp only at q0 q1
                have I5 := Lib.hid (I4.out.wait p1 p2)
                go_wp2_with fail
                go_roundg (n - (k + 1))
                case measure => omega
                case rel =>
                  have R2 := RS.out
                  rw [if_pos trivial] at R2
                  exact ⟨k + 1, .slice A9 n9 c9, by go_num, by rw [R2], by rw [R2], by omega, Nat.le_refl _, Lib.hid (by rw [R2]; exact I5.out)⟩
            | false =>
              have q0 := (MgAt.cells I3.out.mine).1
              have q1 := (MgAt.cells I3.out.mine).2
              have z0 := MgAt.fro I3.out.mine 0
              have z1 := MgAt.fro I3.out.mine 1
              obtain ⟨-, -, o2, o3, -, -, -⟩ := I3.out.out.cells
              have f2 := I3.out.out.fro 2
              have f3 := I3.out.out.fro 3
              simp only [tkS] at o2 o3
              dsimp only at q0 q1
              have b3 : IntKind.i64.wrap (at1 + hh) = at1 + hh := IntWalk.i64_in _ (by have := ATB.out; have := GK.out.h; dsimp only at this; omega)
              have hne : ¬ o + 1 = o := by omega
              cases out with
              | true =>
                have I5 := Lib.hid (((I3.out.tell 2 (.int .i64 m1) ⟨[], 0, (m1, t2), mgZ, false⟩ rfl).tell 3 (.int .i64 m2) ⟨[], 0, (m1, m2), mgZ, false⟩ rfl))
                have K7 := Lib.hid (K6.out _ I5.out.below)
                have I6 := Lib.hid (I5.out.wait bu bd)
                go_upto_region 19 with fail
                clear c2 c3 c4 c5 q0 q1 z0 z1 o2 o3 f2 f3
                generalize (w9.setCell ⟨o, 2, none⟩ (.int .i64 m1)).setCell ⟨o, 3, none⟩ (.int .i64 m2) = w10 at I5 I6 K7 ⊢
                have c2 := K7.out.2.2.1
                have c3 := K7.out.2.2.2.1
                have c4 := K7.out.2.2.2.2.1
                have q0 := (MgAt.cells I5.out.mine).1
                have q1 := (MgAt.cells I5.out.mine).2
                have z0 := MgAt.fro I5.out.mine 0
                have z1 := MgAt.fro I5.out.mine 1
                dsimp only at q0 q1
                go_wp2_with fail
                go_roundg (n - (k + 1))
                case measure => omega
                case rel =>
                  have R2 := RS.out
                  rw [if_neg (by decide), if_pos trivial] at R2
                  exact ⟨k + 1, .slice A9 n9 c9, by go_num, by rw [R2], by rw [R2], by omega, Nat.le_refl _, Lib.hid (by rw [R2]; exact I6.out)⟩
              | false =>
                have I6 := Lib.hid (I3.out.wait bu bd)
                go_wp2_with fail
                go_roundg (n - (k + 1))
                case measure => omega
                case rel =>
                  have R2 := RS.out
                  rw [if_neg (by decide), if_neg (by decide)] at R2
                  exact ⟨k + 1, .slice A9 n9 c9, by go_num, by rw [R2], by rw [R2], by omega, Nat.le_refl _, Lib.hid (by rw [R2]; exact I6.out)⟩
      · obtain rfl : k = n := by omega
        have hz1 : ¬ (k : Int) < k := by omega
        have et : l.take k = l := by rw [← HL.out, List.take_length]
        rw [et] at HS SB ⊢
        have RT : Hid (toldS l above below = endS (runS (startS above) l) (atsS (startS above) l) below) := Lib.hid rfl
        have SA : Hid (stackA l above below = if FitS (toldS l above below) then (toldS l above below, 0) else (skZ, 10)) := Lib.hid (by unfold stackA; rw [HE.out, if_neg (by decide)])
        have AB := Lib.hid (ats_bd HG.out (by have := HL.out; omega) above)
        have AL : Hid ((atsS (startS above) l).length = k) := Lib.hid (by rw [atsS_len]; exact HL.out)
        clear et HG HE HV
        generalize runS (startS above) l = s at HS SB RT ⊢
        generalize atsS (startS above) l = ats at HS AB AL RT
        obtain ⟨R, hR⟩ : ∃ R, toldS l above below = R := ⟨_, rfl⟩
        rw [hR] at RT SA
        clear hR
        have RT2 : Hid (R.ats = ats) := Lib.hid (by rw [RT.out]; unfold endS; split <;> rfl)
        unfold endS downS at RT
        obtain ⟨y, ⟨wa, wb⟩, out, ⟨t1, t2⟩⟩ := s
        dsimp only at RT HS ⊢
        have q0 := (MgAt.cells HS.out.mine).1
        have q1 := (MgAt.cells HS.out.mine).2
        obtain ⟨o0, o1, o2, o3, o4, o5, o6⟩ := HS.out.out.cells
        have f1 := HS.out.out.fro 1
        have f2 := HS.out.out.fro 2
        have f3 := HS.out.out.fro 3
        have f4 := HS.out.out.fro 4
        have f5 := HS.out.out.fro 5
        have f6 := HS.out.out.fro 6
        simp only [tkS, mgZ] at o1 o2 o3 o4 o5 o6
        dsimp only at q0 q1
        have hne : ¬ o + 1 = o := by omega
        have yb := SB.out.y
        have mb := SB.out.wt
        unfold MayM at mb
        dsimp only at yb mb
        have b1 : IntKind.i64.wrap (y + wa) = y + wa := IntWalk.i64_in _ (by omega)
        have b2 : IntKind.i64.wrap (y + wa + wb) = y + wa + wb := IntWalk.i64_in _ (by omega)
        have HRB : Hid (-9223372036854775808 ≤ R.h ∧ R.h ≤ 9223372036854775807) := Lib.hid (by
          rw [RT.out]
          repeat' split
          all_goals (dsimp only; omega))
        clear yb mb
        go_upto_if 79 with fail
        go_cut [10] from 79 (fun p wx => ∃ y', p = .int .i64 y' ∧ Hid (SIt w wx w.heap.size o (o + 1) vA ats R (wa, wb)))
        case first =>
          cases out with
          | true =>
            have RE : Hid (R = ⟨ats, 0, (wa, wb), mgZ, below⟩) := Lib.hid (by have h := RT.out; simpa using h)
            have I5 := Lib.hid ((((HS.out.tell 2 (.int .i64 wa) ⟨[], 0, (wa, t2), mgZ, false⟩ rfl).tell 3 (.int .i64 wb) ⟨[], 0, (wa, wb), mgZ, false⟩ rfl)).tell 6 (.bool below) ⟨ats, 0, (wa, wb), mgZ, below⟩ rfl)
            go_wp2_with fail
            go_meet
            exact ⟨y, rfl, by rw [RE.out]; exact I5⟩
          | false =>
            cases below with
            | true =>
              have I5 := Lib.hid ((HS.out.tell 4 (.int .i64 wa) ⟨[], 0, (t1, t2), (wa, 0), false⟩ rfl).tell 5 (.int .i64 wb) ⟨[], 0, (t1, t2), (wa, wb), false⟩ rfl)
              by_cases h : 0 < y
              · have RE : Hid (R = ⟨ats, y, (t1, t2), (wa, wb), false⟩) := Lib.hid (by have h1 := RT.out; simpa [h] using h1)
                have d1 : decide (0 < y) = true := decide_eq_true h
                have I6 := Lib.hid (I5.out.tell 1 (.int .i64 y) ⟨ats, y, (t1, t2), (wa, wb), false⟩ rfl)
                clear h
                go_wp2_with fail
                go_meet
                exact ⟨y, rfl, by rw [RE.out]; exact I6⟩
              · have RE : Hid (R = ⟨ats, 0, (t1, t2), (wa, wb), false⟩) := Lib.hid (by have h1 := RT.out; simpa [h] using h1)
                have d1 : decide (0 < y) = false := decide_eq_false h
                clear h
                go_wp2_with fail
                go_meet
                exact ⟨y, rfl, by rw [RE.out]; exact Lib.hid (I5.out.any ats)⟩
            | false =>
              obtain ⟨yy, hyy⟩ : ∃ yy, y + wa + wb = yy := ⟨_, rfl⟩
              replace b2 := b2.trans hyy
              rw [hyy] at RT
              clear hyy
              by_cases h : 0 < yy
              · have RE : Hid (R = ⟨ats, yy, (t1, t2), mgZ, false⟩) := Lib.hid (by have h1 := RT.out; simpa [h] using h1)
                have d1 : decide (0 < yy) = true := decide_eq_true h
                have I6 := Lib.hid (HS.out.tell 1 (.int .i64 yy) ⟨ats, yy, (t1, t2), mgZ, false⟩ rfl)
                clear h
                go_wp2_with fail
                go_meet
                exact ⟨yy, rfl, by rw [RE.out]; exact I6⟩
              · have RE : Hid (R = ⟨ats, 0, (t1, t2), mgZ, false⟩) := Lib.hid (by have h1 := RT.out; simpa [h] using h1)
                have d1 : decide (0 < yy) = false := decide_eq_false h
                clear h
                go_wp2_with fail
                go_meet
                exact ⟨yy, rfl, by rw [RE.out]; exact Lib.hid (HS.out.any ats)⟩
        case rest =>
          obtain ⟨y', rfl, I7⟩ := hcut
          clear HS q0 q1 o0 o1 o2 o3 o4 o5 o6 f1 f2 f3 f4 f5 f6 b1 b2 SB RT
          have SA : Hid (stackA l above below = if (∀ a ∈ ats, Fit a) ∧ Fit R.h then (R, 0) else (skZ, 10)) := Lib.hid (by
            have h := SA.out
            rw [h]
            by_cases c : FitS R
            · rw [if_pos c, if_pos (by rw [← RT2.out]; exact c)]
            · rw [if_neg c, if_neg (by rw [← RT2.out]; exact c)])
          obtain ⟨A9, c9, e9, -, -, -⟩ := own_form I7.out.own
          rw [AL.out] at e9
          subst e9
          obtain ⟨fA, hfA⟩ : ∃ b, decide (∀ y ∈ ats, Fit y) = b := ⟨_, rfl⟩
          obtain ⟨fH, hfH⟩ : ∃ b, decide (Fit R.h) = b := ⟨_, rfl⟩
          have IA : Hid (Ints wc A9 k (pk ats)) := Lib.hid (by
            have h := I7.out.own
            unfold ownsI14 at h
            rw [AL.out] at h
            exact Ints.of_own h (fun i hi => pk_at ats i (by have := AL.out; omega)) (fun i hi => by
              have hm := List.mem_of_getElem? (pk_at ats i (by have := AL.out; omega))
              have := AB.out _ hm
              omega))
          have KAll := Lib.hid (all_any A9 k c9 (pk ats) wc IA.out (by omega) fA (by rw [← AL.out]; exact (pk_all ats).trans hfA))
          have KFit := Lib.hid (fun W => refFits_any R.h W fH hfH)
          have FA := Lib.hid hfA
          have FH := Lib.hid hfH
          obtain ⟨o0, o1, o2, o3, o4, o5, o6⟩ := I7.out.out.cells
          obtain ⟨y0, y1, y2, y3, y4, y5, y6⟩ := I7.out.res.cells
          simp only [skZ, mgZ] at y1 y2 y3 y4 y5 y6
          have z0 := I7.out.res.fro 0
          have z1 := I7.out.res.fro 1
          have z2 := I7.out.res.fro 2
          have z3 := I7.out.res.fro 3
          have z4 := I7.out.res.fro 4
          have z5 := I7.out.res.fro 5
          have z6 := I7.out.res.fro 6
          have hlt := I7.out.lt
          have OW : Hid (wc.ownsRow (o + 1 + 1) 3 1 (.slice A9 k c9) ats.length (ats.map (Value.int .i64))) := Lib.hid I7.out.own
          have BW := Lib.hid I7.out.below
          have RW := Lib.hid I7.out.res
          obtain ⟨R0, Rh, ⟨Rt1, Rt2⟩, ⟨Rb1, Rb2⟩, Rth⟩ := R
          dsimp only at o0 o1 o2 o3 o4 o5 o6 KFit FH SA RT2
          clear hfA hfH IA AB I7 HRB
          by_cases hok : fA = true ∧ fH = true
          · obtain ⟨rfl, rfl⟩ := hok
            have SE : Hid (stackA l above below = (⟨R0, Rh, (Rt1, Rt2), (Rb1, Rb2), Rth⟩, 0)) := Lib.hid (by rw [SA.out, if_pos ⟨of_decide_eq_true FA.out, of_decide_eq_true FH.out⟩])
            have FE := Lib.hid (RW.out.whole (.slice A9 k c9) Rh Rt1 Rt2 Rb1 Rb2 Rth)
            have FB := Lib.hid (below_whole BW.out (Nat.le_refl _) (.slice A9 k c9) Rh Rt1 Rt2 Rb1 Rb2 Rth)
            have FO := Lib.hid (own_base (own_whole OW.out (show w.heap.size < o + 1 + 1 by omega) (.slice A9 k c9) Rh Rt1 Rt2 Rb1 Rb2 Rth) (show w.heap.size ≤ o + 1 + 1 by omega))
            clear SA FA FH RW BW OW
            go_wp2_with (first
              | (go_at_call 19; (with_reducible refine KAll.out.mono ?_); rintro e6 w6 ⟨rfl, rfl⟩)
              | (go_at_call 20; (with_reducible refine (KFit.out _).mono ?_); rintro e6 w6 ⟨rfl, rfl⟩))
            refine bodyPost_ret (results_row_tmp14 rfl _ _ w.heap.size _ _ _ _ rfl FE.out Try.underlying27 rfl (by kernel_rfl)) rfl ?_
            exact ⟨.slice A9 k c9, by rw [SE.out]; rfl, by rw [SE.out]; show ownsI14 _ _ _ R0; rw [RT2.out]; exact FO.out, FB.out⟩
          · have SE : Hid (stackA l above below = (skZ, 10)) := Lib.hid (by
              rw [SA.out, if_neg]
              rintro ⟨c1, c2⟩
              exact hok ⟨by rw [← FA.out]; exact decide_eq_true c1, by rw [← FH.out]; exact decide_eq_true c2⟩)
            have FE := Lib.hid (RW.out.whole (.slice none 0 0) 0 0 0 0 0 false)
            have FB := Lib.hid (below_whole BW.out (Nat.le_refl _) (.slice none 0 0) 0 0 0 0 0 false)
            clear SA FA FH RW BW OW
            cases fA with
            | false =>
              go_wp2_with (first
                | (go_at_call 19; (with_reducible refine KAll.out.mono ?_); rintro e6 w6 ⟨rfl, rfl⟩)
                | (go_at_call 20; (with_reducible refine (KFit.out _).mono ?_); rintro e6 w6 ⟨rfl, rfl⟩))
              refine bodyPost_ret (results_row_tmp14 rfl _ _ w.heap.size _ _ _ _ rfl FE.out Try.underlying27 rfl (by kernel_rfl)) rfl ?_
              exact ⟨.slice none 0 0, by rw [SE.out]; rfl, by rw [SE.out]; exact ownsI14.nil _ _, FB.out⟩
            | true =>
              obtain rfl : fH = false := by cases fH; rfl; exact absurd ⟨rfl, rfl⟩ hok
              go_wp2_with (first
                | (go_at_call 19; (with_reducible refine KAll.out.mono ?_); rintro e6 w6 ⟨rfl, rfl⟩)
                | (go_at_call 20; (with_reducible refine (KFit.out _).mono ?_); rintro e6 w6 ⟨rfl, rfl⟩))
              refine bodyPost_ret (results_row_tmp14 rfl _ _ w.heap.size _ _ _ _ rfl FE.out Try.underlying27 rfl (by kernel_rfl)) rfl ?_
              exact ⟨.slice none 0 0, by rw [SE.out]; rfl, by rw [SE.out]; exact ownsI14.nil _ _, FB.out⟩
end Go.Proofs.Ytidbfkbeploagaa
