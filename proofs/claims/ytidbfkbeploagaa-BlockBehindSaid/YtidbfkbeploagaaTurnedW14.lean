/-
  The law BlockTurned: of any Stack that answers as is asked.
-/
import Derived.Test.YtidbfkbeploagaaTurnM14
import Derived.Test.YtidbfkbeploagaaThroughW14
import Derived.Test.YtidbfkbeploagaaOppositeW13
namespace Go.Proofs.Ytidbfkbeploagaa
open Go.RowKit

def rowK (v : Value) (l l' : List Kd) : Row2 := ⟨35, 6, v, l.length, cellsK l, l'.length, cellsK l'⟩
theorem KdIn.grown {w w' : World} {v : Value} {l : List Kd} (h : KdIn w v l) {r : Option Nat} (hg : w.grownBy w' r) (hr : ∀ g, v.ownBlock = some g → r ≠ some g) : KdIn w' v l := by
  obtain ⟨A, c, rfl, hc, hn, hq⟩ := h
  refine ⟨A, c, rfl, hc, hn, fun e => ?_⟩
  obtain ⟨b, off, rfl, h2, h3⟩ := hq e
  have hb : w'.heap[b]? = w.heap[b]? := hg.block b h2 (fun e => hr b rfl e.symm)
  refine ⟨b, off, rfl, Nat.lt_of_lt_of_le h2 hg.size, fun j hj => ?_⟩
  have h4 := h3 j hj
  unfold KdAt World.cell? at *
  simp only [hb]
  exact h4
/-- kids in a block that is newer than a world -/
def KdIn2 (w0 w : World) (v : Value) (l : List Kd) : Prop := KdIn w v l ∧ ∃ g, w0.heap.size ≤ g ∧ v.ownBlock = some g
def opcK {h0 : Nat} (l : List Kd) : OpC h0 := ⟨fun v w => KdIn w v l ∧ ∃ g, h0 ≤ g ∧ v.ownBlock = some g, fun v w w' r hr hg h => ⟨h.1.grown hg (fun g e he => by
  obtain ⟨g2, h2, e2⟩ := h.2
  rw [e2] at e
  have := hr g he
  simp at e
  omega), h.2⟩⟩
theorem new_kid (W : World) (a : Kd) : KdIn (W.alloc (.cells #[.int .i64 a.t.1, .int .i64 a.t.2, .int .i64 a.b.1, .int .i64 a.b.2, .int .i64 a.h, .bool a.thr] 35)) (.slice (some ⟨W.heap.size, 0, none⟩) 1 1) [a] := kids_new [a] (by simp) _
theorem near_of_all {l : List Kd} (hn : l.length ≤ 200) (h : ∀ k ∈ l, NearAt k) : NearK l := ⟨hn, fun i hi => by rw [kAt_get hi]; exact h _ (List.getElem_mem _)⟩
set_option maxRecDepth 100000 in
set_option maxHeartbeats 8000000 in
theorem turned14 (hS : StackOK 10) (hM : MayOK13 38) (hA : AwakeOK14 12) (A : Option Addr) (n c : Nat) (l : List Kd) (w : World) (hv : KdIn w (.slice A n c) l) (hl : l.length = n) (hn : n ≤ 140737488351232) :
    Calls Try.prog 5 #[.slice A n c] w fun e w' => e = .returned (.bool true) ∧ Below w.heap.size w w' := by
  have KA := Lib.hid (fun W => hA W)
  have HV := Lib.hid hv
  have HL := Lib.hid hl
  have KN := Lib.hid (fun W (hW : KdIn W (.slice A n c) l) => near_any hM l _ W hW (by omega))
  have KO := Lib.hid (fun W (hW : KdIn W (.slice A n c) l) => solid_any l _ W hW (by omega))
  clear hA hM
  by_cases hnear : NearK l
  case neg =>
    rw [decide_eq_false hnear] at KN
    clear hS hnear hl hv
    go_enter Try.func5, Try.ntmps5
    go_wp2_with (first
      | (go_at_call 12; (with_reducible refine (KA.out _).mono ?_); rintro e w1 ⟨rfl, hb⟩; have B1 := Lib.hid hb; clear hb)
      | (go_at_call 13; (with_reducible refine (KN.out _ (HV.out.keep B1.out)).mono ?_); rintro e w2 ⟨rfl, hb⟩; have B2 := Lib.hid (b_next B1.out hb); clear hb))
    go_ret
    exact ⟨rfl, B2.out⟩
  rw [decide_eq_true hnear] at KN
  by_cases hsol : SolidK l
  case neg =>
    rw [decide_eq_false hsol] at KO
    clear hS hnear hsol hl hv
    go_enter Try.func5, Try.ntmps5
    go_wp2_with (first
      | (go_at_call 12; (with_reducible refine (KA.out _).mono ?_); rintro e w1 ⟨rfl, hb⟩; have B1 := Lib.hid hb; clear hb)
      | (go_at_call 13; (with_reducible refine (KN.out _ (HV.out.keep B1.out)).mono ?_); rintro e w2 ⟨rfl, hb⟩; have B2 := Lib.hid (b_next B1.out hb); clear hb)
      | (go_at_call 14; (with_reducible refine (KO.out _ (HV.out.keep B2.out)).mono ?_); rintro e w3 ⟨rfl, rfl⟩))
    go_ret
    exact ⟨rfl, B2.out⟩
  rw [decide_eq_true hsol] at KO
  have hn2 : n ≤ 200 := by have := hnear.1; omega
  have NA := Lib.hid (near_all hnear)
  have hnt : NearK (turnL l) := near_of_all (by rw [turnL_len]; omega) (turn_near NA.out)
  have KB1 := Lib.hid (fun W (hW : KdIn W (.slice A n c) l) => hS l _ false false W hW (by omega) (near_big hnear))
  have KB2 := Lib.hid (fun W v (hW : KdIn W v (turnL l)) => hS (turnL l) v false false W hW (by rw [turnL_len]; omega) (near_big hnt))
  rw [near_told14 NA.out (by omega) false false] at KB1
  rw [near_told14 (near_all hnt) (by rw [turnL_len]; omega) false false] at KB2
  have TH : Hid ((toldS (turnL l) false false).h = (toldS l false false).h) := Lib.hid (turn_h hsol NA.out)
  have TA : Hid (∀ i, i < n → 0 < (toldS l false false).h → ∃ x : Int, (toldS l false false).ats[i]? = some x ∧ (toldS (turnL l) false false).ats[n - 1 - i]? = some ((toldS l false false).h - x - (kAt l i).h)) := Lib.hid (fun i hi hp => by
    rw [← hl]
    exact turn_at hsol NA.out (by omega) hp)
  have L1 : Hid ((toldS l false false).ats.length = n) := Lib.hid (by rw [told_ats, atsS_len]; exact hl)
  have L2 : Hid ((toldS (turnL l) false false).ats.length = n) := Lib.hid (by rw [told_ats, atsS_len, turnL_len]; exact hl)
  have N1 : Hid (∀ y ∈ (toldS l false false).ats, -1099511627776 ≤ y ∧ y ≤ 1099511627776) := Lib.hid (by rw [told_ats]; exact ats_n NA.out (by omega) false)
  have N2 : Hid (∀ y ∈ (toldS (turnL l) false false).ats, -1099511627776 ≤ y ∧ y ≤ 1099511627776) := Lib.hid (by rw [told_ats]; exact ats_n (near_all hnt) (by rw [turnL_len]; omega) false)
  have TL : Hid (∀ p, p < n → turnL (l.drop p) = turnL (l.drop (p + 1)) ++ [turnK (kAt l p)]) := Lib.hid (fun p hp => turnL_drop (by omega))
  obtain ⟨R1, hR1⟩ : ∃ R, toldS l false false = R := ⟨_, rfl⟩
  obtain ⟨R2, hR2⟩ : ∃ R, toldS (turnL l) false false = R := ⟨_, rfl⟩
  rw [hR1] at KB1 TH TA L1 N1
  rw [hR2] at KB2 TH TA L2 N2
  obtain ⟨ats1, H1, ⟨p1, p2⟩, ⟨p3, p4⟩, p5⟩ := R1
  obtain ⟨ats2, H2, ⟨r1, r2⟩, ⟨r3, r4⟩, r5⟩ := R2
  unfold skV at KB1 KB2
  dsimp only at KB1 KB2 TH TA L1 L2 N1 N2
  obtain rfl := TH.out
  clear hS hnear hsol hnt hl hv hR1 hR2 TH
  go_enter Try.func5, Try.ntmps5
  go_wp2_with (first
    | (go_at_call 12; (with_reducible refine (KA.out _).mono ?_); rintro e w1 ⟨rfl, hb⟩; have B1 := Lib.hid hb; clear hb)
    | (go_at_call 13; (with_reducible refine (KN.out _ (HV.out.keep B1.out)).mono ?_); rintro e w2 ⟨rfl, hb⟩; have B2 := Lib.hid (b_next B1.out hb); clear hb)
    | (go_at_call 14; (with_reducible refine (KO.out _ (HV.out.keep B2.out)).mono ?_); rintro e w3 ⟨rfl, rfl⟩))
  clear KA KN KO B1
  have V2 := Lib.hid (HV.out.keep B2.out)
  obtain ⟨i0, hi, iz0, iz1, iz2⟩ := info_parts10 Try.infoKd
  have wi0 : IntKind.i64.wrap ((n : Int) - 1) = (n : Int) - 1 := IntWalk.i64_in _ (by omega)
  go_loopg [3, 4] n (fun g1 vt vi wr => ∃ m : Nat, vi = .int .i64 ((m : Int) - 1) ∧ m ≤ n ∧ m ≤ g1 ∧ Hid (ownsK wr w2.heap.size vt (turnL (l.drop m))) ∧ Hid (Below w2.heap.size w2 wr))
  case atStart => exact ⟨n, by go_num, Nat.le_refl _, Nat.le_refl _, Lib.hid (by rw [List.drop_of_length_le (by have := HL.out; omega)]; exact ownsK.nil _ _), Lib.hid (Below.refl _ _)⟩
  case round =>
    obtain ⟨m, rfl, hm, hg1, HO, HB⟩ := hrel
    obtain ⟨wo, hwo⟩ : ∃ wo, wo = wr := ⟨_, rfl⟩
    subst hwo
    cases m with
    | succ p =>
      have hlt : p < n := by omega
      have ep : ((p + 1 : Nat) : Int) - 1 = p := by omega
      rw [ep]
      have hz1 : ¬ (p : Int) < 0 := by omega
      have hz0 : (0 : Int) ≤ p := by omega
      have hz2 : (p : Int) < n := by omega
      have wi : IntKind.i64.wrap ((p : Int) - 1) = (p : Int) - 1 := IntWalk.i64_in _ (by omega)
      obtain ⟨b, off, c1, e', hbl, -, hk6⟩ := (V2.out.keep HB.out).get (i := p) (by have := HL.out; omega)
      injection e' with e1 e2 e3
      subst e1 e3
      clear e2
      have KK : Hid (∀ W, Below w2.heap.size wo W → KdAt W b (off + p * 6) (kAt l p)) := Lib.hid (fun W hW => by
        obtain ⟨b', off', c', e', -, -, hk7⟩ := (V2.out.keep (HB.out.trans hW)).get (i := p) (by have := HL.out; omega)
        injection e' with e1 e2 e3
        injection e1 with e1
        injection e1 with e1 e4
        subst e1 e4
        exact hk7 p (by have := HL.out; omega))
      have K6 : Hid (KdAt wo b (off + p * 6) (kAt l p)) := Lib.hid (hk6 p (by have := HL.out; omega))
      have T5 := Lib.hid (TL.out p hlt)
      have LT : Hid ((turnL (l.drop (p + 1))).length ≤ 200) := Lib.hid (by rw [turnL_len, List.length_drop]; have := HL.out; omega)
      clear hbl hk6
      generalize kAt l p = x at K6 KK T5
      obtain ⟨⟨tu, td⟩, ⟨bu, bd⟩, hh, thr⟩ := x
      unfold turnK at T5
      dsimp only at T5
      have CT : Hid (∀ W, Below w2.heap.size wo W → KdAt W b (off + p * 6) ⟨(tu, td), (bu, bd), hh, thr⟩) := Lib.hid (fun W hW => KK.out W hW)
      unfold KdAt at CT
      dsimp only at CT
      clear K6 KK
      obtain ⟨row, hrow⟩ : ∃ r, turnL (l.drop (p + 1)) = r := ⟨_, rfl⟩
      obtain ⟨row2, hrow2⟩ : ∃ r, turnL (l.drop p) = r := ⟨_, rfl⟩
      rw [hrow] at HO T5 LT
      rw [hrow2] at T5
      have E2 := Lib.hid hrow2
      clear hrow hrow2
      have FA : Hid (∀ (W : World) (v : Value), W.ownsRow w2.heap.size 35 6 v (row.length + 1) (cellsK row ++ cellsK [⟨(bu, bd), (tu, td), hh, false⟩]) → W.ownsRow w2.heap.size 35 6 v row2.length (cellsK row2)) := Lib.hid (fun W v h => by
        rw [T5.out, cellsK_append, List.length_append]
        exact h)
      have FLA : Hid (row.length + 1 ≤ maxLen ∧ (row.length + 1) * 48 ≤ 140737488355328) := Lib.hid (by have := LT.out; unfold maxLen; omega)
      clear T5 LT
      go_wp2_with fail
      refine' wp_region_two w2.heap.size [opcV _ _, opcV _ _, opcV _ _, opcV _ _, opcV _ _, opcV _ _, opcV _ _, opcV _ _, opcV _ _, opcV _ _, opcV _ _, opcV _ _, opcV _ _, opcV _ _, opcV _ _, opcV _ _, opcV _ _, opcK [⟨(bu, bd), (tu, td), hh, false⟩], opcAny _, opcAny _] 18 99 (rowK u3 row row2) (rowK (.slice none 0 0) [] []) [(18, 19)] rfl (by kernel_rfl) (by kernel_rfl) (by decide) HB.out.size HO.out (World.ownsRow_nil _ _ _ _) (fun g _ h => by cases h) ⟨?s0, ?s1, ?s2, ?s3, ?s4, ?s5, ?s6, ?s7, ?s8, ?s9, ?s10, ?s11, ?s12, ?s13, ?s14, ?s15, ?s16, ?s17, ?s18, ?s19, trivial⟩ ?fin
      case s0 =>
        rw [if_neg (by decide), if_neg (by decide)]
        refine CStep.of [] [] [] (opcV _ _) (by kernel_rfl) (fun _ _ => by kernel_rfl) rfl rfl ?_
        intro vs wv hB hA
        clear hA
        simp only [fillP]
        have ct := CT.out wv hB; have a0 := ct.1; have a1 := ct.2.1; have a2 := ct.2.2.1; have a3 := ct.2.2.2.1; have a4 := ct.2.2.2.2.1; clear ct; go_wp2_with fail
        refine postC_val ?_ (Below.refl _ _)
        simp only [List.getElem?_cons_succ, List.getElem?_cons_zero]
        rfl
      case s1 =>
        rw [if_neg (by decide), if_neg (by decide)]
        refine CStep.of [] [] [] (opcV _ _) (by kernel_rfl) (fun _ _ => by kernel_rfl) rfl rfl ?_
        intro vs wv hB hA
        clear hA
        simp only [fillP]
        have ct := CT.out wv hB; have a0 := ct.1; have a1 := ct.2.1; have a2 := ct.2.2.1; have a3 := ct.2.2.2.1; have a4 := ct.2.2.2.2.1; clear ct; go_wp2_with fail
        refine postC_val ?_ (Below.refl _ _)
        simp only [List.getElem?_cons_succ, List.getElem?_cons_zero]
        rfl
      case s2 =>
        rw [if_neg (by decide), if_neg (by decide)]
        refine CStep.of [] [] [] (opcV _ _) (by kernel_rfl) (fun _ _ => by kernel_rfl) rfl rfl ?_
        intro vs wv hB hA
        clear hA
        simp only [fillP]
        have ct := CT.out wv hB; have a0 := ct.1; have a1 := ct.2.1; have a2 := ct.2.2.1; have a3 := ct.2.2.2.1; have a4 := ct.2.2.2.2.1; clear ct; go_wp2_with fail
        refine postC_val ?_ (Below.refl _ _)
        simp only [List.getElem?_cons_succ, List.getElem?_cons_zero]
        rfl
      case s3 =>
        rw [if_neg (by decide), if_neg (by decide)]
        refine CStep.of [1, 2] [(28, 1), (29, 2)] [] (opcV _ _) (by kernel_rfl) (fun _ _ => by kernel_rfl) rfl rfl ?_
        intro vs wv hB hA
        have h1 : vs 1 = _ := hA.1
        have h2 : vs 2 = _ := hA.2.1
        clear hA
        simp only [fillP, List.setIfInBounds_toArray, List.set_cons_zero, List.set_cons_succ, h1, h2]
        have ct := CT.out wv hB; have a0 := ct.1; have a1 := ct.2.1; have a2 := ct.2.2.1; have a3 := ct.2.2.2.1; have a4 := ct.2.2.2.2.1; clear ct; go_wp2_with fail
        refine postC_val ?_ (Below.refl _ _)
        simp only [List.getElem?_cons_succ, List.getElem?_cons_zero]
        rfl
      case s4 =>
        rw [if_neg (by decide), if_neg (by decide)]
        refine CStep.of [3] [(30, 3)] [] (opcV _ _) (by kernel_rfl) (fun _ _ => by kernel_rfl) rfl rfl ?_
        intro vs wv hB hA
        have h3 : vs 3 = _ := hA.1
        clear hA
        simp only [fillP, List.setIfInBounds_toArray, List.set_cons_zero, List.set_cons_succ, h3]
        have ct := CT.out wv hB; have a0 := ct.1; have a1 := ct.2.1; have a2 := ct.2.2.1; have a3 := ct.2.2.2.1; have a4 := ct.2.2.2.2.1; clear ct; go_wp2_with fail
        refine postC_val ?_ (Below.refl _ _)
        simp only [List.getElem?_cons_succ, List.getElem?_cons_zero]
        rfl
      case s5 =>
        rw [if_neg (by decide), if_neg (by decide)]
        refine CStep.of [4] [(31, 4)] [] (opcV _ _) (by kernel_rfl) (fun _ _ => by kernel_rfl) rfl rfl ?_
        intro vs wv hB hA
        have h4 : vs 4 = _ := hA.1
        clear hA
        simp only [fillP, List.setIfInBounds_toArray, List.set_cons_zero, List.set_cons_succ, h4]
        have ct := CT.out wv hB; have a0 := ct.1; have a1 := ct.2.1; have a2 := ct.2.2.1; have a3 := ct.2.2.2.1; have a4 := ct.2.2.2.2.1; clear ct; go_wp2_with fail
        refine postC_val ?_ (Below.refl _ _)
        simp only [List.getElem?_cons_succ, List.getElem?_cons_zero]
        rfl
      case s6 =>
        rw [if_neg (by decide), if_neg (by decide)]
        refine CStep.of [] [] [] (opcV _ _) (by kernel_rfl) (fun _ _ => by kernel_rfl) rfl rfl ?_
        intro vs wv hB hA
        clear hA
        simp only [fillP]
        have ct := CT.out wv hB; have a0 := ct.1; have a1 := ct.2.1; have a2 := ct.2.2.1; have a3 := ct.2.2.2.1; have a4 := ct.2.2.2.2.1; clear ct; go_wp2_with fail
        refine postC_val ?_ (Below.refl _ _)
        simp only [List.getElem?_cons_succ, List.getElem?_cons_zero]
        rfl
      case s7 =>
        rw [if_neg (by decide), if_neg (by decide)]
        refine CStep.of [] [] [] (opcV _ _) (by kernel_rfl) (fun _ _ => by kernel_rfl) rfl rfl ?_
        intro vs wv hB hA
        clear hA
        simp only [fillP]
        have ct := CT.out wv hB; have a0 := ct.1; have a1 := ct.2.1; have a2 := ct.2.2.1; have a3 := ct.2.2.2.1; have a4 := ct.2.2.2.2.1; clear ct; go_wp2_with fail
        refine postC_val ?_ (Below.refl _ _)
        simp only [List.getElem?_cons_succ, List.getElem?_cons_zero]
        rfl
      case s8 =>
        rw [if_neg (by decide), if_neg (by decide)]
        refine CStep.of [6, 7] [(33, 6), (34, 7)] [] (opcV _ _) (by kernel_rfl) (fun _ _ => by kernel_rfl) rfl rfl ?_
        intro vs wv hB hA
        have h6 : vs 6 = _ := hA.1
        have h7 : vs 7 = _ := hA.2.1
        clear hA
        simp only [fillP, List.setIfInBounds_toArray, List.set_cons_zero, List.set_cons_succ, h6, h7]
        have ct := CT.out wv hB; have a0 := ct.1; have a1 := ct.2.1; have a2 := ct.2.2.1; have a3 := ct.2.2.2.1; have a4 := ct.2.2.2.2.1; clear ct; go_wp2_with fail
        refine postC_val ?_ (Below.refl _ _)
        simp only [List.getElem?_cons_succ, List.getElem?_cons_zero]
        rfl
      case s9 =>
        rw [if_neg (by decide), if_neg (by decide)]
        refine CStep.of [8] [(35, 8)] [] (opcV _ _) (by kernel_rfl) (fun _ _ => by kernel_rfl) rfl rfl ?_
        intro vs wv hB hA
        have h8 : vs 8 = _ := hA.1
        clear hA
        simp only [fillP, List.setIfInBounds_toArray, List.set_cons_zero, List.set_cons_succ, h8]
        have ct := CT.out wv hB; have a0 := ct.1; have a1 := ct.2.1; have a2 := ct.2.2.1; have a3 := ct.2.2.2.1; have a4 := ct.2.2.2.2.1; clear ct; go_wp2_with fail
        refine postC_val ?_ (Below.refl _ _)
        simp only [List.getElem?_cons_succ, List.getElem?_cons_zero]
        rfl
      case s10 =>
        rw [if_neg (by decide), if_neg (by decide)]
        refine CStep.of [9] [(36, 9)] [] (opcV _ _) (by kernel_rfl) (fun _ _ => by kernel_rfl) rfl rfl ?_
        intro vs wv hB hA
        have h9 : vs 9 = _ := hA.1
        clear hA
        simp only [fillP, List.setIfInBounds_toArray, List.set_cons_zero, List.set_cons_succ, h9]
        have ct := CT.out wv hB; have a0 := ct.1; have a1 := ct.2.1; have a2 := ct.2.2.1; have a3 := ct.2.2.2.1; have a4 := ct.2.2.2.2.1; clear ct; go_wp2_with fail
        refine postC_val ?_ (Below.refl _ _)
        simp only [List.getElem?_cons_succ, List.getElem?_cons_zero]
        rfl
      case s11 =>
        rw [if_neg (by decide), if_neg (by decide)]
        refine CStep.of [] [] [] (opcV _ _) (by kernel_rfl) (fun _ _ => by kernel_rfl) rfl rfl ?_
        intro vs wv hB hA
        clear hA
        simp only [fillP]
        have ct := CT.out wv hB; have a0 := ct.1; have a1 := ct.2.1; have a2 := ct.2.2.1; have a3 := ct.2.2.2.1; have a4 := ct.2.2.2.2.1; clear ct; go_wp2_with fail
        refine postC_val ?_ (Below.refl _ _)
        simp only [List.getElem?_cons_succ, List.getElem?_cons_zero]
        rfl
      case s12 =>
        rw [if_neg (by decide), if_neg (by decide)]
        refine CStep.of [] [] [] (opcV _ _) (by kernel_rfl) (fun _ _ => by kernel_rfl) rfl rfl ?_
        intro vs wv hB hA
        clear hA
        simp only [fillP]
        have ct := CT.out wv hB; have a0 := ct.1; have a1 := ct.2.1; have a2 := ct.2.2.1; have a3 := ct.2.2.2.1; have a4 := ct.2.2.2.2.1; clear ct; go_wp2_with fail
        refine postC_val ?_ (Below.refl _ _)
        simp only [List.getElem?_cons_succ, List.getElem?_cons_zero]
        rfl
      case s13 =>
        rw [if_neg (by decide), if_neg (by decide)]
        refine CStep.of [11, 12] [(38, 11), (39, 12)] [] (opcV _ _) (by kernel_rfl) (fun _ _ => by kernel_rfl) rfl rfl ?_
        intro vs wv hB hA
        have h11 : vs 11 = _ := hA.1
        have h12 : vs 12 = _ := hA.2.1
        clear hA
        simp only [fillP, List.setIfInBounds_toArray, List.set_cons_zero, List.set_cons_succ, h11, h12]
        have ct := CT.out wv hB; have a0 := ct.1; have a1 := ct.2.1; have a2 := ct.2.2.1; have a3 := ct.2.2.2.1; have a4 := ct.2.2.2.2.1; clear ct; go_wp2_with fail
        refine postC_val ?_ (Below.refl _ _)
        simp only [List.getElem?_cons_succ, List.getElem?_cons_zero]
        rfl
      case s14 =>
        rw [if_neg (by decide), if_neg (by decide)]
        refine CStep.of [13] [(40, 13)] [] (opcV _ _) (by kernel_rfl) (fun _ _ => by kernel_rfl) rfl rfl ?_
        intro vs wv hB hA
        have h13 : vs 13 = _ := hA.1
        clear hA
        simp only [fillP, List.setIfInBounds_toArray, List.set_cons_zero, List.set_cons_succ, h13]
        have ct := CT.out wv hB; have a0 := ct.1; have a1 := ct.2.1; have a2 := ct.2.2.1; have a3 := ct.2.2.2.1; have a4 := ct.2.2.2.2.1; clear ct; go_wp2_with fail
        refine postC_val ?_ (Below.refl _ _)
        simp only [List.getElem?_cons_succ, List.getElem?_cons_zero]
        rfl
      case s15 =>
        rw [if_neg (by decide), if_neg (by decide)]
        refine CStep.of [14] [(41, 14)] [] (opcV _ _) (by kernel_rfl) (fun _ _ => by kernel_rfl) rfl rfl ?_
        intro vs wv hB hA
        have h14 : vs 14 = _ := hA.1
        clear hA
        simp only [fillP, List.setIfInBounds_toArray, List.set_cons_zero, List.set_cons_succ, h14]
        have ct := CT.out wv hB; have a0 := ct.1; have a1 := ct.2.1; have a2 := ct.2.2.1; have a3 := ct.2.2.2.1; have a4 := ct.2.2.2.2.1; clear ct; go_wp2_with fail
        refine postC_val ?_ (Below.refl _ _)
        simp only [List.getElem?_cons_succ, List.getElem?_cons_zero]
        rfl
      case s16 =>
        rw [if_neg (by decide), if_neg (by decide)]
        refine CStep.of [5, 10, 15] [(32, 5), (37, 10), (42, 15)] [] (opcV _ _) (by kernel_rfl) (fun _ _ => by kernel_rfl) rfl rfl ?_
        intro vs wv hB hA
        have h5 : vs 5 = _ := hA.1
        have h10 : vs 10 = _ := hA.2.1
        have h15 : vs 15 = _ := hA.2.2.1
        clear hA
        simp only [fillP, List.setIfInBounds_toArray, List.set_cons_zero, List.set_cons_succ, h5, h10, h15]
        have ct := CT.out wv hB; have a0 := ct.1; have a1 := ct.2.1; have a2 := ct.2.2.1; have a3 := ct.2.2.2.1; have a4 := ct.2.2.2.2.1; clear ct; go_wp2_with fail
        refine postC_val ?_ (Below.refl _ _)
        simp only [List.getElem?_cons_succ, List.getElem?_cons_zero]
        rfl
      case s17 =>
        rw [if_neg (by decide), if_neg (by decide)]
        refine CStep.of [16] [(43, 16)] [] (opcK [⟨(bu, bd), (tu, td), hh, false⟩]) (by kernel_rfl) (fun _ _ => by kernel_rfl) rfl rfl ?_
        intro vs wv hB hA
        have h16 : vs 16 = _ := hA.1
        clear hA
        simp only [fillP, List.setIfInBounds_toArray, List.set_cons_zero, List.set_cons_succ, h16]
        go_wp2_with fail; exact postC_R rfl ⟨new_kid wv ⟨(bu, bd), (tu, td), hh, false⟩, wv.heap.size, hB.size, rfl⟩ ((Below.refl _ _).alloc (Nat.le_refl _) _)
      case s18 =>
        rw [if_pos (by decide)]
        refine RStep.of [0, 17] [(27, 0), (44, 17)] (by kernel_rfl) (fun _ _ => by kernel_rfl) ?_
        intro vs wv hB hN hA
        have h0 : vs 0 = _ := hA.1
        have h17 : KdIn2 wo wv (vs 17) [⟨(bu, bd), (tu, td), hh, false⟩] := hA.2.1
        clear hA
        simp only [fillP, List.setIfInBounds_toArray, List.set_cons_zero, List.set_cons_succ, h0]
        (obtain ⟨Ax, cx, ex, -, -, hcx⟩ := h17.1; obtain ⟨bx, offx, rfl, -, -⟩ := hcx (by simp); simp only [ex]; go_wp2_with (refine wpList_append_own_at _ rfl _ _ 22 rfl w2.heap.size 35 i0 _ 6 48 Try.underlying22 hi iz0 iz1 iz2 rfl (by decide) u3 row.length (cellsK row) rfl hN ⟨bx, offx, none⟩ _ _ (cellsK [⟨(bu, bd), (tu, td), hh, false⟩]) rfl (cellsK_len _) (h17.1.cells ex _ rfl) (cellsK_one _) FLA.out.1 FLA.out.2 (Nat.le_trans HB.out.size hB.size) ?_; intro v5 w5 hO hgr _ hat)); exact postRow_of rfl (FA.out _ _ hO) hgr hat
      case s19 =>
        rw [if_neg (by decide), if_neg (by decide)]
        refine CStep.of [0, 1, 2, 3, 4, 5, 6, 7, 8, 9, 10, 11, 12, 13, 14, 15, 16, 17, 18] [(27, 0), (28, 1), (29, 2), (30, 3), (31, 4), (32, 5), (33, 6), (34, 7), (35, 8), (36, 9), (37, 10), (38, 11), (39, 12), (40, 13), (41, 14), (42, 15), (43, 16), (44, 17), (45, 18)] [18] (opcAny _) (by kernel_rfl) (fun _ _ => by kernel_rfl) rfl rfl ?_
        intro vs wv hB hA
        have h0 : vs 0 = _ := hA.1
        have h1 : vs 1 = _ := hA.2.1
        have h2 : vs 2 = _ := hA.2.2.1
        have h3 : vs 3 = _ := hA.2.2.2.1
        have h4 : vs 4 = _ := hA.2.2.2.2.1
        have h5 : vs 5 = _ := hA.2.2.2.2.2.1
        have h6 : vs 6 = _ := hA.2.2.2.2.2.2.1
        have h7 : vs 7 = _ := hA.2.2.2.2.2.2.2.1
        have h8 : vs 8 = _ := hA.2.2.2.2.2.2.2.2.1
        have h9 : vs 9 = _ := hA.2.2.2.2.2.2.2.2.2.1
        have h10 : vs 10 = _ := hA.2.2.2.2.2.2.2.2.2.2.1
        have h11 : vs 11 = _ := hA.2.2.2.2.2.2.2.2.2.2.2.1
        have h12 : vs 12 = _ := hA.2.2.2.2.2.2.2.2.2.2.2.2.1
        have h13 : vs 13 = _ := hA.2.2.2.2.2.2.2.2.2.2.2.2.2.1
        have h14 : vs 14 = _ := hA.2.2.2.2.2.2.2.2.2.2.2.2.2.2.1
        have h15 : vs 15 = _ := hA.2.2.2.2.2.2.2.2.2.2.2.2.2.2.2.1
        have h16 : vs 16 = _ := hA.2.2.2.2.2.2.2.2.2.2.2.2.2.2.2.2.1
        have h17 : KdIn2 wo wv (vs 17) [⟨(bu, bd), (tu, td), hh, false⟩] := hA.2.2.2.2.2.2.2.2.2.2.2.2.2.2.2.2.2.1
        have hr18 : Row2.is w2.heap.size (rowK u3 row row2) (vs 18) wv ∧ (∀ g, (vs 18).ownBlock = some g → ((rowK (.slice none 0 0) [] [])).v.ownBlock ≠ some g) := hA.2.2.2.2.2.2.2.2.2.2.2.2.2.2.2.2.2.2.1
        clear hA
        simp only [fillP, List.setIfInBounds_toArray, List.set_cons_zero, List.set_cons_succ, h0, h1, h2, h3, h4, h5, h6, h7, h8, h9, h10, h11, h12, h13, h14, h15, h16]
        have ct := CT.out wv hB; have a0 := ct.1; have a1 := ct.2.1; have a2 := ct.2.2.1; have a3 := ct.2.2.2.1; have a4 := ct.2.2.2.2.1; clear ct; go_wp2_with fail
        exact postC_copy rfl (Below.refl _ _)
      case fin =>
        refine fin_two (p := fun vs _ => vs 19 = vs 18 ∧ True) [0, 1, 2, 3, 4, 5, 6, 7, 8, 9, 10, 11, 12, 13, 14, 15, 16, 17, 18, 19] [(27, 0), (28, 1), (29, 2), (30, 3), (31, 4), (32, 5), (33, 6), (34, 7), (35, 8), (36, 9), (37, 10), (38, 11), (39, 12), (40, 13), (41, 14), (42, 15), (43, 16), (44, 17), (45, 18), (3, 19)] (by kernel_rfl) (fun _ _ => by kernel_rfl) (fun vs wv h => ⟨(h 18 19 45 3 (by decide) (by kernel_rfl) (by kernel_rfl)).2.1 (by decide), trivial⟩) ?_
        intro vs wv hB hA hp
        have h0 : vs 0 = _ := hA.1
        have h1 : vs 1 = _ := hA.2.1
        have h2 : vs 2 = _ := hA.2.2.1
        have h3 : vs 3 = _ := hA.2.2.2.1
        have h4 : vs 4 = _ := hA.2.2.2.2.1
        have h5 : vs 5 = _ := hA.2.2.2.2.2.1
        have h6 : vs 6 = _ := hA.2.2.2.2.2.2.1
        have h7 : vs 7 = _ := hA.2.2.2.2.2.2.2.1
        have h8 : vs 8 = _ := hA.2.2.2.2.2.2.2.2.1
        have h9 : vs 9 = _ := hA.2.2.2.2.2.2.2.2.2.1
        have h10 : vs 10 = _ := hA.2.2.2.2.2.2.2.2.2.2.1
        have h11 : vs 11 = _ := hA.2.2.2.2.2.2.2.2.2.2.2.1
        have h12 : vs 12 = _ := hA.2.2.2.2.2.2.2.2.2.2.2.2.1
        have h13 : vs 13 = _ := hA.2.2.2.2.2.2.2.2.2.2.2.2.2.1
        have h14 : vs 14 = _ := hA.2.2.2.2.2.2.2.2.2.2.2.2.2.2.1
        have h15 : vs 15 = _ := hA.2.2.2.2.2.2.2.2.2.2.2.2.2.2.2.1
        have h16 : vs 16 = _ := hA.2.2.2.2.2.2.2.2.2.2.2.2.2.2.2.2.1
        have h17 : KdIn2 wo wv (vs 17) [⟨(bu, bd), (tu, td), hh, false⟩] := hA.2.2.2.2.2.2.2.2.2.2.2.2.2.2.2.2.2.1
        have hr18 : Row2.is w2.heap.size (rowK u3 row row2) (vs 18) wv ∧ (∀ g, (vs 18).ownBlock = some g → ((rowK (.slice none 0 0) [] [])).v.ownBlock ≠ some g) := hA.2.2.2.2.2.2.2.2.2.2.2.2.2.2.2.2.2.2.1
        clear hA
        simp only [fillP, List.setIfInBounds_toArray, List.set_cons_zero, List.set_cons_succ, h0, h1, h2, h3, h4, h5, h6, h7, h8, h9, h10, h11, h12, h13, h14, h15, h16]
        (obtain ⟨e19, -⟩ := hp; rw [e19]; have HO2 : Hid (ownsK wv w2.heap.size (vs 18) row2) := Lib.hid hr18.1; have HB2 : Hid (Below w2.heap.size w2 wv) := Lib.hid (HB.out.trans hB); clear hr18 hB; go_wp2_with fail; go_roundg p; (case measure => omega); (case rel => exact ⟨p, by go_num, by omega, Nat.le_refl _, by rw [E2.out]; exact HO2, HB2⟩))
    | zero =>
      have hz1 : ¬ (0 : Int) ≤ -1 := by omega
      have e0 : ((0 : Nat) : Int) - 1 = -1 := by omega
      rw [e0]
      rw [List.drop_zero] at HO
      have HK := Lib.hid HO.out.kids
      have B3 := Lib.hid (b_next B2.out HB.out)
      clear HO HB wi0
      go_upto_region 11 with (go_at_call 10; (with_reducible refine (KB1.out _ (HV.out.keep B3.out)).mono ?_); rintro e w3 ⟨vA, rfl, hO, hb⟩; obtain ⟨A2, c2, e2⟩ := own_len14 hO; rw [L1.out] at e2; subst e2; have OA := Lib.hid hO; have HK3 := Lib.hid (HK.out.keep (hb.mono (Nat.le_refl _))); have B4 := Lib.hid (b_next B3.out hb); clear hO hb)
      have C4 : Hid (Below w3.heap.size w3 (w3.alloc (.cells #[.slice A2 n c2, .int .i64 H2, .int .i64 p1, .int .i64 p2, .int .i64 p3, .int .i64 p4, .bool p5] 27))) := Lib.hid ((Below.refl _ _).alloc (Nat.le_refl _) _)
      have W4 : Hid (SkAt (w3.alloc (.cells #[.slice A2 n c2, .int .i64 H2, .int .i64 p1, .int .i64 p2, .int .i64 p3, .int .i64 p4, .bool p5] 27)) w3.heap.size (.slice A2 n c2) ⟨ats1, H2, (p1, p2), (p3, p4), p5⟩) := Lib.hid (SkAt.new w3 (.slice A2 n c2) ⟨ats1, H2, (p1, p2), (p3, p4), p5⟩)
      have B5 := Lib.hid (b_next B4.out C4.out)
      have O4 := Lib.hid (OA.out.keep C4.out)
      have K4 := Lib.hid (HK3.out.keep C4.out)
      clear C4 B4 OA HK3 HK KB1 B3
      generalize w3.alloc (.cells #[.slice A2 n c2, .int .i64 H2, .int .i64 p1, .int .i64 p2, .int .i64 p3, .int .i64 p4, .bool p5] 27) = w4 at W4 B5 O4 K4 ⊢
      generalize w3.heap.size = g1 at W4 ⊢
      go_upto_region 12 with (go_at_call 10; (with_reducible refine (KB2.out _ _ K4.out).mono ?_); rintro e w5 ⟨vA, rfl, hO, hb⟩; obtain ⟨A3, c3, e2⟩ := own_len14 hO; rw [L2.out] at e2; subst e2; have OB := Lib.hid hO; have W5 := Lib.hid (W4.out.keep hb); have O5 := Lib.hid (O4.out.keep hb); have B6 := Lib.hid (b_next B5.out hb); clear hO hb)
      have C6 : Hid (Below w5.heap.size w5 (w5.alloc (.cells #[.slice A3 n c3, .int .i64 H2, .int .i64 r1, .int .i64 r2, .int .i64 r3, .int .i64 r4, .bool r5] 27))) := Lib.hid ((Below.refl _ _).alloc (Nat.le_refl _) _)
      have X6 : Hid (SkAt (w5.alloc (.cells #[.slice A3 n c3, .int .i64 H2, .int .i64 r1, .int .i64 r2, .int .i64 r3, .int .i64 r4, .bool r5] 27)) w5.heap.size (.slice A3 n c3) ⟨ats2, H2, (r1, r2), (r3, r4), r5⟩) := Lib.hid (SkAt.new w5 (.slice A3 n c3) ⟨ats2, H2, (r1, r2), (r3, r4), r5⟩)
      have W6 := Lib.hid (W5.out.keep C6.out)
      have OA6 := Lib.hid (O5.out.keep C6.out)
      have OB6 := Lib.hid (OB.out.keep C6.out)
      have B7 := Lib.hid (b_next B6.out C6.out)
      clear C6 W5 O5 OB B6 B5 W4 O4 K4 KB2
      generalize w5.alloc (.cells #[.slice A3 n c3, .int .i64 H2, .int .i64 r1, .int .i64 r2, .int .i64 r3, .int .i64 r4, .bool r5] 27) = w6 at W6 X6 OA6 OB6 B7 ⊢
      generalize w5.heap.size = g2 at X6 ⊢
      obtain ⟨x0, x1, -, -, -, -, -⟩ := W6.out.cells
      obtain ⟨y0, y1, -, -, -, -, -⟩ := X6.out.cells
      dsimp only at x0 x1 y0 y1
      have nn : ((n : Int) != n) = (!true) := by simp
      have nh : ((H2 : Int) != H2) = (!true) := by simp
      go_upto_region 14 with fail
      clear x0 x1 y0 y1 nn nh
      go_wp2_with fail
      go_loopg [9] n (fun g' vi wr => ∃ k : Nat, vi = .int .i64 k ∧ k ≤ n ∧ n - k ≤ g' ∧ Hid (Below w6.heap.size w6 wr))
      case atStart => exact ⟨0, rfl, by omega, by omega, Lib.hid (Below.refl _ _)⟩
      case round =>
        obtain ⟨k, rfl, hk, hg2, HB⟩ := hrel
        obtain ⟨wo, hwo⟩ : ∃ wo, wo = wr := ⟨_, rfl⟩
        subst hwo
        have HS : Hid (∀ W, Below wo.heap.size wo W → Below w6.heap.size w6 W) := Lib.hid (fun W hW => HB.out.trans (hW.mono HB.out.size))
        have BZ := Lib.hid (b_next B7.out HB.out)
        have HC := Lib.hid ((W6.out.keep HB.out).cells.2.1)
        have hc := HC.out
        dsimp only at hc
        by_cases hlt : k < n
        · have hz1 : (k : Int) < n := by omega
          have hz0 : (0 : Int) ≤ k := by omega
          by_cases hp : 0 < H2
          · have wi : IntKind.i64.wrap ((k : Int) + 1) = (k : Int) + 1 := IntWalk.i64_in _ (by omega)
            have wi0 : IntKind.i64.wrap ((n : Int) - 1) = (n : Int) - 1 := IntWalk.i64_in _ (by omega)
            have wi2 : IntKind.i64.wrap ((n : Int) - 1 - k) = ((n - 1 - k : Nat) : Int) := by rw [IntWalk.i64_in _ (by omega)]; omega
            obtain ⟨x, hx1, hx2⟩ := TA.out k hlt hp
            have nx := N1.out x (List.mem_of_getElem? hx1)
            have ny := N2.out _ (List.mem_of_getElem? hx2)
            have NK : Hid (NearAt (kAt l k)) := Lib.hid (NA.out _ (by rw [kAt_get (by have := HL.out; omega)]; exact List.getElem_mem _))
            have nk1 := NK.out.1
            have nk2 := NK.out.2.1
            obtain ⟨b, off, c1, e', -, -, -⟩ := HV.out.get (i := k) (by have := HL.out; omega)
            injection e' with e1 e2 e3
            subst e1 e3
            clear e2 NK
            have VK := Lib.hid (KdIn.later (HV.out.keep B7.out) (k := k) (by have := HL.out; omega))
            obtain ⟨gr, cr, er, -, hgl, hcr⟩ := own_cell14 OA6.out (by intro e; have := L1.out; rw [e] at this; simp at this; omega)
            rw [L1.out] at er
            injection er with e1 e2 e3
            subst e1 e3
            clear e2
            obtain ⟨gs, cs, es, -, hgs, hcs⟩ := own_cell14 OB6.out (by intro e; have := L2.out; rw [e] at this; simp at this; omega)
            rw [L2.out] at es
            injection es with e1 e2 e3
            subst e1 e3
            clear e2
            have RC := Lib.hid (hcr k _ hx1)
            have RD := Lib.hid (hcs _ _ hx2)
            have hj0 : ((n - 1 - k : Nat) : Int) < n := by omega
            have hj1 : (0 : Int) ≤ ((n - 1 - k : Nat) : Int) := by omega
            clear hcr hcs hx1 hx2
            generalize n - 1 - k = r at wi2 RD hj0 hj1
            generalize kAt l k = kd at VK RD ny nk1 nk2
            obtain ⟨⟨tu, td⟩, ⟨bu, bd⟩, hh, thr⟩ := kd
            dsimp only at ny nk1 nk2 RD
            have b1 : IntKind.i64.wrap (H2 - x) = H2 - x := IntWalk.i64_in _ (by omega)
            obtain ⟨v, hv⟩ : ∃ v, H2 - x - hh = v := ⟨_, rfl⟩
            have b2 : IntKind.i64.wrap (H2 - x - hh) = v := by rw [IntWalk.i64_in _ (by omega)]; exact hv
            rw [hv] at RD ny
            clear hv
            have kk : (v != v) = (!true) := by simp
            have CT : Hid (∀ W, Below w6.heap.size w6 W → W.cell? ⟨b, off + k * 6 + 4, none⟩ = some (.int .i64 hh) ∧ W.cell? ⟨gr, k, none⟩ = some (.int .i64 x) ∧ W.cell? ⟨gs, r, none⟩ = some (.int .i64 v) ∧ W.cell? ⟨g1, 0, none⟩ = some (.slice (some ⟨gr, 0, none⟩) n c2) ∧ W.cell? ⟨g2, 0, none⟩ = some (.slice (some ⟨gs, 0, none⟩) n c3) ∧ W.cell? ⟨g1, 1, none⟩ = some (.int .i64 H2)) := Lib.hid (fun W hW =>
              ⟨(VK.out W hW).2.2.2.2.1, (hW.cell (p := ⟨gr, k, none⟩) hgl).trans RC.out, (hW.cell (p := ⟨gs, r, none⟩) hgs).trans RD.out, (W6.out.keep hW).cells.1, (X6.out.keep hW).cells.1, (W6.out.keep hW).cells.2.1⟩)
            have dp : decide (0 < H2) = true := decide_eq_true hp
            clear VK RC RD nx ny nk1 nk2 HC TA hgl hgs
            go_wp2_with fail
            clear hc
            refine' wp_region_below [opV _, opV _, opV _, opV _, opV _, opV _, opV _, opV _, opV _, opV _, opV _, opV _, opV _, opV _, opV _, opV _, opV _, opV _, opV _, opV _, opV _, opV _, opV _, opV _] rfl (by kernel_rfl) ⟨?s0, ?s1, ?s2, ?s3, ?s4, ?s5, ?s6, ?s7, ?s8, ?s9, ?s10, ?s11, ?s12, ?s13, ?s14, ?s15, ?s16, ?s17, ?s18, ?s19, ?s20, ?s21, ?s22, ?s23, trivial⟩ ?fin
            case s0 =>
              refine BStep.of [] [] (opV _) (by kernel_rfl) (fun _ _ => by kernel_rfl) rfl ?_
              intro vs wv hB hA
              clear hA
              simp only [fillP]
              have ct := CT.out wv (HS.out wv hB); have a4 := ct.1; have rc1 := ct.2.1; have rc2 := ct.2.2.1; have xc1 := ct.2.2.2.1; have xc2 := ct.2.2.2.2.1; have xh := ct.2.2.2.2.2; clear ct; go_wp2_with fail
              refine postB_val ?_ (Below.refl _ _)
              simp only [List.getElem?_cons_succ, List.getElem?_cons_zero]
              rfl
            case s1 =>
              refine BStep.of [0] [(96, 0)] (opV _) (by kernel_rfl) (fun _ _ => by kernel_rfl) rfl ?_
              intro vs wv hB hA
              have h0 : vs 0 = _ := hA.1
              clear hA
              simp only [fillP, List.setIfInBounds_toArray, List.set_cons_zero, List.set_cons_succ, h0]
              have ct := CT.out wv (HS.out wv hB); have a4 := ct.1; have rc1 := ct.2.1; have rc2 := ct.2.2.1; have xc1 := ct.2.2.2.1; have xc2 := ct.2.2.2.2.1; have xh := ct.2.2.2.2.2; clear ct; go_wp2_with fail
              refine postB_val ?_ (Below.refl _ _)
              simp only [List.getElem?_cons_succ, List.getElem?_cons_zero]
              rfl
            case s2 =>
              refine BStep.of [] [] (opV _) (by kernel_rfl) (fun _ _ => by kernel_rfl) rfl ?_
              intro vs wv hB hA
              clear hA
              simp only [fillP]
              have ct := CT.out wv (HS.out wv hB); have a4 := ct.1; have rc1 := ct.2.1; have rc2 := ct.2.2.1; have xc1 := ct.2.2.2.1; have xc2 := ct.2.2.2.2.1; have xh := ct.2.2.2.2.2; clear ct; go_wp2_with fail
              refine postB_val ?_ (Below.refl _ _)
              simp only [List.getElem?_cons_succ, List.getElem?_cons_zero]
              rfl
            case s3 =>
              refine BStep.of [2] [(98, 2)] (opV _) (by kernel_rfl) (fun _ _ => by kernel_rfl) rfl ?_
              intro vs wv hB hA
              have h2 : vs 2 = _ := hA.1
              clear hA
              simp only [fillP, List.setIfInBounds_toArray, List.set_cons_zero, List.set_cons_succ, h2]
              have ct := CT.out wv (HS.out wv hB); have a4 := ct.1; have rc1 := ct.2.1; have rc2 := ct.2.2.1; have xc1 := ct.2.2.2.1; have xc2 := ct.2.2.2.2.1; have xh := ct.2.2.2.2.2; clear ct; go_wp2_with fail
              refine postB_val ?_ (Below.refl _ _)
              simp only [List.getElem?_cons_succ, List.getElem?_cons_zero]
              rfl
            case s4 =>
              refine BStep.of [3] [(99, 3)] (opV _) (by kernel_rfl) (fun _ _ => by kernel_rfl) rfl ?_
              intro vs wv hB hA
              have h3 : vs 3 = _ := hA.1
              clear hA
              simp only [fillP, List.setIfInBounds_toArray, List.set_cons_zero, List.set_cons_succ, h3]
              have ct := CT.out wv (HS.out wv hB); have a4 := ct.1; have rc1 := ct.2.1; have rc2 := ct.2.2.1; have xc1 := ct.2.2.2.1; have xc2 := ct.2.2.2.2.1; have xh := ct.2.2.2.2.2; clear ct; go_wp2_with fail
              refine postB_val ?_ (Below.refl _ _)
              simp only [List.getElem?_cons_succ, List.getElem?_cons_zero]
              rfl
            case s5 =>
              refine BStep.of [] [] (opV _) (by kernel_rfl) (fun _ _ => by kernel_rfl) rfl ?_
              intro vs wv hB hA
              clear hA
              simp only [fillP]
              have ct := CT.out wv (HS.out wv hB); have a4 := ct.1; have rc1 := ct.2.1; have rc2 := ct.2.2.1; have xc1 := ct.2.2.2.1; have xc2 := ct.2.2.2.2.1; have xh := ct.2.2.2.2.2; clear ct; go_wp2_with fail
              refine postB_val ?_ (Below.refl _ _)
              simp only [List.getElem?_cons_succ, List.getElem?_cons_zero]
              rfl
            case s6 =>
              refine BStep.of [4, 5] [(100, 4), (101, 5)] (opV _) (by kernel_rfl) (fun _ _ => by kernel_rfl) rfl ?_
              intro vs wv hB hA
              have h4 : vs 4 = _ := hA.1
              have h5 : vs 5 = _ := hA.2.1
              clear hA
              simp only [fillP, List.setIfInBounds_toArray, List.set_cons_zero, List.set_cons_succ, h4, h5]
              have ct := CT.out wv (HS.out wv hB); have a4 := ct.1; have rc1 := ct.2.1; have rc2 := ct.2.2.1; have xc1 := ct.2.2.2.1; have xc2 := ct.2.2.2.2.1; have xh := ct.2.2.2.2.2; clear ct; go_wp2_with fail
              refine postB_val ?_ (Below.refl _ _)
              simp only [List.getElem?_cons_succ, List.getElem?_cons_zero]
              rfl
            case s7 =>
              refine BStep.of [1, 6] [(97, 1), (102, 6)] (opV _) (by kernel_rfl) (fun _ _ => by kernel_rfl) rfl ?_
              intro vs wv hB hA
              have h1 : vs 1 = _ := hA.1
              have h6 : vs 6 = _ := hA.2.1
              clear hA
              simp only [fillP, List.setIfInBounds_toArray, List.set_cons_zero, List.set_cons_succ, h1, h6]
              have ct := CT.out wv (HS.out wv hB); have a4 := ct.1; have rc1 := ct.2.1; have rc2 := ct.2.2.1; have xc1 := ct.2.2.2.1; have xc2 := ct.2.2.2.2.1; have xh := ct.2.2.2.2.2; clear ct; go_wp2_with fail
              refine postB_val ?_ (Below.refl _ _)
              simp only [List.getElem?_cons_succ, List.getElem?_cons_zero]
              rfl
            case s8 =>
              refine BStep.of [7] [(103, 7)] (opV _) (by kernel_rfl) (fun _ _ => by kernel_rfl) rfl ?_
              intro vs wv hB hA
              have h7 : vs 7 = _ := hA.1
              clear hA
              simp only [fillP, List.setIfInBounds_toArray, List.set_cons_zero, List.set_cons_succ, h7]
              have ct := CT.out wv (HS.out wv hB); have a4 := ct.1; have rc1 := ct.2.1; have rc2 := ct.2.2.1; have xc1 := ct.2.2.2.1; have xc2 := ct.2.2.2.2.1; have xh := ct.2.2.2.2.2; clear ct; go_wp2_with fail
              refine postB_val ?_ (Below.refl _ _)
              simp only [List.getElem?_cons_succ, List.getElem?_cons_zero]
              rfl
            case s9 =>
              refine BStep.of [] [] (opV _) (by kernel_rfl) (fun _ _ => by kernel_rfl) rfl ?_
              intro vs wv hB hA
              clear hA
              simp only [fillP]
              have ct := CT.out wv (HS.out wv hB); have a4 := ct.1; have rc1 := ct.2.1; have rc2 := ct.2.2.1; have xc1 := ct.2.2.2.1; have xc2 := ct.2.2.2.2.1; have xh := ct.2.2.2.2.2; clear ct; go_wp2_with fail
              refine postB_val ?_ (Below.refl _ _)
              simp only [List.getElem?_cons_succ, List.getElem?_cons_zero]
              rfl
            case s10 =>
              refine BStep.of [9] [(105, 9)] (opV _) (by kernel_rfl) (fun _ _ => by kernel_rfl) rfl ?_
              intro vs wv hB hA
              have h9 : vs 9 = _ := hA.1
              clear hA
              simp only [fillP, List.setIfInBounds_toArray, List.set_cons_zero, List.set_cons_succ, h9]
              have ct := CT.out wv (HS.out wv hB); have a4 := ct.1; have rc1 := ct.2.1; have rc2 := ct.2.2.1; have xc1 := ct.2.2.2.1; have xc2 := ct.2.2.2.2.1; have xh := ct.2.2.2.2.2; clear ct; go_wp2_with fail
              refine postB_val ?_ (Below.refl _ _)
              simp only [List.getElem?_cons_succ, List.getElem?_cons_zero]
              rfl
            case s11 =>
              refine BStep.of [] [] (opV _) (by kernel_rfl) (fun _ _ => by kernel_rfl) rfl ?_
              intro vs wv hB hA
              clear hA
              simp only [fillP]
              have ct := CT.out wv (HS.out wv hB); have a4 := ct.1; have rc1 := ct.2.1; have rc2 := ct.2.2.1; have xc1 := ct.2.2.2.1; have xc2 := ct.2.2.2.2.1; have xh := ct.2.2.2.2.2; clear ct; go_wp2_with fail
              refine postB_val ?_ (Below.refl _ _)
              simp only [List.getElem?_cons_succ, List.getElem?_cons_zero]
              rfl
            case s12 =>
              refine BStep.of [11] [(107, 11)] (opV _) (by kernel_rfl) (fun _ _ => by kernel_rfl) rfl ?_
              intro vs wv hB hA
              have h11 : vs 11 = _ := hA.1
              clear hA
              simp only [fillP, List.setIfInBounds_toArray, List.set_cons_zero, List.set_cons_succ, h11]
              have ct := CT.out wv (HS.out wv hB); have a4 := ct.1; have rc1 := ct.2.1; have rc2 := ct.2.2.1; have xc1 := ct.2.2.2.1; have xc2 := ct.2.2.2.2.1; have xh := ct.2.2.2.2.2; clear ct; go_wp2_with fail
              refine postB_val ?_ (Below.refl _ _)
              simp only [List.getElem?_cons_succ, List.getElem?_cons_zero]
              rfl
            case s13 =>
              refine BStep.of [] [] (opV _) (by kernel_rfl) (fun _ _ => by kernel_rfl) rfl ?_
              intro vs wv hB hA
              clear hA
              simp only [fillP]
              have ct := CT.out wv (HS.out wv hB); have a4 := ct.1; have rc1 := ct.2.1; have rc2 := ct.2.2.1; have xc1 := ct.2.2.2.1; have xc2 := ct.2.2.2.2.1; have xh := ct.2.2.2.2.2; clear ct; go_wp2_with fail
              refine postB_val ?_ (Below.refl _ _)
              simp only [List.getElem?_cons_succ, List.getElem?_cons_zero]
              rfl
            case s14 =>
              refine BStep.of [12, 13] [(108, 12), (109, 13)] (opV _) (by kernel_rfl) (fun _ _ => by kernel_rfl) rfl ?_
              intro vs wv hB hA
              have h12 : vs 12 = _ := hA.1
              have h13 : vs 13 = _ := hA.2.1
              clear hA
              simp only [fillP, List.setIfInBounds_toArray, List.set_cons_zero, List.set_cons_succ, h12, h13]
              have ct := CT.out wv (HS.out wv hB); have a4 := ct.1; have rc1 := ct.2.1; have rc2 := ct.2.2.1; have xc1 := ct.2.2.2.1; have xc2 := ct.2.2.2.2.1; have xh := ct.2.2.2.2.2; clear ct; go_wp2_with fail
              refine postB_val ?_ (Below.refl _ _)
              simp only [List.getElem?_cons_succ, List.getElem?_cons_zero]
              rfl
            case s15 =>
              refine BStep.of [14] [(110, 14)] (opV _) (by kernel_rfl) (fun _ _ => by kernel_rfl) rfl ?_
              intro vs wv hB hA
              have h14 : vs 14 = _ := hA.1
              clear hA
              simp only [fillP, List.setIfInBounds_toArray, List.set_cons_zero, List.set_cons_succ, h14]
              have ct := CT.out wv (HS.out wv hB); have a4 := ct.1; have rc1 := ct.2.1; have rc2 := ct.2.2.1; have xc1 := ct.2.2.2.1; have xc2 := ct.2.2.2.2.1; have xh := ct.2.2.2.2.2; clear ct; go_wp2_with fail
              refine postB_val ?_ (Below.refl _ _)
              simp only [List.getElem?_cons_succ, List.getElem?_cons_zero]
              rfl
            case s16 =>
              refine BStep.of [10, 15] [(106, 10), (111, 15)] (opV _) (by kernel_rfl) (fun _ _ => by kernel_rfl) rfl ?_
              intro vs wv hB hA
              have h10 : vs 10 = _ := hA.1
              have h15 : vs 15 = _ := hA.2.1
              clear hA
              simp only [fillP, List.setIfInBounds_toArray, List.set_cons_zero, List.set_cons_succ, h10, h15]
              have ct := CT.out wv (HS.out wv hB); have a4 := ct.1; have rc1 := ct.2.1; have rc2 := ct.2.2.1; have xc1 := ct.2.2.2.1; have xc2 := ct.2.2.2.2.1; have xh := ct.2.2.2.2.2; clear ct; go_wp2_with fail
              refine postB_val ?_ (Below.refl _ _)
              simp only [List.getElem?_cons_succ, List.getElem?_cons_zero]
              rfl
            case s17 =>
              refine BStep.of [] [] (opV _) (by kernel_rfl) (fun _ _ => by kernel_rfl) rfl ?_
              intro vs wv hB hA
              clear hA
              simp only [fillP]
              have ct := CT.out wv (HS.out wv hB); have a4 := ct.1; have rc1 := ct.2.1; have rc2 := ct.2.2.1; have xc1 := ct.2.2.2.1; have xc2 := ct.2.2.2.2.1; have xh := ct.2.2.2.2.2; clear ct; go_wp2_with fail
              refine postB_val ?_ (Below.refl _ _)
              simp only [List.getElem?_cons_succ, List.getElem?_cons_zero]
              rfl
            case s18 =>
              refine BStep.of [] [] (opV _) (by kernel_rfl) (fun _ _ => by kernel_rfl) rfl ?_
              intro vs wv hB hA
              clear hA
              simp only [fillP]
              have ct := CT.out wv (HS.out wv hB); have a4 := ct.1; have rc1 := ct.2.1; have rc2 := ct.2.2.1; have xc1 := ct.2.2.2.1; have xc2 := ct.2.2.2.2.1; have xh := ct.2.2.2.2.2; clear ct; go_wp2_with fail
              refine postB_val ?_ (Below.refl _ _)
              simp only [List.getElem?_cons_succ, List.getElem?_cons_zero]
              rfl
            case s19 =>
              refine BStep.of [17, 18] [(113, 17), (114, 18)] (opV _) (by kernel_rfl) (fun _ _ => by kernel_rfl) rfl ?_
              intro vs wv hB hA
              have h17 : vs 17 = _ := hA.1
              have h18 : vs 18 = _ := hA.2.1
              clear hA
              simp only [fillP, List.setIfInBounds_toArray, List.set_cons_zero, List.set_cons_succ, h17, h18]
              have ct := CT.out wv (HS.out wv hB); have a4 := ct.1; have rc1 := ct.2.1; have rc2 := ct.2.2.1; have xc1 := ct.2.2.2.1; have xc2 := ct.2.2.2.2.1; have xh := ct.2.2.2.2.2; clear ct; go_wp2_with fail
              refine postB_val ?_ (Below.refl _ _)
              simp only [List.getElem?_cons_succ, List.getElem?_cons_zero]
              rfl
            case s20 =>
              refine BStep.of [19] [(115, 19)] (opV _) (by kernel_rfl) (fun _ _ => by kernel_rfl) rfl ?_
              intro vs wv hB hA
              have h19 : vs 19 = _ := hA.1
              clear hA
              simp only [fillP, List.setIfInBounds_toArray, List.set_cons_zero, List.set_cons_succ, h19]
              have ct := CT.out wv (HS.out wv hB); have a4 := ct.1; have rc1 := ct.2.1; have rc2 := ct.2.2.1; have xc1 := ct.2.2.2.1; have xc2 := ct.2.2.2.2.1; have xh := ct.2.2.2.2.2; clear ct; go_wp2_with fail
              refine postB_val ?_ (Below.refl _ _)
              simp only [List.getElem?_cons_succ, List.getElem?_cons_zero]
              rfl
            case s21 =>
              refine BStep.of [20] [(116, 20)] (opV _) (by kernel_rfl) (fun _ _ => by kernel_rfl) rfl ?_
              intro vs wv hB hA
              have h20 : vs 20 = _ := hA.1
              clear hA
              simp only [fillP, List.setIfInBounds_toArray, List.set_cons_zero, List.set_cons_succ, h20]
              have ct := CT.out wv (HS.out wv hB); have a4 := ct.1; have rc1 := ct.2.1; have rc2 := ct.2.2.1; have xc1 := ct.2.2.2.1; have xc2 := ct.2.2.2.2.1; have xh := ct.2.2.2.2.2; clear ct; go_wp2_with fail
              refine postB_val ?_ (Below.refl _ _)
              simp only [List.getElem?_cons_succ, List.getElem?_cons_zero]
              rfl
            case s22 =>
              refine BStep.of [16, 21] [(112, 16), (117, 21)] (opV _) (by kernel_rfl) (fun _ _ => by kernel_rfl) rfl ?_
              intro vs wv hB hA
              have h16 : vs 16 = _ := hA.1
              have h21 : vs 21 = _ := hA.2.1
              clear hA
              simp only [fillP, List.setIfInBounds_toArray, List.set_cons_zero, List.set_cons_succ, h16, h21]
              have ct := CT.out wv (HS.out wv hB); have a4 := ct.1; have rc1 := ct.2.1; have rc2 := ct.2.2.1; have xc1 := ct.2.2.2.1; have xc2 := ct.2.2.2.2.1; have xh := ct.2.2.2.2.2; clear ct; go_wp2_with fail
              refine postB_val ?_ (Below.refl _ _)
              simp only [List.getElem?_cons_succ, List.getElem?_cons_zero]
              rfl
            case s23 =>
              refine BStep.of [8, 22] [(104, 8), (118, 22)] (opV _) (by kernel_rfl) (fun _ _ => by kernel_rfl) rfl ?_
              intro vs wv hB hA
              have h8 : vs 8 = _ := hA.1
              have h22 : vs 22 = _ := hA.2.1
              clear hA
              simp only [fillP, List.setIfInBounds_toArray, List.set_cons_zero, List.set_cons_succ, h8, h22]
              have ct := CT.out wv (HS.out wv hB); have a4 := ct.1; have rc1 := ct.2.1; have rc2 := ct.2.2.1; have xc1 := ct.2.2.2.1; have xc2 := ct.2.2.2.2.1; have xh := ct.2.2.2.2.2; clear ct; go_wp2_with fail
              refine postB_val ?_ (Below.refl _ _)
              simp only [List.getElem?_cons_succ, List.getElem?_cons_zero]
              rfl
            case fin =>
              refine fin_of [0, 1, 2, 3, 4, 5, 6, 7, 8, 9, 10, 11, 12, 13, 14, 15, 16, 17, 18, 19, 20, 21, 22, 23] [(96, 0), (97, 1), (98, 2), (99, 3), (100, 4), (101, 5), (102, 6), (103, 7), (104, 8), (105, 9), (106, 10), (107, 11), (108, 12), (109, 13), (110, 14), (111, 15), (112, 16), (113, 17), (114, 18), (115, 19), (116, 20), (117, 21), (118, 22), (119, 23)] (by kernel_rfl) (fun _ _ => by kernel_rfl) ?_
              intro vs wv hB hA
              have h0 : vs 0 = _ := hA.1
              have h1 : vs 1 = _ := hA.2.1
              have h2 : vs 2 = _ := hA.2.2.1
              have h3 : vs 3 = _ := hA.2.2.2.1
              have h4 : vs 4 = _ := hA.2.2.2.2.1
              have h5 : vs 5 = _ := hA.2.2.2.2.2.1
              have h6 : vs 6 = _ := hA.2.2.2.2.2.2.1
              have h7 : vs 7 = _ := hA.2.2.2.2.2.2.2.1
              have h8 : vs 8 = _ := hA.2.2.2.2.2.2.2.2.1
              have h9 : vs 9 = _ := hA.2.2.2.2.2.2.2.2.2.1
              have h10 : vs 10 = _ := hA.2.2.2.2.2.2.2.2.2.2.1
              have h11 : vs 11 = _ := hA.2.2.2.2.2.2.2.2.2.2.2.1
              have h12 : vs 12 = _ := hA.2.2.2.2.2.2.2.2.2.2.2.2.1
              have h13 : vs 13 = _ := hA.2.2.2.2.2.2.2.2.2.2.2.2.2.1
              have h14 : vs 14 = _ := hA.2.2.2.2.2.2.2.2.2.2.2.2.2.2.1
              have h15 : vs 15 = _ := hA.2.2.2.2.2.2.2.2.2.2.2.2.2.2.2.1
              have h16 : vs 16 = _ := hA.2.2.2.2.2.2.2.2.2.2.2.2.2.2.2.2.1
              have h17 : vs 17 = _ := hA.2.2.2.2.2.2.2.2.2.2.2.2.2.2.2.2.2.1
              have h18 : vs 18 = _ := hA.2.2.2.2.2.2.2.2.2.2.2.2.2.2.2.2.2.2.1
              have h19 : vs 19 = _ := hA.2.2.2.2.2.2.2.2.2.2.2.2.2.2.2.2.2.2.2.1
              have h20 : vs 20 = _ := hA.2.2.2.2.2.2.2.2.2.2.2.2.2.2.2.2.2.2.2.2.1
              have h21 : vs 21 = _ := hA.2.2.2.2.2.2.2.2.2.2.2.2.2.2.2.2.2.2.2.2.2.1
              have h22 : vs 22 = _ := hA.2.2.2.2.2.2.2.2.2.2.2.2.2.2.2.2.2.2.2.2.2.2.1
              have h23 : vs 23 = _ := hA.2.2.2.2.2.2.2.2.2.2.2.2.2.2.2.2.2.2.2.2.2.2.2.1
              clear hA
              simp only [fillP, List.setIfInBounds_toArray, List.set_cons_zero, List.set_cons_succ, h0, h1, h2, h3, h4, h5, h6, h7, h8, h9, h10, h11, h12, h13, h14, h15, h16, h17, h18, h19, h20, h21, h22, h23]
              go_wp2_with fail; go_roundg (n - (k + 1)); (case measure => omega); (case rel => exact ⟨k + 1, by go_num, by omega, Nat.le_refl _, Lib.hid (HS.out wv hB)⟩)
          · have dp : decide (0 < H2) = false := decide_eq_false hp
            go_wp2_with fail
            go_ret
            exact ⟨by first | rfl | simp, BZ.out⟩
        · obtain rfl : k = n := by omega
          have hz1 : ¬ (k : Int) < k := by omega
          go_wp2_with fail
          go_ret
          exact ⟨by first | rfl | simp, BZ.out⟩
end Go.Proofs.Ytidbfkbeploagaa
