/-
  The law BlockBehind: of any Stack that answers as is asked.
-/
import Derived.Test.YtidbfkbeploagaaBehindM14
import Derived.Test.YtidbfkbeploagaaThroughW14
namespace Go.Proofs.Ytidbfkbeploagaa
open Go.RowKit

theorem new_kidB (W : World) (T : TypeId) (t b : Mg) (h : Int) (r : Bool) : KdIn (W.alloc (.cells #[.int .i64 t.1, .int .i64 t.2, .int .i64 b.1, .int .i64 b.2, .int .i64 h, .bool r] T)) (.slice (some ⟨W.heap.size, 0, none⟩) 1 1) [⟨t, b, h, r⟩] := kids_new [⟨t, b, h, r⟩] (by simp) T
theorem cells_keepB {W W' : World} {g : Nat} {P : List Int} (h : ∀ (i : Nat) (y : Int), P[i]? = some y → W.cell? ⟨g, i, none⟩ = some (.int .i64 y)) (hb : Below W.heap.size W W') : ∀ (i : Nat) (y : Int), P[i]? = some y → W'.cell? ⟨g, i, none⟩ = some (.int .i64 y) := fun i y hy =>
  (hb.cell (p := ⟨g, i, none⟩) (World.block_lt_of_cell? W _ (h i y hy))).trans (h i y hy)
theorem near_bigA {l : List Kd} (h : ∀ k ∈ l, NearAt k) : BigK l := fun i hi y hy => by
  have g := near_good (h (kAt l i) (by rw [kAt_get hi]; exact List.getElem_mem _))
  have g1 := g.h
  have g2 := g.t
  have g3 := g.b
  unfold MayM at g2 g3
  simp only [List.mem_cons, List.not_mem_nil, or_false] at hy
  rcases hy with rfl | rfl | rfl | rfl | rfl <;> omega
theorem near_one {k : Kd} (h : NearK [k]) : NearAt k := h.2 0 (by simp)
set_option maxRecDepth 100000 in
set_option maxHeartbeats 8000000 in
theorem behind14 (hS : StackOK 10) (hM : MayOK13 38) (hA : AwakeOK14 12) (A : Option Addr) (n c : Nat) (l : List Kd) (k0 : Kd) (A2 : Option Addr) (n2 c2 : Nat) (m : List Kd) (w : World) (hv : KdIn w (.slice A n c) l) (hl : l.length = n) (hn : n ≤ 140737488351232) (hv2 : KdIn w (.slice A2 n2 c2) m) (hl2 : m.length = n2) (hn2 : n2 ≤ 140737488351232) :
    Calls Try.prog 8 #[.slice A n c, kdV k0, .slice A2 n2 c2] w fun e w' => e = .returned (.bool true) ∧ Below w.heap.size w w' := by
  obtain ⟨⟨tu, td⟩, ⟨bu, bd⟩, hh, thr⟩ := k0
  have KA := Lib.hid (fun W => hA W)
  have HV := Lib.hid hv
  have HL := Lib.hid hl
  have HV2 := Lib.hid hv2
  have HL2 := Lib.hid hl2
  have KN1 := Lib.hid (fun W (hW : KdIn W (.slice A n c) l) => near_any hM l _ W hW (by omega))
  have KN2 := Lib.hid (fun W (hW : KdIn W (.slice A2 n2 c2) m) => near_any hM m _ W hW (by omega))
  have KN3 := Lib.hid (fun W v (hW : KdIn W v [⟨(tu, td), (bu, bd), hh, false⟩]) => near_any hM [⟨(tu, td), (bu, bd), hh, false⟩] v W hW (by simp))
  have HS0 := Lib.hid hS
  clear hA hM hS hl hv hl2 hv2
  have B0 : Hid (Below w.heap.size w (w.alloc (.cells #[.int .i64 tu, .int .i64 td, .int .i64 bu, .int .i64 bd, .int .i64 hh, .bool thr] 35))) := Lib.hid ((Below.refl _ w).alloc (Nat.le_refl _) _)
  have X0 : Hid ((w.alloc (.cells #[.int .i64 tu, .int .i64 td, .int .i64 bu, .int .i64 bd, .int .i64 hh, .bool thr] 35)).heap[w.heap.size]? = some (.cells #[.int .i64 tu, .int .i64 td, .int .i64 bu, .int .i64 bd, .int .i64 hh, .bool thr] 35)) := Lib.hid (heap_alloc_new w _)
  unfold kdV
  dsimp only
  go_enter Try.func8, Try.ntmps8
  go_upto_region 1 with fail
  obtain ⟨p, hp⟩ : ∃ p, w.heap.size = p := ⟨_, rfl⟩
  rw [hp] at X0
  have HP := Lib.hid hp
  generalize w.alloc (.cells #[.int .i64 tu, .int .i64 td, .int .i64 bu, .int .i64 bd, .int .i64 hh, .bool thr] 35) = w0 at B0 X0 ⊢
  rw [hp]
  go_upto_region 3 with (go_at_call 12; (with_reducible refine (KA.out _).mono ?_); rintro e w1 ⟨rfl, hb⟩; have B1 := Lib.hid (b_next B0.out hb); have X1 := Lib.hid ((hb.block p (Array.getElem?_eq_some_iff.1 X0.out).1).trans X0.out); clear hb)
  have c5 : w1.cell? ⟨p, 5, none⟩ = some (.bool thr) := by
    have := X1.out
    simp [World.cell?, this]
  have f5 : w1.frozen? ⟨p, 5, none⟩ = false := by
    have := X1.out
    simp [World.frozen?, this]
  have B2 : Hid (Below w.heap.size w (w1.setCell ⟨p, 5, none⟩ (.bool false))) := Lib.hid (B1.out.setCell (by show w.heap.size ≤ p; have := HP.out; omega) _)
  have X2 : Hid ((w1.setCell ⟨p, 5, none⟩ (.bool false)).heap[p]? = some (.cells #[.int .i64 tu, .int .i64 td, .int .i64 bu, .int .i64 bd, .int .i64 hh, .bool false] 35)) := Lib.hid (by
    have := X1.out
    simp [World.setCell, Array.getElem?_modify, this])
  clear KA B0 X0
  go_upto_region 4 with fail
  clear c5 f5 B1 X1 hp
  generalize w1.setCell ⟨p, 5, none⟩ (.bool false) = w2 at B2 X2 ⊢
  have X3 : Hid (∀ W, Below w2.heap.size w2 W → KdAt W p 0 ⟨(tu, td), (bu, bd), hh, false⟩) := Lib.hid (fun W hW => by
    have := (hW.block p (Array.getElem?_eq_some_iff.1 X2.out).1).trans X2.out
    unfold KdAt
    simp [World.cell?, this])
  have BW : Hid (∀ W, Below w2.heap.size w2 W → Below w.heap.size w W) := Lib.hid (fun W hW => b_next B2.out hW)
  by_cases hn1 : NearK l
  case neg =>
    rw [decide_eq_false hn1] at KN1
    clear HS0 KN2 KN3 hn1
    go_wp2_with (go_at_call 13; (with_reducible refine (KN1.out _ (HV.out.keep B2.out)).mono ?_); rintro e w3 ⟨rfl, hb⟩; have B3 := Lib.hid (b_next B2.out hb); clear hb)
    go_ret
    exact ⟨rfl, B3.out⟩
  by_cases hnm : NearK m
  case neg =>
    rw [decide_eq_true hn1] at KN1
    rw [decide_eq_false hnm] at KN2
    clear HS0 KN3 hn1 hnm
    go_wp2_with (first
      | (go_at_call 13; (with_reducible refine (KN1.out _ (HV.out.keep B2.out)).mono ?_); rintro e w3 ⟨rfl, hb⟩; have B3 := Lib.hid (b_next B2.out hb); clear KN1 hb)
      | (go_at_call 13; (with_reducible refine (KN2.out _ (HV2.out.keep B3.out)).mono ?_); rintro e w4 ⟨rfl, hb⟩; have B4 := Lib.hid (b_next B3.out hb); clear hb))
    go_ret
    exact ⟨rfl, B4.out⟩
  have D2 : Hid (Below w2.heap.size w2 w2) := Lib.hid (Below.refl _ _)
  by_cases hnk : NearK [⟨(tu, td), (bu, bd), hh, false⟩]
  case neg =>
    rw [decide_eq_true hn1] at KN1
    rw [decide_eq_true hnm] at KN2
    rw [decide_eq_false hnk] at KN3
    clear HS0 hn1 hnm hnk
    go_wp2_with (first
      | (go_at_call 13; (with_reducible refine (KN1.out _ (HV.out.keep B2.out)).mono ?_); rintro e w3 ⟨rfl, hb⟩; have B3 := Lib.hid (b_next B2.out hb); have D3 := Lib.hid (b_next D2.out hb); clear KN1 hb)
      | (go_at_call 13; (with_reducible refine (KN2.out _ (HV2.out.keep B3.out)).mono ?_); rintro e w4 ⟨rfl, hb⟩; have B4 := Lib.hid (b_next B3.out hb); have D4 := Lib.hid (b_next D3.out hb); clear KN2 hb; obtain ⟨a0, a1, a2, a3, a4, a5⟩ := X3.out _ D4.out; dsimp only at a0 a1 a2 a3 a4 a5; have NK := Lib.hid (new_kidB w4 35 (tu, td) (bu, bd) hh false))
      | (go_at_call 13; (with_reducible refine (KN3.out _ _ NK.out).mono ?_); rintro e w5 ⟨rfl, hb⟩; have B5 := Lib.hid (b_next (B4.out.alloc B4.out.size _) hb); clear hb))
    go_ret
    exact ⟨rfl, B5.out⟩
  have NA1 := Lib.hid (near_all hn1)
  have NA2 := Lib.hid (near_all hnm)
  have NA3 := Lib.hid (near_one hnk)
  rw [decide_eq_true hn1] at KN1
  rw [decide_eq_true hnm] at KN2
  rw [decide_eq_true hnk] at KN3
  clear hn1 hnm hnk
  by_cases h1 : 100 < n
  case pos =>
    have d1 : decide ((100 : Int) < n) = true := decide_eq_true (by omega)
    have d1' : (100 : Int) < n := by omega
    clear HS0
    go_wp2_with (first
      | (go_at_call 13; (with_reducible refine (KN1.out _ (HV.out.keep B2.out)).mono ?_); rintro e w3 ⟨rfl, hb⟩; have B3 := Lib.hid (b_next B2.out hb); have D3 := Lib.hid (b_next D2.out hb); clear KN1 hb)
      | (go_at_call 13; (with_reducible refine (KN2.out _ (HV2.out.keep B3.out)).mono ?_); rintro e w4 ⟨rfl, hb⟩; have B4 := Lib.hid (b_next B3.out hb); have D4 := Lib.hid (b_next D3.out hb); clear KN2 hb; obtain ⟨a0, a1, a2, a3, a4, a5⟩ := X3.out _ D4.out; dsimp only at a0 a1 a2 a3 a4 a5; have NK := Lib.hid (new_kidB w4 35 (tu, td) (bu, bd) hh false))
      | (go_at_call 13; (with_reducible refine (KN3.out _ _ NK.out).mono ?_); rintro e w5 ⟨rfl, hb⟩; have B5 := Lib.hid (b_next (B4.out.alloc B4.out.size _) hb); clear hb))
    go_ret
    exact ⟨rfl, B5.out⟩
  have d1 : decide ((100 : Int) < n) = false := decide_eq_false (by omega)
  by_cases h2 : 100 < n2
  case pos =>
    have d2 : decide ((100 : Int) < n2) = true := decide_eq_true (by omega)
    have d2' : (100 : Int) < n2 := by omega
    clear HS0
    go_wp2_with (first
      | (go_at_call 13; (with_reducible refine (KN1.out _ (HV.out.keep B2.out)).mono ?_); rintro e w3 ⟨rfl, hb⟩; have B3 := Lib.hid (b_next B2.out hb); have D3 := Lib.hid (b_next D2.out hb); clear KN1 hb)
      | (go_at_call 13; (with_reducible refine (KN2.out _ (HV2.out.keep B3.out)).mono ?_); rintro e w4 ⟨rfl, hb⟩; have B4 := Lib.hid (b_next B3.out hb); have D4 := Lib.hid (b_next D3.out hb); clear KN2 hb; obtain ⟨a0, a1, a2, a3, a4, a5⟩ := X3.out _ D4.out; dsimp only at a0 a1 a2 a3 a4 a5; have NK := Lib.hid (new_kidB w4 35 (tu, td) (bu, bd) hh false))
      | (go_at_call 13; (with_reducible refine (KN3.out _ _ NK.out).mono ?_); rintro e w5 ⟨rfl, hb⟩; have B5 := Lib.hid (b_next (B4.out.alloc B4.out.size _) hb); clear hb))
    go_ret
    exact ⟨rfl, B5.out⟩
  have d2 : decide ((100 : Int) < n2) = false := decide_eq_false (by omega)
  -- mathematics
  obtain ⟨L1, hL1⟩ : ∃ L, l ++ [⟨(tu, td), (bu, bd), hh, false⟩] ++ m = L := ⟨_, rfl⟩
  obtain ⟨L2, hL2⟩ : ∃ L, [botK ⟨(tu, td), (bu, bd), hh, false⟩] ++ m = L := ⟨_, rfl⟩
  have NB1 : Hid (∀ x ∈ L1, NearAt x) := Lib.hid (fun x hx => by
    rw [← hL1] at hx
    rcases List.mem_append.1 hx with hx | hx
    · rcases List.mem_append.1 hx with hx | hx
      · exact NA1.out x hx
      · obtain rfl := List.mem_singleton.1 hx; exact NA3.out
    · exact NA2.out x hx)
  have NB2 : Hid (∀ x ∈ L2, NearAt x) := Lib.hid (fun x hx => by
    rw [← hL2] at hx
    rcases List.mem_append.1 hx with hx | hx
    · obtain rfl := List.mem_singleton.1 hx
      exact ⟨by show (0 : Int) ≤ 0; omega, by show (0 : Int) ≤ _; omega, by simp [botK], mgZ_small, NA3.out.2.2.2.2⟩
    · exact NA2.out x hx)
  have LL1 : Hid (L1.length = n + 1 + n2) := Lib.hid (by rw [← hL1, List.length_append, List.length_append, HL.out, HL2.out]; rfl)
  have LL2 : Hid (L2.length = 1 + n2) := Lib.hid (by rw [← hL2, List.length_append, HL2.out]; rfl)
  have T1 := Lib.hid (told_half L1)
  have T2 := Lib.hid (told_half L2)
  have KB1 := Lib.hid (fun W v (hW : KdIn W v L1) => HS0.out L1 v false true W hW (by have := LL1.out; omega) (near_bigA NB1.out))
  have KB2 := Lib.hid (fun W v (hW : KdIn W v L2) => HS0.out L2 v false true W hW (by have := LL2.out; omega) (near_bigA NB2.out))
  rw [near_told14 NB1.out (by have := LL1.out; omega) false true] at KB1
  rw [near_told14 NB2.out (by have := LL2.out; omega) false true] at KB2
  have BT : Hid ((toldS L1 false true).bot = (toldS L2 false true).bot) := Lib.hid (by rw [← hL1, ← hL2]; exact behind_bot rfl)
  have AT : Hid (∀ i, i < n2 → ∃ e y : Int, (toldS L1 false true).ats[n]? = some e ∧ (toldS L2 false true).ats[1 + i]? = some y ∧ (toldS L1 false true).ats[n + 1 + i]? = some (e + hh + y)) := Lib.hid (fun i hi => by
    have := behind_at (l := l) (m := m) (k := ⟨(tu, td), (bu, bd), hh, false⟩) rfl (i := i) (by have := HL2.out; omega)
    rw [HL.out] at this
    rw [← hL1, ← hL2]
    exact this)
  have YB1 := Lib.hid (ats_n NB1.out (by have := LL1.out; omega) false)
  have YB2 := Lib.hid (ats_n NB2.out (by have := LL2.out; omega) false)
  have AL1 : Hid ((atsS (startS false) L1).length = n + 1 + n2) := Lib.hid (by rw [atsS_len]; exact LL1.out)
  have AL2 : Hid ((atsS (startS false) L2).length = 1 + n2) := Lib.hid (by rw [atsS_len]; exact LL2.out)
  obtain ⟨R1, hR1⟩ : ∃ R, toldS L1 false true = R := ⟨_, rfl⟩
  obtain ⟨R2, hR2⟩ : ∃ R, toldS L2 false true = R := ⟨_, rfl⟩
  rw [hR1] at KB1 T1 BT AT
  rw [hR2] at KB2 T2 BT AT
  generalize atsS (startS false) L1 = P at T1 AL1 YB1
  generalize atsS (startS false) L2 = Q at T2 AL2 YB2
  obtain ⟨ats1, H1, ⟨p1, p2⟩, ⟨s1, s2⟩, p5⟩ := R1
  obtain ⟨ats2, H2, ⟨r1, r2⟩, ⟨r3, r4⟩, r5⟩ := R2
  unfold skV at KB1 KB2
  dsimp only at KB1 KB2 T1 T2 BT AT
  obtain ⟨eA, -, rfl⟩ := T1.out
  obtain rfl := eA.symm
  obtain ⟨eA, -, rfl⟩ := T2.out
  obtain rfl := eA.symm
  obtain ⟨rfl, rfl⟩ : r3 = s1 ∧ r4 = s2 := by
    have := BT.out
    simp only [Prod.mk.injEq] at this
    exact ⟨this.1.symm, this.2.symm⟩
  obtain ⟨N1, hN1⟩ : ∃ N, n + 1 + n2 = N := ⟨_, rfl⟩
  obtain ⟨N2, hN2⟩ : ∃ N, 1 + n2 = N := ⟨_, rfl⟩
  rw [hN1] at LL1 AL1
  rw [hN2] at LL2 AL2
  have EL1 := Lib.hid hL1
  have EL2 := Lib.hid hL2
  have HHB : Hid (0 ≤ hh ∧ hh ≤ 268435456) := Lib.hid ⟨NA3.out.1, NA3.out.2.1⟩
  clear T1 T2 BT hR1 hR2 hL1 hL2 HS0 NA1 NA2 NA3 NB1 NB2 eA
  have d1' : ¬ (100 : Int) < n := by omega
  have d2' : ¬ (100 : Int) < n2 := by omega
  go_upto_region 6 with (first
      | (go_at_call 13; (with_reducible refine (KN1.out _ (HV.out.keep B2.out)).mono ?_); rintro e w3 ⟨rfl, hb⟩; have B3 := Lib.hid (b_next B2.out hb); have D3 := Lib.hid (b_next D2.out hb); clear KN1 hb)
      | (go_at_call 13; (with_reducible refine (KN2.out _ (HV2.out.keep B3.out)).mono ?_); rintro e w4 ⟨rfl, hb⟩; have B4 := Lib.hid (b_next B3.out hb); have D4 := Lib.hid (b_next D3.out hb); clear KN2 hb; obtain ⟨a0, a1, a2, a3, a4, a5⟩ := X3.out _ D4.out; dsimp only at a0 a1 a2 a3 a4 a5; have NK := Lib.hid (new_kidB w4 35 (tu, td) (bu, bd) hh false))
      | (go_at_call 13; (with_reducible refine (KN3.out _ _ NK.out).mono ?_); rintro e w5 ⟨rfl, hb⟩; have D5 := Lib.hid (b_next (D4.out.alloc D4.out.size _) hb); clear hb))
  clear d1 d2 d1' d2' a0 a1 a2 a3 a4 a5 NK B3 B4 D3 D4 KN3
  have E5 : Hid (w2.heap.size ≤ w5.heap.size) := Lib.hid D5.out.size
  go_upto_region 8 with ((with_reducible change wpList _ _ _ (Oper.mk (some 44) _ _ _ _ _ :: _) _ _); refine wpList_append_kids rfl _ _ rfl w5.heap.size (.slice none 0 0) [] rfl (ownsK.nil _ _) l (.slice A n c) rfl (HV.out.keep (BW.out _ D5.out)) (by have := HL.out; simp only [List.length_nil]; omega) (Nat.le_refl _) ?_; intro v6 w6 hO hB _; have D6 := Lib.hid (D5.out.trans (hB.mono D5.out.size)); have S6 := Lib.hid hB.size; have O6 := Lib.hid hO; clear hO hB)
  obtain ⟨a0, a1, a2, a3, a4, a5⟩ := X3.out _ D6.out
  dsimp only at a0 a1 a2 a3 a4 a5
  rw [List.nil_append] at O6
  obtain ⟨A6, c6, e6, -, -, -⟩ := own_form O6.out
  rw [HL.out] at e6
  subst e6
  have ol6 : Hid (l.length + 1 ≤ 100000) := Lib.hid (by rw [HL.out]; omega)
  go_upto_region 9 with ((with_reducible change wpList _ _ _ (Oper.mk (some 48) _ _ _ _ _ :: _) _ _); refine wpList_append_kids rfl _ _ rfl w5.heap.size _ l rfl (O6.out.keep ((Below.refl _ _).alloc (Nat.le_refl _) _)) [⟨(tu, td), (bu, bd), hh, false⟩] _ rfl (new_kidB w6 35 (tu, td) (bu, bd) hh false) ol6.out (by rw [World.size_alloc]; have := S6.out; omega) ?_; intro v7 w7 hO hB _; have S7 := Lib.hid (Nat.le_trans (by have := S6.out; rw [World.size_alloc]; omega) hB.size : w5.heap.size ≤ w7.heap.size); have D7 := Lib.hid ((D6.out.alloc D6.out.size _).trans (hB.mono E5.out)); have O7 := Lib.hid hO; clear hO hB)
  clear a0 a1 a2 a3 a4 a5 O6 ol6
  obtain ⟨L7, hL7⟩ : ∃ L, l ++ [⟨(tu, td), (bu, bd), hh, false⟩] = L := ⟨_, rfl⟩
  have HL7 : Hid (L7.length = n + 1) := Lib.hid (by rw [← hL7, List.length_append, HL.out]; rfl)
  rw [hL7] at O7 EL1
  obtain ⟨A7, c7, e7, -, -, -⟩ := own_form O7.out
  obtain ⟨N7, hN7⟩ : ∃ N, n + 1 = N := ⟨_, rfl⟩
  rw [HL7.out, hN7] at e7
  subst e7
  have ol7 : Hid (L7.length + m.length ≤ 100000) := Lib.hid (by rw [HL7.out, HL2.out]; omega)
  go_upto_region 10 with ((with_reducible change wpList _ _ _ (Oper.mk (some 51) _ _ _ _ _ :: _) _ _); refine wpList_append_kids rfl _ _ rfl w5.heap.size _ L7 rfl O7.out m (.slice A2 n2 c2) rfl (HV2.out.keep (BW.out _ D7.out)) ol7.out S7.out ?_; intro v8 w8 hO hB _; have D8 := Lib.hid (D7.out.trans (hB.mono E5.out)); have O8 := Lib.hid hO; clear hO hB)
  clear O7 ol7 hN7 hL7
  rw [EL1.out] at O8
  obtain ⟨A8, c8, e8, -, -, -⟩ := own_form O8.out
  rw [LL1.out] at e8
  subst e8
  have V8 := Lib.hid O8.out.kids
  obtain ⟨a0, a1, a2, a3, a4, a5⟩ := X3.out _ D8.out
  dsimp only at a0 a1 a2 a3 a4 a5
  have NK := Lib.hid (new_kidB w8 35 (0, 0) (bu, bd) 0 false)
  go_upto_region 11 with ((with_reducible change wpList _ _ _ (Oper.mk (some 57) _ _ _ _ _ :: _) _ _); refine wpList_append_kids rfl _ _ rfl w8.heap.size (.slice none 0 0) [] rfl (ownsK.nil _ _) [⟨(0, 0), (bu, bd), 0, false⟩] _ rfl NK.out (by show (0 : Nat) + 1 ≤ _; omega) (by rw [World.size_alloc]; omega) ?_; intro v9 w9 hO hB _; have S9 := Lib.hid (Nat.le_trans (by rw [World.size_alloc]; omega) hB.size : w8.heap.size ≤ w9.heap.size); have U9 := Lib.hid (((Below.refl _ w8).alloc (Nat.le_refl _) _).trans hB); have O9 := Lib.hid hO; clear hO hB)
  clear a0 a1 a2 a3 a4 a5 NK
  have D9 := Lib.hid (b_next D8.out U9.out)
  have V9 := Lib.hid (V8.out.keep U9.out)
  obtain ⟨L9, hL9⟩ : ∃ L, ([] ++ [⟨(0, 0), (bu, bd), 0, false⟩] : List Kd) = L := ⟨_, rfl⟩
  have HL9 : Hid (L9.length = 1) := Lib.hid (by rw [← hL9]; rfl)
  have EL9 : Hid (L9 ++ m = L2) := Lib.hid (by rw [← hL9]; exact EL2.out)
  rw [hL9] at O9
  obtain ⟨A9, c9, e9, -, -, -⟩ := own_form O9.out
  rw [HL9.out] at e9
  subst e9
  go_upto_region 12 with ((with_reducible change wpList _ _ _ (Oper.mk (some 60) _ _ _ _ _ :: _) _ _); refine wpList_append_kids rfl _ _ rfl w8.heap.size _ L9 rfl O9.out m (.slice A2 n2 c2) rfl (HV2.out.keep (BW.out _ D9.out)) (by rw [HL2.out, HL9.out]; omega) S9.out ?_; intro v10 w10 hO hB _; have U10 := Lib.hid (U9.out.trans hB); have O10 := Lib.hid hO; clear hO hB)
  have D10 := Lib.hid (b_next D8.out U10.out)
  have V10 := Lib.hid (V8.out.keep U10.out)
  rw [EL9.out] at O10
  obtain ⟨A10, c10, e10, -, -, -⟩ := own_form O10.out
  rw [LL2.out] at e10
  subst e10
  have W10 := Lib.hid O10.out.kids
  clear O8 V8 V9 O9 S9 U9 U10 D9 D8 D7 D6 S6 S7 D5
  go_upto_region 13 with (go_at_call 10; (with_reducible refine (KB1.out _ _ V10.out).mono ?_); rintro e w11 ⟨vA, rfl, hO, hb⟩; obtain ⟨gr1, cr1, er1, -, -, hcr1⟩ := own_cell14 hO (by intro e; have := AL1.out; rw [e] at this; simp at this; omega); rw [AL1.out] at er1; subst er1; have Y11 := Lib.hid hcr1; have D11 := Lib.hid (b_next D10.out hb); have W11 := Lib.hid (W10.out.keep hb); clear hO hb hcr1)
  have X12 : Hid (SkAt (w11.alloc (.cells #[.slice (some ⟨gr1, 0, none⟩) N1 cr1, .int .i64 H1, .int .i64 p1, .int .i64 p2, .int .i64 r3, .int .i64 r4, .bool false] 27)) w11.heap.size (.slice (some ⟨gr1, 0, none⟩) N1 cr1) ⟨P, H1, (p1, p2), (r3, r4), false⟩) := Lib.hid (SkAt.new w11 (.slice (some ⟨gr1, 0, none⟩) N1 cr1) ⟨P, H1, (p1, p2), (r3, r4), false⟩)
  have C12 : Hid (Below w11.heap.size w11 (w11.alloc (.cells #[.slice (some ⟨gr1, 0, none⟩) N1 cr1, .int .i64 H1, .int .i64 p1, .int .i64 p2, .int .i64 r3, .int .i64 r4, .bool false] 27))) := Lib.hid ((Below.refl _ _).alloc (Nat.le_refl _) _)
  have D12 := Lib.hid (b_next D11.out C12.out)
  have Y12 := Lib.hid (cells_keepB Y11.out C12.out)
  have W12 := Lib.hid (W11.out.keep C12.out)
  clear C12 D11 Y11 W11 D10 V10 W10 O10 KB1
  generalize w11.alloc (.cells #[.slice (some ⟨gr1, 0, none⟩) N1 cr1, .int .i64 H1, .int .i64 p1, .int .i64 p2, .int .i64 r3, .int .i64 r4, .bool false] 27) = w12 at X12 D12 Y12 W12 ⊢
  generalize w11.heap.size = g1 at X12 ⊢
  go_upto_region 14 with (go_at_call 10; (with_reducible refine (KB2.out _ _ W12.out).mono ?_); rintro e w13 ⟨vA, rfl, hO, hb⟩; obtain ⟨gr2, cr2, er2, -, -, hcr2⟩ := own_cell14 hO (by intro e; have := AL2.out; rw [e] at this; simp at this; omega); rw [AL2.out] at er2; subst er2; have Z13 := Lib.hid hcr2; have Y13 := Lib.hid (cells_keepB Y12.out hb); have X13 := Lib.hid (X12.out.keep hb); have D13 := Lib.hid (b_next D12.out hb); clear hO hb hcr2)
  have Z14 : Hid (SkAt (w13.alloc (.cells #[.slice (some ⟨gr2, 0, none⟩) N2 cr2, .int .i64 H2, .int .i64 r1, .int .i64 r2, .int .i64 r3, .int .i64 r4, .bool false] 27)) w13.heap.size (.slice (some ⟨gr2, 0, none⟩) N2 cr2) ⟨Q, H2, (r1, r2), (r3, r4), false⟩) := Lib.hid (SkAt.new w13 (.slice (some ⟨gr2, 0, none⟩) N2 cr2) ⟨Q, H2, (r1, r2), (r3, r4), false⟩)
  have C14 : Hid (Below w13.heap.size w13 (w13.alloc (.cells #[.slice (some ⟨gr2, 0, none⟩) N2 cr2, .int .i64 H2, .int .i64 r1, .int .i64 r2, .int .i64 r3, .int .i64 r4, .bool false] 27))) := Lib.hid ((Below.refl _ _).alloc (Nat.le_refl _) _)
  have D14 := Lib.hid (b_next D13.out C14.out)
  have Y14 := Lib.hid (cells_keepB Y13.out C14.out)
  have U14 := Lib.hid (cells_keepB Z13.out C14.out)
  have X14 := Lib.hid (X13.out.keep C14.out)
  clear C14 D13 Y13 Z13 X13 W12 Y12 X12 D12 KB2
  generalize w13.alloc (.cells #[.slice (some ⟨gr2, 0, none⟩) N2 cr2, .int .i64 H2, .int .i64 r1, .int .i64 r2, .int .i64 r3, .int .i64 r4, .bool false] 27) = w14 at X14 Z14 D14 Y14 U14 ⊢
  generalize w13.heap.size = g2 at Z14 ⊢
  obtain ⟨a0, a1, a2, a3, a4, a5⟩ := X3.out _ D14.out
  obtain ⟨x0, -, -, -, x4, x5, -⟩ := X14.out.cells
  obtain ⟨y0, -, -, -, y4, y5, -⟩ := Z14.out.cells
  dsimp only at x4 x5 y4 y5 a0 a1 a2 a3 a4 a5
  have nn : ((N1 : Int) != N1) = (!true) := by simp
  have nn2 : ((N2 : Int) != N2) = (!true) := by simp
  have k1 : (r3 == r3) = true := by simp
  have k2 : (r4 == r4) = true := by simp
  have BZ := Lib.hid (BW.out _ D14.out)
  obtain ⟨y, hy⟩ : ∃ y, P[n]? = some y := ⟨_, List.getElem?_eq_getElem (by rw [AL1.out]; omega)⟩
  have AY := Lib.hid hy
  have cy := Y14.out n y hy
  have YY := Lib.hid (YB1.out y (List.mem_of_getElem? hy))
  have wh : IntKind.i64.wrap (y + hh) = y + hh := IntWalk.i64_in _ (by have := YY.out; have := HHB.out; omega)
  have hz0 : (0 : Int) ≤ n := by omega
  have hz1 : (n : Int) < N1 := by omega
  have HE : Hid (∀ i, i < n2 → ∃ z : Int, Q[1 + i]? = some z ∧ P[n + 1 + i]? = some (y + hh + z)) := Lib.hid (fun i hi => by
    obtain ⟨e, z, h1, h2, h3⟩ := AT.out i hi
    rw [AY.out] at h1
    injection h1 with h1
    subst h1
    exact ⟨z, h2, h3⟩)
  have DC : Hid (∀ W, Below w14.heap.size w14 W → (W.cell? ⟨g1, 0, none⟩ = some (.slice (some ⟨gr1, 0, none⟩) N1 cr1) ∧ W.cell? ⟨g2, 0, none⟩ = some (.slice (some ⟨gr2, 0, none⟩) N2 cr2)) ∧ (∀ (i : Nat) (z : Int), P[i]? = some z → W.cell? ⟨gr1, i, none⟩ = some (.int .i64 z)) ∧ (∀ (i : Nat) (z : Int), Q[i]? = some z → W.cell? ⟨gr2, i, none⟩ = some (.int .i64 z))) := Lib.hid (fun W hW => ⟨⟨(X14.out.keep hW).cells.1, (Z14.out.keep hW).cells.1⟩, cells_keepB Y14.out hW, cells_keepB U14.out hW⟩)
  clear hy X3 HV HV2 EL1 EL2 X2 B2 AT AY X14 Z14 Y14 U14 h1 h2
  go_upto_region 16 with fail
  go_quiet (fail)
  clear x0 x4 x5 y0 y4 y5 a0 a1 a2 a3 a4 a5 cy
  obtain ⟨e, he⟩ : ∃ e, y + hh = e := ⟨_, rfl⟩
  rw [he] at wh HE ⊢
  have EB : Hid (-1099511627776 ≤ e ∧ e ≤ 1374389534720) := Lib.hid (by have := YY.out; have := HHB.out; omega)
  have W15 : Hid (Below w14.heap.size w14 (w14.drewN nq)) := Lib.hid (drewN_below w14 nq w14.heap.size)
  generalize w14.drewN nq = w15 at W15 ⊢
  go_wp2_with fail
  go_loopg [14] n2 (fun g' vi wr => ∃ i : Nat, vi = .int .i64 i ∧ i ≤ n2 ∧ n2 - i ≤ g' ∧ Hid (Below w14.heap.size w14 wr))
  case atStart => exact ⟨0, rfl, by omega, by omega, W15⟩
  case round =>
    obtain ⟨i, rfl, hi, hg2, HB⟩ := hrel
    obtain ⟨wo, hwo⟩ : ∃ wo, wo = wr := ⟨_, rfl⟩
    subst hwo
    by_cases hlt2 : i < n2
    · have hy1 : (i : Int) < n2 := by omega
      have hy0 : (0 : Int) ≤ i := by omega
      have wi : IntKind.i64.wrap ((i : Int) + 1) = (i : Int) + 1 := IntWalk.i64_in _ (by omega)
      have wa : IntKind.i64.wrap ((n : Int) + 1) = (n : Int) + 1 := IntWalk.i64_in _ (by omega)
      have wb : IntKind.i64.wrap ((n : Int) + 1 + i) = (n : Int) + 1 + i := IntWalk.i64_in _ (by omega)
      have wc : IntKind.i64.wrap (1 + (i : Int)) = 1 + (i : Int) := IntWalk.i64_in _ (by omega)
      have t1 : ((n : Int) + 1 + i).toNat = n + 1 + i := by omega
      have t2 : (1 + (i : Int)).toNat = 1 + i := by omega
      have p1 : (0 : Int) ≤ (n : Int) + 1 + i := by omega
      have p2 : (n : Int) + 1 + i < N1 := by omega
      have p3 : (0 : Int) ≤ 1 + (i : Int) := by omega
      have p4 : 1 + (i : Int) < N2 := by omega
      obtain ⟨z, hz1, hz2⟩ := HE.out i hlt2
      have ZB := Lib.hid (YB2.out z (List.mem_of_getElem? hz1))
      obtain ⟨⟨x0, y0⟩, hc1, hc2⟩ := DC.out wo HB.out
      have cz := hc2 _ z hz1
      have cs := hc1 _ _ hz2
      obtain ⟨v, hv⟩ : ∃ v, e + z = v := ⟨_, rfl⟩
      have wv : IntKind.i64.wrap (e + z) = v := by rw [← hv]; exact IntWalk.i64_in _ (by have := EB.out; have := ZB.out; omega)
      rw [hv] at cs
      have vv : (v != v) = (!true) := by simp
      clear hz1 hz2 hc1 hc2 hv
      go_upto_region 20 with fail
      go_quiet (fail)
      have W16 : Hid (Below w14.heap.size w14 (wo.drewN nq)) := Lib.hid (b_next HB.out (drewN_below wo nq wo.heap.size))
      go_wp2_with fail
      go_roundg (n2 - (i + 1))
      case measure => omega
      case rel => exact ⟨i + 1, by go_num, by omega, Nat.le_refl _, W16⟩
    · have hy1 : ¬ (i : Int) < n2 := by omega
      have BF := Lib.hid (b_next BZ.out HB.out)
      go_wp2_with fail
      go_ret
      exact ⟨rfl, BF.out⟩
end Go.Proofs.Ytidbfkbeploagaa
