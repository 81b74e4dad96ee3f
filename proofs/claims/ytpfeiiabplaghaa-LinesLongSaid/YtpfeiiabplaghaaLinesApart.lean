/-
  The law LinesApart: of any Fill that answers as is asked, and of an awake that is true.
-/
import Derived.Test.YtpfeiiabplaghaaLinesBlanks
namespace Go.Proofs.Ytpfeiiabplaghaa
open Go.RowKit

/-- Fill's answer of items of no great number and width -/
theorem fill_few10 {f : Nat} (hF : FillOK f) {l : List It} {x : Int} (g1 : Good l) (g2 : Within l 1073741824) (g3 : l.length ≤ 1000) (g4 : 0 ≤ x) (g5 : x ≤ 1099511627776) (v : Value) (w : World) (hv : ItIn w v l) :
    Calls Try.prog f #[v, .int .i64 x] w fun e w' => ∃ u, e = .returned (.tuple #[u, .int .i64 0]) ∧ ownsL w' w.heap.size u (linesT l x) ∧ Below w.heap.size w w' := by
  refine (hF l v x w hv (by omega) (by omega) (fun i hi => by have := g1 i hi; have := g2 i hi; omega)).mono ?_
  rintro e w' ⟨u, h1, h2, h3⟩
  rw [fillA_yes g1 g2 g3 g4 g5] at h1 h2
  exact ⟨u, h1, h2, h3⟩
/-- lines, the first so many moved -/
def mixS (n : Nat) (R : List Ln) (i : Nat) : List Ln := (R.take i).map (lineS n) ++ R.drop i
theorem mixS_len (n : Nat) (R : List Ln) (i : Nat) : (mixS n R i).length = R.length := by
  unfold mixS
  rw [List.length_append, List.length_map, List.length_take, List.length_drop]
  omega
theorem mixS_at (n : Nat) {R : List Ln} {i : Nat} {x : Ln} (h : R[i]? = some x) : (mixS n R i)[i]? = some x := by
  have hi := (List.getElem?_eq_some_iff.1 h).1
  unfold mixS
  have e : ((R.take i).map (lineS n)).length = i := by rw [List.length_map, List.length_take]; omega
  rw [List.getElem?_append_right (by omega), e, Nat.sub_self, List.getElem?_drop, Nat.add_zero, h]
theorem mixS_set (n : Nat) {R : List Ln} {i : Nat} {x : Ln} (h : R[i]? = some x) : (mixS n R i).set i (lineS n x) = mixS n R (i + 1) := by
  obtain ⟨hi, hx⟩ := List.getElem?_eq_some_iff.1 h
  unfold mixS
  have e : ((R.take i).map (lineS n)).length = i := by rw [List.length_map, List.length_take]; omega
  rw [List.set_append_right _ _ (by omega), e, Nat.sub_self, List.drop_eq_getElem_cons hi, List.set_cons_zero, List.take_add_one, h, List.map_append]
  simp
theorem mixS_all (n : Nat) (R : List Ln) : mixS n R R.length = R.map (lineS n) := by
  unfold mixS
  rw [List.take_length, List.drop_length, List.append_nil]
theorem apart_good {l m : List It} (h1 : Good l ∧ Within l 1073741824) (h2 : Good m ∧ Within m 1073741824) : Good (l ++ (2, 0) :: m) ∧ Within (l ++ (2, 0) :: m) 1073741824 := by
  have hall : ∀ i, i < (l ++ (2, 0) :: m).length → kd (l ++ (2, 0) :: m) i ≤ 3 ∧ -1073741824 ≤ wd (l ++ (2, 0) :: m) i ∧ wd (l ++ (2, 0) :: m) i ≤ 1073741824 :=
    item_append (fun a b => a ≤ 3 ∧ -1073741824 ≤ b ∧ b ≤ 1073741824) (fun i hi => ⟨h1.1 i hi, h1.2 i hi⟩) (fun i hi => by
      cases i with
      | zero =>
        show (2 : Nat) ≤ 3 ∧ -1073741824 ≤ (0 : Int) ∧ (0 : Int) ≤ 1073741824
        omega
      | succ i =>
        have hi' : i < m.length := by simpa using hi
        exact ⟨h2.1 i hi', h2.2 i hi'⟩)
  exact ⟨fun i hi => (hall i hi).1, fun i hi => (hall i hi).2⟩
/-- a line's first two numbers written over -/
theorem line_set {cs : List Ln} {i : Nat} {x : Ln} (h : cs[i]? = some x) (a b : Nat) : ((cellsL cs).set (i * 3) (.int .i64 (a : Nat))).set (i * 3 + 1) (.int .i64 (b : Nat)) = cellsL (cs.set i (a, b, x.2.2)) := by
  obtain ⟨hi, hx⟩ := List.getElem?_eq_some_iff.1 h
  have e1 := flat_set lnCells 3 lnCells_len hi (i := 0) (by omega) (.int .i64 (a : Nat)) (a, x.2.1, x.2.2) (by rw [hx]; rfl)
  have hi2 : i < (cs.set i (a, x.2.1, x.2.2)).length := by rw [List.length_set]; exact hi
  have e2 := flat_set lnCells 3 lnCells_len hi2 (i := 1) (by omega) (.int .i64 (b : Nat)) (a, b, x.2.2) (by rw [List.getElem_set_self]; rfl)
  rw [Nat.add_zero] at e1
  unfold cellsL
  rw [e1, e2, List.set_set]
set_option maxRecDepth 100000 in
set_option maxHeartbeats 8000000 in
theorem apart10 (hF : FillOK 11) (hA : AwakeOK10 15) (l m : List It) (v u : Value) (x : Int) (w : World) (hv : ItIn w v l) (hu : ItIn w u m) (hnil : ∀ n c, v = .slice none n c → n = 0 ∧ c = 0) (hnil2 : ∀ n c, u = .slice none n c → n = 0 ∧ c = 0) :
    Calls Try.prog 7 #[v, u, .int .i64 x] w fun e w' => e = .returned (.bool true) ∧ Below w.heap.size w w' := by
  have KA := Lib.hid (fun W => hA W)
  obtain ⟨b1, hb1⟩ : ∃ b, decide (great10 l x) = b := ⟨_, rfl⟩
  obtain ⟨b2, hb2⟩ : ∃ b, decide (great10 m x) = b := ⟨_, rfl⟩
  have K1 := Lib.hid (fun W (hW : ItIn W v l) => great_any10 l v x W hW b1 hb1)
  have K2 := Lib.hid (fun W (hW : ItIn W u m) => great_any10 m u x W hW b2 hb2)
  have HV := Lib.hid hv
  have HU := Lib.hid hu
  obtain ⟨A, c, rfl, -, -⟩ := hv
  obtain ⟨C, d, rfl, -, -⟩ := hu
  have NIL := Lib.hid (show A = none → l = [] ∧ c = 0 from fun e => by
    subst e
    have := hnil _ _ rfl
    exact ⟨List.length_eq_zero_iff.1 this.1, this.2⟩)
  have NIL2 := Lib.hid (show C = none → m = [] ∧ d = 0 from fun e => by
    subst e
    have := hnil2 _ _ rfl
    exact ⟨List.length_eq_zero_iff.1 this.1, this.2⟩)
  obtain ⟨n, en⟩ : ∃ n, l.length = n := ⟨_, rfl⟩
  obtain ⟨k, ek⟩ : ∃ n, m.length = n := ⟨_, rfl⟩
  have HN := Lib.hid en
  have HK := Lib.hid ek
  rw [en] at HV K1 ⊢
  rw [ek] at HU K2 ⊢
  clear hnil hnil2 en ek
  cases b1 with
  | true =>
    clear hb1 hb2
    go_enter Try.func7, Try.ntmps7
    go_wp2_with (first
      | (go_at_call 15; (with_reducible refine (KA.out _).mono ?_); rintro e w1 ⟨rfl, hb⟩; have B1 := Lib.hid hb; have V1 := Lib.hid (HV.out.keep hb); have U1 := Lib.hid (HU.out.keep hb); clear hb)
      | (go_at_call 16; (with_reducible refine (K1.out _ V1.out).mono ?_); rintro e w2 ⟨rfl, hw⟩; subst hw; clear K1)
      | (go_at_call 16; (with_reducible refine (K2.out _ U1.out).mono ?_); rintro e w2 ⟨rfl, hw⟩; subst hw; clear K2))
    go_ret
    exact ⟨rfl, B1.out⟩
  | false =>
    cases b2 with
    | true =>
      clear hb1 hb2
      go_enter Try.func7, Try.ntmps7
      go_wp2_with (first
        | (go_at_call 15; (with_reducible refine (KA.out _).mono ?_); rintro e w1 ⟨rfl, hb⟩; have B1 := Lib.hid hb; have V1 := Lib.hid (HV.out.keep hb); have U1 := Lib.hid (HU.out.keep hb); clear hb)
        | (go_at_call 16; (with_reducible refine (K1.out _ V1.out).mono ?_); rintro e w2 ⟨rfl, hw⟩; subst hw; clear K1)
        | (go_at_call 16; (with_reducible refine (K2.out _ U1.out).mono ?_); rintro e w2 ⟨rfl, hw⟩; subst hw; clear K2))
      go_ret
      exact ⟨rfl, B1.out⟩
    | false =>
      by_cases h1 : 250 < n
      · have z1 : decide ((250 : Int) < n) = true := decide_eq_true (by omega)
        clear hb1 hb2 h1
        go_enter Try.func7, Try.ntmps7
        go_wp2_with (first
          | (go_at_call 15; (with_reducible refine (KA.out _).mono ?_); rintro e w1 ⟨rfl, hb⟩; have B1 := Lib.hid hb; have V1 := Lib.hid (HV.out.keep hb); have U1 := Lib.hid (HU.out.keep hb); clear hb)
          | (go_at_call 16; (with_reducible refine (K1.out _ V1.out).mono ?_); rintro e w2 ⟨rfl, hw⟩; subst hw; clear K1)
          | (go_at_call 16; (with_reducible refine (K2.out _ U1.out).mono ?_); rintro e w2 ⟨rfl, hw⟩; subst hw; clear K2))
        go_ret
        exact ⟨rfl, B1.out⟩
      · have z1 : decide ((250 : Int) < n) = false := decide_eq_false (by omega)
        have hn2 : n ≤ 250 := by omega
        by_cases h2 : 250 < k
        · have z2 : decide ((250 : Int) < k) = true := decide_eq_true (by omega)
          clear hb1 hb2 h1 h2
          go_enter Try.func7, Try.ntmps7
          go_wp2_with (first
            | (go_at_call 15; (with_reducible refine (KA.out _).mono ?_); rintro e w1 ⟨rfl, hb⟩; have B1 := Lib.hid hb; have V1 := Lib.hid (HV.out.keep hb); have U1 := Lib.hid (HU.out.keep hb); clear hb)
            | (go_at_call 16; (with_reducible refine (K1.out _ V1.out).mono ?_); rintro e w2 ⟨rfl, hw⟩; subst hw; clear K1)
            | (go_at_call 16; (with_reducible refine (K2.out _ U1.out).mono ?_); rintro e w2 ⟨rfl, hw⟩; subst hw; clear K2))
          go_ret
          exact ⟨rfl, B1.out⟩
        · have z2 : decide ((250 : Int) < k) = false := decide_eq_false (by omega)
          have hk2 : k ≤ 250 := by omega
          by_cases h3 : n = 0
          · have z3 : ((n : Int) == 0) = true := by rw [h3]; rfl
            clear hb1 hb2 h1 h2 h3
            go_enter Try.func7, Try.ntmps7
            go_wp2_with (first
              | (go_at_call 15; (with_reducible refine (KA.out _).mono ?_); rintro e w1 ⟨rfl, hb⟩; have B1 := Lib.hid hb; have V1 := Lib.hid (HV.out.keep hb); have U1 := Lib.hid (HU.out.keep hb); clear hb)
              | (go_at_call 16; (with_reducible refine (K1.out _ V1.out).mono ?_); rintro e w2 ⟨rfl, hw⟩; subst hw; clear K1)
              | (go_at_call 16; (with_reducible refine (K2.out _ U1.out).mono ?_); rintro e w2 ⟨rfl, hw⟩; subst hw; clear K2))
            go_ret
            exact ⟨rfl, B1.out⟩
          · have z3 : ((n : Int) == 0) = false := beq_eq_false_iff_ne.2 (by omega)
            obtain ⟨p, hp⟩ : ∃ p, n = p + 1 := ⟨n - 1, by omega⟩
            have wp1 : IntKind.i64.wrap ((n : Int) - 1) = (p : Int) := by rw [IntWalk.i64_in _ (by omega)]; omega
            have p0 : (0 : Int) ≤ p := by omega
            have p1 : (p : Int) < n := by omega
            obtain ⟨bs, hbs⟩ : ∃ b, decide (kd l p = 0 ∨ kd l p = 3) = b := ⟨_, rfl⟩
            have KS := Lib.hid (fun W => solid_any10 (kd l p) (wd l p) W bs hbs)
            have HGET := Lib.hid (show ∀ W, ItIn W (.slice A n c) l → ∃ b off, A = some ⟨b, off, none⟩ ∧ W.cell? ⟨b, off + p * 2, none⟩ = some (.int .u8 (kd l p : Nat)) ∧ W.cell? ⟨b, off + p * 2 + 1, none⟩ = some (.int .i64 (wd l p)) from fun W hW => by
              obtain ⟨b, off, c', e, q1, q2⟩ := hW.get (i := p) (by have := HN.out; omega)
              injection e with e1 e2 e3
              exact ⟨b, off, e1, q1, q2⟩)
            obtain ⟨b0, off0, hA0, -, -⟩ := HGET.out w HV.out
            subst hA0
            have HCELL := Lib.hid (show ∀ W, ItIn W (.slice (some ⟨b0, off0, none⟩) n c) l → W.cell? ⟨b0, off0 + p * 2, none⟩ = some (.int .u8 (kd l p : Nat)) ∧ W.cell? ⟨b0, off0 + p * 2 + 1, none⟩ = some (.int .i64 (wd l p)) from fun W hW => by
              obtain ⟨b, off, e, q1, q2⟩ := HGET.out W hW
              cases e
              exact ⟨q1, q2⟩)
            have G1 := Lib.hid (within_great (of_decide_eq_false hb1))
            have G2 := Lib.hid (within_great (of_decide_eq_false hb2))
            clear HGET h1 h2 h3
            cases bs with
            | false =>
              clear hb1 hb2 hbs hp
              go_enter Try.func7, Try.ntmps7
              go_wp2_with (first
                | (go_at_call 15; (with_reducible refine (KA.out _).mono ?_); rintro e w1 ⟨rfl, hb⟩; have B1 := Lib.hid hb; have V1 := Lib.hid (HV.out.keep hb); have U1 := Lib.hid (HU.out.keep hb); have cc := HCELL.out _ V1.out; have cc0 := cc.1; have cc1 := cc.2; clear hb cc)
                | (go_at_call 16; (with_reducible refine (K1.out _ V1.out).mono ?_); rintro e w2 ⟨rfl, hw⟩; subst hw; clear K1)
                | (go_at_call 16; (with_reducible refine (K2.out _ U1.out).mono ?_); rintro e w2 ⟨rfl, hw⟩; subst hw; clear K2)
                | (go_at_call 17; (with_reducible refine (KS.out _).mono ?_); rintro e w3 ⟨rfl, hb⟩; have BS := Lib.hid (B1.out.trans (hb.mono B1.out.size)); clear hb))
              go_ret
              exact ⟨rfl, BS.out⟩
            | true =>
              have hsol : Solid l (l.length - 1) := by
                rw [HN.out, hp, Nat.add_sub_cancel]
                show kd l p = 0 ∨ kd l p = 3
                exact of_decide_eq_true hbs
              have AP := Lib.hid (apart_T G1.out.1 G2.out.1 x (2, 0) rfl (by have := HN.out; omega) hsol)
              have AG := Lib.hid (apart_good ⟨G1.out.1, G1.out.2.1⟩ ⟨G2.out.1, G2.out.2.1⟩)
              have KX := Lib.hid (fun W (hW : ItIn W (.slice (some ⟨b0, off0, none⟩) n c) l) => fill_few10 hF G1.out.1 G1.out.2.1 (by have := HN.out; omega) G1.out.2.2.2.1 G1.out.2.2.2.2 _ W hW)
              have KY := Lib.hid (fun W (hW : ItIn W (.slice C k d) m) => fill_few10 hF G2.out.1 G2.out.2.1 (by have := HK.out; omega) G1.out.2.2.2.1 G1.out.2.2.2.2 _ W hW)
              have KZ := Lib.hid (fun W z (hW : ItIn W z (l ++ (2, 0) :: m)) => fill_few10 hF AG.out.1 AG.out.2 (by rw [List.length_append, List.length_cons, HN.out, HK.out]; omega) G1.out.2.2.2.1 G1.out.2.2.2.2 z W hW)
              rw [AP.out] at KZ
              have LX : (linesT l x).length ≤ l.length := by have := fill_len (l := l) x (behind l 0); unfold linesT; omega
              have LY : (linesT m x).length ≤ m.length := by have := fill_len (l := m) x (behind m 0); unfold linesT; omega
              have BY := Lib.hid (fun y (hy : y ∈ linesT m x) => fill_all (w := x) G2.out.1 _ (st_first m) y hy)
              obtain ⟨R, hR⟩ : ∃ R, linesT l x = R := ⟨_, rfl⟩
              obtain ⟨S, hS⟩ : ∃ R, linesT m x = R := ⟨_, rfl⟩
              rw [hR, HN.out] at LX
              rw [hS, HK.out] at LY
              rw [hR] at KX KZ
              rw [hS] at KY KZ BY
              rw [HN.out] at KZ
              have BT : Hid (∀ y ∈ S, y.1 ≤ k ∧ y.2.1 ≤ k) := Lib.hid (fun y hy => by
                have := BY.out y hy
                have h2 := this.2.2.2.1.hi
                have := HK.out
                omega)
              obtain ⟨nr, er⟩ : ∃ t, R.length = t := ⟨_, rfl⟩
              obtain ⟨ns, es⟩ : ∃ t, S.length = t := ⟨_, rfl⟩
              have HR := Lib.hid er
              have HS := Lib.hid es
              rw [er] at LX
              rw [es] at LY
              obtain ⟨nz, hnz⟩ : ∃ t, nr + ns = t := ⟨_, rfl⟩
              have HZ : Hid ((R ++ S.map (lineS (n + 1))).length = nz) := Lib.hid (by rw [List.length_append, List.length_map, HR.out, HS.out]; exact hnz)
              have wz : IntKind.i64.wrap ((nr : Int) + ns) = (nz : Int) := by rw [IntWalk.i64_in _ (by omega)]; omega
              have hz2 : ((nz : Int) != nz) = false := by simp
              clear hb1 hb2 hbs hp hsol AP AG BY hR hS er es G1 G2 hF hA
              go_enter Try.func7, Try.ntmps7
              go_wp2_with (first
                | (go_at_call 15; (with_reducible refine (KA.out _).mono ?_); rintro e w1 ⟨rfl, hb⟩; have B1 := Lib.hid hb; have V1 := Lib.hid (HV.out.keep hb); have U1 := Lib.hid (HU.out.keep hb); have cc := HCELL.out _ V1.out; have cc0 := cc.1; have cc1 := cc.2; clear hb cc)
                | (go_at_call 16; (with_reducible refine (K1.out _ V1.out).mono ?_); rintro e w2 ⟨rfl, hw⟩; subst hw; clear K1)
                | (go_at_call 16; (with_reducible refine (K2.out _ U1.out).mono ?_); rintro e w2 ⟨rfl, hw⟩; subst hw; clear K2)
                | (go_at_call 17; (with_reducible refine (KS.out _).mono ?_); rintro e w3 ⟨rfl, hb⟩; clear cc0 cc1; have V3 := Lib.hid (V1.out.keep hb); have U3 := Lib.hid (U1.out.keep hb); have B3 := Lib.hid (B1.out.trans (hb.mono B1.out.size)); clear hb V1 U1 B1)
                | ((with_reducible change wpList _ _ _ (Oper.mk (some 53) _ _ _ _ _ :: _) _ _); refine wpList_append_its rfl _ _ rfl w3.heap.size (.slice none 0 0) [] rfl (ownsI.nil _ _) l (some ⟨b0, off0, none⟩) c (by rw [HN.out]; rfl) (its_cells V3.out) NIL.out (by rw [HN.out]; show 0 + n ≤ _; omega) (Nat.le_refl _) ?_; intro v4 w4 hv4 hb4 _; rw [List.nil_append] at hv4; have O4 := Lib.hid hv4; have V4 := Lib.hid (V3.out.keep hb4); have U4 := Lib.hid (U3.out.keep hb4); have B4 := Lib.hid (B3.out.trans (hb4.mono B3.out.size)); have S4 := hb4.size; have C4 := Lib.hid hb4; clear hv4 hb4)
                | ((with_reducible change wpList _ _ _ (Oper.mk (some 57) _ _ _ _ _ :: _) _ _); refine wpList_append_it rfl _ _ rfl w3.heap.size v4 l rfl O4.out (2, 0) _ rfl (by rw [HN.out]; omega) S4 ?_; intro v5 w5 hv5 hb5 _; have O5 := Lib.hid hv5; have C5 := Lib.hid (C4.out.trans hb5); have U5 := Lib.hid (U3.out.keep C5.out); have V5 := Lib.hid (V3.out.keep C5.out); have S5 := C5.out.size; clear hv5 hb5 S4)
                | ((with_reducible change wpList _ _ _ (Oper.mk (some 60) _ _ _ _ _ :: _) _ _); refine wpList_append_its rfl _ _ rfl w3.heap.size v5 (l ++ [(2, 0)]) rfl O5.out m C d (by rw [HK.out]; rfl) (its_cells U5.out) NIL2.out (by rw [List.length_append, HN.out, HK.out]; show n + 1 + k ≤ _; omega) S5 ?_; intro v6 w6 hv6 hb6 _; rw [List.append_assoc, List.singleton_append] at hv6; have O6 := Lib.hid hv6.its; have C6 := Lib.hid (C5.out.trans hb6); have U6 := Lib.hid (U3.out.keep C6.out); have V6 := Lib.hid (V3.out.keep C6.out); have B6 := Lib.hid (B3.out.trans (C6.out.mono B3.out.size)); clear hv6 hb6 S5)
                | (go_at_call 11; (with_reducible refine (KX.out _ V6.out).mono ?_); rintro e w7 ⟨out, rfl, hO, hB⟩; clear KX; obtain ⟨Ca, da, eo, ho⟩ := hO.lns; rw [HR.out] at eo; subst eo; have L7 := Lib.hid hO.lns; have O7 := Lib.hid (O6.out.keep hB); have U7 := Lib.hid (U6.out.keep hB); have B7 := Lib.hid (B6.out.trans (hB.mono B6.out.size)); clear hO hB ho)
                | (go_at_call 11; (with_reducible refine (KY.out _ U7.out).mono ?_); rintro e w8 ⟨out, rfl, hO, hB⟩; clear KY; obtain ⟨Cb, db, eo, ho⟩ := hO.lns; rw [HS.out] at eo; subst eo; have Y8 := Lib.hid hO; have L8 := Lib.hid (L7.out.keep hB); have O8 := Lib.hid (O7.out.keep hB); have D8 := Lib.hid hB; clear hO hB ho)
                | (go_at_call 11; (with_reducible refine (KZ.out _ _ O8.out).mono ?_); rintro e w9 ⟨out, rfl, hO, hB⟩; clear KZ; obtain ⟨Cz, dz, eo, ho⟩ := hO.lns; rw [HZ.out] at eo; subst eo; have Z9 := Lib.hid hO; have Y9 := Lib.hid (Y8.out.keep hB); have D9 := Lib.hid (D8.out.trans (hB.mono D8.out.size)); clear hO hB ho))
              have YG := Lib.hid (show ∀ g, Cb = some ⟨g, 0, none⟩ → 0 < ns → g < w8.heap.size from fun g e h => by
                obtain ⟨g', c', q1, -, -, -, q2, -, -⟩ := Y8.out.at_ (by intro e; have := HS.out; rw [e] at this; simp at this; omega)
                injection q1 with q3
                rw [e] at q3
                cases q3
                exact q2)
              have Y0 := Lib.hid (show w9.ownsRow w7.heap.size 34 3 (.slice Cb ns db) ns (cellsL (mixS (n + 1) S 0)) from by
                have := Y9.out
                unfold ownsL at this
                rw [HS.out] at this
                simpa [mixS] using this)
              have Z0 := Lib.hid (show w9.ownsRow w8.heap.size 34 3 (.slice Cz nz dz) nz (cellsL (R ++ S.map (lineS (n + 1)))) from by
                have := Z9.out
                unfold ownsL at this
                rw [HZ.out] at this
                exact this)
              clear O6 C6 U6 V6 B6 O7 U7 Y8 L8 O8 Z9 Y9 D8 V3 U3 B3 V4 U4 B4 C4 O4 O5 C5 U5 V5 HCELL KA HV HU KS
              go_loopg [14] ns (fun h1 vi wr => ∃ i : Nat, vi = .int .i64 i ∧ i ≤ ns ∧ ns - i ≤ h1 ∧ Hid (wr.ownsRow w7.heap.size 34 3 (.slice Cb ns db) ns (cellsL (mixS (n + 1) S i)) ∧ wr.ownsRow w8.heap.size 34 3 (.slice Cz nz dz) nz (cellsL (R ++ S.map (lineS (n + 1)))) ∧ Below w7.heap.size w7 wr))
              case atStart => exact ⟨0, rfl, by omega, by omega, Lib.hid ⟨Y0.out, Z0.out, D9.out⟩⟩
              case round =>
                obtain ⟨i, rfl, hi, hg1, hY⟩ := hrel
                clear Y0 Z0 D9
                by_cases hlt : i < ns
                · have q1 : (i : Int) < ns := by omega
                  have q0 : (0 : Int) ≤ i := by omega
                  have wi : IntKind.i64.wrap ((i : Int) + 1) = (i : Int) + 1 := IntWalk.i64_in _ (by omega)
                  obtain ⟨⟨y1, y2, y3⟩, hx⟩ : ∃ x, S[i]? = some x := ⟨_, List.getElem?_eq_getElem (by have := HS.out; omega)⟩
                  have hxm := mixS_at (n + 1) hx
                  have hms := mixS_set (n + 1) hx
                  obtain ⟨hmi, hme⟩ := List.getElem?_eq_some_iff.1 hxm
                  have hb := BT.out _ (List.mem_of_getElem? hx)
                  obtain ⟨hO, hZ, hD⟩ := hY.out
                  obtain ⟨g, c', e, -, -, -, -, hc, hfr⟩ := own_at hO (by omega)
                  injection e with e1 e2 e3
                  subst e1 e3
                  clear e2
                  have hgz := YG.out g rfl (by omega)
                  have g0 := flat_get lnCells 3 lnCells_len hmi (i := 0) (by omega)
                  have g1 := flat_get lnCells 3 lnCells_len hmi (i := 1) (by omega)
                  rw [hme] at g0 g1
                  have c0 : wr.cell? ⟨g, i * 3, none⟩ = some (.int .i64 (y1 : Nat)) := hc _ _ g0
                  have c1 : wr.cell? ⟨g, i * 3 + 1, none⟩ = some (.int .i64 (y2 : Nat)) := hc _ _ g1
                  have f0 := hfr (i * 3)
                  have f1 := hfr (i * 3 + 1)
                  dsimp only at hb
                  obtain ⟨t1, ht1⟩ : ∃ t : Int, ((y1 + n : Nat) : Int) = t := ⟨_, rfl⟩
                  obtain ⟨t2, ht2⟩ : ∃ t : Int, ((y2 + n : Nat) : Int) = t := ⟨_, rfl⟩
                  obtain ⟨s1, hs1⟩ : ∃ t : Int, ((n + 1 + y1 : Nat) : Int) = t := ⟨_, rfl⟩
                  obtain ⟨s2, hs2⟩ : ∃ t : Int, ((n + 1 + y2 : Nat) : Int) = t := ⟨_, rfl⟩
                  have k1 : IntKind.i64.wrap ((y1 : Int) + n) = t1 := by rw [IntWalk.i64_in _ (by omega)]; omega
                  have k2 : IntKind.i64.wrap (t1 + 1) = s1 := by rw [IntWalk.i64_in _ (by omega)]; omega
                  have k3 : IntKind.i64.wrap ((y2 : Int) + n) = t2 := by rw [IntWalk.i64_in _ (by omega)]; omega
                  have k4 : IntKind.i64.wrap (t2 + 1) = s2 := by rw [IntWalk.i64_in _ (by omega)]; omega
                  obtain ⟨O1, D1⟩ := own_set hO (i * 3) (.int .i64 s1)
                  obtain ⟨O2, D2⟩ := own_set O1 (i * 3 + 1) (.int .i64 s2)
                  have c1' : (wr.setCell ⟨g, i * 3, none⟩ (.int .i64 s1)).cell? ⟨g, i * 3 + 1, none⟩ = some (.int .i64 (y2 : Nat)) := (World.cell?_setCell_other _ _ _ _ (by simp)).trans c1
                  have f1' : (wr.setCell ⟨g, i * 3, none⟩ (.int .i64 s1)).frozen? ⟨g, i * 3 + 1, none⟩ = false := by rw [World.frozen?_setCell]; exact f1
                  have Z1 := ownsRow_setCell_below hZ (a := ⟨g, i * 3, none⟩) hgz (.int .i64 s1)
                  have Z2 := ownsRow_setCell_below Z1 (a := ⟨g, i * 3 + 1, none⟩) hgz (.int .i64 s2)
                  have ls := line_set hxm (n + 1 + y1) (n + 1 + y2)
                  rw [hs1, hs2] at ls
                  rw [ls] at O2
                  have ems : (mixS (n + 1) S i).set i (n + 1 + y1, n + 1 + y2, y3) = mixS (n + 1) S (i + 1) := hms
                  rw [ems] at O2
                  have ALL := Lib.hid (And.intro O2 (And.intro Z2 ((hD.trans D1).trans D2)))
                  generalize (y1 : Int) = u1 at c0 k1
                  generalize (y2 : Int) = u2 at c1 c1' k3
                  clear hx hxm hms hmi hme hb hO hZ hD hc hfr hgz g0 g1 ht1 ht2 hs1 hs2 O1 O2 D1 D2 Z1 Z2 ls ems hY c1 f1
                  go_wp2_with fail
                  go_roundg (ns - (i + 1))
                  case measure => omega
                  case rel => exact ⟨i + 1, by go_num, by omega, Nat.le_refl _, ALL⟩
                · obtain rfl : i = ns := by omega
                  have q1 : ¬ (i : Int) < i := by omega
                  obtain ⟨hO, hZ, hD⟩ := hY.out
                  rw [show mixS (n + 1) S i = S.map (lineS (n + 1)) by rw [← HS.out]; exact mixS_all _ _] at hO
                  have LYtpfeiiabplaghaa := Lib.hid (L7.out.keep hD)
                  have LYY := Lib.hid (show LnIn wr (.slice Cb i db) (S.map (lineS (n + 1))) from ownsL.lns (base := w7.heap.size) (by unfold ownsL; rw [List.length_map, HS.out]; exact hO))
                  have LZZ := Lib.hid (show LnIn wr (.slice Cz nz dz) (R ++ S.map (lineS (n + 1))) from ownsL.lns (base := w8.heap.size) (by unfold ownsL; rw [HZ.out]; exact hZ))
                  have BB := Lib.hid (B7.out.trans (hD.mono B7.out.size))
                  clear hO hZ hD hY L7 B7 YG
                  generalize wr = wl at LYtpfeiiabplaghaa LYY LZZ BB ⊢
                  go_wp2_with fail
                  go_loopg [15] nz (fun h3 vi wr => ∃ t q : Nat, vi = .int .i64 t ∧ t ≤ nz ∧ nz - t ≤ h3 ∧ wr = wl.drewN q)
                  case atStart => exact ⟨0, 0, rfl, by omega, by omega, rfl⟩
                  case round =>
                    obtain ⟨t, q, rfl, ht, hg3, rfl⟩ := hrel
                    by_cases htz : t < nz
                    · have z5 : (t : Int) < nz := by omega
                      have z4 : (0 : Int) ≤ t := by omega
                      have wt2 : IntKind.i64.wrap ((t : Int) + 1) = (t : Int) + 1 := IntWalk.i64_in _ (by omega)
                      obtain ⟨A3, e3, e, -, hqz⟩ := LZZ.out
                      injection e with e4 e5 e6
                      subst e4 e6
                      clear e5
                      have hzl : t < (R ++ S.map (lineS (n + 1))).length := by rw [HZ.out]; exact htz
                      obtain ⟨gz, rfl, -, htz2⟩ := hqz (by intro e; rw [e] at hzl; simp at hzl)
                      obtain ⟨⟨x1, x2, x3⟩, hx⟩ : ∃ y, (R ++ S.map (lineS (n + 1)))[t]? = some y := ⟨_, List.getElem?_eq_getElem hzl⟩
                      obtain ⟨a0, a1, a2⟩ := htz2 t _ hx
                      dsimp only at a0 a1 a2
                      by_cases hr : t < nr
                      · have z6 : (t : Int) < nr := by omega
                        have z6n : decide (t < nr) = true := decide_eq_true hr
                        have z7 : decide ((nr : Int) ≤ t) = false := decide_eq_false (by omega)
                        have z7n : decide (nr ≤ t) = false := decide_eq_false (by omega)
                        obtain ⟨A4, e7, e, -, hqx⟩ := LYtpfeiiabplaghaa.out
                        injection e with e4 e5 e6
                        subst e4 e6
                        clear e5
                        have hrl : t < R.length := by rw [HR.out]; exact hr
                        obtain ⟨gx, rfl, -, htx⟩ := hqx (by intro e; rw [e] at hrl; simp at hrl)
                        rw [List.getElem?_append_left hrl] at hx
                        obtain ⟨d0, d1, d2⟩ := htx t _ hx
                        dsimp only at d0 d1 d2
                        generalize (x1 : Int) = u1 at a0 d0
                        generalize (x2 : Int) = u2 at a1 d1
                        clear hqz htz2 hx hzl hqx htx hrl hr
                        go_wp2_with fail
                        go_quiet (fail)
                        go_wp2_with fail
                        go_roundg (nz - (t + 1))
                        case measure => omega
                        case rel => exact ⟨t + 1, q + nq, by go_num, by omega, Nat.le_refl _, rfl⟩
                      · have z6 : ¬ (t : Int) < nr := by omega
                        have z6n : decide (t < nr) = false := decide_eq_false hr
                        have z7 : decide ((nr : Int) ≤ t) = true := decide_eq_true (by omega)
                        have z7n : decide (nr ≤ t) = true := decide_eq_true (by omega)
                        obtain ⟨r, hr2⟩ : ∃ r, t = nr + r := ⟨t - nr, by omega⟩
                        have wr2 : IntKind.i64.wrap ((t : Int) - nr) = (r : Int) := by rw [IntWalk.i64_in _ (by omega)]; omega
                        have r0 : (0 : Int) ≤ r := by omega
                        have r1 : (r : Int) < i := by omega
                        obtain ⟨A4, e7, e, -, hqy⟩ := LYY.out
                        injection e with e4 e5 e6
                        subst e4 e6
                        clear e5
                        have hrl : r < (S.map (lineS (n + 1))).length := by rw [List.length_map, HS.out]; omega
                        obtain ⟨gy, rfl, -, hty⟩ := hqy (by intro e; rw [e] at hrl; simp at hrl)
                        rw [List.getElem?_append_right (by rw [HR.out]; omega), HR.out, show t - nr = r by omega] at hx
                        obtain ⟨d0, d1, d2⟩ := hty r _ hx
                        dsimp only at d0 d1 d2
                        generalize (x1 : Int) = u1 at a0 d0
                        generalize (x2 : Int) = u2 at a1 d1
                        clear hqz htz2 hx hzl hqy hty hrl hr hr2
                        go_wp2_with fail
                        go_quiet (fail)
                        go_wp2_with fail
                        go_roundg (nz - (t + 1))
                        case measure => omega
                        case rel => exact ⟨t + 1, q + nq, by go_num, by omega, Nat.le_refl _, rfl⟩
                    · obtain rfl : t = nz := by omega
                      have z5 : ¬ (t : Int) < t := by omega
                      go_wp2_with fail
                      go_ret
                      exact ⟨rfl, BB.out.trans (drewN_below wl q _)⟩
/-- the law's walk, of items that came in -/
theorem apart10_in (hF : FillOK 11) (hA : AwakeOK10 15) (a0 : Option Addr) (len0 cap0 : Nat) (z0 : List It) (a1 : Option Addr) (len1 cap1 : Nat) (z1 : List It) (a2 : Int) (w : World) (w0 : ItemsIn w a0 len0 cap0 z0) (w1 : ItemsIn w a1 len1 cap1 z1) :
    Calls Try.prog 7 #[.slice a0 len0 cap0, .slice a1 len1 cap1, .int .i64 a2] w fun e w' => e = .returned (.bool true) ∧ Below w.heap.size w w' := by
  obtain ⟨h1, rfl, h3, h4, h5⟩ := w0
  obtain ⟨k1, rfl, k3, k4, k5⟩ := w1
  exact apart10 hF hA z0 z1 _ _ a2 w h1 k1 (fun n c e => by injection e with e1 e2 e3; subst e2 e3; exact h3 e1) (fun n c e => by injection e with e1 e2 e3; subst e2 e3; exact k3 e1)
end Go.Proofs.Ytpfeiiabplaghaa
