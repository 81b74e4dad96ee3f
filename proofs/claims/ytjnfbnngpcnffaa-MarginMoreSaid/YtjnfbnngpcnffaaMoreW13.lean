/-
  The law MarginMore: of any Join, One, May that answer as is asked.
-/
import Derived.Test.YtjnfbnngpcnffaaAwake13
import Derived.Test.YtjnfbnngpcnffaaRely
namespace Go.Proofs.Ytjnfbnngpcnffaa
open Go.RowKit

theorem new_two (W : World) (a b : Mg) : MgIn (W.alloc (.cells #[.int .i64 a.1, .int .i64 a.2, .int .i64 b.1, .int .i64 b.2] 24)) (.slice (some ⟨W.heap.size, 0, none⟩) 2 2) [a, b] := mgs_new [a, b] (by simp) _
/-- a call of Join with two -/
theorem join_two {f : Nat} (hJ : JoinOK f) (a b : Mg) (W : World) : Calls Try.prog f #[.slice (some ⟨W.heap.size, 0, none⟩) 2 2] (W.alloc (.cells #[.int .i64 a.1, .int .i64 a.2, .int .i64 b.1, .int .i64 b.2] 24)) fun e w' => e = .returned (mgV (mjoin a b)) ∧ Below W.heap.size W w' := by
  refine (hJ [a, b] _ _ (new_two W a b) (by simp)).mono ?_
  rintro e w' ⟨rfl, hb⟩
  exact ⟨rfl, ((Below.refl _ W).alloc (Nat.le_refl _) _).trans (hb.mono (by rw [World.size_alloc]; omega))⟩
def opM (l : List Mg) : OpB := ⟨fun v w => MgIn w v l, fun _ _ _ hb h => h.keep hb⟩
theorem more_iff {a : Mg} (h : MayM a) (n : Int) : mjoin a (oneM n) = (if n > a.1 then n else a.1, if n < a.2 then n else a.2) := by
  obtain ⟨⟨h1, h2⟩, h3, h4⟩ := h
  unfold mjoin oneM
  ext
  · dsimp only; repeat' split <;> simp_all <;> omega
  · dsimp only; repeat' split <;> simp_all <;> omega

set_option maxRecDepth 100000 in
set_option maxHeartbeats 8000000 in
theorem more13 (hJ : JoinOK 8) (hO : OneOK 12) (hM : MayOK13 10) (hA : AwakeOK13 16) (a b : Mg) (n : Int) (w : World) :
    Calls Try.prog 6 #[mgV a, mgV b, .int .i64 n] w fun e w' => e = .returned (.bool true) ∧ Below w.heap.size w w' := by
  have KA := Lib.hid (fun W => hA W)
  have KM1 := Lib.hid (fun W => hM a W)
  have KM2 := Lib.hid (fun W => hM b W)
  have KJ := Lib.hid (fun x y W => join_two hJ x y W)
  have KJd : Hid (∀ (x y : Mg) (W : World) (v : Value), MgIn W v [x, y] → Calls Try.prog 8 #[v] W fun e w' => e = .returned (mgV (mjoin x y)) ∧ Below W.heap.size W w') := Lib.hid (fun x y W v h => hJ [x, y] v W h (by simp))
  have KO := Lib.hid (fun W => hO n W)
  have G0 := Lib.hid (MgAt.new w a)
  have B0 : Hid (Below w.heap.size w (w.alloc (.cells (mgCells a).toArray 24))) := Lib.hid ((Below.refl _ w).alloc (Nat.le_refl _) _)
  have G1 := Lib.hid (MgAt.new (w.alloc (.cells (mgCells a).toArray 24)) b)
  rw [World.size_alloc] at G1
  have G2 := Lib.hid (G0.out.keep ((Below.refl _ _).alloc (Nat.le_refl _) (.cells (mgCells b).toArray 24)))
  have B1 := Lib.hid (B0.out.alloc B0.out.size (.cells (mgCells b).toArray 24))
  clear G0 B0 hA hM hJ hO
  by_cases ha : MayM a
  case neg =>
    rw [decide_eq_false ha] at KM1
    obtain ⟨a1, a2⟩ := a
    obtain ⟨b1, b2⟩ := b
    unfold mgV at KM1 ⊢
    unfold mgCells at G1 G2 B1
    dsimp only at G1 G2 B1 KM1 ⊢
    clear ha KM2 KJ KJd KO
    go_enter Try.func6, Try.ntmps6
    go_upto_region 1 with fail
    generalize (w.alloc (.cells #[.int .i64 a1, .int .i64 a2] 24)).alloc (.cells #[.int .i64 b1, .int .i64 b2] 24) = w0 at G1 G2 B1 ⊢
    go_wp2_with (first
      | (go_at_call 16; (with_reducible refine (KA.out _).mono ?_); rintro e w1 ⟨rfl, hb⟩; have B2 := Lib.hid (b_next B1.out hb); have G3 := Lib.hid (MgAt.keep G2.out hb); obtain ⟨c0, c1⟩ := MgAt.cells G3.out; dsimp only at c0 c1; clear hb)
      | (go_at_call 10; (with_reducible refine (KM1.out _).mono ?_); rintro e w2 ⟨rfl, hb⟩; have B3 := Lib.hid (b_next B2.out hb); clear hb))
    go_ret
    exact ⟨rfl, B3.out⟩
  rw [decide_eq_true ha] at KM1
  by_cases hb : MayM b
  case neg =>
    rw [decide_eq_false hb] at KM2
    obtain ⟨a1, a2⟩ := a
    obtain ⟨b1, b2⟩ := b
    unfold mgV at KM1 KM2 ⊢
    unfold mgCells at G1 G2 B1
    dsimp only at G1 G2 B1 KM1 KM2 ⊢
    clear ha hb KJ KJd KO
    go_enter Try.func6, Try.ntmps6
    go_upto_region 1 with fail
    generalize (w.alloc (.cells #[.int .i64 a1, .int .i64 a2] 24)).alloc (.cells #[.int .i64 b1, .int .i64 b2] 24) = w0 at G1 G2 B1 ⊢
    go_wp2_with (first
      | (go_at_call 16; (with_reducible refine (KA.out _).mono ?_); rintro e w1 ⟨rfl, hb⟩; have B2 := Lib.hid (b_next B1.out hb); have G3 := Lib.hid (MgAt.keep G2.out hb); have G4 := Lib.hid (MgAt.keep G1.out hb); obtain ⟨c0, c1⟩ := MgAt.cells G3.out; dsimp only at c0 c1; clear hb)
      | (go_at_call 10; (with_reducible refine (KM1.out _).mono ?_); rintro e w2 ⟨rfl, hb⟩; have B3 := Lib.hid (b_next B2.out hb); have G5 := Lib.hid (MgAt.keep G4.out hb); obtain ⟨d0, d1⟩ := MgAt.cells G5.out; dsimp only at d0 d1; clear hb)
      | (go_at_call 10; (with_reducible refine (KM2.out _).mono ?_); rintro e w3 ⟨rfl, hb⟩; have B4 := Lib.hid (b_next B3.out hb); clear hb))
    go_ret
    exact ⟨rfl, B4.out⟩
  rw [decide_eq_true hb] at KM2
  have KJ1 := Lib.hid (fun W => KJ.out a b W)
  have KJ2 := Lib.hid (fun W v h => KJd.out b a W v h)
  rw [mjoin_comm b a] at KJ2
  have KJ3 := Lib.hid (fun W v h => KJd.out a (oneM n) W v h)
  rw [more_iff ha n] at KJ3
  obtain ⟨⟨o1, o2⟩, ho⟩ : ∃ m, oneM n = m := ⟨_, rfl⟩
  rw [ho] at KO KJ3
  clear KJ KJd ho
  obtain ⟨a1, a2⟩ := a
  obtain ⟨b1, b2⟩ := b
  obtain ⟨⟨p, q⟩, hpq⟩ : ∃ m, mjoin (a1, a2) (b1, b2) = m := ⟨_, rfl⟩
  rw [hpq] at KJ1 KJ2
  unfold mgV at KM1 KM2 KJ1 KJ2 KJ3 KO ⊢
  unfold mgCells at G1 G2 B1
  dsimp only at G1 G2 B1 KM1 KM2 KJ1 KJ2 KJ3 KO ⊢
  have hp : (if b1 > a1 then b1 else a1) = p := congrArg Prod.fst hpq
  have hq : (if b2 < a2 then b2 else a2) = q := congrArg Prod.snd hpq
  have HA1 : Hid (0 ≤ a1 ∧ a2 ≤ 0) := Lib.hid ⟨ha.1.1, ha.2.1⟩
  clear hpq ha hb
  go_enter Try.func6, Try.ntmps6
  go_upto_region 1 with fail
  generalize (w.alloc (.cells #[.int .i64 a1, .int .i64 a2] 24)).alloc (.cells #[.int .i64 b1, .int .i64 b2] 24) = w0 at G1 G2 B1 ⊢
  go_upto_region 5 with (first
    | (go_at_call 16; (with_reducible refine (KA.out _).mono ?_); rintro e w1 ⟨rfl, hb⟩; have B2 := Lib.hid (b_next B1.out hb); have G3 := Lib.hid (MgAt.keep G2.out hb); have G4 := Lib.hid (MgAt.keep G1.out hb); obtain ⟨c0, c1⟩ := MgAt.cells G3.out; dsimp only at c0 c1; clear hb)
    | (go_at_call 10; (with_reducible refine (KM1.out _).mono ?_); rintro e w2 ⟨rfl, hb⟩; have B3 := Lib.hid (b_next B2.out hb); have G5 := Lib.hid (MgAt.keep G4.out hb); have G6 := Lib.hid (MgAt.keep G3.out hb); obtain ⟨d0, d1⟩ := MgAt.cells G5.out; dsimp only at d0 d1; clear hb)
    | (go_at_call 10; (with_reducible refine (KM2.out _).mono ?_); rintro e w3 ⟨rfl, hb⟩; have B4 := Lib.hid (b_next B3.out hb); have G7 := Lib.hid (MgAt.keep G6.out hb); have G8 := Lib.hid (MgAt.keep G5.out hb); clear hb))
  clear c0 c1 d0 d1 KA KM1 KM2 G1 G2 G3 G4 G5 G6 B1 B2 B3
  obtain ⟨c0, c1⟩ := MgAt.cells G7.out
  obtain ⟨d0, d1⟩ := MgAt.cells G8.out
  dsimp only at c0 c1 d0 d1
  go_upto_region 6 with (go_at_call 8; (with_reducible refine (KJ1.out _).mono ?_); rintro e w4 ⟨rfl, hb⟩; have B5 := Lib.hid (b_next B4.out hb); have G9 := Lib.hid (MgAt.keep G7.out hb); have H9 := Lib.hid (MgAt.keep G8.out hb); clear hb)
  clear c0 c1 d0 d1 KJ1 G7 G8 B4
  have C5 : Hid (Below w4.heap.size w4 (w4.alloc (.cells #[.int .i64 p, .int .i64 q] 24))) := Lib.hid ((Below.refl _ _).alloc (Nat.le_refl _) _)
  have Ga := Lib.hid (MgAt.keep G9.out C5.out)
  have Ha := Lib.hid (MgAt.keep H9.out C5.out)
  have Ma : Hid (MgAt (w4.alloc (.cells #[.int .i64 p, .int .i64 q] 24)) w4.heap.size (p, q)) := Lib.hid (MgAt.new w4 (p, q))
  have Ba := Lib.hid (b_next B5.out C5.out)
  clear C5 B5 G9 H9
  generalize w4.alloc (.cells #[.int .i64 p, .int .i64 q] 24) = w5 at Ga Ha Ma Ba ⊢
  generalize w4.heap.size = g at Ma ⊢
  have CS : Hid (∀ W, Below w5.heap.size w5 W → Below w5.heap.size w5 W ∧ W.cell? ⟨w.heap.size, 0, none⟩ = some (.int .i64 a1) ∧ W.cell? ⟨w.heap.size, 1, none⟩ = some (.int .i64 a2) ∧ W.cell? ⟨w.heap.size + 1, 0, none⟩ = some (.int .i64 b1) ∧ W.cell? ⟨w.heap.size + 1, 1, none⟩ = some (.int .i64 b2) ∧ W.cell? ⟨g, 0, none⟩ = some (.int .i64 p) ∧ W.cell? ⟨g, 1, none⟩ = some (.int .i64 q)) := Lib.hid (fun W hW => by
    have h1 := MgAt.cells (MgAt.keep Ga.out hW)
    have h2 := MgAt.cells (MgAt.keep Ha.out hW)
    have h3 := MgAt.cells (MgAt.keep Ma.out hW)
    exact ⟨hW, h1.1, h1.2, h2.1, h2.2, h3.1, h3.2⟩)
  clear Ga Ha Ma
  have k1 : (p == p) = true := by simp
  have k2 : (q == q) = true := by simp
  go_cut [69] from 22 (fun v wx => v = .bool false ∧ Hid (Below w5.heap.size w5 wx))
  case first =>

    obtain ⟨-, c0, c1, d0, d1, e0, e1⟩ := CS.out w5 (Below.refl _ _)
    have n1 : decide (p < a1) = false := decide_eq_false (by rw [← hp]; split <;> omega)
    have n2 : decide (a2 < q) = false := decide_eq_false (by rw [← hq]; split <;> omega)
    clear KO Ba KJ3
    have s1 : ((a1 : Int) != a1) = (!true) := by simp
    have s2 : ((a2 : Int) != a2) = (!true) := by simp
    have s3 : ((b1 : Int) != b1) = (!true) := by simp
    have s4 : ((b2 : Int) != b2) = (!true) := by simp
    by_cases h1 : b1 > a1
    · by_cases h2 : b2 < a2
      · skip
        rw [if_pos h1] at hp
        subst hp
        have u1 : ((b1 : Int) != a1) = (!false) := by simp; omega
        rw [if_pos h2] at hq
        subst hq
        have v1 : ((b2 : Int) != a2) = (!false) := by simp; omega
        clear h1 h2
        go_wp2_with fail
        refine' wp_region_below [opV _, opV _, opV _, opV _, opV _, opV _, opV _, opV _, opV _, opV _, opV _, opV _, opV _, opV _, opV _, opV _, opV _, opV _, opV _, opV _, opV _, opV _, opV _, opV _, opV _, opV _, opV _, opV _, opV _, opV _, opV _, opV _, opV _, opV _, opV _, opV _, opV _, opV _, opV _, opV _, opV _, opV _, opV _, opV _, opM [(b1, b2), (a1, a2)], opV (.agg #[.int .i64 b1, .int .i64 b2]), opV _, opV _] rfl (by kernel_rfl) ⟨?s0, ?s1, ?s2, ?s3, ?s4, ?s5, ?s6, ?s7, ?s8, ?s9, ?s10, ?s11, ?s12, ?s13, ?s14, ?s15, ?s16, ?s17, ?s18, ?s19, ?s20, ?s21, ?s22, ?s23, ?s24, ?s25, ?s26, ?s27, ?s28, ?s29, ?s30, ?s31, ?s32, ?s33, ?s34, ?s35, ?s36, ?s37, ?s38, ?s39, ?s40, ?s41, ?s42, ?s43, ?s44, ?s45, ?s46, ?s47, trivial⟩ ?fin
        case s0 =>
          refine BStep.of [] [] (opV _) (by kernel_rfl) (fun _ _ => by kernel_rfl) rfl ?_
          intro vs wv hB hA
          clear hA
          simp only [fillP]
          have c0 := (CS.out wv hB).2.1; have c1 := (CS.out wv hB).2.2.1; have d0 := (CS.out wv hB).2.2.2.1; have d1 := (CS.out wv hB).2.2.2.2.1; have e0 := (CS.out wv hB).2.2.2.2.2.1; have e1 := (CS.out wv hB).2.2.2.2.2.2; go_wp2_with fail
          refine postB_val ?_ (Below.refl _ _)
          simp only [List.getElem?_cons_succ, List.getElem?_cons_zero]
          rfl
        case s1 =>
          refine BStep.of [0] [(22, 0)] (opV _) (by kernel_rfl) (fun _ _ => by kernel_rfl) rfl ?_
          intro vs wv hB hA
          have h0 : vs 0 = _ := hA.1
          clear hA
          simp only [fillP, List.setIfInBounds_toArray, List.set_cons_zero, List.set_cons_succ, h0]
          have c0 := (CS.out wv hB).2.1; have c1 := (CS.out wv hB).2.2.1; have d0 := (CS.out wv hB).2.2.2.1; have d1 := (CS.out wv hB).2.2.2.2.1; have e0 := (CS.out wv hB).2.2.2.2.2.1; have e1 := (CS.out wv hB).2.2.2.2.2.2; go_wp2_with fail
          refine postB_val ?_ (Below.refl _ _)
          simp only [List.getElem?_cons_succ, List.getElem?_cons_zero]
          rfl
        case s2 =>
          refine BStep.of [] [] (opV _) (by kernel_rfl) (fun _ _ => by kernel_rfl) rfl ?_
          intro vs wv hB hA
          clear hA
          simp only [fillP]
          have c0 := (CS.out wv hB).2.1; have c1 := (CS.out wv hB).2.2.1; have d0 := (CS.out wv hB).2.2.2.1; have d1 := (CS.out wv hB).2.2.2.2.1; have e0 := (CS.out wv hB).2.2.2.2.2.1; have e1 := (CS.out wv hB).2.2.2.2.2.2; go_wp2_with fail
          refine postB_val ?_ (Below.refl _ _)
          simp only [List.getElem?_cons_succ, List.getElem?_cons_zero]
          rfl
        case s3 =>
          refine BStep.of [2] [(24, 2)] (opV _) (by kernel_rfl) (fun _ _ => by kernel_rfl) rfl ?_
          intro vs wv hB hA
          have h2 : vs 2 = _ := hA.1
          clear hA
          simp only [fillP, List.setIfInBounds_toArray, List.set_cons_zero, List.set_cons_succ, h2]
          have c0 := (CS.out wv hB).2.1; have c1 := (CS.out wv hB).2.2.1; have d0 := (CS.out wv hB).2.2.2.1; have d1 := (CS.out wv hB).2.2.2.2.1; have e0 := (CS.out wv hB).2.2.2.2.2.1; have e1 := (CS.out wv hB).2.2.2.2.2.2; go_wp2_with fail
          refine postB_val ?_ (Below.refl _ _)
          simp only [List.getElem?_cons_succ, List.getElem?_cons_zero]
          rfl
        case s4 =>
          refine BStep.of [1, 3] [(23, 1), (25, 3)] (opV _) (by kernel_rfl) (fun _ _ => by kernel_rfl) rfl ?_
          intro vs wv hB hA
          have h1 : vs 1 = _ := hA.1
          have h3 : vs 3 = _ := hA.2.1
          clear hA
          simp only [fillP, List.setIfInBounds_toArray, List.set_cons_zero, List.set_cons_succ, h1, h3]
          have c0 := (CS.out wv hB).2.1; have c1 := (CS.out wv hB).2.2.1; have d0 := (CS.out wv hB).2.2.2.1; have d1 := (CS.out wv hB).2.2.2.2.1; have e0 := (CS.out wv hB).2.2.2.2.2.1; have e1 := (CS.out wv hB).2.2.2.2.2.2; go_wp2_with fail
          refine postB_val ?_ (Below.refl _ _)
          simp only [List.getElem?_cons_succ, List.getElem?_cons_zero]
          rfl
        case s5 =>
          refine BStep.of [4] [(26, 4)] (opV _) (by kernel_rfl) (fun _ _ => by kernel_rfl) rfl ?_
          intro vs wv hB hA
          have h4 : vs 4 = _ := hA.1
          clear hA
          simp only [fillP, List.setIfInBounds_toArray, List.set_cons_zero, List.set_cons_succ, h4]
          have c0 := (CS.out wv hB).2.1; have c1 := (CS.out wv hB).2.2.1; have d0 := (CS.out wv hB).2.2.2.1; have d1 := (CS.out wv hB).2.2.2.2.1; have e0 := (CS.out wv hB).2.2.2.2.2.1; have e1 := (CS.out wv hB).2.2.2.2.2.2; go_wp2_with fail
          refine postB_val ?_ (Below.refl _ _)
          simp only [List.getElem?_cons_succ, List.getElem?_cons_zero]
          rfl
        case s6 =>
          refine BStep.of [5] [(27, 5)] (opV _) (by kernel_rfl) (fun _ _ => by kernel_rfl) rfl ?_
          intro vs wv hB hA
          have h5 : vs 5 = _ := hA.1
          clear hA
          simp only [fillP, List.setIfInBounds_toArray, List.set_cons_zero, List.set_cons_succ, h5]
          have c0 := (CS.out wv hB).2.1; have c1 := (CS.out wv hB).2.2.1; have d0 := (CS.out wv hB).2.2.2.1; have d1 := (CS.out wv hB).2.2.2.2.1; have e0 := (CS.out wv hB).2.2.2.2.2.1; have e1 := (CS.out wv hB).2.2.2.2.2.2; go_wp2_with fail
          refine postB_val ?_ (Below.refl _ _)
          simp only [List.getElem?_cons_succ, List.getElem?_cons_zero]
          rfl
        case s7 =>
          refine BStep.of [5, 6] [(27, 5), (28, 6)] (opV _) (by kernel_rfl) (fun _ _ => by kernel_rfl) rfl ?_
          intro vs wv hB hA
          have h5 : vs 5 = _ := hA.1
          have h6 : vs 6 = _ := hA.2.1
          clear hA
          simp only [fillP, List.setIfInBounds_toArray, List.set_cons_zero, List.set_cons_succ, h5, h6]
          have c0 := (CS.out wv hB).2.1; have c1 := (CS.out wv hB).2.2.1; have d0 := (CS.out wv hB).2.2.2.1; have d1 := (CS.out wv hB).2.2.2.2.1; have e0 := (CS.out wv hB).2.2.2.2.2.1; have e1 := (CS.out wv hB).2.2.2.2.2.2; go_wp2_with fail
          refine postB_val ?_ (Below.refl _ _)
          simp only [List.getElem?_cons_succ, List.getElem?_cons_zero]
          rfl
        case s8 =>
          refine BStep.of [5] [(27, 5)] (opV _) (by kernel_rfl) (fun _ _ => by kernel_rfl) rfl ?_
          intro vs wv hB hA
          have h5 : vs 5 = _ := hA.1
          clear hA
          simp only [fillP, List.setIfInBounds_toArray, List.set_cons_zero, List.set_cons_succ, h5]
          have c0 := (CS.out wv hB).2.1; have c1 := (CS.out wv hB).2.2.1; have d0 := (CS.out wv hB).2.2.2.1; have d1 := (CS.out wv hB).2.2.2.2.1; have e0 := (CS.out wv hB).2.2.2.2.2.1; have e1 := (CS.out wv hB).2.2.2.2.2.2; go_wp2_with fail
          refine postB_val ?_ (Below.refl _ _)
          simp only [List.getElem?_cons_succ, List.getElem?_cons_zero]
          rfl
        case s9 =>
          refine BStep.of [5, 8] [(27, 5), (30, 8)] (opV _) (by kernel_rfl) (fun _ _ => by kernel_rfl) rfl ?_
          intro vs wv hB hA
          have h5 : vs 5 = _ := hA.1
          have h8 : vs 8 = _ := hA.2.1
          clear hA
          simp only [fillP, List.setIfInBounds_toArray, List.set_cons_zero, List.set_cons_succ, h5, h8]
          have c0 := (CS.out wv hB).2.1; have c1 := (CS.out wv hB).2.2.1; have d0 := (CS.out wv hB).2.2.2.1; have d1 := (CS.out wv hB).2.2.2.2.1; have e0 := (CS.out wv hB).2.2.2.2.2.1; have e1 := (CS.out wv hB).2.2.2.2.2.2; go_wp2_with fail
          refine postB_val ?_ (Below.refl _ _)
          simp only [List.getElem?_cons_succ, List.getElem?_cons_zero]
          rfl
        case s10 =>
          refine BStep.of [5, 7, 9] [(27, 5), (29, 7), (31, 9)] (opV _) (by kernel_rfl) (fun _ _ => by kernel_rfl) rfl ?_
          intro vs wv hB hA
          have h5 : vs 5 = _ := hA.1
          have h7 : vs 7 = _ := hA.2.1
          have h9 : vs 9 = _ := hA.2.2.1
          clear hA
          simp only [fillP, List.setIfInBounds_toArray, List.set_cons_zero, List.set_cons_succ, h5, h7, h9]
          have c0 := (CS.out wv hB).2.1; have c1 := (CS.out wv hB).2.2.1; have d0 := (CS.out wv hB).2.2.2.1; have d1 := (CS.out wv hB).2.2.2.2.1; have e0 := (CS.out wv hB).2.2.2.2.2.1; have e1 := (CS.out wv hB).2.2.2.2.2.2; go_wp2_with fail
          refine postB_val ?_ (Below.refl _ _)
          simp only [List.getElem?_cons_succ, List.getElem?_cons_zero]
          rfl
        case s11 =>
          refine BStep.of [5, 10] [(27, 5), (32, 10)] (opV _) (by kernel_rfl) (fun _ _ => by kernel_rfl) rfl ?_
          intro vs wv hB hA
          have h5 : vs 5 = _ := hA.1
          have h10 : vs 10 = _ := hA.2.1
          clear hA
          simp only [fillP, List.setIfInBounds_toArray, List.set_cons_zero, List.set_cons_succ, h5, h10]
          have c0 := (CS.out wv hB).2.1; have c1 := (CS.out wv hB).2.2.1; have d0 := (CS.out wv hB).2.2.2.1; have d1 := (CS.out wv hB).2.2.2.2.1; have e0 := (CS.out wv hB).2.2.2.2.2.1; have e1 := (CS.out wv hB).2.2.2.2.2.2; go_wp2_with fail
          refine postB_val ?_ (Below.refl _ _)
          simp only [List.getElem?_cons_succ, List.getElem?_cons_zero]
          rfl
        case s12 =>
          refine BStep.of [5, 11] [(27, 5), (33, 11)] (opV _) (by kernel_rfl) (fun _ _ => by kernel_rfl) rfl ?_
          intro vs wv hB hA
          have h5 : vs 5 = _ := hA.1
          have h11 : vs 11 = _ := hA.2.1
          clear hA
          simp only [fillP, List.setIfInBounds_toArray, List.set_cons_zero, List.set_cons_succ, h5, h11]
          have c0 := (CS.out wv hB).2.1; have c1 := (CS.out wv hB).2.2.1; have d0 := (CS.out wv hB).2.2.2.1; have d1 := (CS.out wv hB).2.2.2.2.1; have e0 := (CS.out wv hB).2.2.2.2.2.1; have e1 := (CS.out wv hB).2.2.2.2.2.2; go_wp2_with fail
          refine postB_val ?_ (Below.refl _ _)
          simp only [List.getElem?_cons_succ, List.getElem?_cons_zero]
          rfl
        case s13 =>
          refine BStep.of [12] [(34, 12)] (opV _) (by kernel_rfl) (fun _ _ => by kernel_rfl) rfl ?_
          intro vs wv hB hA
          have h12 : vs 12 = _ := hA.1
          clear hA
          simp only [fillP, List.setIfInBounds_toArray, List.set_cons_zero, List.set_cons_succ, h12]
          have c0 := (CS.out wv hB).2.1; have c1 := (CS.out wv hB).2.2.1; have d0 := (CS.out wv hB).2.2.2.1; have d1 := (CS.out wv hB).2.2.2.2.1; have e0 := (CS.out wv hB).2.2.2.2.2.1; have e1 := (CS.out wv hB).2.2.2.2.2.2; go_wp2_with fail
          refine postB_val ?_ (Below.refl _ _)
          simp only [List.getElem?_cons_succ, List.getElem?_cons_zero]
          rfl
        case s14 =>
          refine BStep.of [12, 13] [(34, 12), (35, 13)] (opV _) (by kernel_rfl) (fun _ _ => by kernel_rfl) rfl ?_
          intro vs wv hB hA
          have h12 : vs 12 = _ := hA.1
          have h13 : vs 13 = _ := hA.2.1
          clear hA
          simp only [fillP, List.setIfInBounds_toArray, List.set_cons_zero, List.set_cons_succ, h12, h13]
          have c0 := (CS.out wv hB).2.1; have c1 := (CS.out wv hB).2.2.1; have d0 := (CS.out wv hB).2.2.2.1; have d1 := (CS.out wv hB).2.2.2.2.1; have e0 := (CS.out wv hB).2.2.2.2.2.1; have e1 := (CS.out wv hB).2.2.2.2.2.2; go_wp2_with fail
          refine postB_val ?_ (Below.refl _ _)
          simp only [List.getElem?_cons_succ, List.getElem?_cons_zero]
          rfl
        case s15 =>
          refine BStep.of [12] [(34, 12)] (opV _) (by kernel_rfl) (fun _ _ => by kernel_rfl) rfl ?_
          intro vs wv hB hA
          have h12 : vs 12 = _ := hA.1
          clear hA
          simp only [fillP, List.setIfInBounds_toArray, List.set_cons_zero, List.set_cons_succ, h12]
          have c0 := (CS.out wv hB).2.1; have c1 := (CS.out wv hB).2.2.1; have d0 := (CS.out wv hB).2.2.2.1; have d1 := (CS.out wv hB).2.2.2.2.1; have e0 := (CS.out wv hB).2.2.2.2.2.1; have e1 := (CS.out wv hB).2.2.2.2.2.2; go_wp2_with fail
          refine postB_val ?_ (Below.refl _ _)
          simp only [List.getElem?_cons_succ, List.getElem?_cons_zero]
          rfl
        case s16 =>
          refine BStep.of [12, 15] [(34, 12), (37, 15)] (opV _) (by kernel_rfl) (fun _ _ => by kernel_rfl) rfl ?_
          intro vs wv hB hA
          have h12 : vs 12 = _ := hA.1
          have h15 : vs 15 = _ := hA.2.1
          clear hA
          simp only [fillP, List.setIfInBounds_toArray, List.set_cons_zero, List.set_cons_succ, h12, h15]
          have c0 := (CS.out wv hB).2.1; have c1 := (CS.out wv hB).2.2.1; have d0 := (CS.out wv hB).2.2.2.1; have d1 := (CS.out wv hB).2.2.2.2.1; have e0 := (CS.out wv hB).2.2.2.2.2.1; have e1 := (CS.out wv hB).2.2.2.2.2.2; go_wp2_with fail
          refine postB_val ?_ (Below.refl _ _)
          simp only [List.getElem?_cons_succ, List.getElem?_cons_zero]
          rfl
        case s17 =>
          refine BStep.of [12, 14, 16] [(34, 12), (36, 14), (38, 16)] (opV _) (by kernel_rfl) (fun _ _ => by kernel_rfl) rfl ?_
          intro vs wv hB hA
          have h12 : vs 12 = _ := hA.1
          have h14 : vs 14 = _ := hA.2.1
          have h16 : vs 16 = _ := hA.2.2.1
          clear hA
          simp only [fillP, List.setIfInBounds_toArray, List.set_cons_zero, List.set_cons_succ, h12, h14, h16]
          have c0 := (CS.out wv hB).2.1; have c1 := (CS.out wv hB).2.2.1; have d0 := (CS.out wv hB).2.2.2.1; have d1 := (CS.out wv hB).2.2.2.2.1; have e0 := (CS.out wv hB).2.2.2.2.2.1; have e1 := (CS.out wv hB).2.2.2.2.2.2; go_wp2_with fail
          refine postB_val ?_ (Below.refl _ _)
          simp only [List.getElem?_cons_succ, List.getElem?_cons_zero]
          rfl
        case s18 =>
          refine BStep.of [12, 17] [(34, 12), (39, 17)] (opV _) (by kernel_rfl) (fun _ _ => by kernel_rfl) rfl ?_
          intro vs wv hB hA
          have h12 : vs 12 = _ := hA.1
          have h17 : vs 17 = _ := hA.2.1
          clear hA
          simp only [fillP, List.setIfInBounds_toArray, List.set_cons_zero, List.set_cons_succ, h12, h17]
          have c0 := (CS.out wv hB).2.1; have c1 := (CS.out wv hB).2.2.1; have d0 := (CS.out wv hB).2.2.2.1; have d1 := (CS.out wv hB).2.2.2.2.1; have e0 := (CS.out wv hB).2.2.2.2.2.1; have e1 := (CS.out wv hB).2.2.2.2.2.2; go_wp2_with fail
          refine postB_val ?_ (Below.refl _ _)
          simp only [List.getElem?_cons_succ, List.getElem?_cons_zero]
          rfl
        case s19 =>
          refine BStep.of [18] [(40, 18)] (opV _) (by kernel_rfl) (fun _ _ => by kernel_rfl) rfl ?_
          intro vs wv hB hA
          have h18 : vs 18 = _ := hA.1
          clear hA
          simp only [fillP, List.setIfInBounds_toArray, List.set_cons_zero, List.set_cons_succ, h18]
          have c0 := (CS.out wv hB).2.1; have c1 := (CS.out wv hB).2.2.1; have d0 := (CS.out wv hB).2.2.2.1; have d1 := (CS.out wv hB).2.2.2.2.1; have e0 := (CS.out wv hB).2.2.2.2.2.1; have e1 := (CS.out wv hB).2.2.2.2.2.2; go_wp2_with fail
          refine postB_val ?_ (Below.refl _ _)
          simp only [List.getElem?_cons_succ, List.getElem?_cons_zero]
          rfl
        case s20 =>
          refine BStep.of [18, 19] [(40, 18), (41, 19)] (opV _) (by kernel_rfl) (fun _ _ => by kernel_rfl) rfl ?_
          intro vs wv hB hA
          have h18 : vs 18 = _ := hA.1
          have h19 : vs 19 = _ := hA.2.1
          clear hA
          simp only [fillP, List.setIfInBounds_toArray, List.set_cons_zero, List.set_cons_succ, h18, h19]
          have c0 := (CS.out wv hB).2.1; have c1 := (CS.out wv hB).2.2.1; have d0 := (CS.out wv hB).2.2.2.1; have d1 := (CS.out wv hB).2.2.2.2.1; have e0 := (CS.out wv hB).2.2.2.2.2.1; have e1 := (CS.out wv hB).2.2.2.2.2.2; go_wp2_with fail
          refine postB_val ?_ (Below.refl _ _)
          simp only [List.getElem?_cons_succ, List.getElem?_cons_zero]
          rfl
        case s21 =>
          refine BStep.of [18] [(40, 18)] (opV _) (by kernel_rfl) (fun _ _ => by kernel_rfl) rfl ?_
          intro vs wv hB hA
          have h18 : vs 18 = _ := hA.1
          clear hA
          simp only [fillP, List.setIfInBounds_toArray, List.set_cons_zero, List.set_cons_succ, h18]
          have c0 := (CS.out wv hB).2.1; have c1 := (CS.out wv hB).2.2.1; have d0 := (CS.out wv hB).2.2.2.1; have d1 := (CS.out wv hB).2.2.2.2.1; have e0 := (CS.out wv hB).2.2.2.2.2.1; have e1 := (CS.out wv hB).2.2.2.2.2.2; go_wp2_with fail
          refine postB_val ?_ (Below.refl _ _)
          simp only [List.getElem?_cons_succ, List.getElem?_cons_zero]
          rfl
        case s22 =>
          refine BStep.of [18, 21] [(40, 18), (43, 21)] (opV _) (by kernel_rfl) (fun _ _ => by kernel_rfl) rfl ?_
          intro vs wv hB hA
          have h18 : vs 18 = _ := hA.1
          have h21 : vs 21 = _ := hA.2.1
          clear hA
          simp only [fillP, List.setIfInBounds_toArray, List.set_cons_zero, List.set_cons_succ, h18, h21]
          have c0 := (CS.out wv hB).2.1; have c1 := (CS.out wv hB).2.2.1; have d0 := (CS.out wv hB).2.2.2.1; have d1 := (CS.out wv hB).2.2.2.2.1; have e0 := (CS.out wv hB).2.2.2.2.2.1; have e1 := (CS.out wv hB).2.2.2.2.2.2; go_wp2_with fail
          refine postB_val ?_ (Below.refl _ _)
          simp only [List.getElem?_cons_succ, List.getElem?_cons_zero]
          rfl
        case s23 =>
          refine BStep.of [18, 20, 22] [(40, 18), (42, 20), (44, 22)] (opV _) (by kernel_rfl) (fun _ _ => by kernel_rfl) rfl ?_
          intro vs wv hB hA
          have h18 : vs 18 = _ := hA.1
          have h20 : vs 20 = _ := hA.2.1
          have h22 : vs 22 = _ := hA.2.2.1
          clear hA
          simp only [fillP, List.setIfInBounds_toArray, List.set_cons_zero, List.set_cons_succ, h18, h20, h22]
          have c0 := (CS.out wv hB).2.1; have c1 := (CS.out wv hB).2.2.1; have d0 := (CS.out wv hB).2.2.2.1; have d1 := (CS.out wv hB).2.2.2.2.1; have e0 := (CS.out wv hB).2.2.2.2.2.1; have e1 := (CS.out wv hB).2.2.2.2.2.2; go_wp2_with fail
          refine postB_val ?_ (Below.refl _ _)
          simp only [List.getElem?_cons_succ, List.getElem?_cons_zero]
          rfl
        case s24 =>
          refine BStep.of [12, 18, 23] [(34, 12), (40, 18), (45, 23)] (opV _) (by kernel_rfl) (fun _ _ => by kernel_rfl) rfl ?_
          intro vs wv hB hA
          have h12 : vs 12 = _ := hA.1
          have h18 : vs 18 = _ := hA.2.1
          have h23 : vs 23 = _ := hA.2.2.1
          clear hA
          simp only [fillP, List.setIfInBounds_toArray, List.set_cons_zero, List.set_cons_succ, h12, h18, h23]
          have c0 := (CS.out wv hB).2.1; have c1 := (CS.out wv hB).2.2.1; have d0 := (CS.out wv hB).2.2.2.1; have d1 := (CS.out wv hB).2.2.2.2.1; have e0 := (CS.out wv hB).2.2.2.2.2.1; have e1 := (CS.out wv hB).2.2.2.2.2.2; go_wp2_with fail
          refine postB_val ?_ (Below.refl _ _)
          simp only [List.getElem?_cons_succ, List.getElem?_cons_zero]
          rfl
        case s25 =>
          refine BStep.of [12, 24] [(34, 12), (46, 24)] (opV _) (by kernel_rfl) (fun _ _ => by kernel_rfl) rfl ?_
          intro vs wv hB hA
          have h12 : vs 12 = _ := hA.1
          have h24 : vs 24 = _ := hA.2.1
          clear hA
          simp only [fillP, List.setIfInBounds_toArray, List.set_cons_zero, List.set_cons_succ, h12, h24]
          have c0 := (CS.out wv hB).2.1; have c1 := (CS.out wv hB).2.2.1; have d0 := (CS.out wv hB).2.2.2.1; have d1 := (CS.out wv hB).2.2.2.2.1; have e0 := (CS.out wv hB).2.2.2.2.2.1; have e1 := (CS.out wv hB).2.2.2.2.2.2; go_wp2_with fail
          refine postB_val ?_ (Below.refl _ _)
          simp only [List.getElem?_cons_succ, List.getElem?_cons_zero]
          rfl
        case s26 =>
          refine BStep.of [18, 25] [(40, 18), (47, 25)] (opV _) (by kernel_rfl) (fun _ _ => by kernel_rfl) rfl ?_
          intro vs wv hB hA
          have h18 : vs 18 = _ := hA.1
          have h25 : vs 25 = _ := hA.2.1
          clear hA
          simp only [fillP, List.setIfInBounds_toArray, List.set_cons_zero, List.set_cons_succ, h18, h25]
          have c0 := (CS.out wv hB).2.1; have c1 := (CS.out wv hB).2.2.1; have d0 := (CS.out wv hB).2.2.2.1; have d1 := (CS.out wv hB).2.2.2.2.1; have e0 := (CS.out wv hB).2.2.2.2.2.1; have e1 := (CS.out wv hB).2.2.2.2.2.2; go_wp2_with fail
          refine postB_val ?_ (Below.refl _ _)
          simp only [List.getElem?_cons_succ, List.getElem?_cons_zero]
          rfl
        case s27 =>
          refine BStep.of [26] [(48, 26)] (opV _) (by kernel_rfl) (fun _ _ => by kernel_rfl) rfl ?_
          intro vs wv hB hA
          have h26 : vs 26 = _ := hA.1
          clear hA
          simp only [fillP, List.setIfInBounds_toArray, List.set_cons_zero, List.set_cons_succ, h26]
          have c0 := (CS.out wv hB).2.1; have c1 := (CS.out wv hB).2.2.1; have d0 := (CS.out wv hB).2.2.2.1; have d1 := (CS.out wv hB).2.2.2.2.1; have e0 := (CS.out wv hB).2.2.2.2.2.1; have e1 := (CS.out wv hB).2.2.2.2.2.2; go_wp2_with fail
          refine postB_val ?_ (Below.refl _ _)
          simp only [List.getElem?_cons_succ, List.getElem?_cons_zero]
          rfl
        case s28 =>
          refine BStep.of [26, 27] [(48, 26), (49, 27)] (opV _) (by kernel_rfl) (fun _ _ => by kernel_rfl) rfl ?_
          intro vs wv hB hA
          have h26 : vs 26 = _ := hA.1
          have h27 : vs 27 = _ := hA.2.1
          clear hA
          simp only [fillP, List.setIfInBounds_toArray, List.set_cons_zero, List.set_cons_succ, h26, h27]
          have c0 := (CS.out wv hB).2.1; have c1 := (CS.out wv hB).2.2.1; have d0 := (CS.out wv hB).2.2.2.1; have d1 := (CS.out wv hB).2.2.2.2.1; have e0 := (CS.out wv hB).2.2.2.2.2.1; have e1 := (CS.out wv hB).2.2.2.2.2.2; go_wp2_with fail
          refine postB_val ?_ (Below.refl _ _)
          simp only [List.getElem?_cons_succ, List.getElem?_cons_zero]
          rfl
        case s29 =>
          refine BStep.of [26] [(48, 26)] (opV _) (by kernel_rfl) (fun _ _ => by kernel_rfl) rfl ?_
          intro vs wv hB hA
          have h26 : vs 26 = _ := hA.1
          clear hA
          simp only [fillP, List.setIfInBounds_toArray, List.set_cons_zero, List.set_cons_succ, h26]
          have c0 := (CS.out wv hB).2.1; have c1 := (CS.out wv hB).2.2.1; have d0 := (CS.out wv hB).2.2.2.1; have d1 := (CS.out wv hB).2.2.2.2.1; have e0 := (CS.out wv hB).2.2.2.2.2.1; have e1 := (CS.out wv hB).2.2.2.2.2.2; go_wp2_with fail
          refine postB_val ?_ (Below.refl _ _)
          simp only [List.getElem?_cons_succ, List.getElem?_cons_zero]
          rfl
        case s30 =>
          refine BStep.of [26, 29] [(48, 26), (51, 29)] (opV _) (by kernel_rfl) (fun _ _ => by kernel_rfl) rfl ?_
          intro vs wv hB hA
          have h26 : vs 26 = _ := hA.1
          have h29 : vs 29 = _ := hA.2.1
          clear hA
          simp only [fillP, List.setIfInBounds_toArray, List.set_cons_zero, List.set_cons_succ, h26, h29]
          have c0 := (CS.out wv hB).2.1; have c1 := (CS.out wv hB).2.2.1; have d0 := (CS.out wv hB).2.2.2.1; have d1 := (CS.out wv hB).2.2.2.2.1; have e0 := (CS.out wv hB).2.2.2.2.2.1; have e1 := (CS.out wv hB).2.2.2.2.2.2; go_wp2_with fail
          refine postB_val ?_ (Below.refl _ _)
          simp only [List.getElem?_cons_succ, List.getElem?_cons_zero]
          rfl
        case s31 =>
          refine BStep.of [26, 28, 30] [(48, 26), (50, 28), (52, 30)] (opV _) (by kernel_rfl) (fun _ _ => by kernel_rfl) rfl ?_
          intro vs wv hB hA
          have h26 : vs 26 = _ := hA.1
          have h28 : vs 28 = _ := hA.2.1
          have h30 : vs 30 = _ := hA.2.2.1
          clear hA
          simp only [fillP, List.setIfInBounds_toArray, List.set_cons_zero, List.set_cons_succ, h26, h28, h30]
          have c0 := (CS.out wv hB).2.1; have c1 := (CS.out wv hB).2.2.1; have d0 := (CS.out wv hB).2.2.2.1; have d1 := (CS.out wv hB).2.2.2.2.1; have e0 := (CS.out wv hB).2.2.2.2.2.1; have e1 := (CS.out wv hB).2.2.2.2.2.2; go_wp2_with fail
          refine postB_val ?_ (Below.refl _ _)
          simp only [List.getElem?_cons_succ, List.getElem?_cons_zero]
          rfl
        case s32 =>
          refine BStep.of [26, 31] [(48, 26), (53, 31)] (opV _) (by kernel_rfl) (fun _ _ => by kernel_rfl) rfl ?_
          intro vs wv hB hA
          have h26 : vs 26 = _ := hA.1
          have h31 : vs 31 = _ := hA.2.1
          clear hA
          simp only [fillP, List.setIfInBounds_toArray, List.set_cons_zero, List.set_cons_succ, h26, h31]
          have c0 := (CS.out wv hB).2.1; have c1 := (CS.out wv hB).2.2.1; have d0 := (CS.out wv hB).2.2.2.1; have d1 := (CS.out wv hB).2.2.2.2.1; have e0 := (CS.out wv hB).2.2.2.2.2.1; have e1 := (CS.out wv hB).2.2.2.2.2.2; go_wp2_with fail
          refine postB_val ?_ (Below.refl _ _)
          simp only [List.getElem?_cons_succ, List.getElem?_cons_zero]
          rfl
        case s33 =>
          refine BStep.of [32] [(54, 32)] (opV _) (by kernel_rfl) (fun _ _ => by kernel_rfl) rfl ?_
          intro vs wv hB hA
          have h32 : vs 32 = _ := hA.1
          clear hA
          simp only [fillP, List.setIfInBounds_toArray, List.set_cons_zero, List.set_cons_succ, h32]
          have c0 := (CS.out wv hB).2.1; have c1 := (CS.out wv hB).2.2.1; have d0 := (CS.out wv hB).2.2.2.1; have d1 := (CS.out wv hB).2.2.2.2.1; have e0 := (CS.out wv hB).2.2.2.2.2.1; have e1 := (CS.out wv hB).2.2.2.2.2.2; go_wp2_with fail
          refine postB_val ?_ (Below.refl _ _)
          simp only [List.getElem?_cons_succ, List.getElem?_cons_zero]
          rfl
        case s34 =>
          refine BStep.of [32, 33] [(54, 32), (55, 33)] (opV _) (by kernel_rfl) (fun _ _ => by kernel_rfl) rfl ?_
          intro vs wv hB hA
          have h32 : vs 32 = _ := hA.1
          have h33 : vs 33 = _ := hA.2.1
          clear hA
          simp only [fillP, List.setIfInBounds_toArray, List.set_cons_zero, List.set_cons_succ, h32, h33]
          have c0 := (CS.out wv hB).2.1; have c1 := (CS.out wv hB).2.2.1; have d0 := (CS.out wv hB).2.2.2.1; have d1 := (CS.out wv hB).2.2.2.2.1; have e0 := (CS.out wv hB).2.2.2.2.2.1; have e1 := (CS.out wv hB).2.2.2.2.2.2; go_wp2_with fail
          refine postB_val ?_ (Below.refl _ _)
          simp only [List.getElem?_cons_succ, List.getElem?_cons_zero]
          rfl
        case s35 =>
          refine BStep.of [32] [(54, 32)] (opV _) (by kernel_rfl) (fun _ _ => by kernel_rfl) rfl ?_
          intro vs wv hB hA
          have h32 : vs 32 = _ := hA.1
          clear hA
          simp only [fillP, List.setIfInBounds_toArray, List.set_cons_zero, List.set_cons_succ, h32]
          have c0 := (CS.out wv hB).2.1; have c1 := (CS.out wv hB).2.2.1; have d0 := (CS.out wv hB).2.2.2.1; have d1 := (CS.out wv hB).2.2.2.2.1; have e0 := (CS.out wv hB).2.2.2.2.2.1; have e1 := (CS.out wv hB).2.2.2.2.2.2; go_wp2_with fail
          refine postB_val ?_ (Below.refl _ _)
          simp only [List.getElem?_cons_succ, List.getElem?_cons_zero]
          rfl
        case s36 =>
          refine BStep.of [32, 35] [(54, 32), (57, 35)] (opV _) (by kernel_rfl) (fun _ _ => by kernel_rfl) rfl ?_
          intro vs wv hB hA
          have h32 : vs 32 = _ := hA.1
          have h35 : vs 35 = _ := hA.2.1
          clear hA
          simp only [fillP, List.setIfInBounds_toArray, List.set_cons_zero, List.set_cons_succ, h32, h35]
          have c0 := (CS.out wv hB).2.1; have c1 := (CS.out wv hB).2.2.1; have d0 := (CS.out wv hB).2.2.2.1; have d1 := (CS.out wv hB).2.2.2.2.1; have e0 := (CS.out wv hB).2.2.2.2.2.1; have e1 := (CS.out wv hB).2.2.2.2.2.2; go_wp2_with fail
          refine postB_val ?_ (Below.refl _ _)
          simp only [List.getElem?_cons_succ, List.getElem?_cons_zero]
          rfl
        case s37 =>
          refine BStep.of [32, 34, 36] [(54, 32), (56, 34), (58, 36)] (opV _) (by kernel_rfl) (fun _ _ => by kernel_rfl) rfl ?_
          intro vs wv hB hA
          have h32 : vs 32 = _ := hA.1
          have h34 : vs 34 = _ := hA.2.1
          have h36 : vs 36 = _ := hA.2.2.1
          clear hA
          simp only [fillP, List.setIfInBounds_toArray, List.set_cons_zero, List.set_cons_succ, h32, h34, h36]
          have c0 := (CS.out wv hB).2.1; have c1 := (CS.out wv hB).2.2.1; have d0 := (CS.out wv hB).2.2.2.1; have d1 := (CS.out wv hB).2.2.2.2.1; have e0 := (CS.out wv hB).2.2.2.2.2.1; have e1 := (CS.out wv hB).2.2.2.2.2.2; go_wp2_with fail
          refine postB_val ?_ (Below.refl _ _)
          simp only [List.getElem?_cons_succ, List.getElem?_cons_zero]
          rfl
        case s38 =>
          refine BStep.of [26, 32, 37] [(48, 26), (54, 32), (59, 37)] (opV _) (by kernel_rfl) (fun _ _ => by kernel_rfl) rfl ?_
          intro vs wv hB hA
          have h26 : vs 26 = _ := hA.1
          have h32 : vs 32 = _ := hA.2.1
          have h37 : vs 37 = _ := hA.2.2.1
          clear hA
          simp only [fillP, List.setIfInBounds_toArray, List.set_cons_zero, List.set_cons_succ, h26, h32, h37]
          have c0 := (CS.out wv hB).2.1; have c1 := (CS.out wv hB).2.2.1; have d0 := (CS.out wv hB).2.2.2.1; have d1 := (CS.out wv hB).2.2.2.2.1; have e0 := (CS.out wv hB).2.2.2.2.2.1; have e1 := (CS.out wv hB).2.2.2.2.2.2; go_wp2_with fail
          refine postB_val ?_ (Below.refl _ _)
          simp only [List.getElem?_cons_succ, List.getElem?_cons_zero]
          rfl
        case s39 =>
          refine BStep.of [26, 38] [(48, 26), (60, 38)] (opV _) (by kernel_rfl) (fun _ _ => by kernel_rfl) rfl ?_
          intro vs wv hB hA
          have h26 : vs 26 = _ := hA.1
          have h38 : vs 38 = _ := hA.2.1
          clear hA
          simp only [fillP, List.setIfInBounds_toArray, List.set_cons_zero, List.set_cons_succ, h26, h38]
          have c0 := (CS.out wv hB).2.1; have c1 := (CS.out wv hB).2.2.1; have d0 := (CS.out wv hB).2.2.2.1; have d1 := (CS.out wv hB).2.2.2.2.1; have e0 := (CS.out wv hB).2.2.2.2.2.1; have e1 := (CS.out wv hB).2.2.2.2.2.2; go_wp2_with fail
          refine postB_val ?_ (Below.refl _ _)
          simp only [List.getElem?_cons_succ, List.getElem?_cons_zero]
          rfl
        case s40 =>
          refine BStep.of [32, 39] [(54, 32), (61, 39)] (opV _) (by kernel_rfl) (fun _ _ => by kernel_rfl) rfl ?_
          intro vs wv hB hA
          have h32 : vs 32 = _ := hA.1
          have h39 : vs 39 = _ := hA.2.1
          clear hA
          simp only [fillP, List.setIfInBounds_toArray, List.set_cons_zero, List.set_cons_succ, h32, h39]
          have c0 := (CS.out wv hB).2.1; have c1 := (CS.out wv hB).2.2.1; have d0 := (CS.out wv hB).2.2.2.1; have d1 := (CS.out wv hB).2.2.2.2.1; have e0 := (CS.out wv hB).2.2.2.2.2.1; have e1 := (CS.out wv hB).2.2.2.2.2.2; go_wp2_with fail
          refine postB_val ?_ (Below.refl _ _)
          simp only [List.getElem?_cons_succ, List.getElem?_cons_zero]
          rfl
        case s41 =>
          refine BStep.of [40] [(62, 40)] (opV _) (by kernel_rfl) (fun _ _ => by kernel_rfl) rfl ?_
          intro vs wv hB hA
          have h40 : vs 40 = _ := hA.1
          clear hA
          simp only [fillP, List.setIfInBounds_toArray, List.set_cons_zero, List.set_cons_succ, h40]
          have c0 := (CS.out wv hB).2.1; have c1 := (CS.out wv hB).2.2.1; have d0 := (CS.out wv hB).2.2.2.1; have d1 := (CS.out wv hB).2.2.2.2.1; have e0 := (CS.out wv hB).2.2.2.2.2.1; have e1 := (CS.out wv hB).2.2.2.2.2.2; go_wp2_with fail
          refine postB_val ?_ (Below.refl _ _)
          simp only [List.getElem?_cons_succ, List.getElem?_cons_zero]
          rfl
        case s42 =>
          refine BStep.of [40] [(62, 40)] (opV _) (by kernel_rfl) (fun _ _ => by kernel_rfl) rfl ?_
          intro vs wv hB hA
          have h40 : vs 40 = _ := hA.1
          clear hA
          simp only [fillP, List.setIfInBounds_toArray, List.set_cons_zero, List.set_cons_succ, h40]
          have c0 := (CS.out wv hB).2.1; have c1 := (CS.out wv hB).2.2.1; have d0 := (CS.out wv hB).2.2.2.1; have d1 := (CS.out wv hB).2.2.2.2.1; have e0 := (CS.out wv hB).2.2.2.2.2.1; have e1 := (CS.out wv hB).2.2.2.2.2.2; go_wp2_with fail
          refine postB_val ?_ (Below.refl _ _)
          simp only [List.getElem?_cons_succ, List.getElem?_cons_zero]
          rfl
        case s43 =>
          refine BStep.of [40] [(62, 40)] (opV _) (by kernel_rfl) (fun _ _ => by kernel_rfl) rfl ?_
          intro vs wv hB hA
          have h40 : vs 40 = _ := hA.1
          clear hA
          simp only [fillP, List.setIfInBounds_toArray, List.set_cons_zero, List.set_cons_succ, h40]
          have c0 := (CS.out wv hB).2.1; have c1 := (CS.out wv hB).2.2.1; have d0 := (CS.out wv hB).2.2.2.1; have d1 := (CS.out wv hB).2.2.2.2.1; have e0 := (CS.out wv hB).2.2.2.2.2.1; have e1 := (CS.out wv hB).2.2.2.2.2.2; go_wp2_with fail
          refine postB_val ?_ (Below.refl _ _)
          simp only [List.getElem?_cons_succ, List.getElem?_cons_zero]
          rfl
        case s44 =>
          refine BStep.of [40, 42, 43] [(62, 40), (64, 42), (65, 43)] (opM [(b1, b2), (a1, a2)]) (by kernel_rfl) (fun _ _ => by kernel_rfl) rfl ?_
          intro vs wv hB hA
          have h40 : vs 40 = _ := hA.1
          have h42 : vs 42 = _ := hA.2.1
          have h43 : vs 43 = _ := hA.2.2.1
          clear hA
          simp only [fillP, List.setIfInBounds_toArray, List.set_cons_zero, List.set_cons_succ, h40, h42, h43]
          go_wp2_with fail; exact postB_R rfl (new_two wv (b1, b2) (a1, a2)) ((Below.refl _ _).alloc (Nat.le_refl _) _)
        case s45 =>
          refine BStep.of [40, 44] [(62, 40), (66, 44)] (opV (.agg #[.int .i64 b1, .int .i64 b2])) (by kernel_rfl) (fun _ _ => by kernel_rfl) rfl ?_
          intro vs wv hB hA
          have h40 : vs 40 = _ := hA.1
          have h44 : MgIn wv (vs 44) [(b1, b2), (a1, a2)] := hA.2.1
          clear hA
          simp only [fillP, List.setIfInBounds_toArray, List.set_cons_zero, List.set_cons_succ, h40]
          (go_wp2_with (go_at_call 8; (with_reducible refine (KJ2.out _ _ h44).mono ?_); rintro e w7 ⟨rfl, hb⟩)); exact postB_val rfl hb
        case s46 =>
          refine BStep.of [40, 41, 45] [(62, 40), (63, 41), (67, 45)] (opV _) (by kernel_rfl) (fun _ _ => by kernel_rfl) rfl ?_
          intro vs wv hB hA
          have h40 : vs 40 = _ := hA.1
          have h41 : vs 41 = _ := hA.2.1
          have h45 : vs 45 = _ := hA.2.2.1
          clear hA
          simp only [fillP, List.setIfInBounds_toArray, List.set_cons_zero, List.set_cons_succ, h40, h41, h45]
          have c0 := (CS.out wv hB).2.1; have c1 := (CS.out wv hB).2.2.1; have d0 := (CS.out wv hB).2.2.2.1; have d1 := (CS.out wv hB).2.2.2.2.1; have e0 := (CS.out wv hB).2.2.2.2.2.1; have e1 := (CS.out wv hB).2.2.2.2.2.2; go_wp2_with fail
          refine postB_val ?_ (Below.refl _ _)
          simp only [List.getElem?_cons_succ, List.getElem?_cons_zero]
          rfl
        case s47 =>
          refine BStep.of [40, 46] [(62, 40), (68, 46)] (opV _) (by kernel_rfl) (fun _ _ => by kernel_rfl) rfl ?_
          intro vs wv hB hA
          have h40 : vs 40 = _ := hA.1
          have h46 : vs 46 = _ := hA.2.1
          clear hA
          simp only [fillP, List.setIfInBounds_toArray, List.set_cons_zero, List.set_cons_succ, h40, h46]
          have c0 := (CS.out wv hB).2.1; have c1 := (CS.out wv hB).2.2.1; have d0 := (CS.out wv hB).2.2.2.1; have d1 := (CS.out wv hB).2.2.2.2.1; have e0 := (CS.out wv hB).2.2.2.2.2.1; have e1 := (CS.out wv hB).2.2.2.2.2.2; go_wp2_with fail
          refine postB_val ?_ (Below.refl _ _)
          simp only [List.getElem?_cons_succ, List.getElem?_cons_zero]
          rfl
        case fin =>
          refine fin_of [0, 1, 2, 3, 4, 5, 6, 7, 8, 9, 10, 11, 12, 13, 14, 15, 16, 17, 18, 19, 20, 21, 22, 23, 24, 25, 26, 27, 28, 29, 30, 31, 32, 33, 34, 35, 36, 37, 38, 39, 40, 41, 42, 43, 44, 45, 46, 47] [(22, 0), (23, 1), (24, 2), (25, 3), (26, 4), (27, 5), (28, 6), (29, 7), (30, 8), (31, 9), (32, 10), (33, 11), (34, 12), (35, 13), (36, 14), (37, 15), (38, 16), (39, 17), (40, 18), (41, 19), (42, 20), (43, 21), (44, 22), (45, 23), (46, 24), (47, 25), (48, 26), (49, 27), (50, 28), (51, 29), (52, 30), (53, 31), (54, 32), (55, 33), (56, 34), (57, 35), (58, 36), (59, 37), (60, 38), (61, 39), (62, 40), (63, 41), (64, 42), (65, 43), (66, 44), (67, 45), (68, 46), (69, 47)] (by kernel_rfl) (fun _ _ => by kernel_rfl) ?_
          intro vs wv hB hA
          have h0 : vs 0 = _ := hA.1
          have h1 : vs 1 = _ := hA.2.1
          have h2 : vs 2 = _ := hA.2.2.1
          have h3 : vs 3 = _ := hA.2.2.2.1
          have h4 : vs 4 = _ := hA.2.2.2.2.1
          have h5 : vs 5 = _ := hA.2.2.2.2.2.1
          have h6 : vs 6 = _ := hA.2.2.2.2.2.2.1
          have h7 : vs 7 = _ := hA.2.2.2.2.2.2.2.1
          have h8 : vs 8 = _ := hA.2.2.2.2.2.2.2.2.1
          have h9 : vs 9 = _ := hA.2.2.2.2.2.2.2.2.2.1
          have h10 : vs 10 = _ := hA.2.2.2.2.2.2.2.2.2.2.1
          have h11 : vs 11 = _ := hA.2.2.2.2.2.2.2.2.2.2.2.1
          have h12 : vs 12 = _ := hA.2.2.2.2.2.2.2.2.2.2.2.2.1
          have h13 : vs 13 = _ := hA.2.2.2.2.2.2.2.2.2.2.2.2.2.1
          have h14 : vs 14 = _ := hA.2.2.2.2.2.2.2.2.2.2.2.2.2.2.1
          have h15 : vs 15 = _ := hA.2.2.2.2.2.2.2.2.2.2.2.2.2.2.2.1
          have h16 : vs 16 = _ := hA.2.2.2.2.2.2.2.2.2.2.2.2.2.2.2.2.1
          have h17 : vs 17 = _ := hA.2.2.2.2.2.2.2.2.2.2.2.2.2.2.2.2.2.1
          have h18 : vs 18 = _ := hA.2.2.2.2.2.2.2.2.2.2.2.2.2.2.2.2.2.2.1
          have h19 : vs 19 = _ := hA.2.2.2.2.2.2.2.2.2.2.2.2.2.2.2.2.2.2.2.1
          have h20 : vs 20 = _ := hA.2.2.2.2.2.2.2.2.2.2.2.2.2.2.2.2.2.2.2.2.1
          have h21 : vs 21 = _ := hA.2.2.2.2.2.2.2.2.2.2.2.2.2.2.2.2.2.2.2.2.2.1
          have h22 : vs 22 = _ := hA.2.2.2.2.2.2.2.2.2.2.2.2.2.2.2.2.2.2.2.2.2.2.1
          have h23 : vs 23 = _ := hA.2.2.2.2.2.2.2.2.2.2.2.2.2.2.2.2.2.2.2.2.2.2.2.1
          have h24 : vs 24 = _ := hA.2.2.2.2.2.2.2.2.2.2.2.2.2.2.2.2.2.2.2.2.2.2.2.2.1
          have h25 : vs 25 = _ := hA.2.2.2.2.2.2.2.2.2.2.2.2.2.2.2.2.2.2.2.2.2.2.2.2.2.1
          have h26 : vs 26 = _ := hA.2.2.2.2.2.2.2.2.2.2.2.2.2.2.2.2.2.2.2.2.2.2.2.2.2.2.1
          have h27 : vs 27 = _ := hA.2.2.2.2.2.2.2.2.2.2.2.2.2.2.2.2.2.2.2.2.2.2.2.2.2.2.2.1
          have h28 : vs 28 = _ := hA.2.2.2.2.2.2.2.2.2.2.2.2.2.2.2.2.2.2.2.2.2.2.2.2.2.2.2.2.1
          have h29 : vs 29 = _ := hA.2.2.2.2.2.2.2.2.2.2.2.2.2.2.2.2.2.2.2.2.2.2.2.2.2.2.2.2.2.1
          have h30 : vs 30 = _ := hA.2.2.2.2.2.2.2.2.2.2.2.2.2.2.2.2.2.2.2.2.2.2.2.2.2.2.2.2.2.2.1
          have h31 : vs 31 = _ := hA.2.2.2.2.2.2.2.2.2.2.2.2.2.2.2.2.2.2.2.2.2.2.2.2.2.2.2.2.2.2.2.1
          have h32 : vs 32 = _ := hA.2.2.2.2.2.2.2.2.2.2.2.2.2.2.2.2.2.2.2.2.2.2.2.2.2.2.2.2.2.2.2.2.1
          have h33 : vs 33 = _ := hA.2.2.2.2.2.2.2.2.2.2.2.2.2.2.2.2.2.2.2.2.2.2.2.2.2.2.2.2.2.2.2.2.2.1
          have h34 : vs 34 = _ := hA.2.2.2.2.2.2.2.2.2.2.2.2.2.2.2.2.2.2.2.2.2.2.2.2.2.2.2.2.2.2.2.2.2.2.1
          have h35 : vs 35 = _ := hA.2.2.2.2.2.2.2.2.2.2.2.2.2.2.2.2.2.2.2.2.2.2.2.2.2.2.2.2.2.2.2.2.2.2.2.1
          have h36 : vs 36 = _ := hA.2.2.2.2.2.2.2.2.2.2.2.2.2.2.2.2.2.2.2.2.2.2.2.2.2.2.2.2.2.2.2.2.2.2.2.2.1
          have h37 : vs 37 = _ := hA.2.2.2.2.2.2.2.2.2.2.2.2.2.2.2.2.2.2.2.2.2.2.2.2.2.2.2.2.2.2.2.2.2.2.2.2.2.1
          have h38 : vs 38 = _ := hA.2.2.2.2.2.2.2.2.2.2.2.2.2.2.2.2.2.2.2.2.2.2.2.2.2.2.2.2.2.2.2.2.2.2.2.2.2.2.1
          have h39 : vs 39 = _ := hA.2.2.2.2.2.2.2.2.2.2.2.2.2.2.2.2.2.2.2.2.2.2.2.2.2.2.2.2.2.2.2.2.2.2.2.2.2.2.2.1
          have h40 : vs 40 = _ := hA.2.2.2.2.2.2.2.2.2.2.2.2.2.2.2.2.2.2.2.2.2.2.2.2.2.2.2.2.2.2.2.2.2.2.2.2.2.2.2.2.1
          have h41 : vs 41 = _ := hA.2.2.2.2.2.2.2.2.2.2.2.2.2.2.2.2.2.2.2.2.2.2.2.2.2.2.2.2.2.2.2.2.2.2.2.2.2.2.2.2.2.1
          have h42 : vs 42 = _ := hA.2.2.2.2.2.2.2.2.2.2.2.2.2.2.2.2.2.2.2.2.2.2.2.2.2.2.2.2.2.2.2.2.2.2.2.2.2.2.2.2.2.2.1
          have h43 : vs 43 = _ := hA.2.2.2.2.2.2.2.2.2.2.2.2.2.2.2.2.2.2.2.2.2.2.2.2.2.2.2.2.2.2.2.2.2.2.2.2.2.2.2.2.2.2.2.1
          have h44 : MgIn wv (vs 44) [(b1, b2), (a1, a2)] := hA.2.2.2.2.2.2.2.2.2.2.2.2.2.2.2.2.2.2.2.2.2.2.2.2.2.2.2.2.2.2.2.2.2.2.2.2.2.2.2.2.2.2.2.2.1
          have h45 : vs 45 = _ := hA.2.2.2.2.2.2.2.2.2.2.2.2.2.2.2.2.2.2.2.2.2.2.2.2.2.2.2.2.2.2.2.2.2.2.2.2.2.2.2.2.2.2.2.2.2.1
          have h46 : vs 46 = _ := hA.2.2.2.2.2.2.2.2.2.2.2.2.2.2.2.2.2.2.2.2.2.2.2.2.2.2.2.2.2.2.2.2.2.2.2.2.2.2.2.2.2.2.2.2.2.2.1
          have h47 : vs 47 = _ := hA.2.2.2.2.2.2.2.2.2.2.2.2.2.2.2.2.2.2.2.2.2.2.2.2.2.2.2.2.2.2.2.2.2.2.2.2.2.2.2.2.2.2.2.2.2.2.2.1
          clear hA
          simp only [fillP, List.setIfInBounds_toArray, List.set_cons_zero, List.set_cons_succ, h0, h1, h2, h3, h4, h5, h6, h7, h8, h9, h10, h11, h12, h13, h14, h15, h16, h17, h18, h19, h20, h21, h22, h23, h24, h25, h26, h27, h28, h29, h30, h31, h32, h33, h34, h35, h36, h37, h38, h39, h40, h41, h42, h43, h45, h46, h47]
          go_wp2_with fail; go_meet; exact ⟨by first|rfl | simp, Lib.hid hB⟩
      · skip
        rw [if_pos h1] at hp
        subst hp
        have u1 : ((b1 : Int) != a1) = (!false) := by simp; omega
        rw [if_neg h2] at hq
        subst hq
        clear h1 h2
        go_wp2_with fail
        refine' wp_region_below [opV _, opV _, opV _, opV _, opV _, opV _, opV _, opV _, opV _, opV _, opV _, opV _, opV _, opV _, opV _, opV _, opV _, opV _, opV _, opV _, opV _, opV _, opV _, opV _, opV _, opV _, opV _, opV _, opV _, opV _, opV _, opV _, opV _, opV _, opV _, opV _, opV _, opV _, opV _, opV _, opV _, opV _, opV _, opV _, opM [(b1, b2), (a1, a2)], opV (.agg #[.int .i64 b1, .int .i64 a2]), opV _, opV _] rfl (by kernel_rfl) ⟨?s0, ?s1, ?s2, ?s3, ?s4, ?s5, ?s6, ?s7, ?s8, ?s9, ?s10, ?s11, ?s12, ?s13, ?s14, ?s15, ?s16, ?s17, ?s18, ?s19, ?s20, ?s21, ?s22, ?s23, ?s24, ?s25, ?s26, ?s27, ?s28, ?s29, ?s30, ?s31, ?s32, ?s33, ?s34, ?s35, ?s36, ?s37, ?s38, ?s39, ?s40, ?s41, ?s42, ?s43, ?s44, ?s45, ?s46, ?s47, trivial⟩ ?fin
        case s0 =>
          refine BStep.of [] [] (opV _) (by kernel_rfl) (fun _ _ => by kernel_rfl) rfl ?_
          intro vs wv hB hA
          clear hA
          simp only [fillP]
          have c0 := (CS.out wv hB).2.1; have c1 := (CS.out wv hB).2.2.1; have d0 := (CS.out wv hB).2.2.2.1; have d1 := (CS.out wv hB).2.2.2.2.1; have e0 := (CS.out wv hB).2.2.2.2.2.1; have e1 := (CS.out wv hB).2.2.2.2.2.2; go_wp2_with fail
          refine postB_val ?_ (Below.refl _ _)
          simp only [List.getElem?_cons_succ, List.getElem?_cons_zero]
          rfl
        case s1 =>
          refine BStep.of [0] [(22, 0)] (opV _) (by kernel_rfl) (fun _ _ => by kernel_rfl) rfl ?_
          intro vs wv hB hA
          have h0 : vs 0 = _ := hA.1
          clear hA
          simp only [fillP, List.setIfInBounds_toArray, List.set_cons_zero, List.set_cons_succ, h0]
          have c0 := (CS.out wv hB).2.1; have c1 := (CS.out wv hB).2.2.1; have d0 := (CS.out wv hB).2.2.2.1; have d1 := (CS.out wv hB).2.2.2.2.1; have e0 := (CS.out wv hB).2.2.2.2.2.1; have e1 := (CS.out wv hB).2.2.2.2.2.2; go_wp2_with fail
          refine postB_val ?_ (Below.refl _ _)
          simp only [List.getElem?_cons_succ, List.getElem?_cons_zero]
          rfl
        case s2 =>
          refine BStep.of [] [] (opV _) (by kernel_rfl) (fun _ _ => by kernel_rfl) rfl ?_
          intro vs wv hB hA
          clear hA
          simp only [fillP]
          have c0 := (CS.out wv hB).2.1; have c1 := (CS.out wv hB).2.2.1; have d0 := (CS.out wv hB).2.2.2.1; have d1 := (CS.out wv hB).2.2.2.2.1; have e0 := (CS.out wv hB).2.2.2.2.2.1; have e1 := (CS.out wv hB).2.2.2.2.2.2; go_wp2_with fail
          refine postB_val ?_ (Below.refl _ _)
          simp only [List.getElem?_cons_succ, List.getElem?_cons_zero]
          rfl
        case s3 =>
          refine BStep.of [2] [(24, 2)] (opV _) (by kernel_rfl) (fun _ _ => by kernel_rfl) rfl ?_
          intro vs wv hB hA
          have h2 : vs 2 = _ := hA.1
          clear hA
          simp only [fillP, List.setIfInBounds_toArray, List.set_cons_zero, List.set_cons_succ, h2]
          have c0 := (CS.out wv hB).2.1; have c1 := (CS.out wv hB).2.2.1; have d0 := (CS.out wv hB).2.2.2.1; have d1 := (CS.out wv hB).2.2.2.2.1; have e0 := (CS.out wv hB).2.2.2.2.2.1; have e1 := (CS.out wv hB).2.2.2.2.2.2; go_wp2_with fail
          refine postB_val ?_ (Below.refl _ _)
          simp only [List.getElem?_cons_succ, List.getElem?_cons_zero]
          rfl
        case s4 =>
          refine BStep.of [1, 3] [(23, 1), (25, 3)] (opV _) (by kernel_rfl) (fun _ _ => by kernel_rfl) rfl ?_
          intro vs wv hB hA
          have h1 : vs 1 = _ := hA.1
          have h3 : vs 3 = _ := hA.2.1
          clear hA
          simp only [fillP, List.setIfInBounds_toArray, List.set_cons_zero, List.set_cons_succ, h1, h3]
          have c0 := (CS.out wv hB).2.1; have c1 := (CS.out wv hB).2.2.1; have d0 := (CS.out wv hB).2.2.2.1; have d1 := (CS.out wv hB).2.2.2.2.1; have e0 := (CS.out wv hB).2.2.2.2.2.1; have e1 := (CS.out wv hB).2.2.2.2.2.2; go_wp2_with fail
          refine postB_val ?_ (Below.refl _ _)
          simp only [List.getElem?_cons_succ, List.getElem?_cons_zero]
          rfl
        case s5 =>
          refine BStep.of [4] [(26, 4)] (opV _) (by kernel_rfl) (fun _ _ => by kernel_rfl) rfl ?_
          intro vs wv hB hA
          have h4 : vs 4 = _ := hA.1
          clear hA
          simp only [fillP, List.setIfInBounds_toArray, List.set_cons_zero, List.set_cons_succ, h4]
          have c0 := (CS.out wv hB).2.1; have c1 := (CS.out wv hB).2.2.1; have d0 := (CS.out wv hB).2.2.2.1; have d1 := (CS.out wv hB).2.2.2.2.1; have e0 := (CS.out wv hB).2.2.2.2.2.1; have e1 := (CS.out wv hB).2.2.2.2.2.2; go_wp2_with fail
          refine postB_val ?_ (Below.refl _ _)
          simp only [List.getElem?_cons_succ, List.getElem?_cons_zero]
          rfl
        case s6 =>
          refine BStep.of [5] [(27, 5)] (opV _) (by kernel_rfl) (fun _ _ => by kernel_rfl) rfl ?_
          intro vs wv hB hA
          have h5 : vs 5 = _ := hA.1
          clear hA
          simp only [fillP, List.setIfInBounds_toArray, List.set_cons_zero, List.set_cons_succ, h5]
          have c0 := (CS.out wv hB).2.1; have c1 := (CS.out wv hB).2.2.1; have d0 := (CS.out wv hB).2.2.2.1; have d1 := (CS.out wv hB).2.2.2.2.1; have e0 := (CS.out wv hB).2.2.2.2.2.1; have e1 := (CS.out wv hB).2.2.2.2.2.2; go_wp2_with fail
          refine postB_val ?_ (Below.refl _ _)
          simp only [List.getElem?_cons_succ, List.getElem?_cons_zero]
          rfl
        case s7 =>
          refine BStep.of [5, 6] [(27, 5), (28, 6)] (opV _) (by kernel_rfl) (fun _ _ => by kernel_rfl) rfl ?_
          intro vs wv hB hA
          have h5 : vs 5 = _ := hA.1
          have h6 : vs 6 = _ := hA.2.1
          clear hA
          simp only [fillP, List.setIfInBounds_toArray, List.set_cons_zero, List.set_cons_succ, h5, h6]
          have c0 := (CS.out wv hB).2.1; have c1 := (CS.out wv hB).2.2.1; have d0 := (CS.out wv hB).2.2.2.1; have d1 := (CS.out wv hB).2.2.2.2.1; have e0 := (CS.out wv hB).2.2.2.2.2.1; have e1 := (CS.out wv hB).2.2.2.2.2.2; go_wp2_with fail
          refine postB_val ?_ (Below.refl _ _)
          simp only [List.getElem?_cons_succ, List.getElem?_cons_zero]
          rfl
        case s8 =>
          refine BStep.of [5] [(27, 5)] (opV _) (by kernel_rfl) (fun _ _ => by kernel_rfl) rfl ?_
          intro vs wv hB hA
          have h5 : vs 5 = _ := hA.1
          clear hA
          simp only [fillP, List.setIfInBounds_toArray, List.set_cons_zero, List.set_cons_succ, h5]
          have c0 := (CS.out wv hB).2.1; have c1 := (CS.out wv hB).2.2.1; have d0 := (CS.out wv hB).2.2.2.1; have d1 := (CS.out wv hB).2.2.2.2.1; have e0 := (CS.out wv hB).2.2.2.2.2.1; have e1 := (CS.out wv hB).2.2.2.2.2.2; go_wp2_with fail
          refine postB_val ?_ (Below.refl _ _)
          simp only [List.getElem?_cons_succ, List.getElem?_cons_zero]
          rfl
        case s9 =>
          refine BStep.of [5, 8] [(27, 5), (30, 8)] (opV _) (by kernel_rfl) (fun _ _ => by kernel_rfl) rfl ?_
          intro vs wv hB hA
          have h5 : vs 5 = _ := hA.1
          have h8 : vs 8 = _ := hA.2.1
          clear hA
          simp only [fillP, List.setIfInBounds_toArray, List.set_cons_zero, List.set_cons_succ, h5, h8]
          have c0 := (CS.out wv hB).2.1; have c1 := (CS.out wv hB).2.2.1; have d0 := (CS.out wv hB).2.2.2.1; have d1 := (CS.out wv hB).2.2.2.2.1; have e0 := (CS.out wv hB).2.2.2.2.2.1; have e1 := (CS.out wv hB).2.2.2.2.2.2; go_wp2_with fail
          refine postB_val ?_ (Below.refl _ _)
          simp only [List.getElem?_cons_succ, List.getElem?_cons_zero]
          rfl
        case s10 =>
          refine BStep.of [5, 7, 9] [(27, 5), (29, 7), (31, 9)] (opV _) (by kernel_rfl) (fun _ _ => by kernel_rfl) rfl ?_
          intro vs wv hB hA
          have h5 : vs 5 = _ := hA.1
          have h7 : vs 7 = _ := hA.2.1
          have h9 : vs 9 = _ := hA.2.2.1
          clear hA
          simp only [fillP, List.setIfInBounds_toArray, List.set_cons_zero, List.set_cons_succ, h5, h7, h9]
          have c0 := (CS.out wv hB).2.1; have c1 := (CS.out wv hB).2.2.1; have d0 := (CS.out wv hB).2.2.2.1; have d1 := (CS.out wv hB).2.2.2.2.1; have e0 := (CS.out wv hB).2.2.2.2.2.1; have e1 := (CS.out wv hB).2.2.2.2.2.2; go_wp2_with fail
          refine postB_val ?_ (Below.refl _ _)
          simp only [List.getElem?_cons_succ, List.getElem?_cons_zero]
          rfl
        case s11 =>
          refine BStep.of [5, 10] [(27, 5), (32, 10)] (opV _) (by kernel_rfl) (fun _ _ => by kernel_rfl) rfl ?_
          intro vs wv hB hA
          have h5 : vs 5 = _ := hA.1
          have h10 : vs 10 = _ := hA.2.1
          clear hA
          simp only [fillP, List.setIfInBounds_toArray, List.set_cons_zero, List.set_cons_succ, h5, h10]
          have c0 := (CS.out wv hB).2.1; have c1 := (CS.out wv hB).2.2.1; have d0 := (CS.out wv hB).2.2.2.1; have d1 := (CS.out wv hB).2.2.2.2.1; have e0 := (CS.out wv hB).2.2.2.2.2.1; have e1 := (CS.out wv hB).2.2.2.2.2.2; go_wp2_with fail
          refine postB_val ?_ (Below.refl _ _)
          simp only [List.getElem?_cons_succ, List.getElem?_cons_zero]
          rfl
        case s12 =>
          refine BStep.of [5, 11] [(27, 5), (33, 11)] (opV _) (by kernel_rfl) (fun _ _ => by kernel_rfl) rfl ?_
          intro vs wv hB hA
          have h5 : vs 5 = _ := hA.1
          have h11 : vs 11 = _ := hA.2.1
          clear hA
          simp only [fillP, List.setIfInBounds_toArray, List.set_cons_zero, List.set_cons_succ, h5, h11]
          have c0 := (CS.out wv hB).2.1; have c1 := (CS.out wv hB).2.2.1; have d0 := (CS.out wv hB).2.2.2.1; have d1 := (CS.out wv hB).2.2.2.2.1; have e0 := (CS.out wv hB).2.2.2.2.2.1; have e1 := (CS.out wv hB).2.2.2.2.2.2; go_wp2_with fail
          refine postB_val ?_ (Below.refl _ _)
          simp only [List.getElem?_cons_succ, List.getElem?_cons_zero]
          rfl
        case s13 =>
          refine BStep.of [12] [(34, 12)] (opV _) (by kernel_rfl) (fun _ _ => by kernel_rfl) rfl ?_
          intro vs wv hB hA
          have h12 : vs 12 = _ := hA.1
          clear hA
          simp only [fillP, List.setIfInBounds_toArray, List.set_cons_zero, List.set_cons_succ, h12]
          have c0 := (CS.out wv hB).2.1; have c1 := (CS.out wv hB).2.2.1; have d0 := (CS.out wv hB).2.2.2.1; have d1 := (CS.out wv hB).2.2.2.2.1; have e0 := (CS.out wv hB).2.2.2.2.2.1; have e1 := (CS.out wv hB).2.2.2.2.2.2; go_wp2_with fail
          refine postB_val ?_ (Below.refl _ _)
          simp only [List.getElem?_cons_succ, List.getElem?_cons_zero]
          rfl
        case s14 =>
          refine BStep.of [12, 13] [(34, 12), (35, 13)] (opV _) (by kernel_rfl) (fun _ _ => by kernel_rfl) rfl ?_
          intro vs wv hB hA
          have h12 : vs 12 = _ := hA.1
          have h13 : vs 13 = _ := hA.2.1
          clear hA
          simp only [fillP, List.setIfInBounds_toArray, List.set_cons_zero, List.set_cons_succ, h12, h13]
          have c0 := (CS.out wv hB).2.1; have c1 := (CS.out wv hB).2.2.1; have d0 := (CS.out wv hB).2.2.2.1; have d1 := (CS.out wv hB).2.2.2.2.1; have e0 := (CS.out wv hB).2.2.2.2.2.1; have e1 := (CS.out wv hB).2.2.2.2.2.2; go_wp2_with fail
          refine postB_val ?_ (Below.refl _ _)
          simp only [List.getElem?_cons_succ, List.getElem?_cons_zero]
          rfl
        case s15 =>
          refine BStep.of [12] [(34, 12)] (opV _) (by kernel_rfl) (fun _ _ => by kernel_rfl) rfl ?_
          intro vs wv hB hA
          have h12 : vs 12 = _ := hA.1
          clear hA
          simp only [fillP, List.setIfInBounds_toArray, List.set_cons_zero, List.set_cons_succ, h12]
          have c0 := (CS.out wv hB).2.1; have c1 := (CS.out wv hB).2.2.1; have d0 := (CS.out wv hB).2.2.2.1; have d1 := (CS.out wv hB).2.2.2.2.1; have e0 := (CS.out wv hB).2.2.2.2.2.1; have e1 := (CS.out wv hB).2.2.2.2.2.2; go_wp2_with fail
          refine postB_val ?_ (Below.refl _ _)
          simp only [List.getElem?_cons_succ, List.getElem?_cons_zero]
          rfl
        case s16 =>
          refine BStep.of [12, 15] [(34, 12), (37, 15)] (opV _) (by kernel_rfl) (fun _ _ => by kernel_rfl) rfl ?_
          intro vs wv hB hA
          have h12 : vs 12 = _ := hA.1
          have h15 : vs 15 = _ := hA.2.1
          clear hA
          simp only [fillP, List.setIfInBounds_toArray, List.set_cons_zero, List.set_cons_succ, h12, h15]
          have c0 := (CS.out wv hB).2.1; have c1 := (CS.out wv hB).2.2.1; have d0 := (CS.out wv hB).2.2.2.1; have d1 := (CS.out wv hB).2.2.2.2.1; have e0 := (CS.out wv hB).2.2.2.2.2.1; have e1 := (CS.out wv hB).2.2.2.2.2.2; go_wp2_with fail
          refine postB_val ?_ (Below.refl _ _)
          simp only [List.getElem?_cons_succ, List.getElem?_cons_zero]
          rfl
        case s17 =>
          refine BStep.of [12, 14, 16] [(34, 12), (36, 14), (38, 16)] (opV _) (by kernel_rfl) (fun _ _ => by kernel_rfl) rfl ?_
          intro vs wv hB hA
          have h12 : vs 12 = _ := hA.1
          have h14 : vs 14 = _ := hA.2.1
          have h16 : vs 16 = _ := hA.2.2.1
          clear hA
          simp only [fillP, List.setIfInBounds_toArray, List.set_cons_zero, List.set_cons_succ, h12, h14, h16]
          have c0 := (CS.out wv hB).2.1; have c1 := (CS.out wv hB).2.2.1; have d0 := (CS.out wv hB).2.2.2.1; have d1 := (CS.out wv hB).2.2.2.2.1; have e0 := (CS.out wv hB).2.2.2.2.2.1; have e1 := (CS.out wv hB).2.2.2.2.2.2; go_wp2_with fail
          refine postB_val ?_ (Below.refl _ _)
          simp only [List.getElem?_cons_succ, List.getElem?_cons_zero]
          rfl
        case s18 =>
          refine BStep.of [12, 17] [(34, 12), (39, 17)] (opV _) (by kernel_rfl) (fun _ _ => by kernel_rfl) rfl ?_
          intro vs wv hB hA
          have h12 : vs 12 = _ := hA.1
          have h17 : vs 17 = _ := hA.2.1
          clear hA
          simp only [fillP, List.setIfInBounds_toArray, List.set_cons_zero, List.set_cons_succ, h12, h17]
          have c0 := (CS.out wv hB).2.1; have c1 := (CS.out wv hB).2.2.1; have d0 := (CS.out wv hB).2.2.2.1; have d1 := (CS.out wv hB).2.2.2.2.1; have e0 := (CS.out wv hB).2.2.2.2.2.1; have e1 := (CS.out wv hB).2.2.2.2.2.2; go_wp2_with fail
          refine postB_val ?_ (Below.refl _ _)
          simp only [List.getElem?_cons_succ, List.getElem?_cons_zero]
          rfl
        case s19 =>
          refine BStep.of [18] [(40, 18)] (opV _) (by kernel_rfl) (fun _ _ => by kernel_rfl) rfl ?_
          intro vs wv hB hA
          have h18 : vs 18 = _ := hA.1
          clear hA
          simp only [fillP, List.setIfInBounds_toArray, List.set_cons_zero, List.set_cons_succ, h18]
          have c0 := (CS.out wv hB).2.1; have c1 := (CS.out wv hB).2.2.1; have d0 := (CS.out wv hB).2.2.2.1; have d1 := (CS.out wv hB).2.2.2.2.1; have e0 := (CS.out wv hB).2.2.2.2.2.1; have e1 := (CS.out wv hB).2.2.2.2.2.2; go_wp2_with fail
          refine postB_val ?_ (Below.refl _ _)
          simp only [List.getElem?_cons_succ, List.getElem?_cons_zero]
          rfl
        case s20 =>
          refine BStep.of [18, 19] [(40, 18), (41, 19)] (opV _) (by kernel_rfl) (fun _ _ => by kernel_rfl) rfl ?_
          intro vs wv hB hA
          have h18 : vs 18 = _ := hA.1
          have h19 : vs 19 = _ := hA.2.1
          clear hA
          simp only [fillP, List.setIfInBounds_toArray, List.set_cons_zero, List.set_cons_succ, h18, h19]
          have c0 := (CS.out wv hB).2.1; have c1 := (CS.out wv hB).2.2.1; have d0 := (CS.out wv hB).2.2.2.1; have d1 := (CS.out wv hB).2.2.2.2.1; have e0 := (CS.out wv hB).2.2.2.2.2.1; have e1 := (CS.out wv hB).2.2.2.2.2.2; go_wp2_with fail
          refine postB_val ?_ (Below.refl _ _)
          simp only [List.getElem?_cons_succ, List.getElem?_cons_zero]
          rfl
        case s21 =>
          refine BStep.of [18] [(40, 18)] (opV _) (by kernel_rfl) (fun _ _ => by kernel_rfl) rfl ?_
          intro vs wv hB hA
          have h18 : vs 18 = _ := hA.1
          clear hA
          simp only [fillP, List.setIfInBounds_toArray, List.set_cons_zero, List.set_cons_succ, h18]
          have c0 := (CS.out wv hB).2.1; have c1 := (CS.out wv hB).2.2.1; have d0 := (CS.out wv hB).2.2.2.1; have d1 := (CS.out wv hB).2.2.2.2.1; have e0 := (CS.out wv hB).2.2.2.2.2.1; have e1 := (CS.out wv hB).2.2.2.2.2.2; go_wp2_with fail
          refine postB_val ?_ (Below.refl _ _)
          simp only [List.getElem?_cons_succ, List.getElem?_cons_zero]
          rfl
        case s22 =>
          refine BStep.of [18, 21] [(40, 18), (43, 21)] (opV _) (by kernel_rfl) (fun _ _ => by kernel_rfl) rfl ?_
          intro vs wv hB hA
          have h18 : vs 18 = _ := hA.1
          have h21 : vs 21 = _ := hA.2.1
          clear hA
          simp only [fillP, List.setIfInBounds_toArray, List.set_cons_zero, List.set_cons_succ, h18, h21]
          have c0 := (CS.out wv hB).2.1; have c1 := (CS.out wv hB).2.2.1; have d0 := (CS.out wv hB).2.2.2.1; have d1 := (CS.out wv hB).2.2.2.2.1; have e0 := (CS.out wv hB).2.2.2.2.2.1; have e1 := (CS.out wv hB).2.2.2.2.2.2; go_wp2_with fail
          refine postB_val ?_ (Below.refl _ _)
          simp only [List.getElem?_cons_succ, List.getElem?_cons_zero]
          rfl
        case s23 =>
          refine BStep.of [18, 20, 22] [(40, 18), (42, 20), (44, 22)] (opV _) (by kernel_rfl) (fun _ _ => by kernel_rfl) rfl ?_
          intro vs wv hB hA
          have h18 : vs 18 = _ := hA.1
          have h20 : vs 20 = _ := hA.2.1
          have h22 : vs 22 = _ := hA.2.2.1
          clear hA
          simp only [fillP, List.setIfInBounds_toArray, List.set_cons_zero, List.set_cons_succ, h18, h20, h22]
          have c0 := (CS.out wv hB).2.1; have c1 := (CS.out wv hB).2.2.1; have d0 := (CS.out wv hB).2.2.2.1; have d1 := (CS.out wv hB).2.2.2.2.1; have e0 := (CS.out wv hB).2.2.2.2.2.1; have e1 := (CS.out wv hB).2.2.2.2.2.2; go_wp2_with fail
          refine postB_val ?_ (Below.refl _ _)
          simp only [List.getElem?_cons_succ, List.getElem?_cons_zero]
          rfl
        case s24 =>
          refine BStep.of [12, 18, 23] [(34, 12), (40, 18), (45, 23)] (opV _) (by kernel_rfl) (fun _ _ => by kernel_rfl) rfl ?_
          intro vs wv hB hA
          have h12 : vs 12 = _ := hA.1
          have h18 : vs 18 = _ := hA.2.1
          have h23 : vs 23 = _ := hA.2.2.1
          clear hA
          simp only [fillP, List.setIfInBounds_toArray, List.set_cons_zero, List.set_cons_succ, h12, h18, h23]
          have c0 := (CS.out wv hB).2.1; have c1 := (CS.out wv hB).2.2.1; have d0 := (CS.out wv hB).2.2.2.1; have d1 := (CS.out wv hB).2.2.2.2.1; have e0 := (CS.out wv hB).2.2.2.2.2.1; have e1 := (CS.out wv hB).2.2.2.2.2.2; go_wp2_with fail
          refine postB_val ?_ (Below.refl _ _)
          simp only [List.getElem?_cons_succ, List.getElem?_cons_zero]
          rfl
        case s25 =>
          refine BStep.of [12, 24] [(34, 12), (46, 24)] (opV _) (by kernel_rfl) (fun _ _ => by kernel_rfl) rfl ?_
          intro vs wv hB hA
          have h12 : vs 12 = _ := hA.1
          have h24 : vs 24 = _ := hA.2.1
          clear hA
          simp only [fillP, List.setIfInBounds_toArray, List.set_cons_zero, List.set_cons_succ, h12, h24]
          have c0 := (CS.out wv hB).2.1; have c1 := (CS.out wv hB).2.2.1; have d0 := (CS.out wv hB).2.2.2.1; have d1 := (CS.out wv hB).2.2.2.2.1; have e0 := (CS.out wv hB).2.2.2.2.2.1; have e1 := (CS.out wv hB).2.2.2.2.2.2; go_wp2_with fail
          refine postB_val ?_ (Below.refl _ _)
          simp only [List.getElem?_cons_succ, List.getElem?_cons_zero]
          rfl
        case s26 =>
          refine BStep.of [18, 25] [(40, 18), (47, 25)] (opV _) (by kernel_rfl) (fun _ _ => by kernel_rfl) rfl ?_
          intro vs wv hB hA
          have h18 : vs 18 = _ := hA.1
          have h25 : vs 25 = _ := hA.2.1
          clear hA
          simp only [fillP, List.setIfInBounds_toArray, List.set_cons_zero, List.set_cons_succ, h18, h25]
          have c0 := (CS.out wv hB).2.1; have c1 := (CS.out wv hB).2.2.1; have d0 := (CS.out wv hB).2.2.2.1; have d1 := (CS.out wv hB).2.2.2.2.1; have e0 := (CS.out wv hB).2.2.2.2.2.1; have e1 := (CS.out wv hB).2.2.2.2.2.2; go_wp2_with fail
          refine postB_val ?_ (Below.refl _ _)
          simp only [List.getElem?_cons_succ, List.getElem?_cons_zero]
          rfl
        case s27 =>
          refine BStep.of [26] [(48, 26)] (opV _) (by kernel_rfl) (fun _ _ => by kernel_rfl) rfl ?_
          intro vs wv hB hA
          have h26 : vs 26 = _ := hA.1
          clear hA
          simp only [fillP, List.setIfInBounds_toArray, List.set_cons_zero, List.set_cons_succ, h26]
          have c0 := (CS.out wv hB).2.1; have c1 := (CS.out wv hB).2.2.1; have d0 := (CS.out wv hB).2.2.2.1; have d1 := (CS.out wv hB).2.2.2.2.1; have e0 := (CS.out wv hB).2.2.2.2.2.1; have e1 := (CS.out wv hB).2.2.2.2.2.2; go_wp2_with fail
          refine postB_val ?_ (Below.refl _ _)
          simp only [List.getElem?_cons_succ, List.getElem?_cons_zero]
          rfl
        case s28 =>
          refine BStep.of [26, 27] [(48, 26), (49, 27)] (opV _) (by kernel_rfl) (fun _ _ => by kernel_rfl) rfl ?_
          intro vs wv hB hA
          have h26 : vs 26 = _ := hA.1
          have h27 : vs 27 = _ := hA.2.1
          clear hA
          simp only [fillP, List.setIfInBounds_toArray, List.set_cons_zero, List.set_cons_succ, h26, h27]
          have c0 := (CS.out wv hB).2.1; have c1 := (CS.out wv hB).2.2.1; have d0 := (CS.out wv hB).2.2.2.1; have d1 := (CS.out wv hB).2.2.2.2.1; have e0 := (CS.out wv hB).2.2.2.2.2.1; have e1 := (CS.out wv hB).2.2.2.2.2.2; go_wp2_with fail
          refine postB_val ?_ (Below.refl _ _)
          simp only [List.getElem?_cons_succ, List.getElem?_cons_zero]
          rfl
        case s29 =>
          refine BStep.of [26] [(48, 26)] (opV _) (by kernel_rfl) (fun _ _ => by kernel_rfl) rfl ?_
          intro vs wv hB hA
          have h26 : vs 26 = _ := hA.1
          clear hA
          simp only [fillP, List.setIfInBounds_toArray, List.set_cons_zero, List.set_cons_succ, h26]
          have c0 := (CS.out wv hB).2.1; have c1 := (CS.out wv hB).2.2.1; have d0 := (CS.out wv hB).2.2.2.1; have d1 := (CS.out wv hB).2.2.2.2.1; have e0 := (CS.out wv hB).2.2.2.2.2.1; have e1 := (CS.out wv hB).2.2.2.2.2.2; go_wp2_with fail
          refine postB_val ?_ (Below.refl _ _)
          simp only [List.getElem?_cons_succ, List.getElem?_cons_zero]
          rfl
        case s30 =>
          refine BStep.of [26, 29] [(48, 26), (51, 29)] (opV _) (by kernel_rfl) (fun _ _ => by kernel_rfl) rfl ?_
          intro vs wv hB hA
          have h26 : vs 26 = _ := hA.1
          have h29 : vs 29 = _ := hA.2.1
          clear hA
          simp only [fillP, List.setIfInBounds_toArray, List.set_cons_zero, List.set_cons_succ, h26, h29]
          have c0 := (CS.out wv hB).2.1; have c1 := (CS.out wv hB).2.2.1; have d0 := (CS.out wv hB).2.2.2.1; have d1 := (CS.out wv hB).2.2.2.2.1; have e0 := (CS.out wv hB).2.2.2.2.2.1; have e1 := (CS.out wv hB).2.2.2.2.2.2; go_wp2_with fail
          refine postB_val ?_ (Below.refl _ _)
          simp only [List.getElem?_cons_succ, List.getElem?_cons_zero]
          rfl
        case s31 =>
          refine BStep.of [26, 28, 30] [(48, 26), (50, 28), (52, 30)] (opV _) (by kernel_rfl) (fun _ _ => by kernel_rfl) rfl ?_
          intro vs wv hB hA
          have h26 : vs 26 = _ := hA.1
          have h28 : vs 28 = _ := hA.2.1
          have h30 : vs 30 = _ := hA.2.2.1
          clear hA
          simp only [fillP, List.setIfInBounds_toArray, List.set_cons_zero, List.set_cons_succ, h26, h28, h30]
          have c0 := (CS.out wv hB).2.1; have c1 := (CS.out wv hB).2.2.1; have d0 := (CS.out wv hB).2.2.2.1; have d1 := (CS.out wv hB).2.2.2.2.1; have e0 := (CS.out wv hB).2.2.2.2.2.1; have e1 := (CS.out wv hB).2.2.2.2.2.2; go_wp2_with fail
          refine postB_val ?_ (Below.refl _ _)
          simp only [List.getElem?_cons_succ, List.getElem?_cons_zero]
          rfl
        case s32 =>
          refine BStep.of [26, 31] [(48, 26), (53, 31)] (opV _) (by kernel_rfl) (fun _ _ => by kernel_rfl) rfl ?_
          intro vs wv hB hA
          have h26 : vs 26 = _ := hA.1
          have h31 : vs 31 = _ := hA.2.1
          clear hA
          simp only [fillP, List.setIfInBounds_toArray, List.set_cons_zero, List.set_cons_succ, h26, h31]
          have c0 := (CS.out wv hB).2.1; have c1 := (CS.out wv hB).2.2.1; have d0 := (CS.out wv hB).2.2.2.1; have d1 := (CS.out wv hB).2.2.2.2.1; have e0 := (CS.out wv hB).2.2.2.2.2.1; have e1 := (CS.out wv hB).2.2.2.2.2.2; go_wp2_with fail
          refine postB_val ?_ (Below.refl _ _)
          simp only [List.getElem?_cons_succ, List.getElem?_cons_zero]
          rfl
        case s33 =>
          refine BStep.of [32] [(54, 32)] (opV _) (by kernel_rfl) (fun _ _ => by kernel_rfl) rfl ?_
          intro vs wv hB hA
          have h32 : vs 32 = _ := hA.1
          clear hA
          simp only [fillP, List.setIfInBounds_toArray, List.set_cons_zero, List.set_cons_succ, h32]
          have c0 := (CS.out wv hB).2.1; have c1 := (CS.out wv hB).2.2.1; have d0 := (CS.out wv hB).2.2.2.1; have d1 := (CS.out wv hB).2.2.2.2.1; have e0 := (CS.out wv hB).2.2.2.2.2.1; have e1 := (CS.out wv hB).2.2.2.2.2.2; go_wp2_with fail
          refine postB_val ?_ (Below.refl _ _)
          simp only [List.getElem?_cons_succ, List.getElem?_cons_zero]
          rfl
        case s34 =>
          refine BStep.of [32, 33] [(54, 32), (55, 33)] (opV _) (by kernel_rfl) (fun _ _ => by kernel_rfl) rfl ?_
          intro vs wv hB hA
          have h32 : vs 32 = _ := hA.1
          have h33 : vs 33 = _ := hA.2.1
          clear hA
          simp only [fillP, List.setIfInBounds_toArray, List.set_cons_zero, List.set_cons_succ, h32, h33]
          have c0 := (CS.out wv hB).2.1; have c1 := (CS.out wv hB).2.2.1; have d0 := (CS.out wv hB).2.2.2.1; have d1 := (CS.out wv hB).2.2.2.2.1; have e0 := (CS.out wv hB).2.2.2.2.2.1; have e1 := (CS.out wv hB).2.2.2.2.2.2; go_wp2_with fail
          refine postB_val ?_ (Below.refl _ _)
          simp only [List.getElem?_cons_succ, List.getElem?_cons_zero]
          rfl
        case s35 =>
          refine BStep.of [32] [(54, 32)] (opV _) (by kernel_rfl) (fun _ _ => by kernel_rfl) rfl ?_
          intro vs wv hB hA
          have h32 : vs 32 = _ := hA.1
          clear hA
          simp only [fillP, List.setIfInBounds_toArray, List.set_cons_zero, List.set_cons_succ, h32]
          have c0 := (CS.out wv hB).2.1; have c1 := (CS.out wv hB).2.2.1; have d0 := (CS.out wv hB).2.2.2.1; have d1 := (CS.out wv hB).2.2.2.2.1; have e0 := (CS.out wv hB).2.2.2.2.2.1; have e1 := (CS.out wv hB).2.2.2.2.2.2; go_wp2_with fail
          refine postB_val ?_ (Below.refl _ _)
          simp only [List.getElem?_cons_succ, List.getElem?_cons_zero]
          rfl
        case s36 =>
          refine BStep.of [32, 35] [(54, 32), (57, 35)] (opV _) (by kernel_rfl) (fun _ _ => by kernel_rfl) rfl ?_
          intro vs wv hB hA
          have h32 : vs 32 = _ := hA.1
          have h35 : vs 35 = _ := hA.2.1
          clear hA
          simp only [fillP, List.setIfInBounds_toArray, List.set_cons_zero, List.set_cons_succ, h32, h35]
          have c0 := (CS.out wv hB).2.1; have c1 := (CS.out wv hB).2.2.1; have d0 := (CS.out wv hB).2.2.2.1; have d1 := (CS.out wv hB).2.2.2.2.1; have e0 := (CS.out wv hB).2.2.2.2.2.1; have e1 := (CS.out wv hB).2.2.2.2.2.2; go_wp2_with fail
          refine postB_val ?_ (Below.refl _ _)
          simp only [List.getElem?_cons_succ, List.getElem?_cons_zero]
          rfl
        case s37 =>
          refine BStep.of [32, 34, 36] [(54, 32), (56, 34), (58, 36)] (opV _) (by kernel_rfl) (fun _ _ => by kernel_rfl) rfl ?_
          intro vs wv hB hA
          have h32 : vs 32 = _ := hA.1
          have h34 : vs 34 = _ := hA.2.1
          have h36 : vs 36 = _ := hA.2.2.1
          clear hA
          simp only [fillP, List.setIfInBounds_toArray, List.set_cons_zero, List.set_cons_succ, h32, h34, h36]
          have c0 := (CS.out wv hB).2.1; have c1 := (CS.out wv hB).2.2.1; have d0 := (CS.out wv hB).2.2.2.1; have d1 := (CS.out wv hB).2.2.2.2.1; have e0 := (CS.out wv hB).2.2.2.2.2.1; have e1 := (CS.out wv hB).2.2.2.2.2.2; go_wp2_with fail
          refine postB_val ?_ (Below.refl _ _)
          simp only [List.getElem?_cons_succ, List.getElem?_cons_zero]
          rfl
        case s38 =>
          refine BStep.of [26, 32, 37] [(48, 26), (54, 32), (59, 37)] (opV _) (by kernel_rfl) (fun _ _ => by kernel_rfl) rfl ?_
          intro vs wv hB hA
          have h26 : vs 26 = _ := hA.1
          have h32 : vs 32 = _ := hA.2.1
          have h37 : vs 37 = _ := hA.2.2.1
          clear hA
          simp only [fillP, List.setIfInBounds_toArray, List.set_cons_zero, List.set_cons_succ, h26, h32, h37]
          have c0 := (CS.out wv hB).2.1; have c1 := (CS.out wv hB).2.2.1; have d0 := (CS.out wv hB).2.2.2.1; have d1 := (CS.out wv hB).2.2.2.2.1; have e0 := (CS.out wv hB).2.2.2.2.2.1; have e1 := (CS.out wv hB).2.2.2.2.2.2; go_wp2_with fail
          refine postB_val ?_ (Below.refl _ _)
          simp only [List.getElem?_cons_succ, List.getElem?_cons_zero]
          rfl
        case s39 =>
          refine BStep.of [26, 38] [(48, 26), (60, 38)] (opV _) (by kernel_rfl) (fun _ _ => by kernel_rfl) rfl ?_
          intro vs wv hB hA
          have h26 : vs 26 = _ := hA.1
          have h38 : vs 38 = _ := hA.2.1
          clear hA
          simp only [fillP, List.setIfInBounds_toArray, List.set_cons_zero, List.set_cons_succ, h26, h38]
          have c0 := (CS.out wv hB).2.1; have c1 := (CS.out wv hB).2.2.1; have d0 := (CS.out wv hB).2.2.2.1; have d1 := (CS.out wv hB).2.2.2.2.1; have e0 := (CS.out wv hB).2.2.2.2.2.1; have e1 := (CS.out wv hB).2.2.2.2.2.2; go_wp2_with fail
          refine postB_val ?_ (Below.refl _ _)
          simp only [List.getElem?_cons_succ, List.getElem?_cons_zero]
          rfl
        case s40 =>
          refine BStep.of [32, 39] [(54, 32), (61, 39)] (opV _) (by kernel_rfl) (fun _ _ => by kernel_rfl) rfl ?_
          intro vs wv hB hA
          have h32 : vs 32 = _ := hA.1
          have h39 : vs 39 = _ := hA.2.1
          clear hA
          simp only [fillP, List.setIfInBounds_toArray, List.set_cons_zero, List.set_cons_succ, h32, h39]
          have c0 := (CS.out wv hB).2.1; have c1 := (CS.out wv hB).2.2.1; have d0 := (CS.out wv hB).2.2.2.1; have d1 := (CS.out wv hB).2.2.2.2.1; have e0 := (CS.out wv hB).2.2.2.2.2.1; have e1 := (CS.out wv hB).2.2.2.2.2.2; go_wp2_with fail
          refine postB_val ?_ (Below.refl _ _)
          simp only [List.getElem?_cons_succ, List.getElem?_cons_zero]
          rfl
        case s41 =>
          refine BStep.of [40] [(62, 40)] (opV _) (by kernel_rfl) (fun _ _ => by kernel_rfl) rfl ?_
          intro vs wv hB hA
          have h40 : vs 40 = _ := hA.1
          clear hA
          simp only [fillP, List.setIfInBounds_toArray, List.set_cons_zero, List.set_cons_succ, h40]
          have c0 := (CS.out wv hB).2.1; have c1 := (CS.out wv hB).2.2.1; have d0 := (CS.out wv hB).2.2.2.1; have d1 := (CS.out wv hB).2.2.2.2.1; have e0 := (CS.out wv hB).2.2.2.2.2.1; have e1 := (CS.out wv hB).2.2.2.2.2.2; go_wp2_with fail
          refine postB_val ?_ (Below.refl _ _)
          simp only [List.getElem?_cons_succ, List.getElem?_cons_zero]
          rfl
        case s42 =>
          refine BStep.of [40] [(62, 40)] (opV _) (by kernel_rfl) (fun _ _ => by kernel_rfl) rfl ?_
          intro vs wv hB hA
          have h40 : vs 40 = _ := hA.1
          clear hA
          simp only [fillP, List.setIfInBounds_toArray, List.set_cons_zero, List.set_cons_succ, h40]
          have c0 := (CS.out wv hB).2.1; have c1 := (CS.out wv hB).2.2.1; have d0 := (CS.out wv hB).2.2.2.1; have d1 := (CS.out wv hB).2.2.2.2.1; have e0 := (CS.out wv hB).2.2.2.2.2.1; have e1 := (CS.out wv hB).2.2.2.2.2.2; go_wp2_with fail
          refine postB_val ?_ (Below.refl _ _)
          simp only [List.getElem?_cons_succ, List.getElem?_cons_zero]
          rfl
        case s43 =>
          refine BStep.of [40] [(62, 40)] (opV _) (by kernel_rfl) (fun _ _ => by kernel_rfl) rfl ?_
          intro vs wv hB hA
          have h40 : vs 40 = _ := hA.1
          clear hA
          simp only [fillP, List.setIfInBounds_toArray, List.set_cons_zero, List.set_cons_succ, h40]
          have c0 := (CS.out wv hB).2.1; have c1 := (CS.out wv hB).2.2.1; have d0 := (CS.out wv hB).2.2.2.1; have d1 := (CS.out wv hB).2.2.2.2.1; have e0 := (CS.out wv hB).2.2.2.2.2.1; have e1 := (CS.out wv hB).2.2.2.2.2.2; go_wp2_with fail
          refine postB_val ?_ (Below.refl _ _)
          simp only [List.getElem?_cons_succ, List.getElem?_cons_zero]
          rfl
        case s44 =>
          refine BStep.of [40, 42, 43] [(62, 40), (64, 42), (65, 43)] (opM [(b1, b2), (a1, a2)]) (by kernel_rfl) (fun _ _ => by kernel_rfl) rfl ?_
          intro vs wv hB hA
          have h40 : vs 40 = _ := hA.1
          have h42 : vs 42 = _ := hA.2.1
          have h43 : vs 43 = _ := hA.2.2.1
          clear hA
          simp only [fillP, List.setIfInBounds_toArray, List.set_cons_zero, List.set_cons_succ, h40, h42, h43]
          go_wp2_with fail; exact postB_R rfl (new_two wv (b1, b2) (a1, a2)) ((Below.refl _ _).alloc (Nat.le_refl _) _)
        case s45 =>
          refine BStep.of [40, 44] [(62, 40), (66, 44)] (opV (.agg #[.int .i64 b1, .int .i64 a2])) (by kernel_rfl) (fun _ _ => by kernel_rfl) rfl ?_
          intro vs wv hB hA
          have h40 : vs 40 = _ := hA.1
          have h44 : MgIn wv (vs 44) [(b1, b2), (a1, a2)] := hA.2.1
          clear hA
          simp only [fillP, List.setIfInBounds_toArray, List.set_cons_zero, List.set_cons_succ, h40]
          (go_wp2_with (go_at_call 8; (with_reducible refine (KJ2.out _ _ h44).mono ?_); rintro e w7 ⟨rfl, hb⟩)); exact postB_val rfl hb
        case s46 =>
          refine BStep.of [40, 41, 45] [(62, 40), (63, 41), (67, 45)] (opV _) (by kernel_rfl) (fun _ _ => by kernel_rfl) rfl ?_
          intro vs wv hB hA
          have h40 : vs 40 = _ := hA.1
          have h41 : vs 41 = _ := hA.2.1
          have h45 : vs 45 = _ := hA.2.2.1
          clear hA
          simp only [fillP, List.setIfInBounds_toArray, List.set_cons_zero, List.set_cons_succ, h40, h41, h45]
          have c0 := (CS.out wv hB).2.1; have c1 := (CS.out wv hB).2.2.1; have d0 := (CS.out wv hB).2.2.2.1; have d1 := (CS.out wv hB).2.2.2.2.1; have e0 := (CS.out wv hB).2.2.2.2.2.1; have e1 := (CS.out wv hB).2.2.2.2.2.2; go_wp2_with fail
          refine postB_val ?_ (Below.refl _ _)
          simp only [List.getElem?_cons_succ, List.getElem?_cons_zero]
          rfl
        case s47 =>
          refine BStep.of [40, 46] [(62, 40), (68, 46)] (opV _) (by kernel_rfl) (fun _ _ => by kernel_rfl) rfl ?_
          intro vs wv hB hA
          have h40 : vs 40 = _ := hA.1
          have h46 : vs 46 = _ := hA.2.1
          clear hA
          simp only [fillP, List.setIfInBounds_toArray, List.set_cons_zero, List.set_cons_succ, h40, h46]
          have c0 := (CS.out wv hB).2.1; have c1 := (CS.out wv hB).2.2.1; have d0 := (CS.out wv hB).2.2.2.1; have d1 := (CS.out wv hB).2.2.2.2.1; have e0 := (CS.out wv hB).2.2.2.2.2.1; have e1 := (CS.out wv hB).2.2.2.2.2.2; go_wp2_with fail
          refine postB_val ?_ (Below.refl _ _)
          simp only [List.getElem?_cons_succ, List.getElem?_cons_zero]
          rfl
        case fin =>
          refine fin_of [0, 1, 2, 3, 4, 5, 6, 7, 8, 9, 10, 11, 12, 13, 14, 15, 16, 17, 18, 19, 20, 21, 22, 23, 24, 25, 26, 27, 28, 29, 30, 31, 32, 33, 34, 35, 36, 37, 38, 39, 40, 41, 42, 43, 44, 45, 46, 47] [(22, 0), (23, 1), (24, 2), (25, 3), (26, 4), (27, 5), (28, 6), (29, 7), (30, 8), (31, 9), (32, 10), (33, 11), (34, 12), (35, 13), (36, 14), (37, 15), (38, 16), (39, 17), (40, 18), (41, 19), (42, 20), (43, 21), (44, 22), (45, 23), (46, 24), (47, 25), (48, 26), (49, 27), (50, 28), (51, 29), (52, 30), (53, 31), (54, 32), (55, 33), (56, 34), (57, 35), (58, 36), (59, 37), (60, 38), (61, 39), (62, 40), (63, 41), (64, 42), (65, 43), (66, 44), (67, 45), (68, 46), (69, 47)] (by kernel_rfl) (fun _ _ => by kernel_rfl) ?_
          intro vs wv hB hA
          have h0 : vs 0 = _ := hA.1
          have h1 : vs 1 = _ := hA.2.1
          have h2 : vs 2 = _ := hA.2.2.1
          have h3 : vs 3 = _ := hA.2.2.2.1
          have h4 : vs 4 = _ := hA.2.2.2.2.1
          have h5 : vs 5 = _ := hA.2.2.2.2.2.1
          have h6 : vs 6 = _ := hA.2.2.2.2.2.2.1
          have h7 : vs 7 = _ := hA.2.2.2.2.2.2.2.1
          have h8 : vs 8 = _ := hA.2.2.2.2.2.2.2.2.1
          have h9 : vs 9 = _ := hA.2.2.2.2.2.2.2.2.2.1
          have h10 : vs 10 = _ := hA.2.2.2.2.2.2.2.2.2.2.1
          have h11 : vs 11 = _ := hA.2.2.2.2.2.2.2.2.2.2.2.1
          have h12 : vs 12 = _ := hA.2.2.2.2.2.2.2.2.2.2.2.2.1
          have h13 : vs 13 = _ := hA.2.2.2.2.2.2.2.2.2.2.2.2.2.1
          have h14 : vs 14 = _ := hA.2.2.2.2.2.2.2.2.2.2.2.2.2.2.1
          have h15 : vs 15 = _ := hA.2.2.2.2.2.2.2.2.2.2.2.2.2.2.2.1
          have h16 : vs 16 = _ := hA.2.2.2.2.2.2.2.2.2.2.2.2.2.2.2.2.1
          have h17 : vs 17 = _ := hA.2.2.2.2.2.2.2.2.2.2.2.2.2.2.2.2.2.1
          have h18 : vs 18 = _ := hA.2.2.2.2.2.2.2.2.2.2.2.2.2.2.2.2.2.2.1
          have h19 : vs 19 = _ := hA.2.2.2.2.2.2.2.2.2.2.2.2.2.2.2.2.2.2.2.1
          have h20 : vs 20 = _ := hA.2.2.2.2.2.2.2.2.2.2.2.2.2.2.2.2.2.2.2.2.1
          have h21 : vs 21 = _ := hA.2.2.2.2.2.2.2.2.2.2.2.2.2.2.2.2.2.2.2.2.2.1
          have h22 : vs 22 = _ := hA.2.2.2.2.2.2.2.2.2.2.2.2.2.2.2.2.2.2.2.2.2.2.1
          have h23 : vs 23 = _ := hA.2.2.2.2.2.2.2.2.2.2.2.2.2.2.2.2.2.2.2.2.2.2.2.1
          have h24 : vs 24 = _ := hA.2.2.2.2.2.2.2.2.2.2.2.2.2.2.2.2.2.2.2.2.2.2.2.2.1
          have h25 : vs 25 = _ := hA.2.2.2.2.2.2.2.2.2.2.2.2.2.2.2.2.2.2.2.2.2.2.2.2.2.1
          have h26 : vs 26 = _ := hA.2.2.2.2.2.2.2.2.2.2.2.2.2.2.2.2.2.2.2.2.2.2.2.2.2.2.1
          have h27 : vs 27 = _ := hA.2.2.2.2.2.2.2.2.2.2.2.2.2.2.2.2.2.2.2.2.2.2.2.2.2.2.2.1
          have h28 : vs 28 = _ := hA.2.2.2.2.2.2.2.2.2.2.2.2.2.2.2.2.2.2.2.2.2.2.2.2.2.2.2.2.1
          have h29 : vs 29 = _ := hA.2.2.2.2.2.2.2.2.2.2.2.2.2.2.2.2.2.2.2.2.2.2.2.2.2.2.2.2.2.1
          have h30 : vs 30 = _ := hA.2.2.2.2.2.2.2.2.2.2.2.2.2.2.2.2.2.2.2.2.2.2.2.2.2.2.2.2.2.2.1
          have h31 : vs 31 = _ := hA.2.2.2.2.2.2.2.2.2.2.2.2.2.2.2.2.2.2.2.2.2.2.2.2.2.2.2.2.2.2.2.1
          have h32 : vs 32 = _ := hA.2.2.2.2.2.2.2.2.2.2.2.2.2.2.2.2.2.2.2.2.2.2.2.2.2.2.2.2.2.2.2.2.1
          have h33 : vs 33 = _ := hA.2.2.2.2.2.2.2.2.2.2.2.2.2.2.2.2.2.2.2.2.2.2.2.2.2.2.2.2.2.2.2.2.2.1
          have h34 : vs 34 = _ := hA.2.2.2.2.2.2.2.2.2.2.2.2.2.2.2.2.2.2.2.2.2.2.2.2.2.2.2.2.2.2.2.2.2.2.1
          have h35 : vs 35 = _ := hA.2.2.2.2.2.2.2.2.2.2.2.2.2.2.2.2.2.2.2.2.2.2.2.2.2.2.2.2.2.2.2.2.2.2.2.1
          have h36 : vs 36 = _ := hA.2.2.2.2.2.2.2.2.2.2.2.2.2.2.2.2.2.2.2.2.2.2.2.2.2.2.2.2.2.2.2.2.2.2.2.2.1
          have h37 : vs 37 = _ := hA.2.2.2.2.2.2.2.2.2.2.2.2.2.2.2.2.2.2.2.2.2.2.2.2.2.2.2.2.2.2.2.2.2.2.2.2.2.1
          have h38 : vs 38 = _ := hA.2.2.2.2.2.2.2.2.2.2.2.2.2.2.2.2.2.2.2.2.2.2.2.2.2.2.2.2.2.2.2.2.2.2.2.2.2.2.1
          have h39 : vs 39 = _ := hA.2.2.2.2.2.2.2.2.2.2.2.2.2.2.2.2.2.2.2.2.2.2.2.2.2.2.2.2.2.2.2.2.2.2.2.2.2.2.2.1
          have h40 : vs 40 = _ := hA.2.2.2.2.2.2.2.2.2.2.2.2.2.2.2.2.2.2.2.2.2.2.2.2.2.2.2.2.2.2.2.2.2.2.2.2.2.2.2.2.1
          have h41 : vs 41 = _ := hA.2.2.2.2.2.2.2.2.2.2.2.2.2.2.2.2.2.2.2.2.2.2.2.2.2.2.2.2.2.2.2.2.2.2.2.2.2.2.2.2.2.1
          have h42 : vs 42 = _ := hA.2.2.2.2.2.2.2.2.2.2.2.2.2.2.2.2.2.2.2.2.2.2.2.2.2.2.2.2.2.2.2.2.2.2.2.2.2.2.2.2.2.2.1
          have h43 : vs 43 = _ := hA.2.2.2.2.2.2.2.2.2.2.2.2.2.2.2.2.2.2.2.2.2.2.2.2.2.2.2.2.2.2.2.2.2.2.2.2.2.2.2.2.2.2.2.1
          have h44 : MgIn wv (vs 44) [(b1, b2), (a1, a2)] := hA.2.2.2.2.2.2.2.2.2.2.2.2.2.2.2.2.2.2.2.2.2.2.2.2.2.2.2.2.2.2.2.2.2.2.2.2.2.2.2.2.2.2.2.2.1
          have h45 : vs 45 = _ := hA.2.2.2.2.2.2.2.2.2.2.2.2.2.2.2.2.2.2.2.2.2.2.2.2.2.2.2.2.2.2.2.2.2.2.2.2.2.2.2.2.2.2.2.2.2.1
          have h46 : vs 46 = _ := hA.2.2.2.2.2.2.2.2.2.2.2.2.2.2.2.2.2.2.2.2.2.2.2.2.2.2.2.2.2.2.2.2.2.2.2.2.2.2.2.2.2.2.2.2.2.2.1
          have h47 : vs 47 = _ := hA.2.2.2.2.2.2.2.2.2.2.2.2.2.2.2.2.2.2.2.2.2.2.2.2.2.2.2.2.2.2.2.2.2.2.2.2.2.2.2.2.2.2.2.2.2.2.2.1
          clear hA
          simp only [fillP, List.setIfInBounds_toArray, List.set_cons_zero, List.set_cons_succ, h0, h1, h2, h3, h4, h5, h6, h7, h8, h9, h10, h11, h12, h13, h14, h15, h16, h17, h18, h19, h20, h21, h22, h23, h24, h25, h26, h27, h28, h29, h30, h31, h32, h33, h34, h35, h36, h37, h38, h39, h40, h41, h42, h43, h45, h46, h47]
          go_wp2_with fail; go_meet; exact ⟨by first|rfl | simp, Lib.hid hB⟩
    · by_cases h2 : b2 < a2
      · skip
        rw [if_neg h1] at hp
        subst hp
        rw [if_pos h2] at hq
        subst hq
        have v1 : ((b2 : Int) != a2) = (!false) := by simp; omega
        clear h1 h2
        go_wp2_with fail
        refine' wp_region_below [opV _, opV _, opV _, opV _, opV _, opV _, opV _, opV _, opV _, opV _, opV _, opV _, opV _, opV _, opV _, opV _, opV _, opV _, opV _, opV _, opV _, opV _, opV _, opV _, opV _, opV _, opV _, opV _, opV _, opV _, opV _, opV _, opV _, opV _, opV _, opV _, opV _, opV _, opV _, opV _, opV _, opV _, opV _, opV _, opM [(b1, b2), (a1, a2)], opV (.agg #[.int .i64 a1, .int .i64 b2]), opV _, opV _] rfl (by kernel_rfl) ⟨?s0, ?s1, ?s2, ?s3, ?s4, ?s5, ?s6, ?s7, ?s8, ?s9, ?s10, ?s11, ?s12, ?s13, ?s14, ?s15, ?s16, ?s17, ?s18, ?s19, ?s20, ?s21, ?s22, ?s23, ?s24, ?s25, ?s26, ?s27, ?s28, ?s29, ?s30, ?s31, ?s32, ?s33, ?s34, ?s35, ?s36, ?s37, ?s38, ?s39, ?s40, ?s41, ?s42, ?s43, ?s44, ?s45, ?s46, ?s47, trivial⟩ ?fin
        case s0 =>
          refine BStep.of [] [] (opV _) (by kernel_rfl) (fun _ _ => by kernel_rfl) rfl ?_
          intro vs wv hB hA
          clear hA
          simp only [fillP]
          have c0 := (CS.out wv hB).2.1; have c1 := (CS.out wv hB).2.2.1; have d0 := (CS.out wv hB).2.2.2.1; have d1 := (CS.out wv hB).2.2.2.2.1; have e0 := (CS.out wv hB).2.2.2.2.2.1; have e1 := (CS.out wv hB).2.2.2.2.2.2; go_wp2_with fail
          refine postB_val ?_ (Below.refl _ _)
          simp only [List.getElem?_cons_succ, List.getElem?_cons_zero]
          rfl
        case s1 =>
          refine BStep.of [0] [(22, 0)] (opV _) (by kernel_rfl) (fun _ _ => by kernel_rfl) rfl ?_
          intro vs wv hB hA
          have h0 : vs 0 = _ := hA.1
          clear hA
          simp only [fillP, List.setIfInBounds_toArray, List.set_cons_zero, List.set_cons_succ, h0]
          have c0 := (CS.out wv hB).2.1; have c1 := (CS.out wv hB).2.2.1; have d0 := (CS.out wv hB).2.2.2.1; have d1 := (CS.out wv hB).2.2.2.2.1; have e0 := (CS.out wv hB).2.2.2.2.2.1; have e1 := (CS.out wv hB).2.2.2.2.2.2; go_wp2_with fail
          refine postB_val ?_ (Below.refl _ _)
          simp only [List.getElem?_cons_succ, List.getElem?_cons_zero]
          rfl
        case s2 =>
          refine BStep.of [] [] (opV _) (by kernel_rfl) (fun _ _ => by kernel_rfl) rfl ?_
          intro vs wv hB hA
          clear hA
          simp only [fillP]
          have c0 := (CS.out wv hB).2.1; have c1 := (CS.out wv hB).2.2.1; have d0 := (CS.out wv hB).2.2.2.1; have d1 := (CS.out wv hB).2.2.2.2.1; have e0 := (CS.out wv hB).2.2.2.2.2.1; have e1 := (CS.out wv hB).2.2.2.2.2.2; go_wp2_with fail
          refine postB_val ?_ (Below.refl _ _)
          simp only [List.getElem?_cons_succ, List.getElem?_cons_zero]
          rfl
        case s3 =>
          refine BStep.of [2] [(24, 2)] (opV _) (by kernel_rfl) (fun _ _ => by kernel_rfl) rfl ?_
          intro vs wv hB hA
          have h2 : vs 2 = _ := hA.1
          clear hA
          simp only [fillP, List.setIfInBounds_toArray, List.set_cons_zero, List.set_cons_succ, h2]
          have c0 := (CS.out wv hB).2.1; have c1 := (CS.out wv hB).2.2.1; have d0 := (CS.out wv hB).2.2.2.1; have d1 := (CS.out wv hB).2.2.2.2.1; have e0 := (CS.out wv hB).2.2.2.2.2.1; have e1 := (CS.out wv hB).2.2.2.2.2.2; go_wp2_with fail
          refine postB_val ?_ (Below.refl _ _)
          simp only [List.getElem?_cons_succ, List.getElem?_cons_zero]
          rfl
        case s4 =>
          refine BStep.of [1, 3] [(23, 1), (25, 3)] (opV _) (by kernel_rfl) (fun _ _ => by kernel_rfl) rfl ?_
          intro vs wv hB hA
          have h1 : vs 1 = _ := hA.1
          have h3 : vs 3 = _ := hA.2.1
          clear hA
          simp only [fillP, List.setIfInBounds_toArray, List.set_cons_zero, List.set_cons_succ, h1, h3]
          have c0 := (CS.out wv hB).2.1; have c1 := (CS.out wv hB).2.2.1; have d0 := (CS.out wv hB).2.2.2.1; have d1 := (CS.out wv hB).2.2.2.2.1; have e0 := (CS.out wv hB).2.2.2.2.2.1; have e1 := (CS.out wv hB).2.2.2.2.2.2; go_wp2_with fail
          refine postB_val ?_ (Below.refl _ _)
          simp only [List.getElem?_cons_succ, List.getElem?_cons_zero]
          rfl
        case s5 =>
          refine BStep.of [4] [(26, 4)] (opV _) (by kernel_rfl) (fun _ _ => by kernel_rfl) rfl ?_
          intro vs wv hB hA
          have h4 : vs 4 = _ := hA.1
          clear hA
          simp only [fillP, List.setIfInBounds_toArray, List.set_cons_zero, List.set_cons_succ, h4]
          have c0 := (CS.out wv hB).2.1; have c1 := (CS.out wv hB).2.2.1; have d0 := (CS.out wv hB).2.2.2.1; have d1 := (CS.out wv hB).2.2.2.2.1; have e0 := (CS.out wv hB).2.2.2.2.2.1; have e1 := (CS.out wv hB).2.2.2.2.2.2; go_wp2_with fail
          refine postB_val ?_ (Below.refl _ _)
          simp only [List.getElem?_cons_succ, List.getElem?_cons_zero]
          rfl
        case s6 =>
          refine BStep.of [5] [(27, 5)] (opV _) (by kernel_rfl) (fun _ _ => by kernel_rfl) rfl ?_
          intro vs wv hB hA
          have h5 : vs 5 = _ := hA.1
          clear hA
          simp only [fillP, List.setIfInBounds_toArray, List.set_cons_zero, List.set_cons_succ, h5]
          have c0 := (CS.out wv hB).2.1; have c1 := (CS.out wv hB).2.2.1; have d0 := (CS.out wv hB).2.2.2.1; have d1 := (CS.out wv hB).2.2.2.2.1; have e0 := (CS.out wv hB).2.2.2.2.2.1; have e1 := (CS.out wv hB).2.2.2.2.2.2; go_wp2_with fail
          refine postB_val ?_ (Below.refl _ _)
          simp only [List.getElem?_cons_succ, List.getElem?_cons_zero]
          rfl
        case s7 =>
          refine BStep.of [5, 6] [(27, 5), (28, 6)] (opV _) (by kernel_rfl) (fun _ _ => by kernel_rfl) rfl ?_
          intro vs wv hB hA
          have h5 : vs 5 = _ := hA.1
          have h6 : vs 6 = _ := hA.2.1
          clear hA
          simp only [fillP, List.setIfInBounds_toArray, List.set_cons_zero, List.set_cons_succ, h5, h6]
          have c0 := (CS.out wv hB).2.1; have c1 := (CS.out wv hB).2.2.1; have d0 := (CS.out wv hB).2.2.2.1; have d1 := (CS.out wv hB).2.2.2.2.1; have e0 := (CS.out wv hB).2.2.2.2.2.1; have e1 := (CS.out wv hB).2.2.2.2.2.2; go_wp2_with fail
          refine postB_val ?_ (Below.refl _ _)
          simp only [List.getElem?_cons_succ, List.getElem?_cons_zero]
          rfl
        case s8 =>
          refine BStep.of [5] [(27, 5)] (opV _) (by kernel_rfl) (fun _ _ => by kernel_rfl) rfl ?_
          intro vs wv hB hA
          have h5 : vs 5 = _ := hA.1
          clear hA
          simp only [fillP, List.setIfInBounds_toArray, List.set_cons_zero, List.set_cons_succ, h5]
          have c0 := (CS.out wv hB).2.1; have c1 := (CS.out wv hB).2.2.1; have d0 := (CS.out wv hB).2.2.2.1; have d1 := (CS.out wv hB).2.2.2.2.1; have e0 := (CS.out wv hB).2.2.2.2.2.1; have e1 := (CS.out wv hB).2.2.2.2.2.2; go_wp2_with fail
          refine postB_val ?_ (Below.refl _ _)
          simp only [List.getElem?_cons_succ, List.getElem?_cons_zero]
          rfl
        case s9 =>
          refine BStep.of [5, 8] [(27, 5), (30, 8)] (opV _) (by kernel_rfl) (fun _ _ => by kernel_rfl) rfl ?_
          intro vs wv hB hA
          have h5 : vs 5 = _ := hA.1
          have h8 : vs 8 = _ := hA.2.1
          clear hA
          simp only [fillP, List.setIfInBounds_toArray, List.set_cons_zero, List.set_cons_succ, h5, h8]
          have c0 := (CS.out wv hB).2.1; have c1 := (CS.out wv hB).2.2.1; have d0 := (CS.out wv hB).2.2.2.1; have d1 := (CS.out wv hB).2.2.2.2.1; have e0 := (CS.out wv hB).2.2.2.2.2.1; have e1 := (CS.out wv hB).2.2.2.2.2.2; go_wp2_with fail
          refine postB_val ?_ (Below.refl _ _)
          simp only [List.getElem?_cons_succ, List.getElem?_cons_zero]
          rfl
        case s10 =>
          refine BStep.of [5, 7, 9] [(27, 5), (29, 7), (31, 9)] (opV _) (by kernel_rfl) (fun _ _ => by kernel_rfl) rfl ?_
          intro vs wv hB hA
          have h5 : vs 5 = _ := hA.1
          have h7 : vs 7 = _ := hA.2.1
          have h9 : vs 9 = _ := hA.2.2.1
          clear hA
          simp only [fillP, List.setIfInBounds_toArray, List.set_cons_zero, List.set_cons_succ, h5, h7, h9]
          have c0 := (CS.out wv hB).2.1; have c1 := (CS.out wv hB).2.2.1; have d0 := (CS.out wv hB).2.2.2.1; have d1 := (CS.out wv hB).2.2.2.2.1; have e0 := (CS.out wv hB).2.2.2.2.2.1; have e1 := (CS.out wv hB).2.2.2.2.2.2; go_wp2_with fail
          refine postB_val ?_ (Below.refl _ _)
          simp only [List.getElem?_cons_succ, List.getElem?_cons_zero]
          rfl
        case s11 =>
          refine BStep.of [5, 10] [(27, 5), (32, 10)] (opV _) (by kernel_rfl) (fun _ _ => by kernel_rfl) rfl ?_
          intro vs wv hB hA
          have h5 : vs 5 = _ := hA.1
          have h10 : vs 10 = _ := hA.2.1
          clear hA
          simp only [fillP, List.setIfInBounds_toArray, List.set_cons_zero, List.set_cons_succ, h5, h10]
          have c0 := (CS.out wv hB).2.1; have c1 := (CS.out wv hB).2.2.1; have d0 := (CS.out wv hB).2.2.2.1; have d1 := (CS.out wv hB).2.2.2.2.1; have e0 := (CS.out wv hB).2.2.2.2.2.1; have e1 := (CS.out wv hB).2.2.2.2.2.2; go_wp2_with fail
          refine postB_val ?_ (Below.refl _ _)
          simp only [List.getElem?_cons_succ, List.getElem?_cons_zero]
          rfl
        case s12 =>
          refine BStep.of [5, 11] [(27, 5), (33, 11)] (opV _) (by kernel_rfl) (fun _ _ => by kernel_rfl) rfl ?_
          intro vs wv hB hA
          have h5 : vs 5 = _ := hA.1
          have h11 : vs 11 = _ := hA.2.1
          clear hA
          simp only [fillP, List.setIfInBounds_toArray, List.set_cons_zero, List.set_cons_succ, h5, h11]
          have c0 := (CS.out wv hB).2.1; have c1 := (CS.out wv hB).2.2.1; have d0 := (CS.out wv hB).2.2.2.1; have d1 := (CS.out wv hB).2.2.2.2.1; have e0 := (CS.out wv hB).2.2.2.2.2.1; have e1 := (CS.out wv hB).2.2.2.2.2.2; go_wp2_with fail
          refine postB_val ?_ (Below.refl _ _)
          simp only [List.getElem?_cons_succ, List.getElem?_cons_zero]
          rfl
        case s13 =>
          refine BStep.of [12] [(34, 12)] (opV _) (by kernel_rfl) (fun _ _ => by kernel_rfl) rfl ?_
          intro vs wv hB hA
          have h12 : vs 12 = _ := hA.1
          clear hA
          simp only [fillP, List.setIfInBounds_toArray, List.set_cons_zero, List.set_cons_succ, h12]
          have c0 := (CS.out wv hB).2.1; have c1 := (CS.out wv hB).2.2.1; have d0 := (CS.out wv hB).2.2.2.1; have d1 := (CS.out wv hB).2.2.2.2.1; have e0 := (CS.out wv hB).2.2.2.2.2.1; have e1 := (CS.out wv hB).2.2.2.2.2.2; go_wp2_with fail
          refine postB_val ?_ (Below.refl _ _)
          simp only [List.getElem?_cons_succ, List.getElem?_cons_zero]
          rfl
        case s14 =>
          refine BStep.of [12, 13] [(34, 12), (35, 13)] (opV _) (by kernel_rfl) (fun _ _ => by kernel_rfl) rfl ?_
          intro vs wv hB hA
          have h12 : vs 12 = _ := hA.1
          have h13 : vs 13 = _ := hA.2.1
          clear hA
          simp only [fillP, List.setIfInBounds_toArray, List.set_cons_zero, List.set_cons_succ, h12, h13]
          have c0 := (CS.out wv hB).2.1; have c1 := (CS.out wv hB).2.2.1; have d0 := (CS.out wv hB).2.2.2.1; have d1 := (CS.out wv hB).2.2.2.2.1; have e0 := (CS.out wv hB).2.2.2.2.2.1; have e1 := (CS.out wv hB).2.2.2.2.2.2; go_wp2_with fail
          refine postB_val ?_ (Below.refl _ _)
          simp only [List.getElem?_cons_succ, List.getElem?_cons_zero]
          rfl
        case s15 =>
          refine BStep.of [12] [(34, 12)] (opV _) (by kernel_rfl) (fun _ _ => by kernel_rfl) rfl ?_
          intro vs wv hB hA
          have h12 : vs 12 = _ := hA.1
          clear hA
          simp only [fillP, List.setIfInBounds_toArray, List.set_cons_zero, List.set_cons_succ, h12]
          have c0 := (CS.out wv hB).2.1; have c1 := (CS.out wv hB).2.2.1; have d0 := (CS.out wv hB).2.2.2.1; have d1 := (CS.out wv hB).2.2.2.2.1; have e0 := (CS.out wv hB).2.2.2.2.2.1; have e1 := (CS.out wv hB).2.2.2.2.2.2; go_wp2_with fail
          refine postB_val ?_ (Below.refl _ _)
          simp only [List.getElem?_cons_succ, List.getElem?_cons_zero]
          rfl
        case s16 =>
          refine BStep.of [12, 15] [(34, 12), (37, 15)] (opV _) (by kernel_rfl) (fun _ _ => by kernel_rfl) rfl ?_
          intro vs wv hB hA
          have h12 : vs 12 = _ := hA.1
          have h15 : vs 15 = _ := hA.2.1
          clear hA
          simp only [fillP, List.setIfInBounds_toArray, List.set_cons_zero, List.set_cons_succ, h12, h15]
          have c0 := (CS.out wv hB).2.1; have c1 := (CS.out wv hB).2.2.1; have d0 := (CS.out wv hB).2.2.2.1; have d1 := (CS.out wv hB).2.2.2.2.1; have e0 := (CS.out wv hB).2.2.2.2.2.1; have e1 := (CS.out wv hB).2.2.2.2.2.2; go_wp2_with fail
          refine postB_val ?_ (Below.refl _ _)
          simp only [List.getElem?_cons_succ, List.getElem?_cons_zero]
          rfl
        case s17 =>
          refine BStep.of [12, 14, 16] [(34, 12), (36, 14), (38, 16)] (opV _) (by kernel_rfl) (fun _ _ => by kernel_rfl) rfl ?_
          intro vs wv hB hA
          have h12 : vs 12 = _ := hA.1
          have h14 : vs 14 = _ := hA.2.1
          have h16 : vs 16 = _ := hA.2.2.1
          clear hA
          simp only [fillP, List.setIfInBounds_toArray, List.set_cons_zero, List.set_cons_succ, h12, h14, h16]
          have c0 := (CS.out wv hB).2.1; have c1 := (CS.out wv hB).2.2.1; have d0 := (CS.out wv hB).2.2.2.1; have d1 := (CS.out wv hB).2.2.2.2.1; have e0 := (CS.out wv hB).2.2.2.2.2.1; have e1 := (CS.out wv hB).2.2.2.2.2.2; go_wp2_with fail
          refine postB_val ?_ (Below.refl _ _)
          simp only [List.getElem?_cons_succ, List.getElem?_cons_zero]
          rfl
        case s18 =>
          refine BStep.of [12, 17] [(34, 12), (39, 17)] (opV _) (by kernel_rfl) (fun _ _ => by kernel_rfl) rfl ?_
          intro vs wv hB hA
          have h12 : vs 12 = _ := hA.1
          have h17 : vs 17 = _ := hA.2.1
          clear hA
          simp only [fillP, List.setIfInBounds_toArray, List.set_cons_zero, List.set_cons_succ, h12, h17]
          have c0 := (CS.out wv hB).2.1; have c1 := (CS.out wv hB).2.2.1; have d0 := (CS.out wv hB).2.2.2.1; have d1 := (CS.out wv hB).2.2.2.2.1; have e0 := (CS.out wv hB).2.2.2.2.2.1; have e1 := (CS.out wv hB).2.2.2.2.2.2; go_wp2_with fail
          refine postB_val ?_ (Below.refl _ _)
          simp only [List.getElem?_cons_succ, List.getElem?_cons_zero]
          rfl
        case s19 =>
          refine BStep.of [18] [(40, 18)] (opV _) (by kernel_rfl) (fun _ _ => by kernel_rfl) rfl ?_
          intro vs wv hB hA
          have h18 : vs 18 = _ := hA.1
          clear hA
          simp only [fillP, List.setIfInBounds_toArray, List.set_cons_zero, List.set_cons_succ, h18]
          have c0 := (CS.out wv hB).2.1; have c1 := (CS.out wv hB).2.2.1; have d0 := (CS.out wv hB).2.2.2.1; have d1 := (CS.out wv hB).2.2.2.2.1; have e0 := (CS.out wv hB).2.2.2.2.2.1; have e1 := (CS.out wv hB).2.2.2.2.2.2; go_wp2_with fail
          refine postB_val ?_ (Below.refl _ _)
          simp only [List.getElem?_cons_succ, List.getElem?_cons_zero]
          rfl
        case s20 =>
          refine BStep.of [18, 19] [(40, 18), (41, 19)] (opV _) (by kernel_rfl) (fun _ _ => by kernel_rfl) rfl ?_
          intro vs wv hB hA
          have h18 : vs 18 = _ := hA.1
          have h19 : vs 19 = _ := hA.2.1
          clear hA
          simp only [fillP, List.setIfInBounds_toArray, List.set_cons_zero, List.set_cons_succ, h18, h19]
          have c0 := (CS.out wv hB).2.1; have c1 := (CS.out wv hB).2.2.1; have d0 := (CS.out wv hB).2.2.2.1; have d1 := (CS.out wv hB).2.2.2.2.1; have e0 := (CS.out wv hB).2.2.2.2.2.1; have e1 := (CS.out wv hB).2.2.2.2.2.2; go_wp2_with fail
          refine postB_val ?_ (Below.refl _ _)
          simp only [List.getElem?_cons_succ, List.getElem?_cons_zero]
          rfl
        case s21 =>
          refine BStep.of [18] [(40, 18)] (opV _) (by kernel_rfl) (fun _ _ => by kernel_rfl) rfl ?_
          intro vs wv hB hA
          have h18 : vs 18 = _ := hA.1
          clear hA
          simp only [fillP, List.setIfInBounds_toArray, List.set_cons_zero, List.set_cons_succ, h18]
          have c0 := (CS.out wv hB).2.1; have c1 := (CS.out wv hB).2.2.1; have d0 := (CS.out wv hB).2.2.2.1; have d1 := (CS.out wv hB).2.2.2.2.1; have e0 := (CS.out wv hB).2.2.2.2.2.1; have e1 := (CS.out wv hB).2.2.2.2.2.2; go_wp2_with fail
          refine postB_val ?_ (Below.refl _ _)
          simp only [List.getElem?_cons_succ, List.getElem?_cons_zero]
          rfl
        case s22 =>
          refine BStep.of [18, 21] [(40, 18), (43, 21)] (opV _) (by kernel_rfl) (fun _ _ => by kernel_rfl) rfl ?_
          intro vs wv hB hA
          have h18 : vs 18 = _ := hA.1
          have h21 : vs 21 = _ := hA.2.1
          clear hA
          simp only [fillP, List.setIfInBounds_toArray, List.set_cons_zero, List.set_cons_succ, h18, h21]
          have c0 := (CS.out wv hB).2.1; have c1 := (CS.out wv hB).2.2.1; have d0 := (CS.out wv hB).2.2.2.1; have d1 := (CS.out wv hB).2.2.2.2.1; have e0 := (CS.out wv hB).2.2.2.2.2.1; have e1 := (CS.out wv hB).2.2.2.2.2.2; go_wp2_with fail
          refine postB_val ?_ (Below.refl _ _)
          simp only [List.getElem?_cons_succ, List.getElem?_cons_zero]
          rfl
        case s23 =>
          refine BStep.of [18, 20, 22] [(40, 18), (42, 20), (44, 22)] (opV _) (by kernel_rfl) (fun _ _ => by kernel_rfl) rfl ?_
          intro vs wv hB hA
          have h18 : vs 18 = _ := hA.1
          have h20 : vs 20 = _ := hA.2.1
          have h22 : vs 22 = _ := hA.2.2.1
          clear hA
          simp only [fillP, List.setIfInBounds_toArray, List.set_cons_zero, List.set_cons_succ, h18, h20, h22]
          have c0 := (CS.out wv hB).2.1; have c1 := (CS.out wv hB).2.2.1; have d0 := (CS.out wv hB).2.2.2.1; have d1 := (CS.out wv hB).2.2.2.2.1; have e0 := (CS.out wv hB).2.2.2.2.2.1; have e1 := (CS.out wv hB).2.2.2.2.2.2; go_wp2_with fail
          refine postB_val ?_ (Below.refl _ _)
          simp only [List.getElem?_cons_succ, List.getElem?_cons_zero]
          rfl
        case s24 =>
          refine BStep.of [12, 18, 23] [(34, 12), (40, 18), (45, 23)] (opV _) (by kernel_rfl) (fun _ _ => by kernel_rfl) rfl ?_
          intro vs wv hB hA
          have h12 : vs 12 = _ := hA.1
          have h18 : vs 18 = _ := hA.2.1
          have h23 : vs 23 = _ := hA.2.2.1
          clear hA
          simp only [fillP, List.setIfInBounds_toArray, List.set_cons_zero, List.set_cons_succ, h12, h18, h23]
          have c0 := (CS.out wv hB).2.1; have c1 := (CS.out wv hB).2.2.1; have d0 := (CS.out wv hB).2.2.2.1; have d1 := (CS.out wv hB).2.2.2.2.1; have e0 := (CS.out wv hB).2.2.2.2.2.1; have e1 := (CS.out wv hB).2.2.2.2.2.2; go_wp2_with fail
          refine postB_val ?_ (Below.refl _ _)
          simp only [List.getElem?_cons_succ, List.getElem?_cons_zero]
          rfl
        case s25 =>
          refine BStep.of [12, 24] [(34, 12), (46, 24)] (opV _) (by kernel_rfl) (fun _ _ => by kernel_rfl) rfl ?_
          intro vs wv hB hA
          have h12 : vs 12 = _ := hA.1
          have h24 : vs 24 = _ := hA.2.1
          clear hA
          simp only [fillP, List.setIfInBounds_toArray, List.set_cons_zero, List.set_cons_succ, h12, h24]
          have c0 := (CS.out wv hB).2.1; have c1 := (CS.out wv hB).2.2.1; have d0 := (CS.out wv hB).2.2.2.1; have d1 := (CS.out wv hB).2.2.2.2.1; have e0 := (CS.out wv hB).2.2.2.2.2.1; have e1 := (CS.out wv hB).2.2.2.2.2.2; go_wp2_with fail
          refine postB_val ?_ (Below.refl _ _)
          simp only [List.getElem?_cons_succ, List.getElem?_cons_zero]
          rfl
        case s26 =>
          refine BStep.of [18, 25] [(40, 18), (47, 25)] (opV _) (by kernel_rfl) (fun _ _ => by kernel_rfl) rfl ?_
          intro vs wv hB hA
          have h18 : vs 18 = _ := hA.1
          have h25 : vs 25 = _ := hA.2.1
          clear hA
          simp only [fillP, List.setIfInBounds_toArray, List.set_cons_zero, List.set_cons_succ, h18, h25]
          have c0 := (CS.out wv hB).2.1; have c1 := (CS.out wv hB).2.2.1; have d0 := (CS.out wv hB).2.2.2.1; have d1 := (CS.out wv hB).2.2.2.2.1; have e0 := (CS.out wv hB).2.2.2.2.2.1; have e1 := (CS.out wv hB).2.2.2.2.2.2; go_wp2_with fail
          refine postB_val ?_ (Below.refl _ _)
          simp only [List.getElem?_cons_succ, List.getElem?_cons_zero]
          rfl
        case s27 =>
          refine BStep.of [26] [(48, 26)] (opV _) (by kernel_rfl) (fun _ _ => by kernel_rfl) rfl ?_
          intro vs wv hB hA
          have h26 : vs 26 = _ := hA.1
          clear hA
          simp only [fillP, List.setIfInBounds_toArray, List.set_cons_zero, List.set_cons_succ, h26]
          have c0 := (CS.out wv hB).2.1; have c1 := (CS.out wv hB).2.2.1; have d0 := (CS.out wv hB).2.2.2.1; have d1 := (CS.out wv hB).2.2.2.2.1; have e0 := (CS.out wv hB).2.2.2.2.2.1; have e1 := (CS.out wv hB).2.2.2.2.2.2; go_wp2_with fail
          refine postB_val ?_ (Below.refl _ _)
          simp only [List.getElem?_cons_succ, List.getElem?_cons_zero]
          rfl
        case s28 =>
          refine BStep.of [26, 27] [(48, 26), (49, 27)] (opV _) (by kernel_rfl) (fun _ _ => by kernel_rfl) rfl ?_
          intro vs wv hB hA
          have h26 : vs 26 = _ := hA.1
          have h27 : vs 27 = _ := hA.2.1
          clear hA
          simp only [fillP, List.setIfInBounds_toArray, List.set_cons_zero, List.set_cons_succ, h26, h27]
          have c0 := (CS.out wv hB).2.1; have c1 := (CS.out wv hB).2.2.1; have d0 := (CS.out wv hB).2.2.2.1; have d1 := (CS.out wv hB).2.2.2.2.1; have e0 := (CS.out wv hB).2.2.2.2.2.1; have e1 := (CS.out wv hB).2.2.2.2.2.2; go_wp2_with fail
          refine postB_val ?_ (Below.refl _ _)
          simp only [List.getElem?_cons_succ, List.getElem?_cons_zero]
          rfl
        case s29 =>
          refine BStep.of [26] [(48, 26)] (opV _) (by kernel_rfl) (fun _ _ => by kernel_rfl) rfl ?_
          intro vs wv hB hA
          have h26 : vs 26 = _ := hA.1
          clear hA
          simp only [fillP, List.setIfInBounds_toArray, List.set_cons_zero, List.set_cons_succ, h26]
          have c0 := (CS.out wv hB).2.1; have c1 := (CS.out wv hB).2.2.1; have d0 := (CS.out wv hB).2.2.2.1; have d1 := (CS.out wv hB).2.2.2.2.1; have e0 := (CS.out wv hB).2.2.2.2.2.1; have e1 := (CS.out wv hB).2.2.2.2.2.2; go_wp2_with fail
          refine postB_val ?_ (Below.refl _ _)
          simp only [List.getElem?_cons_succ, List.getElem?_cons_zero]
          rfl
        case s30 =>
          refine BStep.of [26, 29] [(48, 26), (51, 29)] (opV _) (by kernel_rfl) (fun _ _ => by kernel_rfl) rfl ?_
          intro vs wv hB hA
          have h26 : vs 26 = _ := hA.1
          have h29 : vs 29 = _ := hA.2.1
          clear hA
          simp only [fillP, List.setIfInBounds_toArray, List.set_cons_zero, List.set_cons_succ, h26, h29]
          have c0 := (CS.out wv hB).2.1; have c1 := (CS.out wv hB).2.2.1; have d0 := (CS.out wv hB).2.2.2.1; have d1 := (CS.out wv hB).2.2.2.2.1; have e0 := (CS.out wv hB).2.2.2.2.2.1; have e1 := (CS.out wv hB).2.2.2.2.2.2; go_wp2_with fail
          refine postB_val ?_ (Below.refl _ _)
          simp only [List.getElem?_cons_succ, List.getElem?_cons_zero]
          rfl
        case s31 =>
          refine BStep.of [26, 28, 30] [(48, 26), (50, 28), (52, 30)] (opV _) (by kernel_rfl) (fun _ _ => by kernel_rfl) rfl ?_
          intro vs wv hB hA
          have h26 : vs 26 = _ := hA.1
          have h28 : vs 28 = _ := hA.2.1
          have h30 : vs 30 = _ := hA.2.2.1
          clear hA
          simp only [fillP, List.setIfInBounds_toArray, List.set_cons_zero, List.set_cons_succ, h26, h28, h30]
          have c0 := (CS.out wv hB).2.1; have c1 := (CS.out wv hB).2.2.1; have d0 := (CS.out wv hB).2.2.2.1; have d1 := (CS.out wv hB).2.2.2.2.1; have e0 := (CS.out wv hB).2.2.2.2.2.1; have e1 := (CS.out wv hB).2.2.2.2.2.2; go_wp2_with fail
          refine postB_val ?_ (Below.refl _ _)
          simp only [List.getElem?_cons_succ, List.getElem?_cons_zero]
          rfl
        case s32 =>
          refine BStep.of [26, 31] [(48, 26), (53, 31)] (opV _) (by kernel_rfl) (fun _ _ => by kernel_rfl) rfl ?_
          intro vs wv hB hA
          have h26 : vs 26 = _ := hA.1
          have h31 : vs 31 = _ := hA.2.1
          clear hA
          simp only [fillP, List.setIfInBounds_toArray, List.set_cons_zero, List.set_cons_succ, h26, h31]
          have c0 := (CS.out wv hB).2.1; have c1 := (CS.out wv hB).2.2.1; have d0 := (CS.out wv hB).2.2.2.1; have d1 := (CS.out wv hB).2.2.2.2.1; have e0 := (CS.out wv hB).2.2.2.2.2.1; have e1 := (CS.out wv hB).2.2.2.2.2.2; go_wp2_with fail
          refine postB_val ?_ (Below.refl _ _)
          simp only [List.getElem?_cons_succ, List.getElem?_cons_zero]
          rfl
        case s33 =>
          refine BStep.of [32] [(54, 32)] (opV _) (by kernel_rfl) (fun _ _ => by kernel_rfl) rfl ?_
          intro vs wv hB hA
          have h32 : vs 32 = _ := hA.1
          clear hA
          simp only [fillP, List.setIfInBounds_toArray, List.set_cons_zero, List.set_cons_succ, h32]
          have c0 := (CS.out wv hB).2.1; have c1 := (CS.out wv hB).2.2.1; have d0 := (CS.out wv hB).2.2.2.1; have d1 := (CS.out wv hB).2.2.2.2.1; have e0 := (CS.out wv hB).2.2.2.2.2.1; have e1 := (CS.out wv hB).2.2.2.2.2.2; go_wp2_with fail
          refine postB_val ?_ (Below.refl _ _)
          simp only [List.getElem?_cons_succ, List.getElem?_cons_zero]
          rfl
        case s34 =>
          refine BStep.of [32, 33] [(54, 32), (55, 33)] (opV _) (by kernel_rfl) (fun _ _ => by kernel_rfl) rfl ?_
          intro vs wv hB hA
          have h32 : vs 32 = _ := hA.1
          have h33 : vs 33 = _ := hA.2.1
          clear hA
          simp only [fillP, List.setIfInBounds_toArray, List.set_cons_zero, List.set_cons_succ, h32, h33]
          have c0 := (CS.out wv hB).2.1; have c1 := (CS.out wv hB).2.2.1; have d0 := (CS.out wv hB).2.2.2.1; have d1 := (CS.out wv hB).2.2.2.2.1; have e0 := (CS.out wv hB).2.2.2.2.2.1; have e1 := (CS.out wv hB).2.2.2.2.2.2; go_wp2_with fail
          refine postB_val ?_ (Below.refl _ _)
          simp only [List.getElem?_cons_succ, List.getElem?_cons_zero]
          rfl
        case s35 =>
          refine BStep.of [32] [(54, 32)] (opV _) (by kernel_rfl) (fun _ _ => by kernel_rfl) rfl ?_
          intro vs wv hB hA
          have h32 : vs 32 = _ := hA.1
          clear hA
          simp only [fillP, List.setIfInBounds_toArray, List.set_cons_zero, List.set_cons_succ, h32]
          have c0 := (CS.out wv hB).2.1; have c1 := (CS.out wv hB).2.2.1; have d0 := (CS.out wv hB).2.2.2.1; have d1 := (CS.out wv hB).2.2.2.2.1; have e0 := (CS.out wv hB).2.2.2.2.2.1; have e1 := (CS.out wv hB).2.2.2.2.2.2; go_wp2_with fail
          refine postB_val ?_ (Below.refl _ _)
          simp only [List.getElem?_cons_succ, List.getElem?_cons_zero]
          rfl
        case s36 =>
          refine BStep.of [32, 35] [(54, 32), (57, 35)] (opV _) (by kernel_rfl) (fun _ _ => by kernel_rfl) rfl ?_
          intro vs wv hB hA
          have h32 : vs 32 = _ := hA.1
          have h35 : vs 35 = _ := hA.2.1
          clear hA
          simp only [fillP, List.setIfInBounds_toArray, List.set_cons_zero, List.set_cons_succ, h32, h35]
          have c0 := (CS.out wv hB).2.1; have c1 := (CS.out wv hB).2.2.1; have d0 := (CS.out wv hB).2.2.2.1; have d1 := (CS.out wv hB).2.2.2.2.1; have e0 := (CS.out wv hB).2.2.2.2.2.1; have e1 := (CS.out wv hB).2.2.2.2.2.2; go_wp2_with fail
          refine postB_val ?_ (Below.refl _ _)
          simp only [List.getElem?_cons_succ, List.getElem?_cons_zero]
          rfl
        case s37 =>
          refine BStep.of [32, 34, 36] [(54, 32), (56, 34), (58, 36)] (opV _) (by kernel_rfl) (fun _ _ => by kernel_rfl) rfl ?_
          intro vs wv hB hA
          have h32 : vs 32 = _ := hA.1
          have h34 : vs 34 = _ := hA.2.1
          have h36 : vs 36 = _ := hA.2.2.1
          clear hA
          simp only [fillP, List.setIfInBounds_toArray, List.set_cons_zero, List.set_cons_succ, h32, h34, h36]
          have c0 := (CS.out wv hB).2.1; have c1 := (CS.out wv hB).2.2.1; have d0 := (CS.out wv hB).2.2.2.1; have d1 := (CS.out wv hB).2.2.2.2.1; have e0 := (CS.out wv hB).2.2.2.2.2.1; have e1 := (CS.out wv hB).2.2.2.2.2.2; go_wp2_with fail
          refine postB_val ?_ (Below.refl _ _)
          simp only [List.getElem?_cons_succ, List.getElem?_cons_zero]
          rfl
        case s38 =>
          refine BStep.of [26, 32, 37] [(48, 26), (54, 32), (59, 37)] (opV _) (by kernel_rfl) (fun _ _ => by kernel_rfl) rfl ?_
          intro vs wv hB hA
          have h26 : vs 26 = _ := hA.1
          have h32 : vs 32 = _ := hA.2.1
          have h37 : vs 37 = _ := hA.2.2.1
          clear hA
          simp only [fillP, List.setIfInBounds_toArray, List.set_cons_zero, List.set_cons_succ, h26, h32, h37]
          have c0 := (CS.out wv hB).2.1; have c1 := (CS.out wv hB).2.2.1; have d0 := (CS.out wv hB).2.2.2.1; have d1 := (CS.out wv hB).2.2.2.2.1; have e0 := (CS.out wv hB).2.2.2.2.2.1; have e1 := (CS.out wv hB).2.2.2.2.2.2; go_wp2_with fail
          refine postB_val ?_ (Below.refl _ _)
          simp only [List.getElem?_cons_succ, List.getElem?_cons_zero]
          rfl
        case s39 =>
          refine BStep.of [26, 38] [(48, 26), (60, 38)] (opV _) (by kernel_rfl) (fun _ _ => by kernel_rfl) rfl ?_
          intro vs wv hB hA
          have h26 : vs 26 = _ := hA.1
          have h38 : vs 38 = _ := hA.2.1
          clear hA
          simp only [fillP, List.setIfInBounds_toArray, List.set_cons_zero, List.set_cons_succ, h26, h38]
          have c0 := (CS.out wv hB).2.1; have c1 := (CS.out wv hB).2.2.1; have d0 := (CS.out wv hB).2.2.2.1; have d1 := (CS.out wv hB).2.2.2.2.1; have e0 := (CS.out wv hB).2.2.2.2.2.1; have e1 := (CS.out wv hB).2.2.2.2.2.2; go_wp2_with fail
          refine postB_val ?_ (Below.refl _ _)
          simp only [List.getElem?_cons_succ, List.getElem?_cons_zero]
          rfl
        case s40 =>
          refine BStep.of [32, 39] [(54, 32), (61, 39)] (opV _) (by kernel_rfl) (fun _ _ => by kernel_rfl) rfl ?_
          intro vs wv hB hA
          have h32 : vs 32 = _ := hA.1
          have h39 : vs 39 = _ := hA.2.1
          clear hA
          simp only [fillP, List.setIfInBounds_toArray, List.set_cons_zero, List.set_cons_succ, h32, h39]
          have c0 := (CS.out wv hB).2.1; have c1 := (CS.out wv hB).2.2.1; have d0 := (CS.out wv hB).2.2.2.1; have d1 := (CS.out wv hB).2.2.2.2.1; have e0 := (CS.out wv hB).2.2.2.2.2.1; have e1 := (CS.out wv hB).2.2.2.2.2.2; go_wp2_with fail
          refine postB_val ?_ (Below.refl _ _)
          simp only [List.getElem?_cons_succ, List.getElem?_cons_zero]
          rfl
        case s41 =>
          refine BStep.of [40] [(62, 40)] (opV _) (by kernel_rfl) (fun _ _ => by kernel_rfl) rfl ?_
          intro vs wv hB hA
          have h40 : vs 40 = _ := hA.1
          clear hA
          simp only [fillP, List.setIfInBounds_toArray, List.set_cons_zero, List.set_cons_succ, h40]
          have c0 := (CS.out wv hB).2.1; have c1 := (CS.out wv hB).2.2.1; have d0 := (CS.out wv hB).2.2.2.1; have d1 := (CS.out wv hB).2.2.2.2.1; have e0 := (CS.out wv hB).2.2.2.2.2.1; have e1 := (CS.out wv hB).2.2.2.2.2.2; go_wp2_with fail
          refine postB_val ?_ (Below.refl _ _)
          simp only [List.getElem?_cons_succ, List.getElem?_cons_zero]
          rfl
        case s42 =>
          refine BStep.of [40] [(62, 40)] (opV _) (by kernel_rfl) (fun _ _ => by kernel_rfl) rfl ?_
          intro vs wv hB hA
          have h40 : vs 40 = _ := hA.1
          clear hA
          simp only [fillP, List.setIfInBounds_toArray, List.set_cons_zero, List.set_cons_succ, h40]
          have c0 := (CS.out wv hB).2.1; have c1 := (CS.out wv hB).2.2.1; have d0 := (CS.out wv hB).2.2.2.1; have d1 := (CS.out wv hB).2.2.2.2.1; have e0 := (CS.out wv hB).2.2.2.2.2.1; have e1 := (CS.out wv hB).2.2.2.2.2.2; go_wp2_with fail
          refine postB_val ?_ (Below.refl _ _)
          simp only [List.getElem?_cons_succ, List.getElem?_cons_zero]
          rfl
        case s43 =>
          refine BStep.of [40] [(62, 40)] (opV _) (by kernel_rfl) (fun _ _ => by kernel_rfl) rfl ?_
          intro vs wv hB hA
          have h40 : vs 40 = _ := hA.1
          clear hA
          simp only [fillP, List.setIfInBounds_toArray, List.set_cons_zero, List.set_cons_succ, h40]
          have c0 := (CS.out wv hB).2.1; have c1 := (CS.out wv hB).2.2.1; have d0 := (CS.out wv hB).2.2.2.1; have d1 := (CS.out wv hB).2.2.2.2.1; have e0 := (CS.out wv hB).2.2.2.2.2.1; have e1 := (CS.out wv hB).2.2.2.2.2.2; go_wp2_with fail
          refine postB_val ?_ (Below.refl _ _)
          simp only [List.getElem?_cons_succ, List.getElem?_cons_zero]
          rfl
        case s44 =>
          refine BStep.of [40, 42, 43] [(62, 40), (64, 42), (65, 43)] (opM [(b1, b2), (a1, a2)]) (by kernel_rfl) (fun _ _ => by kernel_rfl) rfl ?_
          intro vs wv hB hA
          have h40 : vs 40 = _ := hA.1
          have h42 : vs 42 = _ := hA.2.1
          have h43 : vs 43 = _ := hA.2.2.1
          clear hA
          simp only [fillP, List.setIfInBounds_toArray, List.set_cons_zero, List.set_cons_succ, h40, h42, h43]
          go_wp2_with fail; exact postB_R rfl (new_two wv (b1, b2) (a1, a2)) ((Below.refl _ _).alloc (Nat.le_refl _) _)
        case s45 =>
          refine BStep.of [40, 44] [(62, 40), (66, 44)] (opV (.agg #[.int .i64 a1, .int .i64 b2])) (by kernel_rfl) (fun _ _ => by kernel_rfl) rfl ?_
          intro vs wv hB hA
          have h40 : vs 40 = _ := hA.1
          have h44 : MgIn wv (vs 44) [(b1, b2), (a1, a2)] := hA.2.1
          clear hA
          simp only [fillP, List.setIfInBounds_toArray, List.set_cons_zero, List.set_cons_succ, h40]
          (go_wp2_with (go_at_call 8; (with_reducible refine (KJ2.out _ _ h44).mono ?_); rintro e w7 ⟨rfl, hb⟩)); exact postB_val rfl hb
        case s46 =>
          refine BStep.of [40, 41, 45] [(62, 40), (63, 41), (67, 45)] (opV _) (by kernel_rfl) (fun _ _ => by kernel_rfl) rfl ?_
          intro vs wv hB hA
          have h40 : vs 40 = _ := hA.1
          have h41 : vs 41 = _ := hA.2.1
          have h45 : vs 45 = _ := hA.2.2.1
          clear hA
          simp only [fillP, List.setIfInBounds_toArray, List.set_cons_zero, List.set_cons_succ, h40, h41, h45]
          have c0 := (CS.out wv hB).2.1; have c1 := (CS.out wv hB).2.2.1; have d0 := (CS.out wv hB).2.2.2.1; have d1 := (CS.out wv hB).2.2.2.2.1; have e0 := (CS.out wv hB).2.2.2.2.2.1; have e1 := (CS.out wv hB).2.2.2.2.2.2; go_wp2_with fail
          refine postB_val ?_ (Below.refl _ _)
          simp only [List.getElem?_cons_succ, List.getElem?_cons_zero]
          rfl
        case s47 =>
          refine BStep.of [40, 46] [(62, 40), (68, 46)] (opV _) (by kernel_rfl) (fun _ _ => by kernel_rfl) rfl ?_
          intro vs wv hB hA
          have h40 : vs 40 = _ := hA.1
          have h46 : vs 46 = _ := hA.2.1
          clear hA
          simp only [fillP, List.setIfInBounds_toArray, List.set_cons_zero, List.set_cons_succ, h40, h46]
          have c0 := (CS.out wv hB).2.1; have c1 := (CS.out wv hB).2.2.1; have d0 := (CS.out wv hB).2.2.2.1; have d1 := (CS.out wv hB).2.2.2.2.1; have e0 := (CS.out wv hB).2.2.2.2.2.1; have e1 := (CS.out wv hB).2.2.2.2.2.2; go_wp2_with fail
          refine postB_val ?_ (Below.refl _ _)
          simp only [List.getElem?_cons_succ, List.getElem?_cons_zero]
          rfl
        case fin =>
          refine fin_of [0, 1, 2, 3, 4, 5, 6, 7, 8, 9, 10, 11, 12, 13, 14, 15, 16, 17, 18, 19, 20, 21, 22, 23, 24, 25, 26, 27, 28, 29, 30, 31, 32, 33, 34, 35, 36, 37, 38, 39, 40, 41, 42, 43, 44, 45, 46, 47] [(22, 0), (23, 1), (24, 2), (25, 3), (26, 4), (27, 5), (28, 6), (29, 7), (30, 8), (31, 9), (32, 10), (33, 11), (34, 12), (35, 13), (36, 14), (37, 15), (38, 16), (39, 17), (40, 18), (41, 19), (42, 20), (43, 21), (44, 22), (45, 23), (46, 24), (47, 25), (48, 26), (49, 27), (50, 28), (51, 29), (52, 30), (53, 31), (54, 32), (55, 33), (56, 34), (57, 35), (58, 36), (59, 37), (60, 38), (61, 39), (62, 40), (63, 41), (64, 42), (65, 43), (66, 44), (67, 45), (68, 46), (69, 47)] (by kernel_rfl) (fun _ _ => by kernel_rfl) ?_
          intro vs wv hB hA
          have h0 : vs 0 = _ := hA.1
          have h1 : vs 1 = _ := hA.2.1
          have h2 : vs 2 = _ := hA.2.2.1
          have h3 : vs 3 = _ := hA.2.2.2.1
          have h4 : vs 4 = _ := hA.2.2.2.2.1
          have h5 : vs 5 = _ := hA.2.2.2.2.2.1
          have h6 : vs 6 = _ := hA.2.2.2.2.2.2.1
          have h7 : vs 7 = _ := hA.2.2.2.2.2.2.2.1
          have h8 : vs 8 = _ := hA.2.2.2.2.2.2.2.2.1
          have h9 : vs 9 = _ := hA.2.2.2.2.2.2.2.2.2.1
          have h10 : vs 10 = _ := hA.2.2.2.2.2.2.2.2.2.2.1
          have h11 : vs 11 = _ := hA.2.2.2.2.2.2.2.2.2.2.2.1
          have h12 : vs 12 = _ := hA.2.2.2.2.2.2.2.2.2.2.2.2.1
          have h13 : vs 13 = _ := hA.2.2.2.2.2.2.2.2.2.2.2.2.2.1
          have h14 : vs 14 = _ := hA.2.2.2.2.2.2.2.2.2.2.2.2.2.2.1
          have h15 : vs 15 = _ := hA.2.2.2.2.2.2.2.2.2.2.2.2.2.2.2.1
          have h16 : vs 16 = _ := hA.2.2.2.2.2.2.2.2.2.2.2.2.2.2.2.2.1
          have h17 : vs 17 = _ := hA.2.2.2.2.2.2.2.2.2.2.2.2.2.2.2.2.2.1
          have h18 : vs 18 = _ := hA.2.2.2.2.2.2.2.2.2.2.2.2.2.2.2.2.2.2.1
          have h19 : vs 19 = _ := hA.2.2.2.2.2.2.2.2.2.2.2.2.2.2.2.2.2.2.2.1
          have h20 : vs 20 = _ := hA.2.2.2.2.2.2.2.2.2.2.2.2.2.2.2.2.2.2.2.2.1
          have h21 : vs 21 = _ := hA.2.2.2.2.2.2.2.2.2.2.2.2.2.2.2.2.2.2.2.2.2.1
          have h22 : vs 22 = _ := hA.2.2.2.2.2.2.2.2.2.2.2.2.2.2.2.2.2.2.2.2.2.2.1
          have h23 : vs 23 = _ := hA.2.2.2.2.2.2.2.2.2.2.2.2.2.2.2.2.2.2.2.2.2.2.2.1
          have h24 : vs 24 = _ := hA.2.2.2.2.2.2.2.2.2.2.2.2.2.2.2.2.2.2.2.2.2.2.2.2.1
          have h25 : vs 25 = _ := hA.2.2.2.2.2.2.2.2.2.2.2.2.2.2.2.2.2.2.2.2.2.2.2.2.2.1
          have h26 : vs 26 = _ := hA.2.2.2.2.2.2.2.2.2.2.2.2.2.2.2.2.2.2.2.2.2.2.2.2.2.2.1
          have h27 : vs 27 = _ := hA.2.2.2.2.2.2.2.2.2.2.2.2.2.2.2.2.2.2.2.2.2.2.2.2.2.2.2.1
          have h28 : vs 28 = _ := hA.2.2.2.2.2.2.2.2.2.2.2.2.2.2.2.2.2.2.2.2.2.2.2.2.2.2.2.2.1
          have h29 : vs 29 = _ := hA.2.2.2.2.2.2.2.2.2.2.2.2.2.2.2.2.2.2.2.2.2.2.2.2.2.2.2.2.2.1
          have h30 : vs 30 = _ := hA.2.2.2.2.2.2.2.2.2.2.2.2.2.2.2.2.2.2.2.2.2.2.2.2.2.2.2.2.2.2.1
          have h31 : vs 31 = _ := hA.2.2.2.2.2.2.2.2.2.2.2.2.2.2.2.2.2.2.2.2.2.2.2.2.2.2.2.2.2.2.2.1
          have h32 : vs 32 = _ := hA.2.2.2.2.2.2.2.2.2.2.2.2.2.2.2.2.2.2.2.2.2.2.2.2.2.2.2.2.2.2.2.2.1
          have h33 : vs 33 = _ := hA.2.2.2.2.2.2.2.2.2.2.2.2.2.2.2.2.2.2.2.2.2.2.2.2.2.2.2.2.2.2.2.2.2.1
          have h34 : vs 34 = _ := hA.2.2.2.2.2.2.2.2.2.2.2.2.2.2.2.2.2.2.2.2.2.2.2.2.2.2.2.2.2.2.2.2.2.2.1
          have h35 : vs 35 = _ := hA.2.2.2.2.2.2.2.2.2.2.2.2.2.2.2.2.2.2.2.2.2.2.2.2.2.2.2.2.2.2.2.2.2.2.2.1
          have h36 : vs 36 = _ := hA.2.2.2.2.2.2.2.2.2.2.2.2.2.2.2.2.2.2.2.2.2.2.2.2.2.2.2.2.2.2.2.2.2.2.2.2.1
          have h37 : vs 37 = _ := hA.2.2.2.2.2.2.2.2.2.2.2.2.2.2.2.2.2.2.2.2.2.2.2.2.2.2.2.2.2.2.2.2.2.2.2.2.2.1
          have h38 : vs 38 = _ := hA.2.2.2.2.2.2.2.2.2.2.2.2.2.2.2.2.2.2.2.2.2.2.2.2.2.2.2.2.2.2.2.2.2.2.2.2.2.2.1
          have h39 : vs 39 = _ := hA.2.2.2.2.2.2.2.2.2.2.2.2.2.2.2.2.2.2.2.2.2.2.2.2.2.2.2.2.2.2.2.2.2.2.2.2.2.2.2.1
          have h40 : vs 40 = _ := hA.2.2.2.2.2.2.2.2.2.2.2.2.2.2.2.2.2.2.2.2.2.2.2.2.2.2.2.2.2.2.2.2.2.2.2.2.2.2.2.2.1
          have h41 : vs 41 = _ := hA.2.2.2.2.2.2.2.2.2.2.2.2.2.2.2.2.2.2.2.2.2.2.2.2.2.2.2.2.2.2.2.2.2.2.2.2.2.2.2.2.2.1
          have h42 : vs 42 = _ := hA.2.2.2.2.2.2.2.2.2.2.2.2.2.2.2.2.2.2.2.2.2.2.2.2.2.2.2.2.2.2.2.2.2.2.2.2.2.2.2.2.2.2.1
          have h43 : vs 43 = _ := hA.2.2.2.2.2.2.2.2.2.2.2.2.2.2.2.2.2.2.2.2.2.2.2.2.2.2.2.2.2.2.2.2.2.2.2.2.2.2.2.2.2.2.2.1
          have h44 : MgIn wv (vs 44) [(b1, b2), (a1, a2)] := hA.2.2.2.2.2.2.2.2.2.2.2.2.2.2.2.2.2.2.2.2.2.2.2.2.2.2.2.2.2.2.2.2.2.2.2.2.2.2.2.2.2.2.2.2.1
          have h45 : vs 45 = _ := hA.2.2.2.2.2.2.2.2.2.2.2.2.2.2.2.2.2.2.2.2.2.2.2.2.2.2.2.2.2.2.2.2.2.2.2.2.2.2.2.2.2.2.2.2.2.1
          have h46 : vs 46 = _ := hA.2.2.2.2.2.2.2.2.2.2.2.2.2.2.2.2.2.2.2.2.2.2.2.2.2.2.2.2.2.2.2.2.2.2.2.2.2.2.2.2.2.2.2.2.2.2.1
          have h47 : vs 47 = _ := hA.2.2.2.2.2.2.2.2.2.2.2.2.2.2.2.2.2.2.2.2.2.2.2.2.2.2.2.2.2.2.2.2.2.2.2.2.2.2.2.2.2.2.2.2.2.2.2.1
          clear hA
          simp only [fillP, List.setIfInBounds_toArray, List.set_cons_zero, List.set_cons_succ, h0, h1, h2, h3, h4, h5, h6, h7, h8, h9, h10, h11, h12, h13, h14, h15, h16, h17, h18, h19, h20, h21, h22, h23, h24, h25, h26, h27, h28, h29, h30, h31, h32, h33, h34, h35, h36, h37, h38, h39, h40, h41, h42, h43, h45, h46, h47]
          go_wp2_with fail; go_meet; exact ⟨by first|rfl | simp, Lib.hid hB⟩
      · skip
        rw [if_neg h1] at hp
        subst hp
        rw [if_neg h2] at hq
        subst hq
        clear h1 h2
        go_wp2_with fail
        refine' wp_region_below [opV _, opV _, opV _, opV _, opV _, opV _, opV _, opV _, opV _, opV _, opV _, opV _, opV _, opV _, opV _, opV _, opV _, opV _, opV _, opV _, opV _, opV _, opV _, opV _, opV _, opV _, opV _, opV _, opV _, opV _, opV _, opV _, opV _, opV _, opV _, opV _, opV _, opV _, opV _, opV _, opV _, opV _, opV _, opV _, opM [(b1, b2), (a1, a2)], opV (.agg #[.int .i64 a1, .int .i64 a2]), opV _, opV _] rfl (by kernel_rfl) ⟨?s0, ?s1, ?s2, ?s3, ?s4, ?s5, ?s6, ?s7, ?s8, ?s9, ?s10, ?s11, ?s12, ?s13, ?s14, ?s15, ?s16, ?s17, ?s18, ?s19, ?s20, ?s21, ?s22, ?s23, ?s24, ?s25, ?s26, ?s27, ?s28, ?s29, ?s30, ?s31, ?s32, ?s33, ?s34, ?s35, ?s36, ?s37, ?s38, ?s39, ?s40, ?s41, ?s42, ?s43, ?s44, ?s45, ?s46, ?s47, trivial⟩ ?fin
        case s0 =>
          refine BStep.of [] [] (opV _) (by kernel_rfl) (fun _ _ => by kernel_rfl) rfl ?_
          intro vs wv hB hA
          clear hA
          simp only [fillP]
          have c0 := (CS.out wv hB).2.1; have c1 := (CS.out wv hB).2.2.1; have d0 := (CS.out wv hB).2.2.2.1; have d1 := (CS.out wv hB).2.2.2.2.1; have e0 := (CS.out wv hB).2.2.2.2.2.1; have e1 := (CS.out wv hB).2.2.2.2.2.2; go_wp2_with fail
          refine postB_val ?_ (Below.refl _ _)
          simp only [List.getElem?_cons_succ, List.getElem?_cons_zero]
          rfl
        case s1 =>
          refine BStep.of [0] [(22, 0)] (opV _) (by kernel_rfl) (fun _ _ => by kernel_rfl) rfl ?_
          intro vs wv hB hA
          have h0 : vs 0 = _ := hA.1
          clear hA
          simp only [fillP, List.setIfInBounds_toArray, List.set_cons_zero, List.set_cons_succ, h0]
          have c0 := (CS.out wv hB).2.1; have c1 := (CS.out wv hB).2.2.1; have d0 := (CS.out wv hB).2.2.2.1; have d1 := (CS.out wv hB).2.2.2.2.1; have e0 := (CS.out wv hB).2.2.2.2.2.1; have e1 := (CS.out wv hB).2.2.2.2.2.2; go_wp2_with fail
          refine postB_val ?_ (Below.refl _ _)
          simp only [List.getElem?_cons_succ, List.getElem?_cons_zero]
          rfl
        case s2 =>
          refine BStep.of [] [] (opV _) (by kernel_rfl) (fun _ _ => by kernel_rfl) rfl ?_
          intro vs wv hB hA
          clear hA
          simp only [fillP]
          have c0 := (CS.out wv hB).2.1; have c1 := (CS.out wv hB).2.2.1; have d0 := (CS.out wv hB).2.2.2.1; have d1 := (CS.out wv hB).2.2.2.2.1; have e0 := (CS.out wv hB).2.2.2.2.2.1; have e1 := (CS.out wv hB).2.2.2.2.2.2; go_wp2_with fail
          refine postB_val ?_ (Below.refl _ _)
          simp only [List.getElem?_cons_succ, List.getElem?_cons_zero]
          rfl
        case s3 =>
          refine BStep.of [2] [(24, 2)] (opV _) (by kernel_rfl) (fun _ _ => by kernel_rfl) rfl ?_
          intro vs wv hB hA
          have h2 : vs 2 = _ := hA.1
          clear hA
          simp only [fillP, List.setIfInBounds_toArray, List.set_cons_zero, List.set_cons_succ, h2]
          have c0 := (CS.out wv hB).2.1; have c1 := (CS.out wv hB).2.2.1; have d0 := (CS.out wv hB).2.2.2.1; have d1 := (CS.out wv hB).2.2.2.2.1; have e0 := (CS.out wv hB).2.2.2.2.2.1; have e1 := (CS.out wv hB).2.2.2.2.2.2; go_wp2_with fail
          refine postB_val ?_ (Below.refl _ _)
          simp only [List.getElem?_cons_succ, List.getElem?_cons_zero]
          rfl
        case s4 =>
          refine BStep.of [1, 3] [(23, 1), (25, 3)] (opV _) (by kernel_rfl) (fun _ _ => by kernel_rfl) rfl ?_
          intro vs wv hB hA
          have h1 : vs 1 = _ := hA.1
          have h3 : vs 3 = _ := hA.2.1
          clear hA
          simp only [fillP, List.setIfInBounds_toArray, List.set_cons_zero, List.set_cons_succ, h1, h3]
          have c0 := (CS.out wv hB).2.1; have c1 := (CS.out wv hB).2.2.1; have d0 := (CS.out wv hB).2.2.2.1; have d1 := (CS.out wv hB).2.2.2.2.1; have e0 := (CS.out wv hB).2.2.2.2.2.1; have e1 := (CS.out wv hB).2.2.2.2.2.2; go_wp2_with fail
          refine postB_val ?_ (Below.refl _ _)
          simp only [List.getElem?_cons_succ, List.getElem?_cons_zero]
          rfl
        case s5 =>
          refine BStep.of [4] [(26, 4)] (opV _) (by kernel_rfl) (fun _ _ => by kernel_rfl) rfl ?_
          intro vs wv hB hA
          have h4 : vs 4 = _ := hA.1
          clear hA
          simp only [fillP, List.setIfInBounds_toArray, List.set_cons_zero, List.set_cons_succ, h4]
          have c0 := (CS.out wv hB).2.1; have c1 := (CS.out wv hB).2.2.1; have d0 := (CS.out wv hB).2.2.2.1; have d1 := (CS.out wv hB).2.2.2.2.1; have e0 := (CS.out wv hB).2.2.2.2.2.1; have e1 := (CS.out wv hB).2.2.2.2.2.2; go_wp2_with fail
          refine postB_val ?_ (Below.refl _ _)
          simp only [List.getElem?_cons_succ, List.getElem?_cons_zero]
          rfl
        case s6 =>
          refine BStep.of [5] [(27, 5)] (opV _) (by kernel_rfl) (fun _ _ => by kernel_rfl) rfl ?_
          intro vs wv hB hA
          have h5 : vs 5 = _ := hA.1
          clear hA
          simp only [fillP, List.setIfInBounds_toArray, List.set_cons_zero, List.set_cons_succ, h5]
          have c0 := (CS.out wv hB).2.1; have c1 := (CS.out wv hB).2.2.1; have d0 := (CS.out wv hB).2.2.2.1; have d1 := (CS.out wv hB).2.2.2.2.1; have e0 := (CS.out wv hB).2.2.2.2.2.1; have e1 := (CS.out wv hB).2.2.2.2.2.2; go_wp2_with fail
          refine postB_val ?_ (Below.refl _ _)
          simp only [List.getElem?_cons_succ, List.getElem?_cons_zero]
          rfl
        case s7 =>
          refine BStep.of [5, 6] [(27, 5), (28, 6)] (opV _) (by kernel_rfl) (fun _ _ => by kernel_rfl) rfl ?_
          intro vs wv hB hA
          have h5 : vs 5 = _ := hA.1
          have h6 : vs 6 = _ := hA.2.1
          clear hA
          simp only [fillP, List.setIfInBounds_toArray, List.set_cons_zero, List.set_cons_succ, h5, h6]
          have c0 := (CS.out wv hB).2.1; have c1 := (CS.out wv hB).2.2.1; have d0 := (CS.out wv hB).2.2.2.1; have d1 := (CS.out wv hB).2.2.2.2.1; have e0 := (CS.out wv hB).2.2.2.2.2.1; have e1 := (CS.out wv hB).2.2.2.2.2.2; go_wp2_with fail
          refine postB_val ?_ (Below.refl _ _)
          simp only [List.getElem?_cons_succ, List.getElem?_cons_zero]
          rfl
        case s8 =>
          refine BStep.of [5] [(27, 5)] (opV _) (by kernel_rfl) (fun _ _ => by kernel_rfl) rfl ?_
          intro vs wv hB hA
          have h5 : vs 5 = _ := hA.1
          clear hA
          simp only [fillP, List.setIfInBounds_toArray, List.set_cons_zero, List.set_cons_succ, h5]
          have c0 := (CS.out wv hB).2.1; have c1 := (CS.out wv hB).2.2.1; have d0 := (CS.out wv hB).2.2.2.1; have d1 := (CS.out wv hB).2.2.2.2.1; have e0 := (CS.out wv hB).2.2.2.2.2.1; have e1 := (CS.out wv hB).2.2.2.2.2.2; go_wp2_with fail
          refine postB_val ?_ (Below.refl _ _)
          simp only [List.getElem?_cons_succ, List.getElem?_cons_zero]
          rfl
        case s9 =>
          refine BStep.of [5, 8] [(27, 5), (30, 8)] (opV _) (by kernel_rfl) (fun _ _ => by kernel_rfl) rfl ?_
          intro vs wv hB hA
          have h5 : vs 5 = _ := hA.1
          have h8 : vs 8 = _ := hA.2.1
          clear hA
          simp only [fillP, List.setIfInBounds_toArray, List.set_cons_zero, List.set_cons_succ, h5, h8]
          have c0 := (CS.out wv hB).2.1; have c1 := (CS.out wv hB).2.2.1; have d0 := (CS.out wv hB).2.2.2.1; have d1 := (CS.out wv hB).2.2.2.2.1; have e0 := (CS.out wv hB).2.2.2.2.2.1; have e1 := (CS.out wv hB).2.2.2.2.2.2; go_wp2_with fail
          refine postB_val ?_ (Below.refl _ _)
          simp only [List.getElem?_cons_succ, List.getElem?_cons_zero]
          rfl
        case s10 =>
          refine BStep.of [5, 7, 9] [(27, 5), (29, 7), (31, 9)] (opV _) (by kernel_rfl) (fun _ _ => by kernel_rfl) rfl ?_
          intro vs wv hB hA
          have h5 : vs 5 = _ := hA.1
          have h7 : vs 7 = _ := hA.2.1
          have h9 : vs 9 = _ := hA.2.2.1
          clear hA
          simp only [fillP, List.setIfInBounds_toArray, List.set_cons_zero, List.set_cons_succ, h5, h7, h9]
          have c0 := (CS.out wv hB).2.1; have c1 := (CS.out wv hB).2.2.1; have d0 := (CS.out wv hB).2.2.2.1; have d1 := (CS.out wv hB).2.2.2.2.1; have e0 := (CS.out wv hB).2.2.2.2.2.1; have e1 := (CS.out wv hB).2.2.2.2.2.2; go_wp2_with fail
          refine postB_val ?_ (Below.refl _ _)
          simp only [List.getElem?_cons_succ, List.getElem?_cons_zero]
          rfl
        case s11 =>
          refine BStep.of [5, 10] [(27, 5), (32, 10)] (opV _) (by kernel_rfl) (fun _ _ => by kernel_rfl) rfl ?_
          intro vs wv hB hA
          have h5 : vs 5 = _ := hA.1
          have h10 : vs 10 = _ := hA.2.1
          clear hA
          simp only [fillP, List.setIfInBounds_toArray, List.set_cons_zero, List.set_cons_succ, h5, h10]
          have c0 := (CS.out wv hB).2.1; have c1 := (CS.out wv hB).2.2.1; have d0 := (CS.out wv hB).2.2.2.1; have d1 := (CS.out wv hB).2.2.2.2.1; have e0 := (CS.out wv hB).2.2.2.2.2.1; have e1 := (CS.out wv hB).2.2.2.2.2.2; go_wp2_with fail
          refine postB_val ?_ (Below.refl _ _)
          simp only [List.getElem?_cons_succ, List.getElem?_cons_zero]
          rfl
        case s12 =>
          refine BStep.of [5, 11] [(27, 5), (33, 11)] (opV _) (by kernel_rfl) (fun _ _ => by kernel_rfl) rfl ?_
          intro vs wv hB hA
          have h5 : vs 5 = _ := hA.1
          have h11 : vs 11 = _ := hA.2.1
          clear hA
          simp only [fillP, List.setIfInBounds_toArray, List.set_cons_zero, List.set_cons_succ, h5, h11]
          have c0 := (CS.out wv hB).2.1; have c1 := (CS.out wv hB).2.2.1; have d0 := (CS.out wv hB).2.2.2.1; have d1 := (CS.out wv hB).2.2.2.2.1; have e0 := (CS.out wv hB).2.2.2.2.2.1; have e1 := (CS.out wv hB).2.2.2.2.2.2; go_wp2_with fail
          refine postB_val ?_ (Below.refl _ _)
          simp only [List.getElem?_cons_succ, List.getElem?_cons_zero]
          rfl
        case s13 =>
          refine BStep.of [12] [(34, 12)] (opV _) (by kernel_rfl) (fun _ _ => by kernel_rfl) rfl ?_
          intro vs wv hB hA
          have h12 : vs 12 = _ := hA.1
          clear hA
          simp only [fillP, List.setIfInBounds_toArray, List.set_cons_zero, List.set_cons_succ, h12]
          have c0 := (CS.out wv hB).2.1; have c1 := (CS.out wv hB).2.2.1; have d0 := (CS.out wv hB).2.2.2.1; have d1 := (CS.out wv hB).2.2.2.2.1; have e0 := (CS.out wv hB).2.2.2.2.2.1; have e1 := (CS.out wv hB).2.2.2.2.2.2; go_wp2_with fail
          refine postB_val ?_ (Below.refl _ _)
          simp only [List.getElem?_cons_succ, List.getElem?_cons_zero]
          rfl
        case s14 =>
          refine BStep.of [12, 13] [(34, 12), (35, 13)] (opV _) (by kernel_rfl) (fun _ _ => by kernel_rfl) rfl ?_
          intro vs wv hB hA
          have h12 : vs 12 = _ := hA.1
          have h13 : vs 13 = _ := hA.2.1
          clear hA
          simp only [fillP, List.setIfInBounds_toArray, List.set_cons_zero, List.set_cons_succ, h12, h13]
          have c0 := (CS.out wv hB).2.1; have c1 := (CS.out wv hB).2.2.1; have d0 := (CS.out wv hB).2.2.2.1; have d1 := (CS.out wv hB).2.2.2.2.1; have e0 := (CS.out wv hB).2.2.2.2.2.1; have e1 := (CS.out wv hB).2.2.2.2.2.2; go_wp2_with fail
          refine postB_val ?_ (Below.refl _ _)
          simp only [List.getElem?_cons_succ, List.getElem?_cons_zero]
          rfl
        case s15 =>
          refine BStep.of [12] [(34, 12)] (opV _) (by kernel_rfl) (fun _ _ => by kernel_rfl) rfl ?_
          intro vs wv hB hA
          have h12 : vs 12 = _ := hA.1
          clear hA
          simp only [fillP, List.setIfInBounds_toArray, List.set_cons_zero, List.set_cons_succ, h12]
          have c0 := (CS.out wv hB).2.1; have c1 := (CS.out wv hB).2.2.1; have d0 := (CS.out wv hB).2.2.2.1; have d1 := (CS.out wv hB).2.2.2.2.1; have e0 := (CS.out wv hB).2.2.2.2.2.1; have e1 := (CS.out wv hB).2.2.2.2.2.2; go_wp2_with fail
          refine postB_val ?_ (Below.refl _ _)
          simp only [List.getElem?_cons_succ, List.getElem?_cons_zero]
          rfl
        case s16 =>
          refine BStep.of [12, 15] [(34, 12), (37, 15)] (opV _) (by kernel_rfl) (fun _ _ => by kernel_rfl) rfl ?_
          intro vs wv hB hA
          have h12 : vs 12 = _ := hA.1
          have h15 : vs 15 = _ := hA.2.1
          clear hA
          simp only [fillP, List.setIfInBounds_toArray, List.set_cons_zero, List.set_cons_succ, h12, h15]
          have c0 := (CS.out wv hB).2.1; have c1 := (CS.out wv hB).2.2.1; have d0 := (CS.out wv hB).2.2.2.1; have d1 := (CS.out wv hB).2.2.2.2.1; have e0 := (CS.out wv hB).2.2.2.2.2.1; have e1 := (CS.out wv hB).2.2.2.2.2.2; go_wp2_with fail
          refine postB_val ?_ (Below.refl _ _)
          simp only [List.getElem?_cons_succ, List.getElem?_cons_zero]
          rfl
        case s17 =>
          refine BStep.of [12, 14, 16] [(34, 12), (36, 14), (38, 16)] (opV _) (by kernel_rfl) (fun _ _ => by kernel_rfl) rfl ?_
          intro vs wv hB hA
          have h12 : vs 12 = _ := hA.1
          have h14 : vs 14 = _ := hA.2.1
          have h16 : vs 16 = _ := hA.2.2.1
          clear hA
          simp only [fillP, List.setIfInBounds_toArray, List.set_cons_zero, List.set_cons_succ, h12, h14, h16]
          have c0 := (CS.out wv hB).2.1; have c1 := (CS.out wv hB).2.2.1; have d0 := (CS.out wv hB).2.2.2.1; have d1 := (CS.out wv hB).2.2.2.2.1; have e0 := (CS.out wv hB).2.2.2.2.2.1; have e1 := (CS.out wv hB).2.2.2.2.2.2; go_wp2_with fail
          refine postB_val ?_ (Below.refl _ _)
          simp only [List.getElem?_cons_succ, List.getElem?_cons_zero]
          rfl
        case s18 =>
          refine BStep.of [12, 17] [(34, 12), (39, 17)] (opV _) (by kernel_rfl) (fun _ _ => by kernel_rfl) rfl ?_
          intro vs wv hB hA
          have h12 : vs 12 = _ := hA.1
          have h17 : vs 17 = _ := hA.2.1
          clear hA
          simp only [fillP, List.setIfInBounds_toArray, List.set_cons_zero, List.set_cons_succ, h12, h17]
          have c0 := (CS.out wv hB).2.1; have c1 := (CS.out wv hB).2.2.1; have d0 := (CS.out wv hB).2.2.2.1; have d1 := (CS.out wv hB).2.2.2.2.1; have e0 := (CS.out wv hB).2.2.2.2.2.1; have e1 := (CS.out wv hB).2.2.2.2.2.2; go_wp2_with fail
          refine postB_val ?_ (Below.refl _ _)
          simp only [List.getElem?_cons_succ, List.getElem?_cons_zero]
          rfl
        case s19 =>
          refine BStep.of [18] [(40, 18)] (opV _) (by kernel_rfl) (fun _ _ => by kernel_rfl) rfl ?_
          intro vs wv hB hA
          have h18 : vs 18 = _ := hA.1
          clear hA
          simp only [fillP, List.setIfInBounds_toArray, List.set_cons_zero, List.set_cons_succ, h18]
          have c0 := (CS.out wv hB).2.1; have c1 := (CS.out wv hB).2.2.1; have d0 := (CS.out wv hB).2.2.2.1; have d1 := (CS.out wv hB).2.2.2.2.1; have e0 := (CS.out wv hB).2.2.2.2.2.1; have e1 := (CS.out wv hB).2.2.2.2.2.2; go_wp2_with fail
          refine postB_val ?_ (Below.refl _ _)
          simp only [List.getElem?_cons_succ, List.getElem?_cons_zero]
          rfl
        case s20 =>
          refine BStep.of [18, 19] [(40, 18), (41, 19)] (opV _) (by kernel_rfl) (fun _ _ => by kernel_rfl) rfl ?_
          intro vs wv hB hA
          have h18 : vs 18 = _ := hA.1
          have h19 : vs 19 = _ := hA.2.1
          clear hA
          simp only [fillP, List.setIfInBounds_toArray, List.set_cons_zero, List.set_cons_succ, h18, h19]
          have c0 := (CS.out wv hB).2.1; have c1 := (CS.out wv hB).2.2.1; have d0 := (CS.out wv hB).2.2.2.1; have d1 := (CS.out wv hB).2.2.2.2.1; have e0 := (CS.out wv hB).2.2.2.2.2.1; have e1 := (CS.out wv hB).2.2.2.2.2.2; go_wp2_with fail
          refine postB_val ?_ (Below.refl _ _)
          simp only [List.getElem?_cons_succ, List.getElem?_cons_zero]
          rfl
        case s21 =>
          refine BStep.of [18] [(40, 18)] (opV _) (by kernel_rfl) (fun _ _ => by kernel_rfl) rfl ?_
          intro vs wv hB hA
          have h18 : vs 18 = _ := hA.1
          clear hA
          simp only [fillP, List.setIfInBounds_toArray, List.set_cons_zero, List.set_cons_succ, h18]
          have c0 := (CS.out wv hB).2.1; have c1 := (CS.out wv hB).2.2.1; have d0 := (CS.out wv hB).2.2.2.1; have d1 := (CS.out wv hB).2.2.2.2.1; have e0 := (CS.out wv hB).2.2.2.2.2.1; have e1 := (CS.out wv hB).2.2.2.2.2.2; go_wp2_with fail
          refine postB_val ?_ (Below.refl _ _)
          simp only [List.getElem?_cons_succ, List.getElem?_cons_zero]
          rfl
        case s22 =>
          refine BStep.of [18, 21] [(40, 18), (43, 21)] (opV _) (by kernel_rfl) (fun _ _ => by kernel_rfl) rfl ?_
          intro vs wv hB hA
          have h18 : vs 18 = _ := hA.1
          have h21 : vs 21 = _ := hA.2.1
          clear hA
          simp only [fillP, List.setIfInBounds_toArray, List.set_cons_zero, List.set_cons_succ, h18, h21]
          have c0 := (CS.out wv hB).2.1; have c1 := (CS.out wv hB).2.2.1; have d0 := (CS.out wv hB).2.2.2.1; have d1 := (CS.out wv hB).2.2.2.2.1; have e0 := (CS.out wv hB).2.2.2.2.2.1; have e1 := (CS.out wv hB).2.2.2.2.2.2; go_wp2_with fail
          refine postB_val ?_ (Below.refl _ _)
          simp only [List.getElem?_cons_succ, List.getElem?_cons_zero]
          rfl
        case s23 =>
          refine BStep.of [18, 20, 22] [(40, 18), (42, 20), (44, 22)] (opV _) (by kernel_rfl) (fun _ _ => by kernel_rfl) rfl ?_
          intro vs wv hB hA
          have h18 : vs 18 = _ := hA.1
          have h20 : vs 20 = _ := hA.2.1
          have h22 : vs 22 = _ := hA.2.2.1
          clear hA
          simp only [fillP, List.setIfInBounds_toArray, List.set_cons_zero, List.set_cons_succ, h18, h20, h22]
          have c0 := (CS.out wv hB).2.1; have c1 := (CS.out wv hB).2.2.1; have d0 := (CS.out wv hB).2.2.2.1; have d1 := (CS.out wv hB).2.2.2.2.1; have e0 := (CS.out wv hB).2.2.2.2.2.1; have e1 := (CS.out wv hB).2.2.2.2.2.2; go_wp2_with fail
          refine postB_val ?_ (Below.refl _ _)
          simp only [List.getElem?_cons_succ, List.getElem?_cons_zero]
          rfl
        case s24 =>
          refine BStep.of [12, 18, 23] [(34, 12), (40, 18), (45, 23)] (opV _) (by kernel_rfl) (fun _ _ => by kernel_rfl) rfl ?_
          intro vs wv hB hA
          have h12 : vs 12 = _ := hA.1
          have h18 : vs 18 = _ := hA.2.1
          have h23 : vs 23 = _ := hA.2.2.1
          clear hA
          simp only [fillP, List.setIfInBounds_toArray, List.set_cons_zero, List.set_cons_succ, h12, h18, h23]
          have c0 := (CS.out wv hB).2.1; have c1 := (CS.out wv hB).2.2.1; have d0 := (CS.out wv hB).2.2.2.1; have d1 := (CS.out wv hB).2.2.2.2.1; have e0 := (CS.out wv hB).2.2.2.2.2.1; have e1 := (CS.out wv hB).2.2.2.2.2.2; go_wp2_with fail
          refine postB_val ?_ (Below.refl _ _)
          simp only [List.getElem?_cons_succ, List.getElem?_cons_zero]
          rfl
        case s25 =>
          refine BStep.of [12, 24] [(34, 12), (46, 24)] (opV _) (by kernel_rfl) (fun _ _ => by kernel_rfl) rfl ?_
          intro vs wv hB hA
          have h12 : vs 12 = _ := hA.1
          have h24 : vs 24 = _ := hA.2.1
          clear hA
          simp only [fillP, List.setIfInBounds_toArray, List.set_cons_zero, List.set_cons_succ, h12, h24]
          have c0 := (CS.out wv hB).2.1; have c1 := (CS.out wv hB).2.2.1; have d0 := (CS.out wv hB).2.2.2.1; have d1 := (CS.out wv hB).2.2.2.2.1; have e0 := (CS.out wv hB).2.2.2.2.2.1; have e1 := (CS.out wv hB).2.2.2.2.2.2; go_wp2_with fail
          refine postB_val ?_ (Below.refl _ _)
          simp only [List.getElem?_cons_succ, List.getElem?_cons_zero]
          rfl
        case s26 =>
          refine BStep.of [18, 25] [(40, 18), (47, 25)] (opV _) (by kernel_rfl) (fun _ _ => by kernel_rfl) rfl ?_
          intro vs wv hB hA
          have h18 : vs 18 = _ := hA.1
          have h25 : vs 25 = _ := hA.2.1
          clear hA
          simp only [fillP, List.setIfInBounds_toArray, List.set_cons_zero, List.set_cons_succ, h18, h25]
          have c0 := (CS.out wv hB).2.1; have c1 := (CS.out wv hB).2.2.1; have d0 := (CS.out wv hB).2.2.2.1; have d1 := (CS.out wv hB).2.2.2.2.1; have e0 := (CS.out wv hB).2.2.2.2.2.1; have e1 := (CS.out wv hB).2.2.2.2.2.2; go_wp2_with fail
          refine postB_val ?_ (Below.refl _ _)
          simp only [List.getElem?_cons_succ, List.getElem?_cons_zero]
          rfl
        case s27 =>
          refine BStep.of [26] [(48, 26)] (opV _) (by kernel_rfl) (fun _ _ => by kernel_rfl) rfl ?_
          intro vs wv hB hA
          have h26 : vs 26 = _ := hA.1
          clear hA
          simp only [fillP, List.setIfInBounds_toArray, List.set_cons_zero, List.set_cons_succ, h26]
          have c0 := (CS.out wv hB).2.1; have c1 := (CS.out wv hB).2.2.1; have d0 := (CS.out wv hB).2.2.2.1; have d1 := (CS.out wv hB).2.2.2.2.1; have e0 := (CS.out wv hB).2.2.2.2.2.1; have e1 := (CS.out wv hB).2.2.2.2.2.2; go_wp2_with fail
          refine postB_val ?_ (Below.refl _ _)
          simp only [List.getElem?_cons_succ, List.getElem?_cons_zero]
          rfl
        case s28 =>
          refine BStep.of [26, 27] [(48, 26), (49, 27)] (opV _) (by kernel_rfl) (fun _ _ => by kernel_rfl) rfl ?_
          intro vs wv hB hA
          have h26 : vs 26 = _ := hA.1
          have h27 : vs 27 = _ := hA.2.1
          clear hA
          simp only [fillP, List.setIfInBounds_toArray, List.set_cons_zero, List.set_cons_succ, h26, h27]
          have c0 := (CS.out wv hB).2.1; have c1 := (CS.out wv hB).2.2.1; have d0 := (CS.out wv hB).2.2.2.1; have d1 := (CS.out wv hB).2.2.2.2.1; have e0 := (CS.out wv hB).2.2.2.2.2.1; have e1 := (CS.out wv hB).2.2.2.2.2.2; go_wp2_with fail
          refine postB_val ?_ (Below.refl _ _)
          simp only [List.getElem?_cons_succ, List.getElem?_cons_zero]
          rfl
        case s29 =>
          refine BStep.of [26] [(48, 26)] (opV _) (by kernel_rfl) (fun _ _ => by kernel_rfl) rfl ?_
          intro vs wv hB hA
          have h26 : vs 26 = _ := hA.1
          clear hA
          simp only [fillP, List.setIfInBounds_toArray, List.set_cons_zero, List.set_cons_succ, h26]
          have c0 := (CS.out wv hB).2.1; have c1 := (CS.out wv hB).2.2.1; have d0 := (CS.out wv hB).2.2.2.1; have d1 := (CS.out wv hB).2.2.2.2.1; have e0 := (CS.out wv hB).2.2.2.2.2.1; have e1 := (CS.out wv hB).2.2.2.2.2.2; go_wp2_with fail
          refine postB_val ?_ (Below.refl _ _)
          simp only [List.getElem?_cons_succ, List.getElem?_cons_zero]
          rfl
        case s30 =>
          refine BStep.of [26, 29] [(48, 26), (51, 29)] (opV _) (by kernel_rfl) (fun _ _ => by kernel_rfl) rfl ?_
          intro vs wv hB hA
          have h26 : vs 26 = _ := hA.1
          have h29 : vs 29 = _ := hA.2.1
          clear hA
          simp only [fillP, List.setIfInBounds_toArray, List.set_cons_zero, List.set_cons_succ, h26, h29]
          have c0 := (CS.out wv hB).2.1; have c1 := (CS.out wv hB).2.2.1; have d0 := (CS.out wv hB).2.2.2.1; have d1 := (CS.out wv hB).2.2.2.2.1; have e0 := (CS.out wv hB).2.2.2.2.2.1; have e1 := (CS.out wv hB).2.2.2.2.2.2; go_wp2_with fail
          refine postB_val ?_ (Below.refl _ _)
          simp only [List.getElem?_cons_succ, List.getElem?_cons_zero]
          rfl
        case s31 =>
          refine BStep.of [26, 28, 30] [(48, 26), (50, 28), (52, 30)] (opV _) (by kernel_rfl) (fun _ _ => by kernel_rfl) rfl ?_
          intro vs wv hB hA
          have h26 : vs 26 = _ := hA.1
          have h28 : vs 28 = _ := hA.2.1
          have h30 : vs 30 = _ := hA.2.2.1
          clear hA
          simp only [fillP, List.setIfInBounds_toArray, List.set_cons_zero, List.set_cons_succ, h26, h28, h30]
          have c0 := (CS.out wv hB).2.1; have c1 := (CS.out wv hB).2.2.1; have d0 := (CS.out wv hB).2.2.2.1; have d1 := (CS.out wv hB).2.2.2.2.1; have e0 := (CS.out wv hB).2.2.2.2.2.1; have e1 := (CS.out wv hB).2.2.2.2.2.2; go_wp2_with fail
          refine postB_val ?_ (Below.refl _ _)
          simp only [List.getElem?_cons_succ, List.getElem?_cons_zero]
          rfl
        case s32 =>
          refine BStep.of [26, 31] [(48, 26), (53, 31)] (opV _) (by kernel_rfl) (fun _ _ => by kernel_rfl) rfl ?_
          intro vs wv hB hA
          have h26 : vs 26 = _ := hA.1
          have h31 : vs 31 = _ := hA.2.1
          clear hA
          simp only [fillP, List.setIfInBounds_toArray, List.set_cons_zero, List.set_cons_succ, h26, h31]
          have c0 := (CS.out wv hB).2.1; have c1 := (CS.out wv hB).2.2.1; have d0 := (CS.out wv hB).2.2.2.1; have d1 := (CS.out wv hB).2.2.2.2.1; have e0 := (CS.out wv hB).2.2.2.2.2.1; have e1 := (CS.out wv hB).2.2.2.2.2.2; go_wp2_with fail
          refine postB_val ?_ (Below.refl _ _)
          simp only [List.getElem?_cons_succ, List.getElem?_cons_zero]
          rfl
        case s33 =>
          refine BStep.of [32] [(54, 32)] (opV _) (by kernel_rfl) (fun _ _ => by kernel_rfl) rfl ?_
          intro vs wv hB hA
          have h32 : vs 32 = _ := hA.1
          clear hA
          simp only [fillP, List.setIfInBounds_toArray, List.set_cons_zero, List.set_cons_succ, h32]
          have c0 := (CS.out wv hB).2.1; have c1 := (CS.out wv hB).2.2.1; have d0 := (CS.out wv hB).2.2.2.1; have d1 := (CS.out wv hB).2.2.2.2.1; have e0 := (CS.out wv hB).2.2.2.2.2.1; have e1 := (CS.out wv hB).2.2.2.2.2.2; go_wp2_with fail
          refine postB_val ?_ (Below.refl _ _)
          simp only [List.getElem?_cons_succ, List.getElem?_cons_zero]
          rfl
        case s34 =>
          refine BStep.of [32, 33] [(54, 32), (55, 33)] (opV _) (by kernel_rfl) (fun _ _ => by kernel_rfl) rfl ?_
          intro vs wv hB hA
          have h32 : vs 32 = _ := hA.1
          have h33 : vs 33 = _ := hA.2.1
          clear hA
          simp only [fillP, List.setIfInBounds_toArray, List.set_cons_zero, List.set_cons_succ, h32, h33]
          have c0 := (CS.out wv hB).2.1; have c1 := (CS.out wv hB).2.2.1; have d0 := (CS.out wv hB).2.2.2.1; have d1 := (CS.out wv hB).2.2.2.2.1; have e0 := (CS.out wv hB).2.2.2.2.2.1; have e1 := (CS.out wv hB).2.2.2.2.2.2; go_wp2_with fail
          refine postB_val ?_ (Below.refl _ _)
          simp only [List.getElem?_cons_succ, List.getElem?_cons_zero]
          rfl
        case s35 =>
          refine BStep.of [32] [(54, 32)] (opV _) (by kernel_rfl) (fun _ _ => by kernel_rfl) rfl ?_
          intro vs wv hB hA
          have h32 : vs 32 = _ := hA.1
          clear hA
          simp only [fillP, List.setIfInBounds_toArray, List.set_cons_zero, List.set_cons_succ, h32]
          have c0 := (CS.out wv hB).2.1; have c1 := (CS.out wv hB).2.2.1; have d0 := (CS.out wv hB).2.2.2.1; have d1 := (CS.out wv hB).2.2.2.2.1; have e0 := (CS.out wv hB).2.2.2.2.2.1; have e1 := (CS.out wv hB).2.2.2.2.2.2; go_wp2_with fail
          refine postB_val ?_ (Below.refl _ _)
          simp only [List.getElem?_cons_succ, List.getElem?_cons_zero]
          rfl
        case s36 =>
          refine BStep.of [32, 35] [(54, 32), (57, 35)] (opV _) (by kernel_rfl) (fun _ _ => by kernel_rfl) rfl ?_
          intro vs wv hB hA
          have h32 : vs 32 = _ := hA.1
          have h35 : vs 35 = _ := hA.2.1
          clear hA
          simp only [fillP, List.setIfInBounds_toArray, List.set_cons_zero, List.set_cons_succ, h32, h35]
          have c0 := (CS.out wv hB).2.1; have c1 := (CS.out wv hB).2.2.1; have d0 := (CS.out wv hB).2.2.2.1; have d1 := (CS.out wv hB).2.2.2.2.1; have e0 := (CS.out wv hB).2.2.2.2.2.1; have e1 := (CS.out wv hB).2.2.2.2.2.2; go_wp2_with fail
          refine postB_val ?_ (Below.refl _ _)
          simp only [List.getElem?_cons_succ, List.getElem?_cons_zero]
          rfl
        case s37 =>
          refine BStep.of [32, 34, 36] [(54, 32), (56, 34), (58, 36)] (opV _) (by kernel_rfl) (fun _ _ => by kernel_rfl) rfl ?_
          intro vs wv hB hA
          have h32 : vs 32 = _ := hA.1
          have h34 : vs 34 = _ := hA.2.1
          have h36 : vs 36 = _ := hA.2.2.1
          clear hA
          simp only [fillP, List.setIfInBounds_toArray, List.set_cons_zero, List.set_cons_succ, h32, h34, h36]
          have c0 := (CS.out wv hB).2.1; have c1 := (CS.out wv hB).2.2.1; have d0 := (CS.out wv hB).2.2.2.1; have d1 := (CS.out wv hB).2.2.2.2.1; have e0 := (CS.out wv hB).2.2.2.2.2.1; have e1 := (CS.out wv hB).2.2.2.2.2.2; go_wp2_with fail
          refine postB_val ?_ (Below.refl _ _)
          simp only [List.getElem?_cons_succ, List.getElem?_cons_zero]
          rfl
        case s38 =>
          refine BStep.of [26, 32, 37] [(48, 26), (54, 32), (59, 37)] (opV _) (by kernel_rfl) (fun _ _ => by kernel_rfl) rfl ?_
          intro vs wv hB hA
          have h26 : vs 26 = _ := hA.1
          have h32 : vs 32 = _ := hA.2.1
          have h37 : vs 37 = _ := hA.2.2.1
          clear hA
          simp only [fillP, List.setIfInBounds_toArray, List.set_cons_zero, List.set_cons_succ, h26, h32, h37]
          have c0 := (CS.out wv hB).2.1; have c1 := (CS.out wv hB).2.2.1; have d0 := (CS.out wv hB).2.2.2.1; have d1 := (CS.out wv hB).2.2.2.2.1; have e0 := (CS.out wv hB).2.2.2.2.2.1; have e1 := (CS.out wv hB).2.2.2.2.2.2; go_wp2_with fail
          refine postB_val ?_ (Below.refl _ _)
          simp only [List.getElem?_cons_succ, List.getElem?_cons_zero]
          rfl
        case s39 =>
          refine BStep.of [26, 38] [(48, 26), (60, 38)] (opV _) (by kernel_rfl) (fun _ _ => by kernel_rfl) rfl ?_
          intro vs wv hB hA
          have h26 : vs 26 = _ := hA.1
          have h38 : vs 38 = _ := hA.2.1
          clear hA
          simp only [fillP, List.setIfInBounds_toArray, List.set_cons_zero, List.set_cons_succ, h26, h38]
          have c0 := (CS.out wv hB).2.1; have c1 := (CS.out wv hB).2.2.1; have d0 := (CS.out wv hB).2.2.2.1; have d1 := (CS.out wv hB).2.2.2.2.1; have e0 := (CS.out wv hB).2.2.2.2.2.1; have e1 := (CS.out wv hB).2.2.2.2.2.2; go_wp2_with fail
          refine postB_val ?_ (Below.refl _ _)
          simp only [List.getElem?_cons_succ, List.getElem?_cons_zero]
          rfl
        case s40 =>
          refine BStep.of [32, 39] [(54, 32), (61, 39)] (opV _) (by kernel_rfl) (fun _ _ => by kernel_rfl) rfl ?_
          intro vs wv hB hA
          have h32 : vs 32 = _ := hA.1
          have h39 : vs 39 = _ := hA.2.1
          clear hA
          simp only [fillP, List.setIfInBounds_toArray, List.set_cons_zero, List.set_cons_succ, h32, h39]
          have c0 := (CS.out wv hB).2.1; have c1 := (CS.out wv hB).2.2.1; have d0 := (CS.out wv hB).2.2.2.1; have d1 := (CS.out wv hB).2.2.2.2.1; have e0 := (CS.out wv hB).2.2.2.2.2.1; have e1 := (CS.out wv hB).2.2.2.2.2.2; go_wp2_with fail
          refine postB_val ?_ (Below.refl _ _)
          simp only [List.getElem?_cons_succ, List.getElem?_cons_zero]
          rfl
        case s41 =>
          refine BStep.of [40] [(62, 40)] (opV _) (by kernel_rfl) (fun _ _ => by kernel_rfl) rfl ?_
          intro vs wv hB hA
          have h40 : vs 40 = _ := hA.1
          clear hA
          simp only [fillP, List.setIfInBounds_toArray, List.set_cons_zero, List.set_cons_succ, h40]
          have c0 := (CS.out wv hB).2.1; have c1 := (CS.out wv hB).2.2.1; have d0 := (CS.out wv hB).2.2.2.1; have d1 := (CS.out wv hB).2.2.2.2.1; have e0 := (CS.out wv hB).2.2.2.2.2.1; have e1 := (CS.out wv hB).2.2.2.2.2.2; go_wp2_with fail
          refine postB_val ?_ (Below.refl _ _)
          simp only [List.getElem?_cons_succ, List.getElem?_cons_zero]
          rfl
        case s42 =>
          refine BStep.of [40] [(62, 40)] (opV _) (by kernel_rfl) (fun _ _ => by kernel_rfl) rfl ?_
          intro vs wv hB hA
          have h40 : vs 40 = _ := hA.1
          clear hA
          simp only [fillP, List.setIfInBounds_toArray, List.set_cons_zero, List.set_cons_succ, h40]
          have c0 := (CS.out wv hB).2.1; have c1 := (CS.out wv hB).2.2.1; have d0 := (CS.out wv hB).2.2.2.1; have d1 := (CS.out wv hB).2.2.2.2.1; have e0 := (CS.out wv hB).2.2.2.2.2.1; have e1 := (CS.out wv hB).2.2.2.2.2.2; go_wp2_with fail
          refine postB_val ?_ (Below.refl _ _)
          simp only [List.getElem?_cons_succ, List.getElem?_cons_zero]
          rfl
        case s43 =>
          refine BStep.of [40] [(62, 40)] (opV _) (by kernel_rfl) (fun _ _ => by kernel_rfl) rfl ?_
          intro vs wv hB hA
          have h40 : vs 40 = _ := hA.1
          clear hA
          simp only [fillP, List.setIfInBounds_toArray, List.set_cons_zero, List.set_cons_succ, h40]
          have c0 := (CS.out wv hB).2.1; have c1 := (CS.out wv hB).2.2.1; have d0 := (CS.out wv hB).2.2.2.1; have d1 := (CS.out wv hB).2.2.2.2.1; have e0 := (CS.out wv hB).2.2.2.2.2.1; have e1 := (CS.out wv hB).2.2.2.2.2.2; go_wp2_with fail
          refine postB_val ?_ (Below.refl _ _)
          simp only [List.getElem?_cons_succ, List.getElem?_cons_zero]
          rfl
        case s44 =>
          refine BStep.of [40, 42, 43] [(62, 40), (64, 42), (65, 43)] (opM [(b1, b2), (a1, a2)]) (by kernel_rfl) (fun _ _ => by kernel_rfl) rfl ?_
          intro vs wv hB hA
          have h40 : vs 40 = _ := hA.1
          have h42 : vs 42 = _ := hA.2.1
          have h43 : vs 43 = _ := hA.2.2.1
          clear hA
          simp only [fillP, List.setIfInBounds_toArray, List.set_cons_zero, List.set_cons_succ, h40, h42, h43]
          go_wp2_with fail; exact postB_R rfl (new_two wv (b1, b2) (a1, a2)) ((Below.refl _ _).alloc (Nat.le_refl _) _)
        case s45 =>
          refine BStep.of [40, 44] [(62, 40), (66, 44)] (opV (.agg #[.int .i64 a1, .int .i64 a2])) (by kernel_rfl) (fun _ _ => by kernel_rfl) rfl ?_
          intro vs wv hB hA
          have h40 : vs 40 = _ := hA.1
          have h44 : MgIn wv (vs 44) [(b1, b2), (a1, a2)] := hA.2.1
          clear hA
          simp only [fillP, List.setIfInBounds_toArray, List.set_cons_zero, List.set_cons_succ, h40]
          (go_wp2_with (go_at_call 8; (with_reducible refine (KJ2.out _ _ h44).mono ?_); rintro e w7 ⟨rfl, hb⟩)); exact postB_val rfl hb
        case s46 =>
          refine BStep.of [40, 41, 45] [(62, 40), (63, 41), (67, 45)] (opV _) (by kernel_rfl) (fun _ _ => by kernel_rfl) rfl ?_
          intro vs wv hB hA
          have h40 : vs 40 = _ := hA.1
          have h41 : vs 41 = _ := hA.2.1
          have h45 : vs 45 = _ := hA.2.2.1
          clear hA
          simp only [fillP, List.setIfInBounds_toArray, List.set_cons_zero, List.set_cons_succ, h40, h41, h45]
          have c0 := (CS.out wv hB).2.1; have c1 := (CS.out wv hB).2.2.1; have d0 := (CS.out wv hB).2.2.2.1; have d1 := (CS.out wv hB).2.2.2.2.1; have e0 := (CS.out wv hB).2.2.2.2.2.1; have e1 := (CS.out wv hB).2.2.2.2.2.2; go_wp2_with fail
          refine postB_val ?_ (Below.refl _ _)
          simp only [List.getElem?_cons_succ, List.getElem?_cons_zero]
          rfl
        case s47 =>
          refine BStep.of [40, 46] [(62, 40), (68, 46)] (opV _) (by kernel_rfl) (fun _ _ => by kernel_rfl) rfl ?_
          intro vs wv hB hA
          have h40 : vs 40 = _ := hA.1
          have h46 : vs 46 = _ := hA.2.1
          clear hA
          simp only [fillP, List.setIfInBounds_toArray, List.set_cons_zero, List.set_cons_succ, h40, h46]
          have c0 := (CS.out wv hB).2.1; have c1 := (CS.out wv hB).2.2.1; have d0 := (CS.out wv hB).2.2.2.1; have d1 := (CS.out wv hB).2.2.2.2.1; have e0 := (CS.out wv hB).2.2.2.2.2.1; have e1 := (CS.out wv hB).2.2.2.2.2.2; go_wp2_with fail
          refine postB_val ?_ (Below.refl _ _)
          simp only [List.getElem?_cons_succ, List.getElem?_cons_zero]
          rfl
        case fin =>
          refine fin_of [0, 1, 2, 3, 4, 5, 6, 7, 8, 9, 10, 11, 12, 13, 14, 15, 16, 17, 18, 19, 20, 21, 22, 23, 24, 25, 26, 27, 28, 29, 30, 31, 32, 33, 34, 35, 36, 37, 38, 39, 40, 41, 42, 43, 44, 45, 46, 47] [(22, 0), (23, 1), (24, 2), (25, 3), (26, 4), (27, 5), (28, 6), (29, 7), (30, 8), (31, 9), (32, 10), (33, 11), (34, 12), (35, 13), (36, 14), (37, 15), (38, 16), (39, 17), (40, 18), (41, 19), (42, 20), (43, 21), (44, 22), (45, 23), (46, 24), (47, 25), (48, 26), (49, 27), (50, 28), (51, 29), (52, 30), (53, 31), (54, 32), (55, 33), (56, 34), (57, 35), (58, 36), (59, 37), (60, 38), (61, 39), (62, 40), (63, 41), (64, 42), (65, 43), (66, 44), (67, 45), (68, 46), (69, 47)] (by kernel_rfl) (fun _ _ => by kernel_rfl) ?_
          intro vs wv hB hA
          have h0 : vs 0 = _ := hA.1
          have h1 : vs 1 = _ := hA.2.1
          have h2 : vs 2 = _ := hA.2.2.1
          have h3 : vs 3 = _ := hA.2.2.2.1
          have h4 : vs 4 = _ := hA.2.2.2.2.1
          have h5 : vs 5 = _ := hA.2.2.2.2.2.1
          have h6 : vs 6 = _ := hA.2.2.2.2.2.2.1
          have h7 : vs 7 = _ := hA.2.2.2.2.2.2.2.1
          have h8 : vs 8 = _ := hA.2.2.2.2.2.2.2.2.1
          have h9 : vs 9 = _ := hA.2.2.2.2.2.2.2.2.2.1
          have h10 : vs 10 = _ := hA.2.2.2.2.2.2.2.2.2.2.1
          have h11 : vs 11 = _ := hA.2.2.2.2.2.2.2.2.2.2.2.1
          have h12 : vs 12 = _ := hA.2.2.2.2.2.2.2.2.2.2.2.2.1
          have h13 : vs 13 = _ := hA.2.2.2.2.2.2.2.2.2.2.2.2.2.1
          have h14 : vs 14 = _ := hA.2.2.2.2.2.2.2.2.2.2.2.2.2.2.1
          have h15 : vs 15 = _ := hA.2.2.2.2.2.2.2.2.2.2.2.2.2.2.2.1
          have h16 : vs 16 = _ := hA.2.2.2.2.2.2.2.2.2.2.2.2.2.2.2.2.1
          have h17 : vs 17 = _ := hA.2.2.2.2.2.2.2.2.2.2.2.2.2.2.2.2.2.1
          have h18 : vs 18 = _ := hA.2.2.2.2.2.2.2.2.2.2.2.2.2.2.2.2.2.2.1
          have h19 : vs 19 = _ := hA.2.2.2.2.2.2.2.2.2.2.2.2.2.2.2.2.2.2.2.1
          have h20 : vs 20 = _ := hA.2.2.2.2.2.2.2.2.2.2.2.2.2.2.2.2.2.2.2.2.1
          have h21 : vs 21 = _ := hA.2.2.2.2.2.2.2.2.2.2.2.2.2.2.2.2.2.2.2.2.2.1
          have h22 : vs 22 = _ := hA.2.2.2.2.2.2.2.2.2.2.2.2.2.2.2.2.2.2.2.2.2.2.1
          have h23 : vs 23 = _ := hA.2.2.2.2.2.2.2.2.2.2.2.2.2.2.2.2.2.2.2.2.2.2.2.1
          have h24 : vs 24 = _ := hA.2.2.2.2.2.2.2.2.2.2.2.2.2.2.2.2.2.2.2.2.2.2.2.2.1
          have h25 : vs 25 = _ := hA.2.2.2.2.2.2.2.2.2.2.2.2.2.2.2.2.2.2.2.2.2.2.2.2.2.1
          have h26 : vs 26 = _ := hA.2.2.2.2.2.2.2.2.2.2.2.2.2.2.2.2.2.2.2.2.2.2.2.2.2.2.1
          have h27 : vs 27 = _ := hA.2.2.2.2.2.2.2.2.2.2.2.2.2.2.2.2.2.2.2.2.2.2.2.2.2.2.2.1
          have h28 : vs 28 = _ := hA.2.2.2.2.2.2.2.2.2.2.2.2.2.2.2.2.2.2.2.2.2.2.2.2.2.2.2.2.1
          have h29 : vs 29 = _ := hA.2.2.2.2.2.2.2.2.2.2.2.2.2.2.2.2.2.2.2.2.2.2.2.2.2.2.2.2.2.1
          have h30 : vs 30 = _ := hA.2.2.2.2.2.2.2.2.2.2.2.2.2.2.2.2.2.2.2.2.2.2.2.2.2.2.2.2.2.2.1
          have h31 : vs 31 = _ := hA.2.2.2.2.2.2.2.2.2.2.2.2.2.2.2.2.2.2.2.2.2.2.2.2.2.2.2.2.2.2.2.1
          have h32 : vs 32 = _ := hA.2.2.2.2.2.2.2.2.2.2.2.2.2.2.2.2.2.2.2.2.2.2.2.2.2.2.2.2.2.2.2.2.1
          have h33 : vs 33 = _ := hA.2.2.2.2.2.2.2.2.2.2.2.2.2.2.2.2.2.2.2.2.2.2.2.2.2.2.2.2.2.2.2.2.2.1
          have h34 : vs 34 = _ := hA.2.2.2.2.2.2.2.2.2.2.2.2.2.2.2.2.2.2.2.2.2.2.2.2.2.2.2.2.2.2.2.2.2.2.1
          have h35 : vs 35 = _ := hA.2.2.2.2.2.2.2.2.2.2.2.2.2.2.2.2.2.2.2.2.2.2.2.2.2.2.2.2.2.2.2.2.2.2.2.1
          have h36 : vs 36 = _ := hA.2.2.2.2.2.2.2.2.2.2.2.2.2.2.2.2.2.2.2.2.2.2.2.2.2.2.2.2.2.2.2.2.2.2.2.2.1
          have h37 : vs 37 = _ := hA.2.2.2.2.2.2.2.2.2.2.2.2.2.2.2.2.2.2.2.2.2.2.2.2.2.2.2.2.2.2.2.2.2.2.2.2.2.1
          have h38 : vs 38 = _ := hA.2.2.2.2.2.2.2.2.2.2.2.2.2.2.2.2.2.2.2.2.2.2.2.2.2.2.2.2.2.2.2.2.2.2.2.2.2.2.1
          have h39 : vs 39 = _ := hA.2.2.2.2.2.2.2.2.2.2.2.2.2.2.2.2.2.2.2.2.2.2.2.2.2.2.2.2.2.2.2.2.2.2.2.2.2.2.2.1
          have h40 : vs 40 = _ := hA.2.2.2.2.2.2.2.2.2.2.2.2.2.2.2.2.2.2.2.2.2.2.2.2.2.2.2.2.2.2.2.2.2.2.2.2.2.2.2.2.1
          have h41 : vs 41 = _ := hA.2.2.2.2.2.2.2.2.2.2.2.2.2.2.2.2.2.2.2.2.2.2.2.2.2.2.2.2.2.2.2.2.2.2.2.2.2.2.2.2.2.1
          have h42 : vs 42 = _ := hA.2.2.2.2.2.2.2.2.2.2.2.2.2.2.2.2.2.2.2.2.2.2.2.2.2.2.2.2.2.2.2.2.2.2.2.2.2.2.2.2.2.2.1
          have h43 : vs 43 = _ := hA.2.2.2.2.2.2.2.2.2.2.2.2.2.2.2.2.2.2.2.2.2.2.2.2.2.2.2.2.2.2.2.2.2.2.2.2.2.2.2.2.2.2.2.1
          have h44 : MgIn wv (vs 44) [(b1, b2), (a1, a2)] := hA.2.2.2.2.2.2.2.2.2.2.2.2.2.2.2.2.2.2.2.2.2.2.2.2.2.2.2.2.2.2.2.2.2.2.2.2.2.2.2.2.2.2.2.2.1
          have h45 : vs 45 = _ := hA.2.2.2.2.2.2.2.2.2.2.2.2.2.2.2.2.2.2.2.2.2.2.2.2.2.2.2.2.2.2.2.2.2.2.2.2.2.2.2.2.2.2.2.2.2.1
          have h46 : vs 46 = _ := hA.2.2.2.2.2.2.2.2.2.2.2.2.2.2.2.2.2.2.2.2.2.2.2.2.2.2.2.2.2.2.2.2.2.2.2.2.2.2.2.2.2.2.2.2.2.2.1
          have h47 : vs 47 = _ := hA.2.2.2.2.2.2.2.2.2.2.2.2.2.2.2.2.2.2.2.2.2.2.2.2.2.2.2.2.2.2.2.2.2.2.2.2.2.2.2.2.2.2.2.2.2.2.2.1
          clear hA
          simp only [fillP, List.setIfInBounds_toArray, List.set_cons_zero, List.set_cons_succ, h0, h1, h2, h3, h4, h5, h6, h7, h8, h9, h10, h11, h12, h13, h14, h15, h16, h17, h18, h19, h20, h21, h22, h23, h24, h25, h26, h27, h28, h29, h30, h31, h32, h33, h34, h35, h36, h37, h38, h39, h40, h41, h42, h43, h45, h46, h47]
          go_wp2_with fail; go_meet; exact ⟨by first|rfl | simp, Lib.hid hB⟩
  case rest =>
    obtain ⟨rfl, BX⟩ := hcut
    obtain ⟨wx, rfl⟩ : ∃ wo : World, wo = wc := ⟨_, rfl⟩
    have CT : Hid (∀ W, Below wx.heap.size wx W → W.cell? ⟨w.heap.size, 0, none⟩ = some (.int .i64 a1) ∧ W.cell? ⟨w.heap.size, 1, none⟩ = some (.int .i64 a2)) := Lib.hid (fun W hW => by
      have h := CS.out W (b_next BX.out hW)
      exact ⟨h.2.1, h.2.2.1⟩)
    clear CS hp hq KJ2
    obtain ⟨g1, g2⟩ := HA1.out
    have s1 : ((a1 : Int) == a1) = (!false) := by simp
    have s2 : ((a2 : Int) == a2) = (!false) := by simp
    by_cases h1 : n > a1
    · have h2 : ¬ n < a2 := by omega
      rw [if_pos h1, if_neg h2] at KJ3
      have d1 : decide (n ≤ a1) = false := decide_eq_false (by omega)
      have e1 : ((n : Int) == a1) = (!true) := by simp; omega
      clear h1 h2 g1 g2
      go_wp2_with fail
      refine' wp_region_below [opV _, opV _, opV (.agg #[.int .i64 o1, .int .i64 o2]), opM [(a1, a2), (o1, o2)], opV (.agg #[.int .i64 n, .int .i64 a2]), opV _, opV _, opV _, opV _, opV _, opV _, opV _, opV _, opV _, opV _, opV _, opV _, opV _, opV _] rfl (by kernel_rfl) ⟨?s0, ?s1, ?s2, ?s3, ?s4, ?s5, ?s6, ?s7, ?s8, ?s9, ?s10, ?s11, ?s12, ?s13, ?s14, ?s15, ?s16, ?s17, ?s18, trivial⟩ ?fin
      case s0 =>
        refine BStep.of [] [] (opV _) (by kernel_rfl) (fun _ _ => by kernel_rfl) rfl ?_
        intro vs wv hB hA
        clear hA
        simp only [fillP]
        have c0 := (CT.out wv hB).1; have c1 := (CT.out wv hB).2; go_wp2_with fail
        refine postB_val ?_ (Below.refl _ _)
        simp only [List.getElem?_cons_succ, List.getElem?_cons_zero]
        rfl
      case s1 =>
        refine BStep.of [] [] (opV _) (by kernel_rfl) (fun _ _ => by kernel_rfl) rfl ?_
        intro vs wv hB hA
        clear hA
        simp only [fillP]
        have c0 := (CT.out wv hB).1; have c1 := (CT.out wv hB).2; go_wp2_with fail
        refine postB_val ?_ (Below.refl _ _)
        simp only [List.getElem?_cons_succ, List.getElem?_cons_zero]
        rfl
      case s2 =>
        refine BStep.of [1] [(71, 1)] (opV (.agg #[.int .i64 o1, .int .i64 o2])) (by kernel_rfl) (fun _ _ => by kernel_rfl) rfl ?_
        intro vs wv hB hA
        have h1 : vs 1 = _ := hA.1
        clear hA
        simp only [fillP, List.setIfInBounds_toArray, List.set_cons_zero, List.set_cons_succ, h1]
        (go_wp2_with (go_at_call 12; (with_reducible refine (KO.out _).mono ?_); rintro e w7 ⟨rfl, hb⟩)); exact postB_val rfl hb
      case s3 =>
        refine BStep.of [0, 2] [(70, 0), (72, 2)] (opM [(a1, a2), (o1, o2)]) (by kernel_rfl) (fun _ _ => by kernel_rfl) rfl ?_
        intro vs wv hB hA
        have h0 : vs 0 = _ := hA.1
        have h2 : vs 2 = _ := hA.2.1
        clear hA
        simp only [fillP, List.setIfInBounds_toArray, List.set_cons_zero, List.set_cons_succ, h0, h2]
        go_wp2_with fail; exact postB_R rfl (new_two wv (a1, a2) (o1, o2)) ((Below.refl _ _).alloc (Nat.le_refl _) _)
      case s4 =>
        refine BStep.of [2, 3] [(72, 2), (73, 3)] (opV (.agg #[.int .i64 n, .int .i64 a2])) (by kernel_rfl) (fun _ _ => by kernel_rfl) rfl ?_
        intro vs wv hB hA
        have h2 : vs 2 = _ := hA.1
        have h3 : MgIn wv (vs 3) [(a1, a2), (o1, o2)] := hA.2.1
        clear hA
        simp only [fillP, List.setIfInBounds_toArray, List.set_cons_zero, List.set_cons_succ, h2]
        (go_wp2_with (go_at_call 8; (with_reducible refine (KJ3.out _ _ h3).mono ?_); rintro e w7 ⟨rfl, hb⟩)); exact postB_val rfl hb
      case s5 =>
        refine BStep.of [] [] (opV _) (by kernel_rfl) (fun _ _ => by kernel_rfl) rfl ?_
        intro vs wv hB hA
        clear hA
        simp only [fillP]
        have c0 := (CT.out wv hB).1; have c1 := (CT.out wv hB).2; go_wp2_with fail
        refine postB_val ?_ (Below.refl _ _)
        simp only [List.getElem?_cons_succ, List.getElem?_cons_zero]
        rfl
      case s6 =>
        refine BStep.of [4, 5] [(74, 4), (75, 5)] (opV _) (by kernel_rfl) (fun _ _ => by kernel_rfl) rfl ?_
        intro vs wv hB hA
        have h4 : vs 4 = _ := hA.1
        have h5 : vs 5 = _ := hA.2.1
        clear hA
        simp only [fillP, List.setIfInBounds_toArray, List.set_cons_zero, List.set_cons_succ, h4, h5]
        have c0 := (CT.out wv hB).1; have c1 := (CT.out wv hB).2; go_wp2_with fail
        refine postB_val ?_ (Below.refl _ _)
        simp only [List.getElem?_cons_succ, List.getElem?_cons_zero]
        rfl
      case s7 =>
        refine BStep.of [] [] (opV _) (by kernel_rfl) (fun _ _ => by kernel_rfl) rfl ?_
        intro vs wv hB hA
        clear hA
        simp only [fillP]
        have c0 := (CT.out wv hB).1; have c1 := (CT.out wv hB).2; go_wp2_with fail
        refine postB_val ?_ (Below.refl _ _)
        simp only [List.getElem?_cons_succ, List.getElem?_cons_zero]
        rfl
      case s8 =>
        refine BStep.of [] [] (opV _) (by kernel_rfl) (fun _ _ => by kernel_rfl) rfl ?_
        intro vs wv hB hA
        clear hA
        simp only [fillP]
        have c0 := (CT.out wv hB).1; have c1 := (CT.out wv hB).2; go_wp2_with fail
        refine postB_val ?_ (Below.refl _ _)
        simp only [List.getElem?_cons_succ, List.getElem?_cons_zero]
        rfl
      case s9 =>
        refine BStep.of [8] [(78, 8)] (opV _) (by kernel_rfl) (fun _ _ => by kernel_rfl) rfl ?_
        intro vs wv hB hA
        have h8 : vs 8 = _ := hA.1
        clear hA
        simp only [fillP, List.setIfInBounds_toArray, List.set_cons_zero, List.set_cons_succ, h8]
        have c0 := (CT.out wv hB).1; have c1 := (CT.out wv hB).2; go_wp2_with fail
        refine postB_val ?_ (Below.refl _ _)
        simp only [List.getElem?_cons_succ, List.getElem?_cons_zero]
        rfl
      case s10 =>
        refine BStep.of [7, 9] [(77, 7), (79, 9)] (opV _) (by kernel_rfl) (fun _ _ => by kernel_rfl) rfl ?_
        intro vs wv hB hA
        have h7 : vs 7 = _ := hA.1
        have h9 : vs 9 = _ := hA.2.1
        clear hA
        simp only [fillP, List.setIfInBounds_toArray, List.set_cons_zero, List.set_cons_succ, h7, h9]
        have c0 := (CT.out wv hB).1; have c1 := (CT.out wv hB).2; go_wp2_with fail
        refine postB_val ?_ (Below.refl _ _)
        simp only [List.getElem?_cons_succ, List.getElem?_cons_zero]
        rfl
      case s11 =>
        refine BStep.of [4, 10] [(74, 4), (80, 10)] (opV _) (by kernel_rfl) (fun _ _ => by kernel_rfl) rfl ?_
        intro vs wv hB hA
        have h4 : vs 4 = _ := hA.1
        have h10 : vs 10 = _ := hA.2.1
        clear hA
        simp only [fillP, List.setIfInBounds_toArray, List.set_cons_zero, List.set_cons_succ, h4, h10]
        have c0 := (CT.out wv hB).1; have c1 := (CT.out wv hB).2; go_wp2_with fail
        refine postB_val ?_ (Below.refl _ _)
        simp only [List.getElem?_cons_succ, List.getElem?_cons_zero]
        rfl
      case s12 =>
        refine BStep.of [11] [(81, 11)] (opV _) (by kernel_rfl) (fun _ _ => by kernel_rfl) rfl ?_
        intro vs wv hB hA
        have h11 : vs 11 = _ := hA.1
        clear hA
        simp only [fillP, List.setIfInBounds_toArray, List.set_cons_zero, List.set_cons_succ, h11]
        have c0 := (CT.out wv hB).1; have c1 := (CT.out wv hB).2; go_wp2_with fail
        refine postB_val ?_ (Below.refl _ _)
        simp only [List.getElem?_cons_succ, List.getElem?_cons_zero]
        rfl
      case s13 =>
        refine BStep.of [11] [(81, 11)] (opV _) (by kernel_rfl) (fun _ _ => by kernel_rfl) rfl ?_
        intro vs wv hB hA
        have h11 : vs 11 = _ := hA.1
        clear hA
        simp only [fillP, List.setIfInBounds_toArray, List.set_cons_zero, List.set_cons_succ, h11]
        have c0 := (CT.out wv hB).1; have c1 := (CT.out wv hB).2; go_wp2_with fail
        refine postB_val ?_ (Below.refl _ _)
        simp only [List.getElem?_cons_succ, List.getElem?_cons_zero]
        rfl
      case s14 =>
        refine BStep.of [11, 13] [(81, 11), (83, 13)] (opV _) (by kernel_rfl) (fun _ _ => by kernel_rfl) rfl ?_
        intro vs wv hB hA
        have h11 : vs 11 = _ := hA.1
        have h13 : vs 13 = _ := hA.2.1
        clear hA
        simp only [fillP, List.setIfInBounds_toArray, List.set_cons_zero, List.set_cons_succ, h11, h13]
        have c0 := (CT.out wv hB).1; have c1 := (CT.out wv hB).2; go_wp2_with fail
        refine postB_val ?_ (Below.refl _ _)
        simp only [List.getElem?_cons_succ, List.getElem?_cons_zero]
        rfl
      case s15 =>
        refine BStep.of [11, 12, 14] [(81, 11), (82, 12), (84, 14)] (opV _) (by kernel_rfl) (fun _ _ => by kernel_rfl) rfl ?_
        intro vs wv hB hA
        have h11 : vs 11 = _ := hA.1
        have h12 : vs 12 = _ := hA.2.1
        have h14 : vs 14 = _ := hA.2.2.1
        clear hA
        simp only [fillP, List.setIfInBounds_toArray, List.set_cons_zero, List.set_cons_succ, h11, h12, h14]
        have c0 := (CT.out wv hB).1; have c1 := (CT.out wv hB).2; go_wp2_with fail
        refine postB_val ?_ (Below.refl _ _)
        simp only [List.getElem?_cons_succ, List.getElem?_cons_zero]
        rfl
      case s16 =>
        refine BStep.of [11, 15] [(81, 11), (85, 15)] (opV _) (by kernel_rfl) (fun _ _ => by kernel_rfl) rfl ?_
        intro vs wv hB hA
        have h11 : vs 11 = _ := hA.1
        have h15 : vs 15 = _ := hA.2.1
        clear hA
        simp only [fillP, List.setIfInBounds_toArray, List.set_cons_zero, List.set_cons_succ, h11, h15]
        have c0 := (CT.out wv hB).1; have c1 := (CT.out wv hB).2; go_wp2_with fail
        refine postB_val ?_ (Below.refl _ _)
        simp only [List.getElem?_cons_succ, List.getElem?_cons_zero]
        rfl
      case s17 =>
        refine BStep.of [6, 16] [(76, 6), (86, 16)] (opV _) (by kernel_rfl) (fun _ _ => by kernel_rfl) rfl ?_
        intro vs wv hB hA
        have h6 : vs 6 = _ := hA.1
        have h16 : vs 16 = _ := hA.2.1
        clear hA
        simp only [fillP, List.setIfInBounds_toArray, List.set_cons_zero, List.set_cons_succ, h6, h16]
        have c0 := (CT.out wv hB).1; have c1 := (CT.out wv hB).2; go_wp2_with fail
        refine postB_val ?_ (Below.refl _ _)
        simp only [List.getElem?_cons_succ, List.getElem?_cons_zero]
        rfl
      case s18 =>
        refine BStep.of [0, 1, 2, 3, 4, 5, 6, 7, 8, 9, 10, 11, 12, 13, 14, 15, 16, 17] [(70, 0), (71, 1), (72, 2), (73, 3), (74, 4), (75, 5), (76, 6), (77, 7), (78, 8), (79, 9), (80, 10), (81, 11), (82, 12), (83, 13), (84, 14), (85, 15), (86, 16), (87, 17)] (opV _) (by kernel_rfl) (fun _ _ => by kernel_rfl) rfl ?_
        intro vs wv hB hA
        have h0 : vs 0 = _ := hA.1
        have h1 : vs 1 = _ := hA.2.1
        have h2 : vs 2 = _ := hA.2.2.1
        have h3 : MgIn wv (vs 3) [(a1, a2), (o1, o2)] := hA.2.2.2.1
        have h4 : vs 4 = _ := hA.2.2.2.2.1
        have h5 : vs 5 = _ := hA.2.2.2.2.2.1
        have h6 : vs 6 = _ := hA.2.2.2.2.2.2.1
        have h7 : vs 7 = _ := hA.2.2.2.2.2.2.2.1
        have h8 : vs 8 = _ := hA.2.2.2.2.2.2.2.2.1
        have h9 : vs 9 = _ := hA.2.2.2.2.2.2.2.2.2.1
        have h10 : vs 10 = _ := hA.2.2.2.2.2.2.2.2.2.2.1
        have h11 : vs 11 = _ := hA.2.2.2.2.2.2.2.2.2.2.2.1
        have h12 : vs 12 = _ := hA.2.2.2.2.2.2.2.2.2.2.2.2.1
        have h13 : vs 13 = _ := hA.2.2.2.2.2.2.2.2.2.2.2.2.2.1
        have h14 : vs 14 = _ := hA.2.2.2.2.2.2.2.2.2.2.2.2.2.2.1
        have h15 : vs 15 = _ := hA.2.2.2.2.2.2.2.2.2.2.2.2.2.2.2.1
        have h16 : vs 16 = _ := hA.2.2.2.2.2.2.2.2.2.2.2.2.2.2.2.2.1
        have h17 : vs 17 = _ := hA.2.2.2.2.2.2.2.2.2.2.2.2.2.2.2.2.2.1
        clear hA
        simp only [fillP, List.setIfInBounds_toArray, List.set_cons_zero, List.set_cons_succ, h0, h1, h2, h4, h5, h6, h7, h8, h9, h10, h11, h12, h13, h14, h15, h16, h17]
        have c0 := (CT.out wv hB).1; have c1 := (CT.out wv hB).2; go_wp2_with fail
        refine postB_val ?_ (Below.refl _ _)
        simp only [List.getElem?_cons_succ, List.getElem?_cons_zero]
        rfl
      case fin =>
        refine fin_of [0, 1, 2, 3, 4, 5, 6, 7, 8, 9, 10, 11, 12, 13, 14, 15, 16, 17, 18] [(70, 0), (71, 1), (72, 2), (73, 3), (74, 4), (75, 5), (76, 6), (77, 7), (78, 8), (79, 9), (80, 10), (81, 11), (82, 12), (83, 13), (84, 14), (85, 15), (86, 16), (87, 17), (6, 18)] (by kernel_rfl) (fun _ _ => by kernel_rfl) ?_
        intro vs wv hB hA
        have h0 : vs 0 = _ := hA.1
        have h1 : vs 1 = _ := hA.2.1
        have h2 : vs 2 = _ := hA.2.2.1
        have h3 : MgIn wv (vs 3) [(a1, a2), (o1, o2)] := hA.2.2.2.1
        have h4 : vs 4 = _ := hA.2.2.2.2.1
        have h5 : vs 5 = _ := hA.2.2.2.2.2.1
        have h6 : vs 6 = _ := hA.2.2.2.2.2.2.1
        have h7 : vs 7 = _ := hA.2.2.2.2.2.2.2.1
        have h8 : vs 8 = _ := hA.2.2.2.2.2.2.2.2.1
        have h9 : vs 9 = _ := hA.2.2.2.2.2.2.2.2.2.1
        have h10 : vs 10 = _ := hA.2.2.2.2.2.2.2.2.2.2.1
        have h11 : vs 11 = _ := hA.2.2.2.2.2.2.2.2.2.2.2.1
        have h12 : vs 12 = _ := hA.2.2.2.2.2.2.2.2.2.2.2.2.1
        have h13 : vs 13 = _ := hA.2.2.2.2.2.2.2.2.2.2.2.2.2.1
        have h14 : vs 14 = _ := hA.2.2.2.2.2.2.2.2.2.2.2.2.2.2.1
        have h15 : vs 15 = _ := hA.2.2.2.2.2.2.2.2.2.2.2.2.2.2.2.1
        have h16 : vs 16 = _ := hA.2.2.2.2.2.2.2.2.2.2.2.2.2.2.2.2.1
        have h17 : vs 17 = _ := hA.2.2.2.2.2.2.2.2.2.2.2.2.2.2.2.2.2.1
        have h18 : vs 18 = _ := hA.2.2.2.2.2.2.2.2.2.2.2.2.2.2.2.2.2.2.1
        clear hA
        simp only [fillP, List.setIfInBounds_toArray, List.set_cons_zero, List.set_cons_succ, h0, h1, h2, h4, h5, h6, h7, h8, h9, h10, h11, h12, h13, h14, h15, h16, h17, h18]
        go_wp2_with fail; go_ret; exact ⟨by first|rfl | simp, b_next Ba.out (b_next BX.out hB)⟩
    · rw [if_neg h1] at KJ3
      have d1 : decide (n ≤ a1) = true := decide_eq_true (by omega)
      by_cases h2 : n < a2
      · rw [if_pos h2] at KJ3
        have d2 : decide (a2 ≤ n) = false := decide_eq_false (by omega)
        have e1 : ((n : Int) == a2) = (!true) := by simp; omega
        clear h1 h2 g1 g2
        go_wp2_with fail
        refine' wp_region_below [opV _, opV _, opV (.agg #[.int .i64 o1, .int .i64 o2]), opM [(a1, a2), (o1, o2)], opV (.agg #[.int .i64 a1, .int .i64 n]), opV _, opV _, opV _, opV _, opV _, opV _, opV _, opV _, opV _, opV _, opV _, opV _, opV _, opV _] rfl (by kernel_rfl) ⟨?s0, ?s1, ?s2, ?s3, ?s4, ?s5, ?s6, ?s7, ?s8, ?s9, ?s10, ?s11, ?s12, ?s13, ?s14, ?s15, ?s16, ?s17, ?s18, trivial⟩ ?fin
        case s0 =>
          refine BStep.of [] [] (opV _) (by kernel_rfl) (fun _ _ => by kernel_rfl) rfl ?_
          intro vs wv hB hA
          clear hA
          simp only [fillP]
          have c0 := (CT.out wv hB).1; have c1 := (CT.out wv hB).2; go_wp2_with fail
          refine postB_val ?_ (Below.refl _ _)
          simp only [List.getElem?_cons_succ, List.getElem?_cons_zero]
          rfl
        case s1 =>
          refine BStep.of [] [] (opV _) (by kernel_rfl) (fun _ _ => by kernel_rfl) rfl ?_
          intro vs wv hB hA
          clear hA
          simp only [fillP]
          have c0 := (CT.out wv hB).1; have c1 := (CT.out wv hB).2; go_wp2_with fail
          refine postB_val ?_ (Below.refl _ _)
          simp only [List.getElem?_cons_succ, List.getElem?_cons_zero]
          rfl
        case s2 =>
          refine BStep.of [1] [(71, 1)] (opV (.agg #[.int .i64 o1, .int .i64 o2])) (by kernel_rfl) (fun _ _ => by kernel_rfl) rfl ?_
          intro vs wv hB hA
          have h1 : vs 1 = _ := hA.1
          clear hA
          simp only [fillP, List.setIfInBounds_toArray, List.set_cons_zero, List.set_cons_succ, h1]
          (go_wp2_with (go_at_call 12; (with_reducible refine (KO.out _).mono ?_); rintro e w7 ⟨rfl, hb⟩)); exact postB_val rfl hb
        case s3 =>
          refine BStep.of [0, 2] [(70, 0), (72, 2)] (opM [(a1, a2), (o1, o2)]) (by kernel_rfl) (fun _ _ => by kernel_rfl) rfl ?_
          intro vs wv hB hA
          have h0 : vs 0 = _ := hA.1
          have h2 : vs 2 = _ := hA.2.1
          clear hA
          simp only [fillP, List.setIfInBounds_toArray, List.set_cons_zero, List.set_cons_succ, h0, h2]
          go_wp2_with fail; exact postB_R rfl (new_two wv (a1, a2) (o1, o2)) ((Below.refl _ _).alloc (Nat.le_refl _) _)
        case s4 =>
          refine BStep.of [2, 3] [(72, 2), (73, 3)] (opV (.agg #[.int .i64 a1, .int .i64 n])) (by kernel_rfl) (fun _ _ => by kernel_rfl) rfl ?_
          intro vs wv hB hA
          have h2 : vs 2 = _ := hA.1
          have h3 : MgIn wv (vs 3) [(a1, a2), (o1, o2)] := hA.2.1
          clear hA
          simp only [fillP, List.setIfInBounds_toArray, List.set_cons_zero, List.set_cons_succ, h2]
          (go_wp2_with (go_at_call 8; (with_reducible refine (KJ3.out _ _ h3).mono ?_); rintro e w7 ⟨rfl, hb⟩)); exact postB_val rfl hb
        case s5 =>
          refine BStep.of [] [] (opV _) (by kernel_rfl) (fun _ _ => by kernel_rfl) rfl ?_
          intro vs wv hB hA
          clear hA
          simp only [fillP]
          have c0 := (CT.out wv hB).1; have c1 := (CT.out wv hB).2; go_wp2_with fail
          refine postB_val ?_ (Below.refl _ _)
          simp only [List.getElem?_cons_succ, List.getElem?_cons_zero]
          rfl
        case s6 =>
          refine BStep.of [4, 5] [(74, 4), (75, 5)] (opV _) (by kernel_rfl) (fun _ _ => by kernel_rfl) rfl ?_
          intro vs wv hB hA
          have h4 : vs 4 = _ := hA.1
          have h5 : vs 5 = _ := hA.2.1
          clear hA
          simp only [fillP, List.setIfInBounds_toArray, List.set_cons_zero, List.set_cons_succ, h4, h5]
          have c0 := (CT.out wv hB).1; have c1 := (CT.out wv hB).2; go_wp2_with fail
          refine postB_val ?_ (Below.refl _ _)
          simp only [List.getElem?_cons_succ, List.getElem?_cons_zero]
          rfl
        case s7 =>
          refine BStep.of [] [] (opV _) (by kernel_rfl) (fun _ _ => by kernel_rfl) rfl ?_
          intro vs wv hB hA
          clear hA
          simp only [fillP]
          have c0 := (CT.out wv hB).1; have c1 := (CT.out wv hB).2; go_wp2_with fail
          refine postB_val ?_ (Below.refl _ _)
          simp only [List.getElem?_cons_succ, List.getElem?_cons_zero]
          rfl
        case s8 =>
          refine BStep.of [] [] (opV _) (by kernel_rfl) (fun _ _ => by kernel_rfl) rfl ?_
          intro vs wv hB hA
          clear hA
          simp only [fillP]
          have c0 := (CT.out wv hB).1; have c1 := (CT.out wv hB).2; go_wp2_with fail
          refine postB_val ?_ (Below.refl _ _)
          simp only [List.getElem?_cons_succ, List.getElem?_cons_zero]
          rfl
        case s9 =>
          refine BStep.of [8] [(78, 8)] (opV _) (by kernel_rfl) (fun _ _ => by kernel_rfl) rfl ?_
          intro vs wv hB hA
          have h8 : vs 8 = _ := hA.1
          clear hA
          simp only [fillP, List.setIfInBounds_toArray, List.set_cons_zero, List.set_cons_succ, h8]
          have c0 := (CT.out wv hB).1; have c1 := (CT.out wv hB).2; go_wp2_with fail
          refine postB_val ?_ (Below.refl _ _)
          simp only [List.getElem?_cons_succ, List.getElem?_cons_zero]
          rfl
        case s10 =>
          refine BStep.of [7, 9] [(77, 7), (79, 9)] (opV _) (by kernel_rfl) (fun _ _ => by kernel_rfl) rfl ?_
          intro vs wv hB hA
          have h7 : vs 7 = _ := hA.1
          have h9 : vs 9 = _ := hA.2.1
          clear hA
          simp only [fillP, List.setIfInBounds_toArray, List.set_cons_zero, List.set_cons_succ, h7, h9]
          have c0 := (CT.out wv hB).1; have c1 := (CT.out wv hB).2; go_wp2_with fail
          refine postB_val ?_ (Below.refl _ _)
          simp only [List.getElem?_cons_succ, List.getElem?_cons_zero]
          rfl
        case s11 =>
          refine BStep.of [4, 10] [(74, 4), (80, 10)] (opV _) (by kernel_rfl) (fun _ _ => by kernel_rfl) rfl ?_
          intro vs wv hB hA
          have h4 : vs 4 = _ := hA.1
          have h10 : vs 10 = _ := hA.2.1
          clear hA
          simp only [fillP, List.setIfInBounds_toArray, List.set_cons_zero, List.set_cons_succ, h4, h10]
          have c0 := (CT.out wv hB).1; have c1 := (CT.out wv hB).2; go_wp2_with fail
          refine postB_val ?_ (Below.refl _ _)
          simp only [List.getElem?_cons_succ, List.getElem?_cons_zero]
          rfl
        case s12 =>
          refine BStep.of [11] [(81, 11)] (opV _) (by kernel_rfl) (fun _ _ => by kernel_rfl) rfl ?_
          intro vs wv hB hA
          have h11 : vs 11 = _ := hA.1
          clear hA
          simp only [fillP, List.setIfInBounds_toArray, List.set_cons_zero, List.set_cons_succ, h11]
          have c0 := (CT.out wv hB).1; have c1 := (CT.out wv hB).2; go_wp2_with fail
          refine postB_val ?_ (Below.refl _ _)
          simp only [List.getElem?_cons_succ, List.getElem?_cons_zero]
          rfl
        case s13 =>
          refine BStep.of [11] [(81, 11)] (opV _) (by kernel_rfl) (fun _ _ => by kernel_rfl) rfl ?_
          intro vs wv hB hA
          have h11 : vs 11 = _ := hA.1
          clear hA
          simp only [fillP, List.setIfInBounds_toArray, List.set_cons_zero, List.set_cons_succ, h11]
          have c0 := (CT.out wv hB).1; have c1 := (CT.out wv hB).2; go_wp2_with fail
          refine postB_val ?_ (Below.refl _ _)
          simp only [List.getElem?_cons_succ, List.getElem?_cons_zero]
          rfl
        case s14 =>
          refine BStep.of [11, 13] [(81, 11), (83, 13)] (opV _) (by kernel_rfl) (fun _ _ => by kernel_rfl) rfl ?_
          intro vs wv hB hA
          have h11 : vs 11 = _ := hA.1
          have h13 : vs 13 = _ := hA.2.1
          clear hA
          simp only [fillP, List.setIfInBounds_toArray, List.set_cons_zero, List.set_cons_succ, h11, h13]
          have c0 := (CT.out wv hB).1; have c1 := (CT.out wv hB).2; go_wp2_with fail
          refine postB_val ?_ (Below.refl _ _)
          simp only [List.getElem?_cons_succ, List.getElem?_cons_zero]
          rfl
        case s15 =>
          refine BStep.of [11, 12, 14] [(81, 11), (82, 12), (84, 14)] (opV _) (by kernel_rfl) (fun _ _ => by kernel_rfl) rfl ?_
          intro vs wv hB hA
          have h11 : vs 11 = _ := hA.1
          have h12 : vs 12 = _ := hA.2.1
          have h14 : vs 14 = _ := hA.2.2.1
          clear hA
          simp only [fillP, List.setIfInBounds_toArray, List.set_cons_zero, List.set_cons_succ, h11, h12, h14]
          have c0 := (CT.out wv hB).1; have c1 := (CT.out wv hB).2; go_wp2_with fail
          refine postB_val ?_ (Below.refl _ _)
          simp only [List.getElem?_cons_succ, List.getElem?_cons_zero]
          rfl
        case s16 =>
          refine BStep.of [11, 15] [(81, 11), (85, 15)] (opV _) (by kernel_rfl) (fun _ _ => by kernel_rfl) rfl ?_
          intro vs wv hB hA
          have h11 : vs 11 = _ := hA.1
          have h15 : vs 15 = _ := hA.2.1
          clear hA
          simp only [fillP, List.setIfInBounds_toArray, List.set_cons_zero, List.set_cons_succ, h11, h15]
          have c0 := (CT.out wv hB).1; have c1 := (CT.out wv hB).2; go_wp2_with fail
          refine postB_val ?_ (Below.refl _ _)
          simp only [List.getElem?_cons_succ, List.getElem?_cons_zero]
          rfl
        case s17 =>
          refine BStep.of [6, 16] [(76, 6), (86, 16)] (opV _) (by kernel_rfl) (fun _ _ => by kernel_rfl) rfl ?_
          intro vs wv hB hA
          have h6 : vs 6 = _ := hA.1
          have h16 : vs 16 = _ := hA.2.1
          clear hA
          simp only [fillP, List.setIfInBounds_toArray, List.set_cons_zero, List.set_cons_succ, h6, h16]
          have c0 := (CT.out wv hB).1; have c1 := (CT.out wv hB).2; go_wp2_with fail
          refine postB_val ?_ (Below.refl _ _)
          simp only [List.getElem?_cons_succ, List.getElem?_cons_zero]
          rfl
        case s18 =>
          refine BStep.of [0, 1, 2, 3, 4, 5, 6, 7, 8, 9, 10, 11, 12, 13, 14, 15, 16, 17] [(70, 0), (71, 1), (72, 2), (73, 3), (74, 4), (75, 5), (76, 6), (77, 7), (78, 8), (79, 9), (80, 10), (81, 11), (82, 12), (83, 13), (84, 14), (85, 15), (86, 16), (87, 17)] (opV _) (by kernel_rfl) (fun _ _ => by kernel_rfl) rfl ?_
          intro vs wv hB hA
          have h0 : vs 0 = _ := hA.1
          have h1 : vs 1 = _ := hA.2.1
          have h2 : vs 2 = _ := hA.2.2.1
          have h3 : MgIn wv (vs 3) [(a1, a2), (o1, o2)] := hA.2.2.2.1
          have h4 : vs 4 = _ := hA.2.2.2.2.1
          have h5 : vs 5 = _ := hA.2.2.2.2.2.1
          have h6 : vs 6 = _ := hA.2.2.2.2.2.2.1
          have h7 : vs 7 = _ := hA.2.2.2.2.2.2.2.1
          have h8 : vs 8 = _ := hA.2.2.2.2.2.2.2.2.1
          have h9 : vs 9 = _ := hA.2.2.2.2.2.2.2.2.2.1
          have h10 : vs 10 = _ := hA.2.2.2.2.2.2.2.2.2.2.1
          have h11 : vs 11 = _ := hA.2.2.2.2.2.2.2.2.2.2.2.1
          have h12 : vs 12 = _ := hA.2.2.2.2.2.2.2.2.2.2.2.2.1
          have h13 : vs 13 = _ := hA.2.2.2.2.2.2.2.2.2.2.2.2.2.1
          have h14 : vs 14 = _ := hA.2.2.2.2.2.2.2.2.2.2.2.2.2.2.1
          have h15 : vs 15 = _ := hA.2.2.2.2.2.2.2.2.2.2.2.2.2.2.2.1
          have h16 : vs 16 = _ := hA.2.2.2.2.2.2.2.2.2.2.2.2.2.2.2.2.1
          have h17 : vs 17 = _ := hA.2.2.2.2.2.2.2.2.2.2.2.2.2.2.2.2.2.1
          clear hA
          simp only [fillP, List.setIfInBounds_toArray, List.set_cons_zero, List.set_cons_succ, h0, h1, h2, h4, h5, h6, h7, h8, h9, h10, h11, h12, h13, h14, h15, h16, h17]
          have c0 := (CT.out wv hB).1; have c1 := (CT.out wv hB).2; go_wp2_with fail
          refine postB_val ?_ (Below.refl _ _)
          simp only [List.getElem?_cons_succ, List.getElem?_cons_zero]
          rfl
        case fin =>
          refine fin_of [0, 1, 2, 3, 4, 5, 6, 7, 8, 9, 10, 11, 12, 13, 14, 15, 16, 17, 18] [(70, 0), (71, 1), (72, 2), (73, 3), (74, 4), (75, 5), (76, 6), (77, 7), (78, 8), (79, 9), (80, 10), (81, 11), (82, 12), (83, 13), (84, 14), (85, 15), (86, 16), (87, 17), (6, 18)] (by kernel_rfl) (fun _ _ => by kernel_rfl) ?_
          intro vs wv hB hA
          have h0 : vs 0 = _ := hA.1
          have h1 : vs 1 = _ := hA.2.1
          have h2 : vs 2 = _ := hA.2.2.1
          have h3 : MgIn wv (vs 3) [(a1, a2), (o1, o2)] := hA.2.2.2.1
          have h4 : vs 4 = _ := hA.2.2.2.2.1
          have h5 : vs 5 = _ := hA.2.2.2.2.2.1
          have h6 : vs 6 = _ := hA.2.2.2.2.2.2.1
          have h7 : vs 7 = _ := hA.2.2.2.2.2.2.2.1
          have h8 : vs 8 = _ := hA.2.2.2.2.2.2.2.2.1
          have h9 : vs 9 = _ := hA.2.2.2.2.2.2.2.2.2.1
          have h10 : vs 10 = _ := hA.2.2.2.2.2.2.2.2.2.2.1
          have h11 : vs 11 = _ := hA.2.2.2.2.2.2.2.2.2.2.2.1
          have h12 : vs 12 = _ := hA.2.2.2.2.2.2.2.2.2.2.2.2.1
          have h13 : vs 13 = _ := hA.2.2.2.2.2.2.2.2.2.2.2.2.2.1
          have h14 : vs 14 = _ := hA.2.2.2.2.2.2.2.2.2.2.2.2.2.2.1
          have h15 : vs 15 = _ := hA.2.2.2.2.2.2.2.2.2.2.2.2.2.2.2.1
          have h16 : vs 16 = _ := hA.2.2.2.2.2.2.2.2.2.2.2.2.2.2.2.2.1
          have h17 : vs 17 = _ := hA.2.2.2.2.2.2.2.2.2.2.2.2.2.2.2.2.2.1
          have h18 : vs 18 = _ := hA.2.2.2.2.2.2.2.2.2.2.2.2.2.2.2.2.2.2.1
          clear hA
          simp only [fillP, List.setIfInBounds_toArray, List.set_cons_zero, List.set_cons_succ, h0, h1, h2, h4, h5, h6, h7, h8, h9, h10, h11, h12, h13, h14, h15, h16, h17, h18]
          go_wp2_with fail; go_ret; exact ⟨by first|rfl | simp, b_next Ba.out (b_next BX.out hB)⟩
      · rw [if_neg h2] at KJ3
        have d2 : decide (a2 ≤ n) = true := decide_eq_true (by omega)
        clear h1 h2 g1 g2
        go_wp2_with fail
        refine' wp_region_below [opV _, opV _, opV (.agg #[.int .i64 o1, .int .i64 o2]), opM [(a1, a2), (o1, o2)], opV (.agg #[.int .i64 a1, .int .i64 a2]), opV _, opV _, opV _, opV _, opV _, opV _, opV _, opV _, opV _, opV _, opV _, opV _, opV _, opV _] rfl (by kernel_rfl) ⟨?s0, ?s1, ?s2, ?s3, ?s4, ?s5, ?s6, ?s7, ?s8, ?s9, ?s10, ?s11, ?s12, ?s13, ?s14, ?s15, ?s16, ?s17, ?s18, trivial⟩ ?fin
        case s0 =>
          refine BStep.of [] [] (opV _) (by kernel_rfl) (fun _ _ => by kernel_rfl) rfl ?_
          intro vs wv hB hA
          clear hA
          simp only [fillP]
          have c0 := (CT.out wv hB).1; have c1 := (CT.out wv hB).2; go_wp2_with fail
          refine postB_val ?_ (Below.refl _ _)
          simp only [List.getElem?_cons_succ, List.getElem?_cons_zero]
          rfl
        case s1 =>
          refine BStep.of [] [] (opV _) (by kernel_rfl) (fun _ _ => by kernel_rfl) rfl ?_
          intro vs wv hB hA
          clear hA
          simp only [fillP]
          have c0 := (CT.out wv hB).1; have c1 := (CT.out wv hB).2; go_wp2_with fail
          refine postB_val ?_ (Below.refl _ _)
          simp only [List.getElem?_cons_succ, List.getElem?_cons_zero]
          rfl
        case s2 =>
          refine BStep.of [1] [(71, 1)] (opV (.agg #[.int .i64 o1, .int .i64 o2])) (by kernel_rfl) (fun _ _ => by kernel_rfl) rfl ?_
          intro vs wv hB hA
          have h1 : vs 1 = _ := hA.1
          clear hA
          simp only [fillP, List.setIfInBounds_toArray, List.set_cons_zero, List.set_cons_succ, h1]
          (go_wp2_with (go_at_call 12; (with_reducible refine (KO.out _).mono ?_); rintro e w7 ⟨rfl, hb⟩)); exact postB_val rfl hb
        case s3 =>
          refine BStep.of [0, 2] [(70, 0), (72, 2)] (opM [(a1, a2), (o1, o2)]) (by kernel_rfl) (fun _ _ => by kernel_rfl) rfl ?_
          intro vs wv hB hA
          have h0 : vs 0 = _ := hA.1
          have h2 : vs 2 = _ := hA.2.1
          clear hA
          simp only [fillP, List.setIfInBounds_toArray, List.set_cons_zero, List.set_cons_succ, h0, h2]
          go_wp2_with fail; exact postB_R rfl (new_two wv (a1, a2) (o1, o2)) ((Below.refl _ _).alloc (Nat.le_refl _) _)
        case s4 =>
          refine BStep.of [2, 3] [(72, 2), (73, 3)] (opV (.agg #[.int .i64 a1, .int .i64 a2])) (by kernel_rfl) (fun _ _ => by kernel_rfl) rfl ?_
          intro vs wv hB hA
          have h2 : vs 2 = _ := hA.1
          have h3 : MgIn wv (vs 3) [(a1, a2), (o1, o2)] := hA.2.1
          clear hA
          simp only [fillP, List.setIfInBounds_toArray, List.set_cons_zero, List.set_cons_succ, h2]
          (go_wp2_with (go_at_call 8; (with_reducible refine (KJ3.out _ _ h3).mono ?_); rintro e w7 ⟨rfl, hb⟩)); exact postB_val rfl hb
        case s5 =>
          refine BStep.of [] [] (opV _) (by kernel_rfl) (fun _ _ => by kernel_rfl) rfl ?_
          intro vs wv hB hA
          clear hA
          simp only [fillP]
          have c0 := (CT.out wv hB).1; have c1 := (CT.out wv hB).2; go_wp2_with fail
          refine postB_val ?_ (Below.refl _ _)
          simp only [List.getElem?_cons_succ, List.getElem?_cons_zero]
          rfl
        case s6 =>
          refine BStep.of [4, 5] [(74, 4), (75, 5)] (opV _) (by kernel_rfl) (fun _ _ => by kernel_rfl) rfl ?_
          intro vs wv hB hA
          have h4 : vs 4 = _ := hA.1
          have h5 : vs 5 = _ := hA.2.1
          clear hA
          simp only [fillP, List.setIfInBounds_toArray, List.set_cons_zero, List.set_cons_succ, h4, h5]
          have c0 := (CT.out wv hB).1; have c1 := (CT.out wv hB).2; go_wp2_with fail
          refine postB_val ?_ (Below.refl _ _)
          simp only [List.getElem?_cons_succ, List.getElem?_cons_zero]
          rfl
        case s7 =>
          refine BStep.of [] [] (opV _) (by kernel_rfl) (fun _ _ => by kernel_rfl) rfl ?_
          intro vs wv hB hA
          clear hA
          simp only [fillP]
          have c0 := (CT.out wv hB).1; have c1 := (CT.out wv hB).2; go_wp2_with fail
          refine postB_val ?_ (Below.refl _ _)
          simp only [List.getElem?_cons_succ, List.getElem?_cons_zero]
          rfl
        case s8 =>
          refine BStep.of [] [] (opV _) (by kernel_rfl) (fun _ _ => by kernel_rfl) rfl ?_
          intro vs wv hB hA
          clear hA
          simp only [fillP]
          have c0 := (CT.out wv hB).1; have c1 := (CT.out wv hB).2; go_wp2_with fail
          refine postB_val ?_ (Below.refl _ _)
          simp only [List.getElem?_cons_succ, List.getElem?_cons_zero]
          rfl
        case s9 =>
          refine BStep.of [8] [(78, 8)] (opV _) (by kernel_rfl) (fun _ _ => by kernel_rfl) rfl ?_
          intro vs wv hB hA
          have h8 : vs 8 = _ := hA.1
          clear hA
          simp only [fillP, List.setIfInBounds_toArray, List.set_cons_zero, List.set_cons_succ, h8]
          have c0 := (CT.out wv hB).1; have c1 := (CT.out wv hB).2; go_wp2_with fail
          refine postB_val ?_ (Below.refl _ _)
          simp only [List.getElem?_cons_succ, List.getElem?_cons_zero]
          rfl
        case s10 =>
          refine BStep.of [7, 9] [(77, 7), (79, 9)] (opV _) (by kernel_rfl) (fun _ _ => by kernel_rfl) rfl ?_
          intro vs wv hB hA
          have h7 : vs 7 = _ := hA.1
          have h9 : vs 9 = _ := hA.2.1
          clear hA
          simp only [fillP, List.setIfInBounds_toArray, List.set_cons_zero, List.set_cons_succ, h7, h9]
          have c0 := (CT.out wv hB).1; have c1 := (CT.out wv hB).2; go_wp2_with fail
          refine postB_val ?_ (Below.refl _ _)
          simp only [List.getElem?_cons_succ, List.getElem?_cons_zero]
          rfl
        case s11 =>
          refine BStep.of [4, 10] [(74, 4), (80, 10)] (opV _) (by kernel_rfl) (fun _ _ => by kernel_rfl) rfl ?_
          intro vs wv hB hA
          have h4 : vs 4 = _ := hA.1
          have h10 : vs 10 = _ := hA.2.1
          clear hA
          simp only [fillP, List.setIfInBounds_toArray, List.set_cons_zero, List.set_cons_succ, h4, h10]
          have c0 := (CT.out wv hB).1; have c1 := (CT.out wv hB).2; go_wp2_with fail
          refine postB_val ?_ (Below.refl _ _)
          simp only [List.getElem?_cons_succ, List.getElem?_cons_zero]
          rfl
        case s12 =>
          refine BStep.of [11] [(81, 11)] (opV _) (by kernel_rfl) (fun _ _ => by kernel_rfl) rfl ?_
          intro vs wv hB hA
          have h11 : vs 11 = _ := hA.1
          clear hA
          simp only [fillP, List.setIfInBounds_toArray, List.set_cons_zero, List.set_cons_succ, h11]
          have c0 := (CT.out wv hB).1; have c1 := (CT.out wv hB).2; go_wp2_with fail
          refine postB_val ?_ (Below.refl _ _)
          simp only [List.getElem?_cons_succ, List.getElem?_cons_zero]
          rfl
        case s13 =>
          refine BStep.of [11] [(81, 11)] (opV _) (by kernel_rfl) (fun _ _ => by kernel_rfl) rfl ?_
          intro vs wv hB hA
          have h11 : vs 11 = _ := hA.1
          clear hA
          simp only [fillP, List.setIfInBounds_toArray, List.set_cons_zero, List.set_cons_succ, h11]
          have c0 := (CT.out wv hB).1; have c1 := (CT.out wv hB).2; go_wp2_with fail
          refine postB_val ?_ (Below.refl _ _)
          simp only [List.getElem?_cons_succ, List.getElem?_cons_zero]
          rfl
        case s14 =>
          refine BStep.of [11, 13] [(81, 11), (83, 13)] (opV _) (by kernel_rfl) (fun _ _ => by kernel_rfl) rfl ?_
          intro vs wv hB hA
          have h11 : vs 11 = _ := hA.1
          have h13 : vs 13 = _ := hA.2.1
          clear hA
          simp only [fillP, List.setIfInBounds_toArray, List.set_cons_zero, List.set_cons_succ, h11, h13]
          have c0 := (CT.out wv hB).1; have c1 := (CT.out wv hB).2; go_wp2_with fail
          refine postB_val ?_ (Below.refl _ _)
          simp only [List.getElem?_cons_succ, List.getElem?_cons_zero]
          rfl
        case s15 =>
          refine BStep.of [11, 12, 14] [(81, 11), (82, 12), (84, 14)] (opV _) (by kernel_rfl) (fun _ _ => by kernel_rfl) rfl ?_
          intro vs wv hB hA
          have h11 : vs 11 = _ := hA.1
          have h12 : vs 12 = _ := hA.2.1
          have h14 : vs 14 = _ := hA.2.2.1
          clear hA
          simp only [fillP, List.setIfInBounds_toArray, List.set_cons_zero, List.set_cons_succ, h11, h12, h14]
          have c0 := (CT.out wv hB).1; have c1 := (CT.out wv hB).2; go_wp2_with fail
          refine postB_val ?_ (Below.refl _ _)
          simp only [List.getElem?_cons_succ, List.getElem?_cons_zero]
          rfl
        case s16 =>
          refine BStep.of [11, 15] [(81, 11), (85, 15)] (opV _) (by kernel_rfl) (fun _ _ => by kernel_rfl) rfl ?_
          intro vs wv hB hA
          have h11 : vs 11 = _ := hA.1
          have h15 : vs 15 = _ := hA.2.1
          clear hA
          simp only [fillP, List.setIfInBounds_toArray, List.set_cons_zero, List.set_cons_succ, h11, h15]
          have c0 := (CT.out wv hB).1; have c1 := (CT.out wv hB).2; go_wp2_with fail
          refine postB_val ?_ (Below.refl _ _)
          simp only [List.getElem?_cons_succ, List.getElem?_cons_zero]
          rfl
        case s17 =>
          refine BStep.of [6, 16] [(76, 6), (86, 16)] (opV _) (by kernel_rfl) (fun _ _ => by kernel_rfl) rfl ?_
          intro vs wv hB hA
          have h6 : vs 6 = _ := hA.1
          have h16 : vs 16 = _ := hA.2.1
          clear hA
          simp only [fillP, List.setIfInBounds_toArray, List.set_cons_zero, List.set_cons_succ, h6, h16]
          have c0 := (CT.out wv hB).1; have c1 := (CT.out wv hB).2; go_wp2_with fail
          refine postB_val ?_ (Below.refl _ _)
          simp only [List.getElem?_cons_succ, List.getElem?_cons_zero]
          rfl
        case s18 =>
          refine BStep.of [0, 1, 2, 3, 4, 5, 6, 7, 8, 9, 10, 11, 12, 13, 14, 15, 16, 17] [(70, 0), (71, 1), (72, 2), (73, 3), (74, 4), (75, 5), (76, 6), (77, 7), (78, 8), (79, 9), (80, 10), (81, 11), (82, 12), (83, 13), (84, 14), (85, 15), (86, 16), (87, 17)] (opV _) (by kernel_rfl) (fun _ _ => by kernel_rfl) rfl ?_
          intro vs wv hB hA
          have h0 : vs 0 = _ := hA.1
          have h1 : vs 1 = _ := hA.2.1
          have h2 : vs 2 = _ := hA.2.2.1
          have h3 : MgIn wv (vs 3) [(a1, a2), (o1, o2)] := hA.2.2.2.1
          have h4 : vs 4 = _ := hA.2.2.2.2.1
          have h5 : vs 5 = _ := hA.2.2.2.2.2.1
          have h6 : vs 6 = _ := hA.2.2.2.2.2.2.1
          have h7 : vs 7 = _ := hA.2.2.2.2.2.2.2.1
          have h8 : vs 8 = _ := hA.2.2.2.2.2.2.2.2.1
          have h9 : vs 9 = _ := hA.2.2.2.2.2.2.2.2.2.1
          have h10 : vs 10 = _ := hA.2.2.2.2.2.2.2.2.2.2.1
          have h11 : vs 11 = _ := hA.2.2.2.2.2.2.2.2.2.2.2.1
          have h12 : vs 12 = _ := hA.2.2.2.2.2.2.2.2.2.2.2.2.1
          have h13 : vs 13 = _ := hA.2.2.2.2.2.2.2.2.2.2.2.2.2.1
          have h14 : vs 14 = _ := hA.2.2.2.2.2.2.2.2.2.2.2.2.2.2.1
          have h15 : vs 15 = _ := hA.2.2.2.2.2.2.2.2.2.2.2.2.2.2.2.1
          have h16 : vs 16 = _ := hA.2.2.2.2.2.2.2.2.2.2.2.2.2.2.2.2.1
          have h17 : vs 17 = _ := hA.2.2.2.2.2.2.2.2.2.2.2.2.2.2.2.2.2.1
          clear hA
          simp only [fillP, List.setIfInBounds_toArray, List.set_cons_zero, List.set_cons_succ, h0, h1, h2, h4, h5, h6, h7, h8, h9, h10, h11, h12, h13, h14, h15, h16, h17]
          have c0 := (CT.out wv hB).1; have c1 := (CT.out wv hB).2; go_wp2_with fail
          refine postB_val ?_ (Below.refl _ _)
          simp only [List.getElem?_cons_succ, List.getElem?_cons_zero]
          rfl
        case fin =>
          refine fin_of [0, 1, 2, 3, 4, 5, 6, 7, 8, 9, 10, 11, 12, 13, 14, 15, 16, 17, 18] [(70, 0), (71, 1), (72, 2), (73, 3), (74, 4), (75, 5), (76, 6), (77, 7), (78, 8), (79, 9), (80, 10), (81, 11), (82, 12), (83, 13), (84, 14), (85, 15), (86, 16), (87, 17), (6, 18)] (by kernel_rfl) (fun _ _ => by kernel_rfl) ?_
          intro vs wv hB hA
          have h0 : vs 0 = _ := hA.1
          have h1 : vs 1 = _ := hA.2.1
          have h2 : vs 2 = _ := hA.2.2.1
          have h3 : MgIn wv (vs 3) [(a1, a2), (o1, o2)] := hA.2.2.2.1
          have h4 : vs 4 = _ := hA.2.2.2.2.1
          have h5 : vs 5 = _ := hA.2.2.2.2.2.1
          have h6 : vs 6 = _ := hA.2.2.2.2.2.2.1
          have h7 : vs 7 = _ := hA.2.2.2.2.2.2.2.1
          have h8 : vs 8 = _ := hA.2.2.2.2.2.2.2.2.1
          have h9 : vs 9 = _ := hA.2.2.2.2.2.2.2.2.2.1
          have h10 : vs 10 = _ := hA.2.2.2.2.2.2.2.2.2.2.1
          have h11 : vs 11 = _ := hA.2.2.2.2.2.2.2.2.2.2.2.1
          have h12 : vs 12 = _ := hA.2.2.2.2.2.2.2.2.2.2.2.2.1
          have h13 : vs 13 = _ := hA.2.2.2.2.2.2.2.2.2.2.2.2.2.1
          have h14 : vs 14 = _ := hA.2.2.2.2.2.2.2.2.2.2.2.2.2.2.1
          have h15 : vs 15 = _ := hA.2.2.2.2.2.2.2.2.2.2.2.2.2.2.2.1
          have h16 : vs 16 = _ := hA.2.2.2.2.2.2.2.2.2.2.2.2.2.2.2.2.1
          have h17 : vs 17 = _ := hA.2.2.2.2.2.2.2.2.2.2.2.2.2.2.2.2.2.1
          have h18 : vs 18 = _ := hA.2.2.2.2.2.2.2.2.2.2.2.2.2.2.2.2.2.2.1
          clear hA
          simp only [fillP, List.setIfInBounds_toArray, List.set_cons_zero, List.set_cons_succ, h0, h1, h2, h4, h5, h6, h7, h8, h9, h10, h11, h12, h13, h14, h15, h16, h17, h18]
          go_wp2_with fail; go_ret; exact ⟨by first|rfl | simp, b_next Ba.out (b_next BX.out hB)⟩
end Go.Proofs.Ytjnfbnngpcnffaa
