/-
  The law MarginOrder: of any Join, May that answer as is asked.
-/
import Derived.Test.YtjnfbnngpcnffaaMoreW13
import Derived.Deep.LoopGhost
namespace Go.Proofs.Ytjnfbnngpcnffaa
open Go.RowKit

/-- the first so many, read from a place on -/
def rotM (l : List Mg) (f n k : Nat) : List Mg := (List.range k).map (fun i => mgAt l ((f + i) % n))
theorem rotM_len (l : List Mg) (f n k : Nat) : (rotM l f n k).length = k := by simp [rotM]
theorem rotM_succ (l : List Mg) (f n k : Nat) : rotM l f n (k + 1) = rotM l f n k ++ [mgAt l ((f + k) % n)] := by simp [rotM, List.range_succ]
theorem rotM_all {l : List Mg} {f : Nat} (hf : f < l.length) : rotM l f l.length l.length = l.drop f ++ l.take f := by
  refine List.ext_getElem (by simp [rotM_len]; omega) fun i h1 h2 => ?_
  rw [rotM_len] at h1
  have e : (rotM l f l.length l.length)[i]'(by rw [rotM_len]; exact h1) = mgAt l ((f + i) % l.length) := by simp [rotM]
  rw [e, mgAt_get (Nat.mod_lt _ (by omega))]
  by_cases h : f + i < l.length
  · have e2 : (f + i) % l.length = f + i := Nat.mod_eq_of_lt h
    rw [List.getElem_append_left (by rw [List.length_drop]; omega)]
    simp only [e2, List.getElem_drop]
  · have e2 : (f + i) % l.length = f + i - l.length := by rw [Nat.mod_eq_sub_mod (by omega), Nat.mod_eq_of_lt (by omega)]
    rw [List.getElem_append_right (by rw [List.length_drop]; omega)]
    simp only [e2, List.getElem_take, List.length_drop]
    congr 1
    omega
theorem all_may {l : List Mg} (h : ∀ i, i < l.length → MayM (mgAt l i)) : ∀ x ∈ l, MayM x := fun x hx => by
  obtain ⟨i, hi, rfl⟩ := List.getElem_of_mem hx
  rw [← mgAt_get hi]
  exact h i hi
theorem at_mem {l : List Mg} {i : Nat} (h : i < l.length) : mgAt l i ∈ l := by rw [mgAt_get h]; exact List.getElem_mem h
theorem u64_nat (a : Int) : ∃ y : Nat, IntKind.u64.wrap a = (y : Int) := by
  refine ⟨(IntKind.u64.wrap a).toNat, ?_⟩
  have : 0 ≤ IntKind.u64.wrap a := by
    unfold IntKind.wrap
    have h1 : IntKind.u64.signed = false := by decide
    rw [h1]
    simp only [Bool.false_and, Bool.false_eq_true, if_false]
    exact Int.emod_nonneg _ (by decide)
  omega

set_option maxRecDepth 100000 in
set_option maxHeartbeats 8000000 in
theorem order13 (hJ : JoinOK 8) (hM : MayOK13 10) (hA : AwakeOK13 16) (A : Option Addr) (n c : Nat) (l : List Mg) (a1 a2 : Int) (w : World) (hv : MgIn w (.slice A n c) l) (hl : l.length = n) :
    Calls Try.prog 4 #[.slice A n c, .int .i64 a1, .int .i64 a2] w fun e w' => e = .returned (.bool true) ∧ Below w.heap.size w w' := by
  have KA := Lib.hid (fun W => hA W)
  have HV := Lib.hid hv
  have HL := Lib.hid hl
  clear hv hA
  by_cases hn : n = 0 ∨ 500 < n
  · have KJ := Lib.hid (fun W => hJ [] (.slice none 0 0) W (MgIn.nil W) (by simp))
    have e0 : joinM [] = (0, 0) := rfl
    rw [e0] at KJ
    unfold mgV at KJ
    dsimp only at KJ
    have n1 : (((n : Int) == 0) = true) ∨ (((n : Int) == 0) = false ∧ decide ((500 : Int) < n) = true) := by
      rcases hn with h | h
      · exact .inl (by simp; omega)
      · exact .inr ⟨by simp; omega, by simp; omega⟩
    clear hn hJ hM hl e0
    rcases n1 with n1 | ⟨n1, n2⟩
    all_goals
      go_enter Try.func4, Try.ntmps4
      go_wp2_with (first
        | (go_at_call 16; (with_reducible refine (KA.out _).mono ?_); rintro e w1 ⟨rfl, hb⟩; have B1 := Lib.hid hb; clear hb)
        | (go_at_call 8; (with_reducible refine (KJ.out _).mono ?_); rintro e w2 ⟨rfl, hb⟩; have B2 := Lib.hid (b_next B1.out hb); clear hb))
      go_ret
      exact ⟨by first | rfl | simp, B2.out⟩
  · obtain ⟨y1, hy1⟩ := u64_nat a1
    obtain ⟨y2, hy2⟩ := u64_nat a2
    have n0 : ((n : Int) == 0) = false := by simp; omega
    have n2 : decide ((500 : Int) < n) = false := decide_eq_false (by omega)
    have hnz : (n : Int) ≠ 0 := by omega
    obtain ⟨f, hf⟩ : ∃ f, y1 % n = f := ⟨_, rfl⟩
    obtain ⟨q, hq⟩ : ∃ q, y2 % n = q := ⟨_, rfl⟩
    have hfn : f < n := by rw [← hf]; exact Nat.mod_lt _ (by omega)
    have hqn : q < n := by rw [← hq]; exact Nat.mod_lt _ (by omega)
    have hp1 : (y1 : Int) % n = (f : Int) := by rw [← hf]; simp
    have hp2 : (y2 : Int) % n = (q : Int) := by rw [← hq]; simp
    have hm1 : (y1 : Int).tmod n = (f : Int) := by rw [Int.tmod_eq_emod_of_nonneg (by omega)]; exact hp1
    have hm2 : (y2 : Int).tmod n = (q : Int) := by rw [Int.tmod_eq_emod_of_nonneg (by omega)]; exact hp2
    have w1 : IntKind.i64.wrap (f : Int) = f := IntWalk.i64_in _ (by omega)
    have w2 : IntKind.i64.wrap (q : Int) = q := IntWalk.i64_in _ (by omega)
    have w3 : IntKind.u64.wrap (n : Int) = n := IntWalk.u64_in _ (by omega)
    have hn2 : n ≤ 500 := by omega
    have hn1 : 0 < n := by omega
    clear hn hf hq
    go_enter Try.func4, Try.ntmps4
    go_upto_region 5 with (go_at_call 16; (with_reducible refine (KA.out _).mono ?_); rintro e w1 ⟨rfl, hb⟩; have B1 := Lib.hid hb; clear hb)
    go_quiet (fail)
    have C1 := Lib.hid (drewN_below w1 nq w1.heap.size)
    have B2 : Hid (Below w.heap.size w (w1.drewN nq)) := Lib.hid (b_next B1.out C1.out)
    generalize w1.drewN nq = w2 at B2 ⊢
    have V2 := Lib.hid (HV.out.keep (B2.out))
    have KM := Lib.hid (fun (a b : Int) (W : World) => hM (a, b) W)
    have KJ := Lib.hid (fun k v W (hW : MgIn W v k) (hk : k.length ≤ 100000) => hJ k v W hW hk)
    clear C1 B1 hy1 hy2 hm1 hm2 hp1 hp2 w3 hM hJ KA HV hl
    go_wp2_with fail
    go_loopg [7, 8] n (fun g1 vt vi wr => ∃ k : Nat, vi = .int .i64 k ∧ k ≤ n ∧ n - k ≤ g1 ∧ Hid (ownsM wr w2.heap.size vt (rotM l f n k)) ∧ Hid (Below w2.heap.size w2 wr) ∧ Hid (∀ i, i < k → MayM (mgAt l i)))
    case atStart => exact ⟨0, rfl, by omega, by omega, Lib.hid (ownsM.nil _ _), Lib.hid (Below.refl _ _), Lib.hid (fun i hi => absurd hi (by omega))⟩
    case round =>
      obtain ⟨k, rfl, hk, hg1, HO, HB, HF⟩ := hrel
      obtain ⟨wo, hwo⟩ : ∃ wo, wo = wr := ⟨_, rfl⟩
      subst hwo
      obtain ⟨b, off, c1, e, -, -⟩ := V2.out.get (i := f) (by have := HL.out; omega)
      injection e with e1 e2 e3
      subst e1 e3
      clear e2
      have hnc : n ≤ c := by
        obtain ⟨A', c', e, hc, -⟩ := V2.out
        injection e with e1 e2 e3
        have := HL.out
        omega
      by_cases hlt : k < n
      · have hz1 : (k : Int) < n := by omega
        have hz0 : (0 : Int) ≤ k := by omega
        have wi : IntKind.i64.wrap ((k : Int) + 1) = (k : Int) + 1 := IntWalk.i64_in _ (by omega)
        have ws : IntKind.i64.wrap ((f : Int) + k) = ((f + k : Nat) : Int) := by rw [IntWalk.i64_in _ (by omega)]; omega
        have hmn : (f + k) % n < n := Nat.mod_lt _ hn1
        have hz2 : ((f : Int) + k) % n < n := Int.emod_lt_of_pos _ (by omega)
        have hz3 : (0 : Int) ≤ ((f : Int) + k) % n := Int.emod_nonneg _ hnz
        have CS : Hid (∀ W, Below w2.heap.size w2 W → W.cell? ⟨b, off + k * 2, none⟩ = some (.int .i64 (mu l k)) ∧ W.cell? ⟨b, off + k * 2 + 1, none⟩ = some (.int .i64 (md l k)) ∧ W.cell? ⟨b, off + (f + k) % n * 2, none⟩ = some (.int .i64 (mu l ((f + k) % n))) ∧ W.cell? ⟨b, off + (f + k) % n * 2 + 1, none⟩ = some (.int .i64 (md l ((f + k) % n)))) := Lib.hid (fun W hW => by
          have h1 := (V2.out.keep hW).at_ (i := k) (by have := HL.out; omega)
          have h2 := (V2.out.keep hW).at_ (i := (f + k) % n) (by have := HL.out; omega)
          exact ⟨h1.1, h1.2, h2.1, h2.2⟩)
        have RS : Hid (rotM l f n (k + 1) = rotM l f n k ++ [(mu l ((f + k) % n), md l ((f + k) % n))]) := Lib.hid (by rw [rotM_succ]; rfl)
        have RL : Hid ((rotM l f n k).length ≤ 90000) := Lib.hid (by rw [rotM_len]; omega)
        have KM1 := Lib.hid (fun W => KM.out (mu l k) (md l k) W)
        have BZ := Lib.hid (B2.out.trans (HB.out.mono B2.out.size))
        have a0 := (CS.out wo HB.out).1
        have a1' := (CS.out wo HB.out).2.1
        by_cases hmay : MayM (mgAt l k)
        · rw [decide_eq_true (show MayM (mu l k, md l k) from hmay)] at KM1
          have FX : Hid (∀ i, i < k + 1 → MayM (mgAt l i)) := Lib.hid (fun i hi => by
            rcases Nat.lt_or_ge i k with h | h
            · exact HF.out i h
            · obtain rfl : i = k := by omega
              exact hmay)
          clear HF hmay
          generalize mu l k = z0 at CS KM1 a0
          generalize md l k = z1 at CS KM1 a1'
          generalize mu l ((f + k) % n) = x0 at CS RS
          generalize md l ((f + k) % n) = x1 at CS RS
          unfold mgV at KM1
          dsimp only at KM1
          go_wp2_with (first
            | (go_at_call 10; (with_reducible refine (KM1.out _).mono ?_); rintro e w4 ⟨rfl, hb⟩; have B4 := Lib.hid (HB.out.trans (hb.mono HB.out.size)); have O4 := Lib.hid (HO.out.keep hb); have d0 := (CS.out _ B4.out).2.2.1; have d1 := (CS.out _ B4.out).2.2.2; clear hb)
            | ((with_reducible change wpList _ _ _ (Oper.mk (some 60) _ _ _ _ _ :: _) _ _); refine wpList_append_mg rfl _ _ rfl w2.heap.size _ (rotM l f n k) rfl O4.out (x0, x1) _ rfl RL.out B4.out.size ?_; intro v5 w5 hO hB _; have O5 := Lib.hid hO; rw [← RS.out] at O5; have B5 := Lib.hid (B4.out.trans hB); clear hO hB))
          go_roundg (n - (k + 1))
          case measure => omega
          case rel => exact ⟨k + 1, by go_num, by omega, Nat.le_refl _, O5, B5, FX⟩
        · rw [decide_eq_false (show ¬ MayM (mu l k, md l k) from hmay)] at KM1
          clear HF hmay RS
          generalize mu l k = z0 at CS KM1 a0
          generalize md l k = z1 at CS KM1 a1'
          unfold mgV at KM1
          dsimp only at KM1
          go_wp2_with (go_at_call 10; (with_reducible refine (KM1.out _).mono ?_); rintro e w4 ⟨rfl, hb⟩; have B4 := Lib.hid (b_next BZ.out hb); clear hb)
          go_ret
          exact ⟨rfl, B4.out⟩
      · obtain rfl : k = n := by omega
        have hz1 : ¬ (k : Int) < k := by omega
        obtain rfl := HL.out
        have LM := all_may HF.out
        have VO := Lib.hid (V2.out.keep HB.out)
        have LL : Hid (l.length ≤ 500) := Lib.hid hn2
        have J0 := Lib.hid (fun W (hW : Below wo.heap.size wo W) => KJ.out l _ W (VO.out.keep hW) (by have := LL.out; omega))
        have OM := Lib.hid HO.out.mgs
        obtain ⟨At, ct, hvt, -, -⟩ := OM.out
        rw [rotM_len] at hvt
        subst hvt
        have J1 := Lib.hid (fun W (hW : Below wo.heap.size wo W) => KJ.out _ _ W (OM.out.keep hW) (by rw [rotM_len]; have := LL.out; omega))
        rw [rotM_all hfn, joinM_turned LM] at J1
        have J2 := Lib.hid (fun W (hW : Below wo.heap.size wo W) => KJ.out _ _ W ((VO.out.keep hW).take (k := q) (by omega)) (by rw [List.length_take]; have := LL.out; omega))
        have J3 := Lib.hid (fun W (hW : Below wo.heap.size wo W) => KJ.out _ _ W ((VO.out.keep hW).drop (k := q) (by omega)) (by rw [List.length_drop]; have := LL.out; omega))
        have E1 := joinM_cut LM q
        have E2 := joinM_mem LM (at_mem hfn)
        have KM1 := Lib.hid (fun W => KM.out (joinM l).1 (joinM l).2 W)
        rw [decide_eq_true (show MayM ((joinM l).1, (joinM l).2) from joinM_may LM)] at KM1
        have K2 := Lib.hid (fun x y W v (h : MgIn W v [x, y]) => KJ.out [x, y] v W h (by simp))
        have CF := (VO.out).at_ (i := f) hfn
        have CFV := Lib.hid (fun W (hW : Below wo.heap.size wo W) => (VO.out.keep hW).at_ (i := f) hfn)
        have BZ := Lib.hid (b_next B2.out HB.out)
        clear HO HB HF V2 KM KJ LM VO OM CF
        unfold mu md at CFV
        generalize mgAt l f = x at E2 CFV
        generalize joinM (l.take q) = t at E1 J2
        generalize joinM (l.drop q) = r at E1 J3
        generalize joinM l = p at J0 J1 E1 E2 KM1
        have KJ2 := Lib.hid (fun W v h => K2.out t r W v h)
        have KJ3 := Lib.hid (fun W v h => K2.out p p W v h)
        have KJ4 := Lib.hid (fun W v h => K2.out p x W v h)
        rw [joinM_two, E1] at KJ2
        rw [joinM_two, mjoin_self] at KJ3
        rw [joinM_two, E2] at KJ4
        obtain ⟨P, Q⟩ := p
        obtain ⟨t1, t2⟩ := t
        obtain ⟨r1, r2⟩ := r
        obtain ⟨x1, x2⟩ := x
        have KJr := J1
        have KJt := J2
        have KJd := J3
        clear J1 J2 J3 K2 E1 E2
        unfold mgV at J0 KJr KJt KJd KJ2 KJ3 KJ4 KM1
        dsimp only at J0 KJr KJt KJd KJ2 KJ3 KJ4 KM1 CFV
        generalize l.length = n at *
        clear HL LL
        go_upto_region 14 with (go_at_call 8; (with_reducible refine (J0.out _ (Below.refl _ _)).mono ?_); rintro e w3 ⟨rfl, hb⟩; have B3 := Lib.hid hb; clear hb)
        have C3 : Hid (Below w3.heap.size w3 (w3.alloc (.cells #[.int .i64 P, .int .i64 Q] 24))) := Lib.hid ((Below.refl _ _).alloc (Nat.le_refl _) _)
        have M3 : Hid (MgAt (w3.alloc (.cells #[.int .i64 P, .int .i64 Q] 24)) w3.heap.size (P, Q)) := Lib.hid (MgAt.new w3 (P, Q))
        have B4 := Lib.hid (b_next B3.out C3.out)
        clear C3 B3 J0
        generalize w3.alloc (.cells #[.int .i64 P, .int .i64 Q] 24) = w4 at M3 B4 ⊢
        generalize w3.heap.size = g at M3 ⊢
        have CT : Hid (∀ W, Below w4.heap.size w4 W → W.cell? ⟨g, 0, none⟩ = some (.int .i64 P) ∧ W.cell? ⟨g, 1, none⟩ = some (.int .i64 Q) ∧ W.cell? ⟨b, off + f * 2, none⟩ = some (.int .i64 x1) ∧ W.cell? ⟨b, off + f * 2 + 1, none⟩ = some (.int .i64 x2)) := Lib.hid (fun W hW => by
          have h1 := MgAt.cells (MgAt.keep M3.out hW)
          have h2 := CFV.out W (b_next B4.out hW)
          exact ⟨h1.1, h1.2, h2.1, h2.2⟩)
        replace KJr := Lib.hid (fun W (hW : Below w4.heap.size w4 W) => KJr.out W (b_next B4.out hW))
        replace KJt := Lib.hid (fun W (hW : Below w4.heap.size w4 W) => KJt.out W (b_next B4.out hW))
        replace KJd := Lib.hid (fun W (hW : Below w4.heap.size w4 W) => KJd.out W (b_next B4.out hW))
        replace BZ := Lib.hid (b_next BZ.out B4.out)
        clear M3 B4 CFV
        have k1 : (P == P) = true := by simp
        have k2 : (Q == Q) = true := by simp
        have hzf : (f : Int) < n := by omega
        have hzq : (q : Int) ≤ n := by omega
        have hzq0 : (0 : Int) ≤ q := by omega
        have hzf0 : (0 : Int) ≤ f := by omega
        have hzc : (q : Int) ≤ c := by omega
        have hzd : ¬ c = q := by omega
        have hze : (n : Int) ≤ c := by omega
        refine' wp_region_below [opV _, opV (.bool true), opV _, opV _, opV (.agg #[.int .i64 P, .int .i64 Q]), opV _, opV _, opV _, opV _, opV _, opV _, opV _, opV (.agg #[.int .i64 t1, .int .i64 t2]), opV _, opV _, opV _, opV (.agg #[.int .i64 r1, .int .i64 r2]), opM [(t1, t2), (r1, r2)], opV (.agg #[.int .i64 P, .int .i64 Q]), opV _, opV _, opV _, opV _, opV _, opV _, opM [(P, Q), (P, Q)], opV (.agg #[.int .i64 P, .int .i64 Q]), opV _, opV _, opV _, opV _, opV _, opV _, opV _, opV _, opV _, opM [(P, Q), (x1, x2)], opV (.agg #[.int .i64 P, .int .i64 Q]), opV _, opV _, opV _, opV _] rfl (by kernel_rfl) ⟨?s0, ?s1, ?s2, ?s3, ?s4, ?s5, ?s6, ?s7, ?s8, ?s9, ?s10, ?s11, ?s12, ?s13, ?s14, ?s15, ?s16, ?s17, ?s18, ?s19, ?s20, ?s21, ?s22, ?s23, ?s24, ?s25, ?s26, ?s27, ?s28, ?s29, ?s30, ?s31, ?s32, ?s33, ?s34, ?s35, ?s36, ?s37, ?s38, ?s39, ?s40, ?s41, trivial⟩ ?fin
        case s0 =>
          refine BStep.of [] [] (opV _) (by kernel_rfl) (fun _ _ => by kernel_rfl) rfl ?_
          intro vs wv hB hA
          clear hA
          simp only [fillP]
          have c0 := (CT.out wv hB).1; have c1 := (CT.out wv hB).2.1; have d0 := (CT.out wv hB).2.2.1; have d1 := (CT.out wv hB).2.2.2; go_wp2_with fail
          refine postB_val ?_ (Below.refl _ _)
          simp only [List.getElem?_cons_succ, List.getElem?_cons_zero]
          rfl
        case s1 =>
          refine BStep.of [0] [(63, 0)] (opV (.bool true)) (by kernel_rfl) (fun _ _ => by kernel_rfl) rfl ?_
          intro vs wv hB hA
          have h0 : vs 0 = _ := hA.1
          clear hA
          simp only [fillP, List.setIfInBounds_toArray, List.set_cons_zero, List.set_cons_succ, h0]
          (go_wp2_with (go_at_call 10; (with_reducible refine (KM1.out _).mono ?_); rintro e w7 ⟨rfl, hb⟩)); exact postB_val rfl hb
        case s2 =>
          refine BStep.of [1] [(64, 1)] (opV _) (by kernel_rfl) (fun _ _ => by kernel_rfl) rfl ?_
          intro vs wv hB hA
          have h1 : vs 1 = _ := hA.1
          clear hA
          simp only [fillP, List.setIfInBounds_toArray, List.set_cons_zero, List.set_cons_succ, h1]
          have c0 := (CT.out wv hB).1; have c1 := (CT.out wv hB).2.1; have d0 := (CT.out wv hB).2.2.1; have d1 := (CT.out wv hB).2.2.2; go_wp2_with fail
          refine postB_val ?_ (Below.refl _ _)
          simp only [List.getElem?_cons_succ, List.getElem?_cons_zero]
          rfl
        case s3 =>
          refine BStep.of [2] [(65, 2)] (opV _) (by kernel_rfl) (fun _ _ => by kernel_rfl) rfl ?_
          intro vs wv hB hA
          have h2 : vs 2 = _ := hA.1
          clear hA
          simp only [fillP, List.setIfInBounds_toArray, List.set_cons_zero, List.set_cons_succ, h2]
          have c0 := (CT.out wv hB).1; have c1 := (CT.out wv hB).2.1; have d0 := (CT.out wv hB).2.2.1; have d1 := (CT.out wv hB).2.2.2; go_wp2_with fail
          refine postB_val ?_ (Below.refl _ _)
          simp only [List.getElem?_cons_succ, List.getElem?_cons_zero]
          rfl
        case s4 =>
          refine BStep.of [2, 3] [(65, 2), (66, 3)] (opV (.agg #[.int .i64 P, .int .i64 Q])) (by kernel_rfl) (fun _ _ => by kernel_rfl) rfl ?_
          intro vs wv hB hA
          have h2 : vs 2 = _ := hA.1
          have h3 : vs 3 = _ := hA.2.1
          clear hA
          simp only [fillP, List.setIfInBounds_toArray, List.set_cons_zero, List.set_cons_succ, h2, h3]
          (go_wp2_with (go_at_call 8; (with_reducible refine (KJr.out _ hB).mono ?_); rintro e w7 ⟨rfl, hb⟩)); exact postB_val rfl hb
        case s5 =>
          refine BStep.of [2] [(65, 2)] (opV _) (by kernel_rfl) (fun _ _ => by kernel_rfl) rfl ?_
          intro vs wv hB hA
          have h2 : vs 2 = _ := hA.1
          clear hA
          simp only [fillP, List.setIfInBounds_toArray, List.set_cons_zero, List.set_cons_succ, h2]
          have c0 := (CT.out wv hB).1; have c1 := (CT.out wv hB).2.1; have d0 := (CT.out wv hB).2.2.1; have d1 := (CT.out wv hB).2.2.2; go_wp2_with fail
          refine postB_val ?_ (Below.refl _ _)
          simp only [List.getElem?_cons_succ, List.getElem?_cons_zero]
          rfl
        case s6 =>
          refine BStep.of [2, 4, 5] [(65, 2), (67, 4), (68, 5)] (opV _) (by kernel_rfl) (fun _ _ => by kernel_rfl) rfl ?_
          intro vs wv hB hA
          have h2 : vs 2 = _ := hA.1
          have h4 : vs 4 = _ := hA.2.1
          have h5 : vs 5 = _ := hA.2.2.1
          clear hA
          simp only [fillP, List.setIfInBounds_toArray, List.set_cons_zero, List.set_cons_succ, h2, h4, h5]
          have c0 := (CT.out wv hB).1; have c1 := (CT.out wv hB).2.1; have d0 := (CT.out wv hB).2.2.1; have d1 := (CT.out wv hB).2.2.2; go_wp2_with fail
          refine postB_val ?_ (Below.refl _ _)
          simp only [List.getElem?_cons_succ, List.getElem?_cons_zero]
          rfl
        case s7 =>
          refine BStep.of [2, 6] [(65, 2), (69, 6)] (opV _) (by kernel_rfl) (fun _ _ => by kernel_rfl) rfl ?_
          intro vs wv hB hA
          have h2 : vs 2 = _ := hA.1
          have h6 : vs 6 = _ := hA.2.1
          clear hA
          simp only [fillP, List.setIfInBounds_toArray, List.set_cons_zero, List.set_cons_succ, h2, h6]
          have c0 := (CT.out wv hB).1; have c1 := (CT.out wv hB).2.1; have d0 := (CT.out wv hB).2.2.1; have d1 := (CT.out wv hB).2.2.2; go_wp2_with fail
          refine postB_val ?_ (Below.refl _ _)
          simp only [List.getElem?_cons_succ, List.getElem?_cons_zero]
          rfl
        case s8 =>
          refine BStep.of [4, 7] [(67, 4), (70, 7)] (opV _) (by kernel_rfl) (fun _ _ => by kernel_rfl) rfl ?_
          intro vs wv hB hA
          have h4 : vs 4 = _ := hA.1
          have h7 : vs 7 = _ := hA.2.1
          clear hA
          simp only [fillP, List.setIfInBounds_toArray, List.set_cons_zero, List.set_cons_succ, h4, h7]
          have c0 := (CT.out wv hB).1; have c1 := (CT.out wv hB).2.1; have d0 := (CT.out wv hB).2.2.1; have d1 := (CT.out wv hB).2.2.2; go_wp2_with fail
          refine postB_val ?_ (Below.refl _ _)
          simp only [List.getElem?_cons_succ, List.getElem?_cons_zero]
          rfl
        case s9 =>
          refine BStep.of [8] [(71, 8)] (opV _) (by kernel_rfl) (fun _ _ => by kernel_rfl) rfl ?_
          intro vs wv hB hA
          have h8 : vs 8 = _ := hA.1
          clear hA
          simp only [fillP, List.setIfInBounds_toArray, List.set_cons_zero, List.set_cons_succ, h8]
          have c0 := (CT.out wv hB).1; have c1 := (CT.out wv hB).2.1; have d0 := (CT.out wv hB).2.2.1; have d1 := (CT.out wv hB).2.2.2; go_wp2_with fail
          refine postB_val ?_ (Below.refl _ _)
          simp only [List.getElem?_cons_succ, List.getElem?_cons_zero]
          rfl
        case s10 =>
          refine BStep.of [8] [(71, 8)] (opV _) (by kernel_rfl) (fun _ _ => by kernel_rfl) rfl ?_
          intro vs wv hB hA
          have h8 : vs 8 = _ := hA.1
          clear hA
          simp only [fillP, List.setIfInBounds_toArray, List.set_cons_zero, List.set_cons_succ, h8]
          have c0 := (CT.out wv hB).1; have c1 := (CT.out wv hB).2.1; have d0 := (CT.out wv hB).2.2.1; have d1 := (CT.out wv hB).2.2.2; go_wp2_with fail
          refine postB_val ?_ (Below.refl _ _)
          simp only [List.getElem?_cons_succ, List.getElem?_cons_zero]
          rfl
        case s11 =>
          refine BStep.of [8, 9, 10] [(71, 8), (72, 9), (73, 10)] (opV _) (by kernel_rfl) (fun _ _ => by kernel_rfl) rfl ?_
          intro vs wv hB hA
          have h8 : vs 8 = _ := hA.1
          have h9 : vs 9 = _ := hA.2.1
          have h10 : vs 10 = _ := hA.2.2.1
          clear hA
          simp only [fillP, List.setIfInBounds_toArray, List.set_cons_zero, List.set_cons_succ, h8, h9, h10]
          have c0 := (CT.out wv hB).1; have c1 := (CT.out wv hB).2.1; have d0 := (CT.out wv hB).2.2.1; have d1 := (CT.out wv hB).2.2.2; go_wp2_with fail
          refine postB_val ?_ (Below.refl _ _)
          simp only [List.getElem?_cons_succ, List.getElem?_cons_zero]
          rfl
        case s12 =>
          refine BStep.of [8, 11] [(71, 8), (74, 11)] (opV (.agg #[.int .i64 t1, .int .i64 t2])) (by kernel_rfl) (fun _ _ => by kernel_rfl) rfl ?_
          intro vs wv hB hA
          have h8 : vs 8 = _ := hA.1
          have h11 : vs 11 = _ := hA.2.1
          clear hA
          simp only [fillP, List.setIfInBounds_toArray, List.set_cons_zero, List.set_cons_succ, h8, h11]
          (go_wp2_with (go_at_call 8; (with_reducible refine (KJt.out _ hB).mono ?_); rintro e w7 ⟨rfl, hb⟩)); exact postB_val rfl hb
        case s13 =>
          refine BStep.of [8] [(71, 8)] (opV _) (by kernel_rfl) (fun _ _ => by kernel_rfl) rfl ?_
          intro vs wv hB hA
          have h8 : vs 8 = _ := hA.1
          clear hA
          simp only [fillP, List.setIfInBounds_toArray, List.set_cons_zero, List.set_cons_succ, h8]
          have c0 := (CT.out wv hB).1; have c1 := (CT.out wv hB).2.1; have d0 := (CT.out wv hB).2.2.1; have d1 := (CT.out wv hB).2.2.2; go_wp2_with fail
          refine postB_val ?_ (Below.refl _ _)
          simp only [List.getElem?_cons_succ, List.getElem?_cons_zero]
          rfl
        case s14 =>
          refine BStep.of [8] [(71, 8)] (opV _) (by kernel_rfl) (fun _ _ => by kernel_rfl) rfl ?_
          intro vs wv hB hA
          have h8 : vs 8 = _ := hA.1
          clear hA
          simp only [fillP, List.setIfInBounds_toArray, List.set_cons_zero, List.set_cons_succ, h8]
          have c0 := (CT.out wv hB).1; have c1 := (CT.out wv hB).2.1; have d0 := (CT.out wv hB).2.2.1; have d1 := (CT.out wv hB).2.2.2; go_wp2_with fail
          refine postB_val ?_ (Below.refl _ _)
          simp only [List.getElem?_cons_succ, List.getElem?_cons_zero]
          rfl
        case s15 =>
          refine BStep.of [8, 13, 14] [(71, 8), (76, 13), (77, 14)] (opV _) (by kernel_rfl) (fun _ _ => by kernel_rfl) rfl ?_
          intro vs wv hB hA
          have h8 : vs 8 = _ := hA.1
          have h13 : vs 13 = _ := hA.2.1
          have h14 : vs 14 = _ := hA.2.2.1
          clear hA
          simp only [fillP, List.setIfInBounds_toArray, List.set_cons_zero, List.set_cons_succ, h8, h13, h14]
          have c0 := (CT.out wv hB).1; have c1 := (CT.out wv hB).2.1; have d0 := (CT.out wv hB).2.2.1; have d1 := (CT.out wv hB).2.2.2; go_wp2_with fail
          refine postB_val ?_ (Below.refl _ _)
          simp only [List.getElem?_cons_succ, List.getElem?_cons_zero]
          rfl
        case s16 =>
          refine BStep.of [8, 12, 15] [(71, 8), (75, 12), (78, 15)] (opV (.agg #[.int .i64 r1, .int .i64 r2])) (by kernel_rfl) (fun _ _ => by kernel_rfl) rfl ?_
          intro vs wv hB hA
          have h8 : vs 8 = _ := hA.1
          have h12 : vs 12 = _ := hA.2.1
          have h15 : vs 15 = _ := hA.2.2.1
          clear hA
          simp only [fillP, List.setIfInBounds_toArray, List.set_cons_zero, List.set_cons_succ, h8, h12, h15]
          (go_wp2_with (go_at_call 8; (with_reducible refine (KJd.out _ hB).mono ?_); rintro e w7 ⟨rfl, hb⟩)); exact postB_val rfl hb
        case s17 =>
          refine BStep.of [8, 12, 16] [(71, 8), (75, 12), (79, 16)] (opM [(t1, t2), (r1, r2)]) (by kernel_rfl) (fun _ _ => by kernel_rfl) rfl ?_
          intro vs wv hB hA
          have h8 : vs 8 = _ := hA.1
          have h12 : vs 12 = _ := hA.2.1
          have h16 : vs 16 = _ := hA.2.2.1
          clear hA
          simp only [fillP, List.setIfInBounds_toArray, List.set_cons_zero, List.set_cons_succ, h8, h12, h16]
          go_wp2_with fail; exact postB_R rfl (new_two wv (t1, t2) (r1, r2)) ((Below.refl _ _).alloc (Nat.le_refl _) _)
        case s18 =>
          refine BStep.of [8, 16, 17] [(71, 8), (79, 16), (80, 17)] (opV (.agg #[.int .i64 P, .int .i64 Q])) (by kernel_rfl) (fun _ _ => by kernel_rfl) rfl ?_
          intro vs wv hB hA
          have h8 : vs 8 = _ := hA.1
          have h16 : vs 16 = _ := hA.2.1
          have h17 : MgIn wv (vs 17) [(t1, t2), (r1, r2)] := hA.2.2.1
          clear hA
          simp only [fillP, List.setIfInBounds_toArray, List.set_cons_zero, List.set_cons_succ, h8, h16]
          (go_wp2_with (go_at_call 8; (with_reducible refine (KJ2.out _ _ h17).mono ?_); rintro e w7 ⟨rfl, hb⟩)); exact postB_val rfl hb
        case s19 =>
          refine BStep.of [8] [(71, 8)] (opV _) (by kernel_rfl) (fun _ _ => by kernel_rfl) rfl ?_
          intro vs wv hB hA
          have h8 : vs 8 = _ := hA.1
          clear hA
          simp only [fillP, List.setIfInBounds_toArray, List.set_cons_zero, List.set_cons_succ, h8]
          have c0 := (CT.out wv hB).1; have c1 := (CT.out wv hB).2.1; have d0 := (CT.out wv hB).2.2.1; have d1 := (CT.out wv hB).2.2.2; go_wp2_with fail
          refine postB_val ?_ (Below.refl _ _)
          simp only [List.getElem?_cons_succ, List.getElem?_cons_zero]
          rfl
        case s20 =>
          refine BStep.of [8, 18, 19] [(71, 8), (81, 18), (82, 19)] (opV _) (by kernel_rfl) (fun _ _ => by kernel_rfl) rfl ?_
          intro vs wv hB hA
          have h8 : vs 8 = _ := hA.1
          have h18 : vs 18 = _ := hA.2.1
          have h19 : vs 19 = _ := hA.2.2.1
          clear hA
          simp only [fillP, List.setIfInBounds_toArray, List.set_cons_zero, List.set_cons_succ, h8, h18, h19]
          have c0 := (CT.out wv hB).1; have c1 := (CT.out wv hB).2.1; have d0 := (CT.out wv hB).2.2.1; have d1 := (CT.out wv hB).2.2.2; go_wp2_with fail
          refine postB_val ?_ (Below.refl _ _)
          simp only [List.getElem?_cons_succ, List.getElem?_cons_zero]
          rfl
        case s21 =>
          refine BStep.of [8, 20] [(71, 8), (83, 20)] (opV _) (by kernel_rfl) (fun _ _ => by kernel_rfl) rfl ?_
          intro vs wv hB hA
          have h8 : vs 8 = _ := hA.1
          have h20 : vs 20 = _ := hA.2.1
          clear hA
          simp only [fillP, List.setIfInBounds_toArray, List.set_cons_zero, List.set_cons_succ, h8, h20]
          have c0 := (CT.out wv hB).1; have c1 := (CT.out wv hB).2.1; have d0 := (CT.out wv hB).2.2.1; have d1 := (CT.out wv hB).2.2.2; go_wp2_with fail
          refine postB_val ?_ (Below.refl _ _)
          simp only [List.getElem?_cons_succ, List.getElem?_cons_zero]
          rfl
        case s22 =>
          refine BStep.of [18, 21] [(81, 18), (84, 21)] (opV _) (by kernel_rfl) (fun _ _ => by kernel_rfl) rfl ?_
          intro vs wv hB hA
          have h18 : vs 18 = _ := hA.1
          have h21 : vs 21 = _ := hA.2.1
          clear hA
          simp only [fillP, List.setIfInBounds_toArray, List.set_cons_zero, List.set_cons_succ, h18, h21]
          have c0 := (CT.out wv hB).1; have c1 := (CT.out wv hB).2.1; have d0 := (CT.out wv hB).2.2.1; have d1 := (CT.out wv hB).2.2.2; go_wp2_with fail
          refine postB_val ?_ (Below.refl _ _)
          simp only [List.getElem?_cons_succ, List.getElem?_cons_zero]
          rfl
        case s23 =>
          refine BStep.of [22] [(85, 22)] (opV _) (by kernel_rfl) (fun _ _ => by kernel_rfl) rfl ?_
          intro vs wv hB hA
          have h22 : vs 22 = _ := hA.1
          clear hA
          simp only [fillP, List.setIfInBounds_toArray, List.set_cons_zero, List.set_cons_succ, h22]
          have c0 := (CT.out wv hB).1; have c1 := (CT.out wv hB).2.1; have d0 := (CT.out wv hB).2.2.1; have d1 := (CT.out wv hB).2.2.2; go_wp2_with fail
          refine postB_val ?_ (Below.refl _ _)
          simp only [List.getElem?_cons_succ, List.getElem?_cons_zero]
          rfl
        case s24 =>
          refine BStep.of [22] [(85, 22)] (opV _) (by kernel_rfl) (fun _ _ => by kernel_rfl) rfl ?_
          intro vs wv hB hA
          have h22 : vs 22 = _ := hA.1
          clear hA
          simp only [fillP, List.setIfInBounds_toArray, List.set_cons_zero, List.set_cons_succ, h22]
          have c0 := (CT.out wv hB).1; have c1 := (CT.out wv hB).2.1; have d0 := (CT.out wv hB).2.2.1; have d1 := (CT.out wv hB).2.2.2; go_wp2_with fail
          refine postB_val ?_ (Below.refl _ _)
          simp only [List.getElem?_cons_succ, List.getElem?_cons_zero]
          rfl
        case s25 =>
          refine BStep.of [22, 23, 24] [(85, 22), (86, 23), (87, 24)] (opM [(P, Q), (P, Q)]) (by kernel_rfl) (fun _ _ => by kernel_rfl) rfl ?_
          intro vs wv hB hA
          have h22 : vs 22 = _ := hA.1
          have h23 : vs 23 = _ := hA.2.1
          have h24 : vs 24 = _ := hA.2.2.1
          clear hA
          simp only [fillP, List.setIfInBounds_toArray, List.set_cons_zero, List.set_cons_succ, h22, h23, h24]
          go_wp2_with fail; exact postB_R rfl (new_two wv (P, Q) (P, Q)) ((Below.refl _ _).alloc (Nat.le_refl _) _)
        case s26 =>
          refine BStep.of [22, 25] [(85, 22), (88, 25)] (opV (.agg #[.int .i64 P, .int .i64 Q])) (by kernel_rfl) (fun _ _ => by kernel_rfl) rfl ?_
          intro vs wv hB hA
          have h22 : vs 22 = _ := hA.1
          have h25 : MgIn wv (vs 25) [(P, Q), (P, Q)] := hA.2.1
          clear hA
          simp only [fillP, List.setIfInBounds_toArray, List.set_cons_zero, List.set_cons_succ, h22]
          (go_wp2_with (go_at_call 8; (with_reducible refine (KJ3.out _ _ h25).mono ?_); rintro e w7 ⟨rfl, hb⟩)); exact postB_val rfl hb
        case s27 =>
          refine BStep.of [22] [(85, 22)] (opV _) (by kernel_rfl) (fun _ _ => by kernel_rfl) rfl ?_
          intro vs wv hB hA
          have h22 : vs 22 = _ := hA.1
          clear hA
          simp only [fillP, List.setIfInBounds_toArray, List.set_cons_zero, List.set_cons_succ, h22]
          have c0 := (CT.out wv hB).1; have c1 := (CT.out wv hB).2.1; have d0 := (CT.out wv hB).2.2.1; have d1 := (CT.out wv hB).2.2.2; go_wp2_with fail
          refine postB_val ?_ (Below.refl _ _)
          simp only [List.getElem?_cons_succ, List.getElem?_cons_zero]
          rfl
        case s28 =>
          refine BStep.of [22, 26, 27] [(85, 22), (89, 26), (90, 27)] (opV _) (by kernel_rfl) (fun _ _ => by kernel_rfl) rfl ?_
          intro vs wv hB hA
          have h22 : vs 22 = _ := hA.1
          have h26 : vs 26 = _ := hA.2.1
          have h27 : vs 27 = _ := hA.2.2.1
          clear hA
          simp only [fillP, List.setIfInBounds_toArray, List.set_cons_zero, List.set_cons_succ, h22, h26, h27]
          have c0 := (CT.out wv hB).1; have c1 := (CT.out wv hB).2.1; have d0 := (CT.out wv hB).2.2.1; have d1 := (CT.out wv hB).2.2.2; go_wp2_with fail
          refine postB_val ?_ (Below.refl _ _)
          simp only [List.getElem?_cons_succ, List.getElem?_cons_zero]
          rfl
        case s29 =>
          refine BStep.of [22, 28] [(85, 22), (91, 28)] (opV _) (by kernel_rfl) (fun _ _ => by kernel_rfl) rfl ?_
          intro vs wv hB hA
          have h22 : vs 22 = _ := hA.1
          have h28 : vs 28 = _ := hA.2.1
          clear hA
          simp only [fillP, List.setIfInBounds_toArray, List.set_cons_zero, List.set_cons_succ, h22, h28]
          have c0 := (CT.out wv hB).1; have c1 := (CT.out wv hB).2.1; have d0 := (CT.out wv hB).2.2.1; have d1 := (CT.out wv hB).2.2.2; go_wp2_with fail
          refine postB_val ?_ (Below.refl _ _)
          simp only [List.getElem?_cons_succ, List.getElem?_cons_zero]
          rfl
        case s30 =>
          refine BStep.of [26, 29] [(89, 26), (92, 29)] (opV _) (by kernel_rfl) (fun _ _ => by kernel_rfl) rfl ?_
          intro vs wv hB hA
          have h26 : vs 26 = _ := hA.1
          have h29 : vs 29 = _ := hA.2.1
          clear hA
          simp only [fillP, List.setIfInBounds_toArray, List.set_cons_zero, List.set_cons_succ, h26, h29]
          have c0 := (CT.out wv hB).1; have c1 := (CT.out wv hB).2.1; have d0 := (CT.out wv hB).2.2.1; have d1 := (CT.out wv hB).2.2.2; go_wp2_with fail
          refine postB_val ?_ (Below.refl _ _)
          simp only [List.getElem?_cons_succ, List.getElem?_cons_zero]
          rfl
        case s31 =>
          refine BStep.of [30] [(93, 30)] (opV _) (by kernel_rfl) (fun _ _ => by kernel_rfl) rfl ?_
          intro vs wv hB hA
          have h30 : vs 30 = _ := hA.1
          clear hA
          simp only [fillP, List.setIfInBounds_toArray, List.set_cons_zero, List.set_cons_succ, h30]
          have c0 := (CT.out wv hB).1; have c1 := (CT.out wv hB).2.1; have d0 := (CT.out wv hB).2.2.1; have d1 := (CT.out wv hB).2.2.2; go_wp2_with fail
          refine postB_val ?_ (Below.refl _ _)
          simp only [List.getElem?_cons_succ, List.getElem?_cons_zero]
          rfl
        case s32 =>
          refine BStep.of [30] [(93, 30)] (opV _) (by kernel_rfl) (fun _ _ => by kernel_rfl) rfl ?_
          intro vs wv hB hA
          have h30 : vs 30 = _ := hA.1
          clear hA
          simp only [fillP, List.setIfInBounds_toArray, List.set_cons_zero, List.set_cons_succ, h30]
          have c0 := (CT.out wv hB).1; have c1 := (CT.out wv hB).2.1; have d0 := (CT.out wv hB).2.2.1; have d1 := (CT.out wv hB).2.2.2; go_wp2_with fail
          refine postB_val ?_ (Below.refl _ _)
          simp only [List.getElem?_cons_succ, List.getElem?_cons_zero]
          rfl
        case s33 =>
          refine BStep.of [30] [(93, 30)] (opV _) (by kernel_rfl) (fun _ _ => by kernel_rfl) rfl ?_
          intro vs wv hB hA
          have h30 : vs 30 = _ := hA.1
          clear hA
          simp only [fillP, List.setIfInBounds_toArray, List.set_cons_zero, List.set_cons_succ, h30]
          have c0 := (CT.out wv hB).1; have c1 := (CT.out wv hB).2.1; have d0 := (CT.out wv hB).2.2.1; have d1 := (CT.out wv hB).2.2.2; go_wp2_with fail
          refine postB_val ?_ (Below.refl _ _)
          simp only [List.getElem?_cons_succ, List.getElem?_cons_zero]
          rfl
        case s34 =>
          refine BStep.of [30, 32, 33] [(93, 30), (95, 32), (96, 33)] (opV _) (by kernel_rfl) (fun _ _ => by kernel_rfl) rfl ?_
          intro vs wv hB hA
          have h30 : vs 30 = _ := hA.1
          have h32 : vs 32 = _ := hA.2.1
          have h33 : vs 33 = _ := hA.2.2.1
          clear hA
          simp only [fillP, List.setIfInBounds_toArray, List.set_cons_zero, List.set_cons_succ, h30, h32, h33]
          have c0 := (CT.out wv hB).1; have c1 := (CT.out wv hB).2.1; have d0 := (CT.out wv hB).2.2.1; have d1 := (CT.out wv hB).2.2.2; go_wp2_with fail
          refine postB_val ?_ (Below.refl _ _)
          simp only [List.getElem?_cons_succ, List.getElem?_cons_zero]
          rfl
        case s35 =>
          refine BStep.of [30, 34] [(93, 30), (97, 34)] (opV _) (by kernel_rfl) (fun _ _ => by kernel_rfl) rfl ?_
          intro vs wv hB hA
          have h30 : vs 30 = _ := hA.1
          have h34 : vs 34 = _ := hA.2.1
          clear hA
          simp only [fillP, List.setIfInBounds_toArray, List.set_cons_zero, List.set_cons_succ, h30, h34]
          have c0 := (CT.out wv hB).1; have c1 := (CT.out wv hB).2.1; have d0 := (CT.out wv hB).2.2.1; have d1 := (CT.out wv hB).2.2.2; go_wp2_with fail
          refine postB_val ?_ (Below.refl _ _)
          simp only [List.getElem?_cons_succ, List.getElem?_cons_zero]
          rfl
        case s36 =>
          refine BStep.of [30, 31, 35] [(93, 30), (94, 31), (98, 35)] (opM [(P, Q), (x1, x2)]) (by kernel_rfl) (fun _ _ => by kernel_rfl) rfl ?_
          intro vs wv hB hA
          have h30 : vs 30 = _ := hA.1
          have h31 : vs 31 = _ := hA.2.1
          have h35 : vs 35 = _ := hA.2.2.1
          clear hA
          simp only [fillP, List.setIfInBounds_toArray, List.set_cons_zero, List.set_cons_succ, h30, h31, h35]
          go_wp2_with fail; exact postB_R rfl (new_two wv (P, Q) (x1, x2)) ((Below.refl _ _).alloc (Nat.le_refl _) _)
        case s37 =>
          refine BStep.of [30, 36] [(93, 30), (99, 36)] (opV (.agg #[.int .i64 P, .int .i64 Q])) (by kernel_rfl) (fun _ _ => by kernel_rfl) rfl ?_
          intro vs wv hB hA
          have h30 : vs 30 = _ := hA.1
          have h36 : MgIn wv (vs 36) [(P, Q), (x1, x2)] := hA.2.1
          clear hA
          simp only [fillP, List.setIfInBounds_toArray, List.set_cons_zero, List.set_cons_succ, h30]
          (go_wp2_with (go_at_call 8; (with_reducible refine (KJ4.out _ _ h36).mono ?_); rintro e w7 ⟨rfl, hb⟩)); exact postB_val rfl hb
        case s38 =>
          refine BStep.of [30] [(93, 30)] (opV _) (by kernel_rfl) (fun _ _ => by kernel_rfl) rfl ?_
          intro vs wv hB hA
          have h30 : vs 30 = _ := hA.1
          clear hA
          simp only [fillP, List.setIfInBounds_toArray, List.set_cons_zero, List.set_cons_succ, h30]
          have c0 := (CT.out wv hB).1; have c1 := (CT.out wv hB).2.1; have d0 := (CT.out wv hB).2.2.1; have d1 := (CT.out wv hB).2.2.2; go_wp2_with fail
          refine postB_val ?_ (Below.refl _ _)
          simp only [List.getElem?_cons_succ, List.getElem?_cons_zero]
          rfl
        case s39 =>
          refine BStep.of [30, 37, 38] [(93, 30), (100, 37), (101, 38)] (opV _) (by kernel_rfl) (fun _ _ => by kernel_rfl) rfl ?_
          intro vs wv hB hA
          have h30 : vs 30 = _ := hA.1
          have h37 : vs 37 = _ := hA.2.1
          have h38 : vs 38 = _ := hA.2.2.1
          clear hA
          simp only [fillP, List.setIfInBounds_toArray, List.set_cons_zero, List.set_cons_succ, h30, h37, h38]
          have c0 := (CT.out wv hB).1; have c1 := (CT.out wv hB).2.1; have d0 := (CT.out wv hB).2.2.1; have d1 := (CT.out wv hB).2.2.2; go_wp2_with fail
          refine postB_val ?_ (Below.refl _ _)
          simp only [List.getElem?_cons_succ, List.getElem?_cons_zero]
          rfl
        case s40 =>
          refine BStep.of [30, 39] [(93, 30), (102, 39)] (opV _) (by kernel_rfl) (fun _ _ => by kernel_rfl) rfl ?_
          intro vs wv hB hA
          have h30 : vs 30 = _ := hA.1
          have h39 : vs 39 = _ := hA.2.1
          clear hA
          simp only [fillP, List.setIfInBounds_toArray, List.set_cons_zero, List.set_cons_succ, h30, h39]
          have c0 := (CT.out wv hB).1; have c1 := (CT.out wv hB).2.1; have d0 := (CT.out wv hB).2.2.1; have d1 := (CT.out wv hB).2.2.2; go_wp2_with fail
          refine postB_val ?_ (Below.refl _ _)
          simp only [List.getElem?_cons_succ, List.getElem?_cons_zero]
          rfl
        case s41 =>
          refine BStep.of [0, 1, 2, 3, 4, 5, 6, 7, 8, 9, 10, 11, 12, 13, 14, 15, 16, 17, 18, 19, 20, 21, 22, 23, 24, 25, 26, 27, 28, 29, 30, 31, 32, 33, 34, 35, 36, 37, 38, 39, 40] [(63, 0), (64, 1), (65, 2), (66, 3), (67, 4), (68, 5), (69, 6), (70, 7), (71, 8), (72, 9), (73, 10), (74, 11), (75, 12), (76, 13), (77, 14), (78, 15), (79, 16), (80, 17), (81, 18), (82, 19), (83, 20), (84, 21), (85, 22), (86, 23), (87, 24), (88, 25), (89, 26), (90, 27), (91, 28), (92, 29), (93, 30), (94, 31), (95, 32), (96, 33), (97, 34), (98, 35), (99, 36), (100, 37), (101, 38), (102, 39), (103, 40)] (opV _) (by kernel_rfl) (fun _ _ => by kernel_rfl) rfl ?_
          intro vs wv hB hA
          have h0 : vs 0 = _ := hA.1
          have h1 : vs 1 = _ := hA.2.1
          have h2 : vs 2 = _ := hA.2.2.1
          have h3 : vs 3 = _ := hA.2.2.2.1
          have h4 : vs 4 = _ := hA.2.2.2.2.1
          have h5 : vs 5 = _ := hA.2.2.2.2.2.1
          have h6 : vs 6 = _ := hA.2.2.2.2.2.2.1
          have h7 : vs 7 = _ := hA.2.2.2.2.2.2.2.1
          have h8 : vs 8 = _ := hA.2.2.2.2.2.2.2.2.1
          have h9 : vs 9 = _ := hA.2.2.2.2.2.2.2.2.2.1
          have h10 : vs 10 = _ := hA.2.2.2.2.2.2.2.2.2.2.1
          have h11 : vs 11 = _ := hA.2.2.2.2.2.2.2.2.2.2.2.1
          have h12 : vs 12 = _ := hA.2.2.2.2.2.2.2.2.2.2.2.2.1
          have h13 : vs 13 = _ := hA.2.2.2.2.2.2.2.2.2.2.2.2.2.1
          have h14 : vs 14 = _ := hA.2.2.2.2.2.2.2.2.2.2.2.2.2.2.1
          have h15 : vs 15 = _ := hA.2.2.2.2.2.2.2.2.2.2.2.2.2.2.2.1
          have h16 : vs 16 = _ := hA.2.2.2.2.2.2.2.2.2.2.2.2.2.2.2.2.1
          have h17 : MgIn wv (vs 17) [(t1, t2), (r1, r2)] := hA.2.2.2.2.2.2.2.2.2.2.2.2.2.2.2.2.2.1
          have h18 : vs 18 = _ := hA.2.2.2.2.2.2.2.2.2.2.2.2.2.2.2.2.2.2.1
          have h19 : vs 19 = _ := hA.2.2.2.2.2.2.2.2.2.2.2.2.2.2.2.2.2.2.2.1
          have h20 : vs 20 = _ := hA.2.2.2.2.2.2.2.2.2.2.2.2.2.2.2.2.2.2.2.2.1
          have h21 : vs 21 = _ := hA.2.2.2.2.2.2.2.2.2.2.2.2.2.2.2.2.2.2.2.2.2.1
          have h22 : vs 22 = _ := hA.2.2.2.2.2.2.2.2.2.2.2.2.2.2.2.2.2.2.2.2.2.2.1
          have h23 : vs 23 = _ := hA.2.2.2.2.2.2.2.2.2.2.2.2.2.2.2.2.2.2.2.2.2.2.2.1
          have h24 : vs 24 = _ := hA.2.2.2.2.2.2.2.2.2.2.2.2.2.2.2.2.2.2.2.2.2.2.2.2.1
          have h25 : MgIn wv (vs 25) [(P, Q), (P, Q)] := hA.2.2.2.2.2.2.2.2.2.2.2.2.2.2.2.2.2.2.2.2.2.2.2.2.2.1
          have h26 : vs 26 = _ := hA.2.2.2.2.2.2.2.2.2.2.2.2.2.2.2.2.2.2.2.2.2.2.2.2.2.2.1
          have h27 : vs 27 = _ := hA.2.2.2.2.2.2.2.2.2.2.2.2.2.2.2.2.2.2.2.2.2.2.2.2.2.2.2.1
          have h28 : vs 28 = _ := hA.2.2.2.2.2.2.2.2.2.2.2.2.2.2.2.2.2.2.2.2.2.2.2.2.2.2.2.2.1
          have h29 : vs 29 = _ := hA.2.2.2.2.2.2.2.2.2.2.2.2.2.2.2.2.2.2.2.2.2.2.2.2.2.2.2.2.2.1
          have h30 : vs 30 = _ := hA.2.2.2.2.2.2.2.2.2.2.2.2.2.2.2.2.2.2.2.2.2.2.2.2.2.2.2.2.2.2.1
          have h31 : vs 31 = _ := hA.2.2.2.2.2.2.2.2.2.2.2.2.2.2.2.2.2.2.2.2.2.2.2.2.2.2.2.2.2.2.2.1
          have h32 : vs 32 = _ := hA.2.2.2.2.2.2.2.2.2.2.2.2.2.2.2.2.2.2.2.2.2.2.2.2.2.2.2.2.2.2.2.2.1
          have h33 : vs 33 = _ := hA.2.2.2.2.2.2.2.2.2.2.2.2.2.2.2.2.2.2.2.2.2.2.2.2.2.2.2.2.2.2.2.2.2.1
          have h34 : vs 34 = _ := hA.2.2.2.2.2.2.2.2.2.2.2.2.2.2.2.2.2.2.2.2.2.2.2.2.2.2.2.2.2.2.2.2.2.2.1
          have h35 : vs 35 = _ := hA.2.2.2.2.2.2.2.2.2.2.2.2.2.2.2.2.2.2.2.2.2.2.2.2.2.2.2.2.2.2.2.2.2.2.2.1
          have h36 : MgIn wv (vs 36) [(P, Q), (x1, x2)] := hA.2.2.2.2.2.2.2.2.2.2.2.2.2.2.2.2.2.2.2.2.2.2.2.2.2.2.2.2.2.2.2.2.2.2.2.2.1
          have h37 : vs 37 = _ := hA.2.2.2.2.2.2.2.2.2.2.2.2.2.2.2.2.2.2.2.2.2.2.2.2.2.2.2.2.2.2.2.2.2.2.2.2.2.1
          have h38 : vs 38 = _ := hA.2.2.2.2.2.2.2.2.2.2.2.2.2.2.2.2.2.2.2.2.2.2.2.2.2.2.2.2.2.2.2.2.2.2.2.2.2.2.1
          have h39 : vs 39 = _ := hA.2.2.2.2.2.2.2.2.2.2.2.2.2.2.2.2.2.2.2.2.2.2.2.2.2.2.2.2.2.2.2.2.2.2.2.2.2.2.2.1
          have h40 : vs 40 = _ := hA.2.2.2.2.2.2.2.2.2.2.2.2.2.2.2.2.2.2.2.2.2.2.2.2.2.2.2.2.2.2.2.2.2.2.2.2.2.2.2.2.1
          clear hA
          simp only [fillP, List.setIfInBounds_toArray, List.set_cons_zero, List.set_cons_succ, h0, h1, h2, h3, h4, h5, h6, h7, h8, h9, h10, h11, h12, h13, h14, h15, h16, h18, h19, h20, h21, h22, h23, h24, h26, h27, h28, h29, h30, h31, h32, h33, h34, h35, h37, h38, h39, h40]
          have c0 := (CT.out wv hB).1; have c1 := (CT.out wv hB).2.1; have d0 := (CT.out wv hB).2.2.1; have d1 := (CT.out wv hB).2.2.2; go_wp2_with fail
          refine postB_val ?_ (Below.refl _ _)
          simp only [List.getElem?_cons_succ, List.getElem?_cons_zero]
          rfl
        case fin =>
          refine fin_of [0, 1, 2, 3, 4, 5, 6, 7, 8, 9, 10, 11, 12, 13, 14, 15, 16, 17, 18, 19, 20, 21, 22, 23, 24, 25, 26, 27, 28, 29, 30, 31, 32, 33, 34, 35, 36, 37, 38, 39, 40, 41] [(63, 0), (64, 1), (65, 2), (66, 3), (67, 4), (68, 5), (69, 6), (70, 7), (71, 8), (72, 9), (73, 10), (74, 11), (75, 12), (76, 13), (77, 14), (78, 15), (79, 16), (80, 17), (81, 18), (82, 19), (83, 20), (84, 21), (85, 22), (86, 23), (87, 24), (88, 25), (89, 26), (90, 27), (91, 28), (92, 29), (93, 30), (94, 31), (95, 32), (96, 33), (97, 34), (98, 35), (99, 36), (100, 37), (101, 38), (102, 39), (103, 40), (6, 41)] (by kernel_rfl) (fun _ _ => by kernel_rfl) ?_
          intro vs wv hB hA
          have h0 : vs 0 = _ := hA.1
          have h1 : vs 1 = _ := hA.2.1
          have h2 : vs 2 = _ := hA.2.2.1
          have h3 : vs 3 = _ := hA.2.2.2.1
          have h4 : vs 4 = _ := hA.2.2.2.2.1
          have h5 : vs 5 = _ := hA.2.2.2.2.2.1
          have h6 : vs 6 = _ := hA.2.2.2.2.2.2.1
          have h7 : vs 7 = _ := hA.2.2.2.2.2.2.2.1
          have h8 : vs 8 = _ := hA.2.2.2.2.2.2.2.2.1
          have h9 : vs 9 = _ := hA.2.2.2.2.2.2.2.2.2.1
          have h10 : vs 10 = _ := hA.2.2.2.2.2.2.2.2.2.2.1
          have h11 : vs 11 = _ := hA.2.2.2.2.2.2.2.2.2.2.2.1
          have h12 : vs 12 = _ := hA.2.2.2.2.2.2.2.2.2.2.2.2.1
          have h13 : vs 13 = _ := hA.2.2.2.2.2.2.2.2.2.2.2.2.2.1
          have h14 : vs 14 = _ := hA.2.2.2.2.2.2.2.2.2.2.2.2.2.2.1
          have h15 : vs 15 = _ := hA.2.2.2.2.2.2.2.2.2.2.2.2.2.2.2.1
          have h16 : vs 16 = _ := hA.2.2.2.2.2.2.2.2.2.2.2.2.2.2.2.2.1
          have h17 : MgIn wv (vs 17) [(t1, t2), (r1, r2)] := hA.2.2.2.2.2.2.2.2.2.2.2.2.2.2.2.2.2.1
          have h18 : vs 18 = _ := hA.2.2.2.2.2.2.2.2.2.2.2.2.2.2.2.2.2.2.1
          have h19 : vs 19 = _ := hA.2.2.2.2.2.2.2.2.2.2.2.2.2.2.2.2.2.2.2.1
          have h20 : vs 20 = _ := hA.2.2.2.2.2.2.2.2.2.2.2.2.2.2.2.2.2.2.2.2.1
          have h21 : vs 21 = _ := hA.2.2.2.2.2.2.2.2.2.2.2.2.2.2.2.2.2.2.2.2.2.1
          have h22 : vs 22 = _ := hA.2.2.2.2.2.2.2.2.2.2.2.2.2.2.2.2.2.2.2.2.2.2.1
          have h23 : vs 23 = _ := hA.2.2.2.2.2.2.2.2.2.2.2.2.2.2.2.2.2.2.2.2.2.2.2.1
          have h24 : vs 24 = _ := hA.2.2.2.2.2.2.2.2.2.2.2.2.2.2.2.2.2.2.2.2.2.2.2.2.1
          have h25 : MgIn wv (vs 25) [(P, Q), (P, Q)] := hA.2.2.2.2.2.2.2.2.2.2.2.2.2.2.2.2.2.2.2.2.2.2.2.2.2.1
          have h26 : vs 26 = _ := hA.2.2.2.2.2.2.2.2.2.2.2.2.2.2.2.2.2.2.2.2.2.2.2.2.2.2.1
          have h27 : vs 27 = _ := hA.2.2.2.2.2.2.2.2.2.2.2.2.2.2.2.2.2.2.2.2.2.2.2.2.2.2.2.1
          have h28 : vs 28 = _ := hA.2.2.2.2.2.2.2.2.2.2.2.2.2.2.2.2.2.2.2.2.2.2.2.2.2.2.2.2.1
          have h29 : vs 29 = _ := hA.2.2.2.2.2.2.2.2.2.2.2.2.2.2.2.2.2.2.2.2.2.2.2.2.2.2.2.2.2.1
          have h30 : vs 30 = _ := hA.2.2.2.2.2.2.2.2.2.2.2.2.2.2.2.2.2.2.2.2.2.2.2.2.2.2.2.2.2.2.1
          have h31 : vs 31 = _ := hA.2.2.2.2.2.2.2.2.2.2.2.2.2.2.2.2.2.2.2.2.2.2.2.2.2.2.2.2.2.2.2.1
          have h32 : vs 32 = _ := hA.2.2.2.2.2.2.2.2.2.2.2.2.2.2.2.2.2.2.2.2.2.2.2.2.2.2.2.2.2.2.2.2.1
          have h33 : vs 33 = _ := hA.2.2.2.2.2.2.2.2.2.2.2.2.2.2.2.2.2.2.2.2.2.2.2.2.2.2.2.2.2.2.2.2.2.1
          have h34 : vs 34 = _ := hA.2.2.2.2.2.2.2.2.2.2.2.2.2.2.2.2.2.2.2.2.2.2.2.2.2.2.2.2.2.2.2.2.2.2.1
          have h35 : vs 35 = _ := hA.2.2.2.2.2.2.2.2.2.2.2.2.2.2.2.2.2.2.2.2.2.2.2.2.2.2.2.2.2.2.2.2.2.2.2.1
          have h36 : MgIn wv (vs 36) [(P, Q), (x1, x2)] := hA.2.2.2.2.2.2.2.2.2.2.2.2.2.2.2.2.2.2.2.2.2.2.2.2.2.2.2.2.2.2.2.2.2.2.2.2.1
          have h37 : vs 37 = _ := hA.2.2.2.2.2.2.2.2.2.2.2.2.2.2.2.2.2.2.2.2.2.2.2.2.2.2.2.2.2.2.2.2.2.2.2.2.2.1
          have h38 : vs 38 = _ := hA.2.2.2.2.2.2.2.2.2.2.2.2.2.2.2.2.2.2.2.2.2.2.2.2.2.2.2.2.2.2.2.2.2.2.2.2.2.2.1
          have h39 : vs 39 = _ := hA.2.2.2.2.2.2.2.2.2.2.2.2.2.2.2.2.2.2.2.2.2.2.2.2.2.2.2.2.2.2.2.2.2.2.2.2.2.2.2.1
          have h40 : vs 40 = _ := hA.2.2.2.2.2.2.2.2.2.2.2.2.2.2.2.2.2.2.2.2.2.2.2.2.2.2.2.2.2.2.2.2.2.2.2.2.2.2.2.2.1
          have h41 : vs 41 = _ := hA.2.2.2.2.2.2.2.2.2.2.2.2.2.2.2.2.2.2.2.2.2.2.2.2.2.2.2.2.2.2.2.2.2.2.2.2.2.2.2.2.2.1
          clear hA
          simp only [fillP, List.setIfInBounds_toArray, List.set_cons_zero, List.set_cons_succ, h0, h1, h2, h3, h4, h5, h6, h7, h8, h9, h10, h11, h12, h13, h14, h15, h16, h18, h19, h20, h21, h22, h23, h24, h26, h27, h28, h29, h30, h31, h32, h33, h34, h35, h37, h38, h39, h40, h41]
          go_wp2_with fail; go_ret; exact ⟨by first|rfl | simp, b_next BZ.out hB⟩
end Go.Proofs.Ytjnfbnngpcnffaa
