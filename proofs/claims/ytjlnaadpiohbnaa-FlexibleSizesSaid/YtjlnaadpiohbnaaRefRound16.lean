/-
  The document's round.
-/
import Derived.Test.YtjlnaadpiohbnaaRoundM16
import Derived.Test.YtjlnaadpiohbnaaRefAsk16
import Derived.Test.YtjlnaadpiohbnaaRefShare
import Derived.Test.YtjlnaadpiohbnaaRely3
namespace Go.Proofs.Ytjlnaadpiohbnaa
open Go.RowKit

set_option maxRecDepth 100000 in
set_option maxHeartbeats 16000000 in
theorem refRound16 (l : List It16) (A : Option Addr) (n c cO cS B gO gS : Nat) (R : Int) (g : Bool) (out : Nat → Int) (S : Nat → Bool) (w : World)
    (hv : ∀ W, Below B w W → TmIn W (.slice A n c) l) (hl : l.length = n) (hn : n ≤ 2048) (hO : IntsB w gO n out) (hS : BoolsB w gS n S) (hne : gO ≠ gS) (hBO : B ≤ gO) (hBS : B ≤ gS)
    (hR : -9007199254740992 ≤ R ∧ R ≤ 9007199254740992) (hgd : ∀ i, i < n → GoodT (itA l i)) (ho : ∀ i, i < n → S i = true → 0 ≤ out i ∧ out i ≤ 1099511627776) (fit : Bool) (hfit : decide (Fit (left0 l n R out S)) = fit) :
    Calls Try.prog 20 #[.slice A n c, .int .i64 R, .bool g, .slice (some ⟨gO, 0, none⟩) n cO, .slice (some ⟨gS, 0, none⟩) n cS] w fun e w' => e = .returned (.bool fit) ∧ Below B w w' ∧ (fit = true → Rounded l n g (left0 l n R out S) out S gO gS w') := by
  have HV := Lib.hid hv
  have HL := Lib.hid hl
  have HO := Lib.hid hO
  have HS := Lib.hid hS
  have HGD := Lib.hid hgd
  have HOB := Lib.hid ho
  have HFIT := Lib.hid hfit
  have HNE := Lib.hid (And.intro hne (And.intro hBO hBS))
  have HBW : Hid (B ≤ w.heap.size) := Lib.hid (Nat.le_trans hBO (Nat.le_of_lt hO.lt))
  have LB := Lib.hid (fun k (hk : k ≤ n) => leftP_bd (l := l) (R := R) (out := out) (S := S) (k := k) (by omega) hR (fun i hi => hgd i (by omega)) (fun i hi => ho i (by omega)))
  have hmk := make_ints n (by omega)
  have W0 : Hid (IntsB (w.alloc (.cells (cellsOf .i64 n (fun _ => 0)) 3)) w.heap.size n (fun _ => 0)) := Lib.hid (whole_ints (Whole.new w _ _))
  have B0 : Hid (Below w.heap.size w (w.alloc (.cells (cellsOf .i64 n (fun _ => 0)) 3))) := Lib.hid ((Below.refl _ w).alloc (Nat.le_refl _) _)
  have LL : Hid (leftP l R out S n = left0 l n R out S) := Lib.hid rfl
  clear hv hl hO hS hgd ho hfit hne hBO hBS hR
  go_enter Try.func20, Try.ntmps20
  go_upto_region 3 with fail
  generalize w.alloc (.cells (cellsOf .i64 n (fun _ => 0)) 3) = w1 at W0 B0 ⊢
  obtain ⟨gW, hgW⟩ : ∃ gW, w.heap.size = gW := ⟨_, rfl⟩
  have HGW := Lib.hid hgW
  rw [hgW] at W0 ⊢
  clear hgW
  go_wp2_with fail
  go_loopg [11, 13] n (fun g1 vl vi wr => ∃ k : Nat, vi = .int .i64 k ∧ vl = .int .i64 (leftP l R out S k) ∧ k ≤ n ∧ n - k ≤ g1 ∧ Hid (IntsB wr gW n (wP l g S k)) ∧ Hid (Below w.heap.size w wr))
  case atStart => exact ⟨0, rfl, by simp [leftP, sumB], by omega, by omega, Lib.hid (W0.out.congr (fun i _ => by simp [wP])), B0⟩
  case round =>
    obtain ⟨k, rfl, rfl, hk, hg1, HW, HB⟩ := hrel
    obtain ⟨wo, hwo⟩ : ∃ wo, wo = wr := ⟨_, rfl⟩
    subst hwo
    clear W0 B0
    by_cases hlt : k < n
    · have hz : (k : Int) < n := by omega
      have hz0 : (0 : Int) ≤ k := by omega
      have wi : IntKind.i64.wrap ((k : Int) + 1) = (k : Int) + 1 := IntWalk.i64_in _ (by omega)
      have VW := HV.out wo (HB.out.mono HBW.out)
      obtain ⟨bb, off, c1, e, hbl, -, hk6⟩ := VW.get (i := k) (by have := HL.out; omega)
      injection e with e1 e2 e3
      subst e1 e3
      clear e2
      have TK := hk6 k (by have := HL.out; omega)
      have l0 := LB.out k (by omega)
      have l1 := LB.out (k + 1) (by omega)
      have E := Lib.hid (leftP_succ l R out S k)
      rw [E.out] at l1
      have c0 := ((HS.out.keep HB.out).cell k hlt)
      have d0 := ((HO.out.keep HB.out).cell k hlt)
      have f0 := HW.out.fro k hlt
      have w0 := HW.out.cell k hlt
      have GX := HGD.out k hlt
      have GB := GX.hbase
      have GW := Lib.hid (GX.w g)
      have GM := Lib.hid (GX.w false)
      have WS := Lib.hid (show ((wsR l g S k : Nat) : Int) = if S k = true then 0 else wI g (itA l k) from by
        unfold wsR
        split
        · rfl
        · exact Int.toNat_of_nonneg GW.out.1)
      have OB := HOB.out k hlt
      have PS := Lib.hid (fun u h => wP_set l g S k (u := u) h)
      have PE := Lib.hid (fun h => wP_same l g S k h)
      clear VW hk6
      obtain ⟨s, hs⟩ : ∃ s, S k = s := ⟨_, rfl⟩
      rw [hs] at c0 l1 E WS OB
      obtain ⟨t, ht⟩ : ∃ t, leftP l R out S k = t := ⟨_, rfl⟩
      rw [ht] at E l0 l1 ⊢
      clear ht hs GX
      cases s with
      | true =>
        rw [if_pos rfl] at E l1 WS
        have OB := OB rfl
        generalize out k = y at d0 E l1 OB
        have wl0 : IntKind.i64.wrap (t - y) = t - y := IntWalk.i64_in _ (by omega)
        obtain ⟨t2, ht2⟩ : ∃ t2, t - y = t2 := ⟨_, rfl⟩
        have wl := wl0.trans ht2
        rw [ht2] at E
        have PE2 : Hid (∀ i, i < n → Value.int .i64 (wP l g S k i) = .int .i64 (wP l g S (k + 1) i)) := Lib.hid (fun i _ => by rw [PE.out (by have := WS.out; omega) i])
        clear wl0 ht2 l0 l1 OB
        go_wp2_with fail
        go_roundg (n - (k + 1))
        case measure => omega
        case rel => exact ⟨k + 1, by go_num, by rw [E.out], by omega, Nat.le_refl _, Lib.hid (HW.out.congr PE2.out), HB⟩
      | false =>
        rw [if_neg (by decide)] at E l1 WS
        unfold wI at WS GM
        rw [if_neg (by decide)] at GM
        have CT : Hid (∀ W, Below wo.heap.size wo W → TmAt W bb (off + k * 6) (itA l k)) := Lib.hid (fun W hW => TK.keep hbl hW)
        clear GW
        generalize itA l k = x at TK CT E l1 GB WS GM
        obtain ⟨x0, x1, x2, x3, x4, x5⟩ := x
        unfold TmAt at TK CT
        dsimp only at TK CT E l1 GB WS GM
        obtain ⟨a0, a1, a2, a3, a4, a5⟩ := TK
        have wl0 : IntKind.i64.wrap (t - x0) = t - x0 := IntWalk.i64_in _ (by omega)
        obtain ⟨t2, ht2⟩ : ∃ t2, t - x0 = t2 := ⟨_, rfl⟩
        have wl := wl0.trans ht2
        rw [ht2] at E
        clear wl0 ht2 l0 l1
        have hbw : bb ≠ gW := by
          intro e
          have h1 := (HV.out w (Below.refl _ _)).get (i := k) (by have := HL.out; omega)
          obtain ⟨b2, o2, c2, e2, hb2, -, -⟩ := h1
          injection e2 with e3 e4 e5
          injection e3 with e3
          injection e3 with e3
          have := HGW.out
          omega
        go_upto_region 9 with fail
        obtain ⟨p, hp⟩ : ∃ p, x4 * x0 = p := ⟨_, rfl⟩
        have wm : IntKind.i64.wrap (x4 * x0) = p := (IntWalk.i64_in _ (by have := GM.out; omega)).trans hp
        rw [hp] at WS
        have HBW2 := Lib.hid (fun W (hW : Below wo.heap.size wo W) => b_nx16 HB.out hW)
        have HW2 := Lib.hid (fun W (hW : Below wo.heap.size wo W) => HW.out.keep hW)
        have HGL : Hid (w.heap.size ≤ gW) := Lib.hid (by rw [HGW.out]; exact Nat.le_refl _)
        clear hp GM GB hbl HB HW c0 d0 f0 w0 a0 a1 a2 a3 a4 a5 OB PE LB HO HS HGD HOB HV
        refine' wp_region_last [opV _, opV _, opV _, opV _, opV _, opV _, opV _, opV _, opV _, opV _, opV _, opV _, opV _, opV _] 14 _ rfl (by kernel_rfl) rfl (by kernel_rfl) ⟨?s0, ?s1, ?s2, ?s3, ?s4, ?s5, ?s6, ?s7, ?s8, ?s9, ?s10, ?s11, ?s12, ?s13, trivial⟩ rfl ?fin
        case s0 =>
          refine BStep.of [] [] (opV _) (by kernel_rfl) (fun _ _ => by kernel_rfl) rfl ?_
          intro vs wv hB hA
          clear hA
          simp only [fillP]
          have ct := CT.out wv hB; have a0 := ct.1; have a1 := ct.2.1; have a2 := ct.2.2.1; have a3 := ct.2.2.2.1; have a4 := ct.2.2.2.2.1; have a5 := ct.2.2.2.2.2; clear ct; go_wp2_with fail
          refine postB_val ?_ (Below.refl _ _)
          simp only [List.getElem?_cons_succ, List.getElem?_cons_zero]
          rfl
        case s1 =>
          refine BStep.of [] [] (opV _) (by kernel_rfl) (fun _ _ => by kernel_rfl) rfl ?_
          intro vs wv hB hA
          clear hA
          simp only [fillP]
          have ct := CT.out wv hB; have a0 := ct.1; have a1 := ct.2.1; have a2 := ct.2.2.1; have a3 := ct.2.2.2.1; have a4 := ct.2.2.2.2.1; have a5 := ct.2.2.2.2.2; clear ct; go_wp2_with fail
          refine postB_val ?_ (Below.refl _ _)
          simp only [List.getElem?_cons_succ, List.getElem?_cons_zero]
          rfl
        case s2 =>
          refine BStep.of [] [] (opV _) (by kernel_rfl) (fun _ _ => by kernel_rfl) rfl ?_
          intro vs wv hB hA
          clear hA
          simp only [fillP]
          have ct := CT.out wv hB; have a0 := ct.1; have a1 := ct.2.1; have a2 := ct.2.2.1; have a3 := ct.2.2.2.1; have a4 := ct.2.2.2.2.1; have a5 := ct.2.2.2.2.2; clear ct; go_wp2_with fail
          refine postB_val ?_ (Below.refl _ _)
          simp only [List.getElem?_cons_succ, List.getElem?_cons_zero]
          rfl
        case s3 =>
          refine BStep.of [] [] (opV _) (by kernel_rfl) (fun _ _ => by kernel_rfl) rfl ?_
          intro vs wv hB hA
          clear hA
          simp only [fillP]
          have ct := CT.out wv hB; have a0 := ct.1; have a1 := ct.2.1; have a2 := ct.2.2.1; have a3 := ct.2.2.2.1; have a4 := ct.2.2.2.2.1; have a5 := ct.2.2.2.2.2; clear ct; go_wp2_with fail
          refine postB_val ?_ (Below.refl _ _)
          simp only [List.getElem?_cons_succ, List.getElem?_cons_zero]
          rfl
        case s4 =>
          refine BStep.of [2, 3] [(50, 2), (51, 3)] (opV _) (by kernel_rfl) (fun _ _ => by kernel_rfl) rfl ?_
          intro vs wv hB hA
          have h2 : vs 2 = _ := hA.1
          have h3 : vs 3 = _ := hA.2.1
          clear hA
          simp only [fillP, List.setIfInBounds_toArray, List.set_cons_zero, List.set_cons_succ, h2, h3]
          have ct := CT.out wv hB; have a0 := ct.1; have a1 := ct.2.1; have a2 := ct.2.2.1; have a3 := ct.2.2.2.1; have a4 := ct.2.2.2.2.1; have a5 := ct.2.2.2.2.2; clear ct; go_wp2_with fail
          refine postB_val ?_ (Below.refl _ _)
          simp only [List.getElem?_cons_succ, List.getElem?_cons_zero]
          rfl
        case s5 =>
          refine BStep.of [4] [(52, 4)] (opV _) (by kernel_rfl) (fun _ _ => by kernel_rfl) rfl ?_
          intro vs wv hB hA
          have h4 : vs 4 = _ := hA.1
          clear hA
          simp only [fillP, List.setIfInBounds_toArray, List.set_cons_zero, List.set_cons_succ, h4]
          have ct := CT.out wv hB; have a0 := ct.1; have a1 := ct.2.1; have a2 := ct.2.2.1; have a3 := ct.2.2.2.1; have a4 := ct.2.2.2.2.1; have a5 := ct.2.2.2.2.2; clear ct; go_wp2_with fail
          refine postB_val ?_ (Below.refl _ _)
          simp only [List.getElem?_cons_succ, List.getElem?_cons_zero]
          rfl
        case s6 =>
          refine BStep.of [5] [(53, 5)] (opV _) (by kernel_rfl) (fun _ _ => by kernel_rfl) rfl ?_
          intro vs wv hB hA
          have h5 : vs 5 = _ := hA.1
          clear hA
          simp only [fillP, List.setIfInBounds_toArray, List.set_cons_zero, List.set_cons_succ, h5]
          have ct := CT.out wv hB; have a0 := ct.1; have a1 := ct.2.1; have a2 := ct.2.2.1; have a3 := ct.2.2.2.1; have a4 := ct.2.2.2.2.1; have a5 := ct.2.2.2.2.2; clear ct; go_wp2_with fail
          refine postB_val ?_ (Below.refl _ _)
          simp only [List.getElem?_cons_succ, List.getElem?_cons_zero]
          rfl
        case s7 =>
          refine BStep.of [] [] (opV _) (by kernel_rfl) (fun _ _ => by kernel_rfl) rfl ?_
          intro vs wv hB hA
          clear hA
          simp only [fillP]
          have ct := CT.out wv hB; have a0 := ct.1; have a1 := ct.2.1; have a2 := ct.2.2.1; have a3 := ct.2.2.2.1; have a4 := ct.2.2.2.2.1; have a5 := ct.2.2.2.2.2; clear ct; go_wp2_with fail
          refine postB_val ?_ (Below.refl _ _)
          simp only [List.getElem?_cons_succ, List.getElem?_cons_zero]
          rfl
        case s8 =>
          refine BStep.of [] [] (opV _) (by kernel_rfl) (fun _ _ => by kernel_rfl) rfl ?_
          intro vs wv hB hA
          clear hA
          simp only [fillP]
          have ct := CT.out wv hB; have a0 := ct.1; have a1 := ct.2.1; have a2 := ct.2.2.1; have a3 := ct.2.2.2.1; have a4 := ct.2.2.2.2.1; have a5 := ct.2.2.2.2.2; clear ct; go_wp2_with fail
          refine postB_val ?_ (Below.refl _ _)
          simp only [List.getElem?_cons_succ, List.getElem?_cons_zero]
          rfl
        case s9 =>
          refine BStep.of [7, 8] [(55, 7), (56, 8)] (opV _) (by kernel_rfl) (fun _ _ => by kernel_rfl) rfl ?_
          intro vs wv hB hA
          have h7 : vs 7 = _ := hA.1
          have h8 : vs 8 = _ := hA.2.1
          clear hA
          simp only [fillP, List.setIfInBounds_toArray, List.set_cons_zero, List.set_cons_succ, h7, h8]
          have ct := CT.out wv hB; have a0 := ct.1; have a1 := ct.2.1; have a2 := ct.2.2.1; have a3 := ct.2.2.2.1; have a4 := ct.2.2.2.2.1; have a5 := ct.2.2.2.2.2; clear ct; go_wp2_with fail
          refine postB_val ?_ (Below.refl _ _)
          simp only [List.getElem?_cons_succ, List.getElem?_cons_zero]
          rfl
        case s10 =>
          refine BStep.of [9] [(57, 9)] (opV _) (by kernel_rfl) (fun _ _ => by kernel_rfl) rfl ?_
          intro vs wv hB hA
          have h9 : vs 9 = _ := hA.1
          clear hA
          simp only [fillP, List.setIfInBounds_toArray, List.set_cons_zero, List.set_cons_succ, h9]
          have ct := CT.out wv hB; have a0 := ct.1; have a1 := ct.2.1; have a2 := ct.2.2.1; have a3 := ct.2.2.2.1; have a4 := ct.2.2.2.2.1; have a5 := ct.2.2.2.2.2; clear ct; go_wp2_with fail
          refine postB_val ?_ (Below.refl _ _)
          simp only [List.getElem?_cons_succ, List.getElem?_cons_zero]
          rfl
        case s11 =>
          refine BStep.of [10] [(58, 10)] (opV _) (by kernel_rfl) (fun _ _ => by kernel_rfl) rfl ?_
          intro vs wv hB hA
          have h10 : vs 10 = _ := hA.1
          clear hA
          simp only [fillP, List.setIfInBounds_toArray, List.set_cons_zero, List.set_cons_succ, h10]
          have ct := CT.out wv hB; have a0 := ct.1; have a1 := ct.2.1; have a2 := ct.2.2.1; have a3 := ct.2.2.2.1; have a4 := ct.2.2.2.2.1; have a5 := ct.2.2.2.2.2; clear ct; go_wp2_with fail
          refine postB_val ?_ (Below.refl _ _)
          simp only [List.getElem?_cons_succ, List.getElem?_cons_zero]
          rfl
        case s12 =>
          refine BStep.of [6, 11] [(54, 6), (59, 11)] (opV _) (by kernel_rfl) (fun _ _ => by kernel_rfl) rfl ?_
          intro vs wv hB hA
          have h6 : vs 6 = _ := hA.1
          have h11 : vs 11 = _ := hA.2.1
          clear hA
          simp only [fillP, List.setIfInBounds_toArray, List.set_cons_zero, List.set_cons_succ, h6, h11]
          have ct := CT.out wv hB; have a0 := ct.1; have a1 := ct.2.1; have a2 := ct.2.2.1; have a3 := ct.2.2.2.1; have a4 := ct.2.2.2.2.1; have a5 := ct.2.2.2.2.2; clear ct; go_wp2_with fail
          refine postB_val ?_ (Below.refl _ _)
          simp only [List.getElem?_cons_succ, List.getElem?_cons_zero]
          rfl
        case s13 =>
          refine BStep.of [0, 1, 2, 3, 4, 5, 6, 7, 8, 9, 10, 11, 12] [(48, 0), (49, 1), (50, 2), (51, 3), (52, 4), (53, 5), (54, 6), (55, 7), (56, 8), (57, 9), (58, 10), (59, 11), (60, 12)] (opV _) (by kernel_rfl) (fun _ _ => by kernel_rfl) rfl ?_
          intro vs wv hB hA
          have h0 : vs 0 = _ := hA.1
          have h1 : vs 1 = _ := hA.2.1
          have h2 : vs 2 = _ := hA.2.2.1
          have h3 : vs 3 = _ := hA.2.2.2.1
          have h4 : vs 4 = _ := hA.2.2.2.2.1
          have h5 : vs 5 = _ := hA.2.2.2.2.2.1
          have h6 : vs 6 = _ := hA.2.2.2.2.2.2.1
          have h7 : vs 7 = _ := hA.2.2.2.2.2.2.2.1
          have h8 : vs 8 = _ := hA.2.2.2.2.2.2.2.2.1
          have h9 : vs 9 = _ := hA.2.2.2.2.2.2.2.2.2.1
          have h10 : vs 10 = _ := hA.2.2.2.2.2.2.2.2.2.2.1
          have h11 : vs 11 = _ := hA.2.2.2.2.2.2.2.2.2.2.2.1
          have h12 : vs 12 = _ := hA.2.2.2.2.2.2.2.2.2.2.2.2.1
          clear hA
          simp only [fillP, List.setIfInBounds_toArray, List.set_cons_zero, List.set_cons_succ, h0, h1, h2, h3, h4, h5, h6, h7, h8, h9, h10, h11, h12]
          have ct := CT.out wv hB; have a0 := ct.1; have a1 := ct.2.1; have a2 := ct.2.2.1; have a3 := ct.2.2.2.1; have a4 := ct.2.2.2.2.1; have a5 := ct.2.2.2.2.2; clear ct; go_wp2_with fail
          refine postB_val ?_ (Below.refl _ _)
          simp only [List.getElem?_cons_succ, List.getElem?_cons_zero]
          rfl
        case fin =>
          refine last_of [0, 1, 2, 3, 4, 5, 6, 7, 8, 9, 10, 11, 12, 13] [(48, 0), (49, 1), (50, 2), (51, 3), (52, 4), (53, 5), (54, 6), (55, 7), (56, 8), (57, 9), (58, 10), (59, 11), (60, 12), (61, 13)] (by kernel_rfl) (fun _ _ => by kernel_rfl) ?_
          intro vs wv hB hA
          have h0 : vs 0 = _ := hA.1
          have h1 : vs 1 = _ := hA.2.1
          have h2 : vs 2 = _ := hA.2.2.1
          have h3 : vs 3 = _ := hA.2.2.2.1
          have h4 : vs 4 = _ := hA.2.2.2.2.1
          have h5 : vs 5 = _ := hA.2.2.2.2.2.1
          have h6 : vs 6 = _ := hA.2.2.2.2.2.2.1
          have h7 : vs 7 = _ := hA.2.2.2.2.2.2.2.1
          have h8 : vs 8 = _ := hA.2.2.2.2.2.2.2.2.1
          have h9 : vs 9 = _ := hA.2.2.2.2.2.2.2.2.2.1
          have h10 : vs 10 = _ := hA.2.2.2.2.2.2.2.2.2.2.1
          have h11 : vs 11 = _ := hA.2.2.2.2.2.2.2.2.2.2.2.1
          have h12 : vs 12 = _ := hA.2.2.2.2.2.2.2.2.2.2.2.2.1
          have h13 : vs 13 = _ := hA.2.2.2.2.2.2.2.2.2.2.2.2.2.1
          clear hA
          simp only [fillP, List.setIfInBounds_toArray, List.set_cons_zero, List.set_cons_succ, h0, h1, h2, h3, h4, h5, h6, h7, h8, h9, h10, h11, h12, h13]
          clear h0 h1 h2 h3 h4 h5 h6 h7 h8 h9 h10 h11 h12 h13
          have HWv := Lib.hid (HW2.out wv hB)
          have HBv := Lib.hid (HBW2.out wv hB)
          have CTv := CT.out wv hB
          obtain ⟨a0, a1, a2, a3, a4, a5⟩ := CTv
          have f1 := HWv.out.fro k hlt
          have w1 := HWv.out.cell k hlt
          have hgb : ¬ gW = bb := fun e => hbw e.symm
          cases g with
          | true =>
            have I5 : Hid (IntsB ((wv.setCell ⟨gW, k, none⟩ (.int .i64 p)).setCell ⟨gW, k, none⟩ (.int .i64 x3)) gW n (wP l true S (k + 1))) := Lib.hid (((HWv.out.set hlt (.int .i64 p)).set hlt (.int .i64 x3)).congr (fun i _ => by
              rw [← PS.out x3 (by rw [WS.out, if_pos rfl]) i]
              by_cases e : i = k
              · rw [if_pos e, if_pos e]
              · rw [if_neg e, if_neg e, if_neg e]))
            have B5 : Hid (Below w.heap.size w ((wv.setCell ⟨gW, k, none⟩ (.int .i64 p)).setCell ⟨gW, k, none⟩ (.int .i64 x3))) := Lib.hid ((HBv.out.setCell HGL.out _).setCell HGL.out _)
            clear HWv HBv CT HBW2 HW2 PS WS
            go_wp2_with fail
            go_roundg (n - (k + 1))
            case measure => omega
            case rel => exact ⟨k + 1, by go_num, by rw [E.out], by omega, Nat.le_refl _, I5, B5⟩
          | false =>
            have I5 : Hid (IntsB (wv.setCell ⟨gW, k, none⟩ (.int .i64 p)) gW n (wP l false S (k + 1))) := Lib.hid ((HWv.out.set hlt (.int .i64 p)).congr (fun i _ => PS.out p (by rw [WS.out, if_neg (by decide)]) i))
            have B5 : Hid (Below w.heap.size w (wv.setCell ⟨gW, k, none⟩ (.int .i64 p))) := Lib.hid (HBv.out.setCell HGL.out _)
            clear HWv HBv CT HBW2 HW2 PS WS
            go_wp2_with fail
            go_roundg (n - (k + 1))
            case measure => omega
            case rel => exact ⟨k + 1, by go_num, by rw [E.out], by omega, Nat.le_refl _, I5, B5⟩
    · obtain rfl : k = n := by omega
      have hz : ¬ (k : Int) < k := by omega
      rw [LL.out]
      have K1 := Lib.hid (refFits_any (left0 l k R out S) wo fit HFIT.out)
      have BBw : Hid (Below B w wo) := Lib.hid (HB.out.mono HBW.out)
      obtain ⟨t, ht⟩ : ∃ t, left0 l k R out S = t := ⟨_, rfl⟩
      rw [ht] at K1 HFIT ⊢
      have HT0 := Lib.hid ht.symm
      clear ht LL LB
      cases fit with
      | false =>
        go_wp2_with (go_at_call 34; (with_reducible refine K1.out.mono ?_); rintro e6 w6 ⟨rfl, hw'⟩; obtain rfl := hw')
        go_ret
        exact ⟨rfl, BBw.out, fun h => by cases h⟩
      | true =>
      have FT := of_decide_eq_true HFIT.out
      unfold Fit at FT
      go_upto_region 14 with (go_at_call 34; (with_reducible refine K1.out.mono ?_); rintro e6 w6 ⟨rfl, hw'⟩; obtain rfl := hw')
      clear K1
      obtain ⟨gb, hgb⟩ : ∃ b, decide ((g = true ∧ t < 0) ∨ (g = false ∧ 0 < t)) = b := ⟨_, rfl⟩
      have HGB := Lib.hid hgb
      clear hgb
      go_cut [86] from 71 (fun v wx => v = .bool gb ∧ wx = wo)
      case first =>
        clear FT
        cases g with
        | true =>
          by_cases h : t < 0
          · have d1 : decide (t < 0) = true := decide_eq_true h
            have E0 : Hid (gb = true) := Lib.hid (by rw [← HGB.out]; exact decide_eq_true (.inl ⟨rfl, h⟩))
            clear h
            go_wp2_with fail
            go_meet
            exact ⟨by rw [E0.out], rfl⟩
          · have d1 : decide (t < 0) = false := decide_eq_false h
            have E0 : Hid (gb = false) := Lib.hid (by rw [← HGB.out]; exact decide_eq_false (by rintro (⟨_, h2⟩ | ⟨h2, _⟩); exact h h2; cases h2))
            clear h
            go_wp2_with fail
            go_meet
            exact ⟨by rw [E0.out], rfl⟩
        | false =>
          by_cases h : 0 < t
          · have d1 : decide (0 < t) = true := decide_eq_true h
            have E0 : Hid (gb = true) := Lib.hid (by rw [← HGB.out]; exact decide_eq_true (.inr ⟨rfl, h⟩))
            clear h
            go_wp2_with fail
            go_meet
            exact ⟨by rw [E0.out], rfl⟩
          · have d1 : decide (0 < t) = false := decide_eq_false h
            have E0 : Hid (gb = false) := Lib.hid (by rw [← HGB.out]; exact decide_eq_false (by rintro (⟨h2, _⟩ | ⟨_, h2⟩); cases h2; exact h h2))
            clear h
            go_wp2_with fail
            go_meet
            exact ⟨by rw [E0.out], rfl⟩
      case rest =>
      obtain ⟨rfl, hw⟩ := hcut
      obtain rfl := hw.symm
      clear hw
      have HLG : Hid (leftG g t = if gb = true then 0 else t) := Lib.hid (by
        unfold leftG
        cases gb with
        | true => rw [if_pos (of_decide_eq_true HGB.out), if_pos rfl]
        | false => rw [if_neg (of_decide_eq_false HGB.out), if_neg (by decide)])
      clear HGB
      go_upto_if 86 with fail
      go_cut [11] from 71 (fun v wx => v = .int .i64 (leftG g t) ∧ wx = wo)
      case first =>
        cases gb with
        | true =>
          have E0 : Hid (leftG g t = 0) := Lib.hid (by rw [HLG.out, if_pos rfl])
          go_wp2_with fail
          go_meet
          exact ⟨by rw [E0.out], rfl⟩
        | false =>
          have E0 : Hid (leftG g t = t) := Lib.hid (by rw [HLG.out, if_neg (by decide)])
          go_wp2_with fail
          go_meet
          exact ⟨by rw [E0.out], rfl⟩
      case rest =>
      obtain ⟨rfl, hw⟩ := hcut
      obtain rfl := hw.symm
      clear hw
      have FG : Fit (leftG g t) := by
        unfold leftG
        split
        · unfold Fit; omega
        · exact FT
      have KS := Lib.hid (refShare_yes (leftG g t) k k (some ⟨gW, 0, none⟩) (wsR l g S) wo FG hn (fun i hi => by
          have := (HGD.out i hi).w g
          unfold wsR
          split
          · omega
          · omega) (IntsB.ints (f := fun i => ((wsR l g S i : Nat) : Int)) (HW.out.congr (fun i hi => by unfold wP; rw [if_pos hi])) (fun i hi => by
          have := (HGD.out i hi).w g
          unfold wsR
          split
          · omega
          · omega)))
      unfold SharePost at KS
      clear HW HFIT
      go_upto_region 17 with (go_at_call 35; (with_reducible refine KS.out.mono ?_); rintro e w5 ⟨gX, X, rfl, hWh, hb, hgX, hSh⟩; have X5 := Lib.hid (whole_ints hWh); have B5 := Lib.hid (b_nx16 HB.out hb); have GX5 := Lib.hid (Nat.le_trans HB.out.size hgX); have SH := Lib.hid hSh; clear hWh hb hgX hSh)
      have XB := Lib.hid (share_bd16 SH.out FG hn)
      have B6 : Hid (Below w.heap.size w (w5.alloc (.cells (cellsOf .i64 k (fun _ => 0)) 3))) := Lib.hid (b_nx16 B5.out ((Below.refl _ w5).alloc (Nat.le_refl _) _))
      have C6 : Hid (IntsB (w5.alloc (.cells (cellsOf .i64 k (fun _ => 0)) 3)) w5.heap.size k (fun _ => 0)) := Lib.hid (whole_ints (Whole.new w5 _ _))
      have X6 : Hid (IntsB (w5.alloc (.cells (cellsOf .i64 k (fun _ => 0)) 3)) gX k X) := Lib.hid (X5.out.keep ((Below.refl _ w5).alloc (Nat.le_refl _) _))
      have NX6 : Hid (gX ≠ w5.heap.size) := Lib.hid (Nat.ne_of_lt X5.out.lt)
      have GC6 : Hid (w.heap.size ≤ w5.heap.size) := Lib.hid B5.out.size
      go_upto_region 18 with fail
      clear X5 B5 KS FG HB
      generalize w5.alloc (.cells (cellsOf .i64 k (fun _ => 0)) 3) = w6 at B6 C6 X6 ⊢
      generalize w5.heap.size = gC at C6 NX6 GC6 ⊢
      have O6 := Lib.hid (HO.out.keep B6.out)
      have S6 := Lib.hid (HS.out.keep B6.out)
      have hl1 := HO.out.lt
      have hl2 := HS.out.lt
      have N1 : Hid (gX ≠ gO ∧ gO ≠ gC ∧ gS ≠ gC ∧ gS ≠ gO ∧ B ≤ gC) := Lib.hid ⟨by have := GX5.out; omega, by have := GC6.out; omega, by have := GC6.out; omega, fun e => HNE.out.1 e.symm, by have := GC6.out; have := HBW.out; omega⟩
      have BB6 : Hid (Below B w w6) := Lib.hid (B6.out.mono HBW.out)
      have HNO : Hid (B ≤ gO) := Lib.hid HNE.out.2.1
      have HNS : Hid (B ≤ gS) := Lib.hid HNE.out.2.2
      clear HO HS hl1 hl2 B6 GX5 GC6 BBw hmk FT
      go_wp2_with fail
      go_loopg [17, 18] k (fun g1 vs vi wr => ∃ j : Nat, vi = .int .i64 j ∧ vs = .int .i64 (sumB (chR l S X) j) ∧ j ≤ k ∧ k - j ≤ g1 ∧ Hid (IntsB wr gO k (outP l out S X j)) ∧ Hid (IntsB wr gC k (chP l S X j)) ∧ Hid (But2 B gO gC w6 wr))
      case atStart => exact ⟨0, rfl, rfl, by omega, by omega, Lib.hid (O6.out.congr (fun i _ => by simp [outP])), Lib.hid (C6.out.congr (fun i _ => by simp [chP])), Lib.hid (But2.refl _ _ _ _)⟩
      case round =>
        obtain ⟨j, rfl, rfl, hj, hg1, HO, HC, HB⟩ := hrel
        obtain ⟨wp, hwp⟩ : ∃ wp, wp = wr := ⟨_, rfl⟩
        subst hwp
        clear C6 O6
        by_cases hlt : j < k
        · have hz : (j : Int) < k := by omega
          have hz0 : (0 : Int) ≤ j := by omega
          have wi : IntKind.i64.wrap ((j : Int) + 1) = (j : Int) + 1 := IntWalk.i64_in _ (by omega)
          have SW := Lib.hid (S6.out.but2 HB.out N1.out.2.2.2.1 N1.out.2.2.1)
          have c0 := SW.out.cell j hlt
          have CS := Lib.hid (show sumB (chR l S X) (j + 1) = sumB (chR l S X) j + chR l S X j from rfl)
          have SB := Lib.hid (fun i (hi : i ≤ k) => ch_bd16 (l := l) (S := S) (X := X) (n := i) (by omega) (fun a ha => HGD.out a (by omega)) (fun a ha => XB.out a (by omega)))
          obtain ⟨s, hs⟩ : ∃ s, S j = s := ⟨_, rfl⟩
          rw [hs] at c0
          have HSj := Lib.hid hs
          clear hs
          cases s with
          | true =>
            have OE := Lib.hid (outP_same l out S X j (by unfold outR; rw [HSj.out, if_pos rfl]))
            have E0 : Hid (chR l S X j = 0) := Lib.hid (by unfold chR; rw [HSj.out, if_pos rfl])
            have CE := Lib.hid (chP_same l S X j E0.out)
            have E1 : Hid (sumB (chR l S X) (j + 1) = sumB (chR l S X) j) := Lib.hid (by rw [CS.out, E0.out]; omega)
            go_wp2_with fail
            go_roundg (k - (j + 1))
            case measure => omega
            case rel => exact ⟨j + 1, by go_num, by rw [E1.out], by omega, Nat.le_refl _, Lib.hid (HO.out.congr (fun i _ => by rw [OE.out i])), Lib.hid (HC.out.congr (fun i _ => by rw [CE.out i])), HB⟩
          | false =>
            have VW := HV.out wp (BB6.out.trans HB.out.below)
            obtain ⟨bb, off, c1, e, hbl, -, hk6⟩ := VW.get (i := j) (by have := HL.out; omega)
            injection e with e1 e2 e3
            subst e1 e3
            clear e2
            have TK := hk6 j (by have := HL.out; omega)
            have hbB : bb < B ∨ B ≤ bb := Nat.lt_or_ge _ _
            have XW := Lib.hid (X6.out.but2 HB.out N1.out.1 NX6.out)
            have GX := HGD.out j hlt
            have GB := GX.hbase
            have GCb := Lib.hid (GX.c)
            have XBj := XB.out j hlt
            have s1 := SB.out j (by omega)
            have OS := Lib.hid (fun u h => outP_set l out S X j (u := u) h)
            have CSt := Lib.hid (fun u h => chP_set l S X j (u := u) h)
            have ER : Hid (outR l out S X j = cI (itA l j) ((itA l j).base + X j)) := Lib.hid (by unfold outR; rw [HSj.out, if_neg (by decide)])
            have EC : Hid (chR l S X j = cI (itA l j) ((itA l j).base + X j) - ((itA l j).base + X j)) := Lib.hid (by unfold chR; rw [HSj.out, if_neg (by decide)])
            have CT : Hid (∀ W, Below wp.heap.size wp W → TmAt W bb (off + j * 6) (itA l j) ∧ W.cell? ⟨gX, j, none⟩ = some (.int .i64 (X j)) ∧ Below wp.heap.size wp W) := Lib.hid (fun W hW => ⟨TK.keep hbl hW, (XW.out.keep hW).cell j hlt, hW⟩)
            clear TK hbB VW hk6 hbl XW SW HV X6 S6
            obtain ⟨sh, hsh⟩ : ∃ sh, X j = sh := ⟨_, rfl⟩
            rw [hsh] at CT XBj ER EC
            clear hsh GX
            generalize itA l j = x at CT ER EC GB GCb
            obtain ⟨x0, x1, x2, x3, x4, x5⟩ := x
            unfold TmAt at CT
            dsimp only at CT ER EC GB
            have wg0 : IntKind.i64.wrap (x0 + sh) = x0 + sh := IntWalk.i64_in _ (by omega)
            obtain ⟨gl, hgl⟩ : ∃ gl, x0 + sh = gl := ⟨_, rfl⟩
            have wg := wg0.trans hgl
            rw [hgl] at ER EC
            have GCv := GCb.out gl
            obtain ⟨cv, hcv⟩ : ∃ cv, cI ⟨x0, x1, x2, x3, x4, x5⟩ gl = cv := ⟨_, rfl⟩
            rw [hcv] at ER EC GCv
            have KCl := Lib.hid (fun W => refClamp_any gl x1 x2 W cv hcv)
            have wc0 : IntKind.i64.wrap (cv - gl) = cv - gl := IntWalk.i64_in _ (by omega)
            obtain ⟨ch, hch⟩ : ∃ ch, cv - gl = ch := ⟨_, rfl⟩
            have wc := wc0.trans hch
            rw [hch] at EC
            rw [EC.out] at CS
            have s2 := SB.out (j + 1) (by omega)
            rw [CS.out] at s2
            obtain ⟨sm, hsm⟩ : ∃ sm, sumB (chR l S X) j = sm := ⟨_, rfl⟩
            rw [hsm] at CS s1 s2 ⊢
            have ws : IntKind.i64.wrap (sm + ch) = sm + ch := IntWalk.i64_in _ (by omega)
            have HB6 : Hid (B ≤ w6.heap.size) := Lib.hid (Nat.le_trans HBW.out BB6.out.size |> fun h => h)
            have OP1 : Hid (outP l out S X (j + 1) j = cv) := Lib.hid (by unfold outP; rw [if_pos (Nat.lt_succ_self _), ER.out])
            have CP1 : Hid (chP l S X (j + 1) j = ch) := Lib.hid (by unfold chP; rw [if_pos (Nat.lt_succ_self _), EC.out])
            clear hsm wc0 hch hcv GCb GCv wg0 hgl GB XBj SB s1 s2
            obtain ⟨⟨a0, a1, a2, a3, a4, a5⟩, a6, -⟩ := CT.out wp (Below.refl _ _)
            go_upto_region 22 with fail
            go_quiet (fail)
            go_upto_region 23 with fail
            clear a0 a1 a2 a3 a4 a5 a6 c0
            have CT2 : Hid (∀ W, Below (wp.drewN nq).heap.size (wp.drewN nq) W → _) := Lib.hid (fun W hW => CT.out W (b_nx16 (drewN_below wp nq wp.heap.size) hW))
            clear CT
            generalize wp.drewN nq = wp2 at CT2 ⊢
            clear HBW BB6 HGD HOB XB SH HNE
            refine' wp_region_last [opV _, opV _, opV _, opV _, opV _, opV _, opV _, opV _, opV _, opV _, opV _, opV _, opV _, opV (.int .i64 cv), opV _] 15 _ rfl (by kernel_rfl) rfl (by kernel_rfl) ⟨?s0, ?s1, ?s2, ?s3, ?s4, ?s5, ?s6, ?s7, ?s8, ?s9, ?s10, ?s11, ?s12, ?s13, ?s14, trivial⟩ rfl ?fin
            case s0 =>
              refine BStep.of [] [] (opV _) (by kernel_rfl) (fun _ _ => by kernel_rfl) rfl ?_
              intro vs wv hB hA
              clear hA
              simp only [fillP]
              have ct := (CT2.out wv hB).1; have a0 := ct.1; have a1 := ct.2.1; have a2 := ct.2.2.1; have a3 := ct.2.2.2.1; have a4 := ct.2.2.2.2.1; have a5 := ct.2.2.2.2.2; clear ct; go_wp2_with fail
              refine postB_val ?_ (Below.refl _ _)
              simp only [List.getElem?_cons_succ, List.getElem?_cons_zero]
              rfl
            case s1 =>
              refine BStep.of [] [] (opV _) (by kernel_rfl) (fun _ _ => by kernel_rfl) rfl ?_
              intro vs wv hB hA
              clear hA
              simp only [fillP]
              have ct := (CT2.out wv hB).1; have a0 := ct.1; have a1 := ct.2.1; have a2 := ct.2.2.1; have a3 := ct.2.2.2.1; have a4 := ct.2.2.2.2.1; have a5 := ct.2.2.2.2.2; clear ct; go_wp2_with fail
              refine postB_val ?_ (Below.refl _ _)
              simp only [List.getElem?_cons_succ, List.getElem?_cons_zero]
              rfl
            case s2 =>
              refine BStep.of [] [] (opV _) (by kernel_rfl) (fun _ _ => by kernel_rfl) rfl ?_
              intro vs wv hB hA
              clear hA
              simp only [fillP]
              have ct := (CT2.out wv hB).1; have a0 := ct.1; have a1 := ct.2.1; have a2 := ct.2.2.1; have a3 := ct.2.2.2.1; have a4 := ct.2.2.2.2.1; have a5 := ct.2.2.2.2.2; clear ct; go_wp2_with fail
              refine postB_val ?_ (Below.refl _ _)
              simp only [List.getElem?_cons_succ, List.getElem?_cons_zero]
              rfl
            case s3 =>
              refine BStep.of [] [] (opV _) (by kernel_rfl) (fun _ _ => by kernel_rfl) rfl ?_
              intro vs wv hB hA
              clear hA
              simp only [fillP]
              have ct := (CT2.out wv hB).1; have a0 := ct.1; have a1 := ct.2.1; have a2 := ct.2.2.1; have a3 := ct.2.2.2.1; have a4 := ct.2.2.2.2.1; have a5 := ct.2.2.2.2.2; clear ct; go_wp2_with fail
              refine postB_val ?_ (Below.refl _ _)
              simp only [List.getElem?_cons_succ, List.getElem?_cons_zero]
              rfl
            case s4 =>
              refine BStep.of [] [] (opV _) (by kernel_rfl) (fun _ _ => by kernel_rfl) rfl ?_
              intro vs wv hB hA
              clear hA
              simp only [fillP]
              have ct := (CT2.out wv hB).1; have a0 := ct.1; have a1 := ct.2.1; have a2 := ct.2.2.1; have a3 := ct.2.2.2.1; have a4 := ct.2.2.2.2.1; have a5 := ct.2.2.2.2.2; clear ct; go_wp2_with fail
              refine postB_val ?_ (Below.refl _ _)
              simp only [List.getElem?_cons_succ, List.getElem?_cons_zero]
              rfl
            case s5 =>
              refine BStep.of [3, 4] [(120, 3), (121, 4)] (opV _) (by kernel_rfl) (fun _ _ => by kernel_rfl) rfl ?_
              intro vs wv hB hA
              have h3 : vs 3 = _ := hA.1
              have h4 : vs 4 = _ := hA.2.1
              clear hA
              simp only [fillP, List.setIfInBounds_toArray, List.set_cons_zero, List.set_cons_succ, h3, h4]
              have ct := (CT2.out wv hB).1; have a0 := ct.1; have a1 := ct.2.1; have a2 := ct.2.2.1; have a3 := ct.2.2.2.1; have a4 := ct.2.2.2.2.1; have a5 := ct.2.2.2.2.2; clear ct; go_wp2_with fail
              refine postB_val ?_ (Below.refl _ _)
              simp only [List.getElem?_cons_succ, List.getElem?_cons_zero]
              rfl
            case s6 =>
              refine BStep.of [5] [(122, 5)] (opV _) (by kernel_rfl) (fun _ _ => by kernel_rfl) rfl ?_
              intro vs wv hB hA
              have h5 : vs 5 = _ := hA.1
              clear hA
              simp only [fillP, List.setIfInBounds_toArray, List.set_cons_zero, List.set_cons_succ, h5]
              have ct := (CT2.out wv hB).1; have a0 := ct.1; have a1 := ct.2.1; have a2 := ct.2.2.1; have a3 := ct.2.2.2.1; have a4 := ct.2.2.2.2.1; have a5 := ct.2.2.2.2.2; clear ct; go_wp2_with fail
              refine postB_val ?_ (Below.refl _ _)
              simp only [List.getElem?_cons_succ, List.getElem?_cons_zero]
              rfl
            case s7 =>
              refine BStep.of [6] [(123, 6)] (opV _) (by kernel_rfl) (fun _ _ => by kernel_rfl) rfl ?_
              intro vs wv hB hA
              have h6 : vs 6 = _ := hA.1
              clear hA
              simp only [fillP, List.setIfInBounds_toArray, List.set_cons_zero, List.set_cons_succ, h6]
              have ct := (CT2.out wv hB).1; have a0 := ct.1; have a1 := ct.2.1; have a2 := ct.2.2.1; have a3 := ct.2.2.2.1; have a4 := ct.2.2.2.2.1; have a5 := ct.2.2.2.2.2; clear ct; go_wp2_with fail
              refine postB_val ?_ (Below.refl _ _)
              simp only [List.getElem?_cons_succ, List.getElem?_cons_zero]
              rfl
            case s8 =>
              refine BStep.of [] [] (opV _) (by kernel_rfl) (fun _ _ => by kernel_rfl) rfl ?_
              intro vs wv hB hA
              clear hA
              simp only [fillP]
              have ct := (CT2.out wv hB).1; have a0 := ct.1; have a1 := ct.2.1; have a2 := ct.2.2.1; have a3 := ct.2.2.2.1; have a4 := ct.2.2.2.2.1; have a5 := ct.2.2.2.2.2; clear ct; go_wp2_with fail
              refine postB_val ?_ (Below.refl _ _)
              simp only [List.getElem?_cons_succ, List.getElem?_cons_zero]
              rfl
            case s9 =>
              refine BStep.of [] [] (opV _) (by kernel_rfl) (fun _ _ => by kernel_rfl) rfl ?_
              intro vs wv hB hA
              clear hA
              simp only [fillP]
              have ct := (CT2.out wv hB).1; have a0 := ct.1; have a1 := ct.2.1; have a2 := ct.2.2.1; have a3 := ct.2.2.2.1; have a4 := ct.2.2.2.2.1; have a5 := ct.2.2.2.2.2; clear ct; go_wp2_with fail
              refine postB_val ?_ (Below.refl _ _)
              simp only [List.getElem?_cons_succ, List.getElem?_cons_zero]
              rfl
            case s10 =>
              refine BStep.of [8, 9] [(125, 8), (126, 9)] (opV _) (by kernel_rfl) (fun _ _ => by kernel_rfl) rfl ?_
              intro vs wv hB hA
              have h8 : vs 8 = _ := hA.1
              have h9 : vs 9 = _ := hA.2.1
              clear hA
              simp only [fillP, List.setIfInBounds_toArray, List.set_cons_zero, List.set_cons_succ, h8, h9]
              have ct := (CT2.out wv hB).1; have a0 := ct.1; have a1 := ct.2.1; have a2 := ct.2.2.1; have a3 := ct.2.2.2.1; have a4 := ct.2.2.2.2.1; have a5 := ct.2.2.2.2.2; clear ct; go_wp2_with fail
              refine postB_val ?_ (Below.refl _ _)
              simp only [List.getElem?_cons_succ, List.getElem?_cons_zero]
              rfl
            case s11 =>
              refine BStep.of [10] [(127, 10)] (opV _) (by kernel_rfl) (fun _ _ => by kernel_rfl) rfl ?_
              intro vs wv hB hA
              have h10 : vs 10 = _ := hA.1
              clear hA
              simp only [fillP, List.setIfInBounds_toArray, List.set_cons_zero, List.set_cons_succ, h10]
              have ct := (CT2.out wv hB).1; have a0 := ct.1; have a1 := ct.2.1; have a2 := ct.2.2.1; have a3 := ct.2.2.2.1; have a4 := ct.2.2.2.2.1; have a5 := ct.2.2.2.2.2; clear ct; go_wp2_with fail
              refine postB_val ?_ (Below.refl _ _)
              simp only [List.getElem?_cons_succ, List.getElem?_cons_zero]
              rfl
            case s12 =>
              refine BStep.of [11] [(128, 11)] (opV _) (by kernel_rfl) (fun _ _ => by kernel_rfl) rfl ?_
              intro vs wv hB hA
              have h11 : vs 11 = _ := hA.1
              clear hA
              simp only [fillP, List.setIfInBounds_toArray, List.set_cons_zero, List.set_cons_succ, h11]
              have ct := (CT2.out wv hB).1; have a0 := ct.1; have a1 := ct.2.1; have a2 := ct.2.2.1; have a3 := ct.2.2.2.1; have a4 := ct.2.2.2.2.1; have a5 := ct.2.2.2.2.2; clear ct; go_wp2_with fail
              refine postB_val ?_ (Below.refl _ _)
              simp only [List.getElem?_cons_succ, List.getElem?_cons_zero]
              rfl
            case s13 =>
              refine BStep.of [2, 7, 12] [(119, 2), (124, 7), (129, 12)] (opV (.int .i64 cv)) (by kernel_rfl) (fun _ _ => by kernel_rfl) rfl ?_
              intro vs wv hB hA
              have h2 : vs 2 = _ := hA.1
              have h7 : vs 7 = _ := hA.2.1
              have h12 : vs 12 = _ := hA.2.2.1
              clear hA
              simp only [fillP, List.setIfInBounds_toArray, List.set_cons_zero, List.set_cons_succ, h2, h7, h12]
              (go_wp2_with (go_at_call 31; (with_reducible refine (KCl.out _).mono ?_); rintro e w7 ⟨rfl, hw⟩; obtain rfl := hw)); exact postB_val rfl (Below.refl _ _)
            case s14 =>
              refine BStep.of [0, 1, 2, 3, 4, 5, 6, 7, 8, 9, 10, 11, 12, 13] [(117, 0), (118, 1), (119, 2), (120, 3), (121, 4), (122, 5), (123, 6), (124, 7), (125, 8), (126, 9), (127, 10), (128, 11), (129, 12), (130, 13)] (opV _) (by kernel_rfl) (fun _ _ => by kernel_rfl) rfl ?_
              intro vs wv hB hA
              have h0 : vs 0 = _ := hA.1
              have h1 : vs 1 = _ := hA.2.1
              have h2 : vs 2 = _ := hA.2.2.1
              have h3 : vs 3 = _ := hA.2.2.2.1
              have h4 : vs 4 = _ := hA.2.2.2.2.1
              have h5 : vs 5 = _ := hA.2.2.2.2.2.1
              have h6 : vs 6 = _ := hA.2.2.2.2.2.2.1
              have h7 : vs 7 = _ := hA.2.2.2.2.2.2.2.1
              have h8 : vs 8 = _ := hA.2.2.2.2.2.2.2.2.1
              have h9 : vs 9 = _ := hA.2.2.2.2.2.2.2.2.2.1
              have h10 : vs 10 = _ := hA.2.2.2.2.2.2.2.2.2.2.1
              have h11 : vs 11 = _ := hA.2.2.2.2.2.2.2.2.2.2.2.1
              have h12 : vs 12 = _ := hA.2.2.2.2.2.2.2.2.2.2.2.2.1
              have h13 : vs 13 = _ := hA.2.2.2.2.2.2.2.2.2.2.2.2.2.1
              clear hA
              simp only [fillP, List.setIfInBounds_toArray, List.set_cons_zero, List.set_cons_succ, h0, h1, h2, h3, h4, h5, h6, h7, h8, h9, h10, h11, h12, h13]
              have ct := (CT2.out wv hB).1; have a0 := ct.1; have a1 := ct.2.1; have a2 := ct.2.2.1; have a3 := ct.2.2.2.1; have a4 := ct.2.2.2.2.1; have a5 := ct.2.2.2.2.2; clear ct; go_wp2_with fail
              refine postB_val ?_ (Below.refl _ _)
              simp only [List.getElem?_cons_succ, List.getElem?_cons_zero]
              rfl
            case fin =>
              refine last_of [0, 1, 2, 3, 4, 5, 6, 7, 8, 9, 10, 11, 12, 13, 14] [(117, 0), (118, 1), (119, 2), (120, 3), (121, 4), (122, 5), (123, 6), (124, 7), (125, 8), (126, 9), (127, 10), (128, 11), (129, 12), (130, 13), (131, 14)] (by kernel_rfl) (fun _ _ => by kernel_rfl) ?_
              intro vs wv hB hA
              have h0 : vs 0 = _ := hA.1
              have h1 : vs 1 = _ := hA.2.1
              have h2 : vs 2 = _ := hA.2.2.1
              have h3 : vs 3 = _ := hA.2.2.2.1
              have h4 : vs 4 = _ := hA.2.2.2.2.1
              have h5 : vs 5 = _ := hA.2.2.2.2.2.1
              have h6 : vs 6 = _ := hA.2.2.2.2.2.2.1
              have h7 : vs 7 = _ := hA.2.2.2.2.2.2.2.1
              have h8 : vs 8 = _ := hA.2.2.2.2.2.2.2.2.1
              have h9 : vs 9 = _ := hA.2.2.2.2.2.2.2.2.2.1
              have h10 : vs 10 = _ := hA.2.2.2.2.2.2.2.2.2.2.1
              have h11 : vs 11 = _ := hA.2.2.2.2.2.2.2.2.2.2.2.1
              have h12 : vs 12 = _ := hA.2.2.2.2.2.2.2.2.2.2.2.2.1
              have h13 : vs 13 = _ := hA.2.2.2.2.2.2.2.2.2.2.2.2.2.1
              have h14 : vs 14 = _ := hA.2.2.2.2.2.2.2.2.2.2.2.2.2.2.1
              clear hA
              simp only [fillP, List.setIfInBounds_toArray, List.set_cons_zero, List.set_cons_succ, h0, h1, h2, h3, h4, h5, h6, h7, h8, h9, h10, h11, h12, h13, h14]
              clear h0 h1 h2 h3 h4 h5 h6 h7 h8 h9 h10 h11 h12 h13 h14
              have CW := Lib.hid (CT2.out wv hB).2.2
              have HOv := Lib.hid (HO.out.keep CW.out)
              have HCv := Lib.hid (HC.out.keep CW.out)
              have BTv := Lib.hid (HB.out.next HB6.out CW.out)
              have f1 := HOv.out.fro j hlt
              have w1 := HOv.out.cell j hlt
              have I1 : Hid (IntsB (wv.setCell ⟨gO, j, none⟩ (.int .i64 cv)) gO k (outP l out S X (j + 1))) := Lib.hid ((HOv.out.set hlt (.int .i64 cv)).congr (fun i _ => OS.out cv ER.out i))
              have I2 : Hid (IntsB (wv.setCell ⟨gO, j, none⟩ (.int .i64 cv)) gC k (chP l S X j)) := Lib.hid (HCv.out.off N1.out.2.1 _)
              have B8 : Hid (But2 B gO gC w6 (wv.setCell ⟨gO, j, none⟩ (.int .i64 cv))) := Lib.hid (BTv.out.cellA HNO.out _ _)
              clear CT2 CW HOv HCv BTv HO HC HB
              go_upto_region 24 with fail
              clear f1 w1
              generalize wv.setCell ⟨gO, j, none⟩ (.int .i64 cv) = w8 at I1 I2 B8 ⊢
              have g1 := I1.out.cell j hlt
              rw [OP1.out] at g1
              have g2 := I2.out.cell j hlt
              have f2 := I2.out.fro j hlt
              have I3 : Hid (IntsB (w8.setCell ⟨gC, j, none⟩ (.int .i64 ch)) gC k (chP l S X (j + 1))) := Lib.hid ((I2.out.set hlt (.int .i64 ch)).congr (fun i _ => CSt.out ch EC.out i))
              have I4 : Hid (IntsB (w8.setCell ⟨gC, j, none⟩ (.int .i64 ch)) gO k (outP l out S X (j + 1))) := Lib.hid (I1.out.off (fun e => N1.out.2.1 e.symm) _)
              have B9 : Hid (But2 B gO gC w6 (w8.setCell ⟨gC, j, none⟩ (.int .i64 ch))) := Lib.hid (B8.out.cellB N1.out.2.2.2.2 _ _)
              clear I1 I2 B8
              go_upto_region 25 with fail
              clear g1 g2 f2
              generalize w8.setCell ⟨gC, j, none⟩ (.int .i64 ch) = w9 at I3 I4 B9 ⊢
              have g3 := I3.out.cell j hlt
              rw [CP1.out] at g3
              go_wp2_with fail
              go_roundg (k - (j + 1))
              case measure => omega
              case rel => exact ⟨j + 1, by go_num, by rw [CS.out], by omega, Nat.le_refl _, I4, I3, B9⟩
        · obtain rfl : j = k := by omega
          have hz : ¬ (j : Int) < j := by omega
          have O7 : Hid (IntsB wp gO j (outR l out S X)) := Lib.hid (HO.out.congr (fun i hi => by unfold outP; rw [if_pos hi]))
          have C7 : Hid (IntsB wp gC j (chR l S X)) := Lib.hid (HC.out.congr (fun i hi => by unfold chP; rw [if_pos hi]))
          have S7 := Lib.hid (S6.out.but2 HB.out N1.out.2.2.2.1 N1.out.2.2.1)
          have B7 := Lib.hid (BB6.out.trans HB.out.below)
          obtain ⟨sm, hsm⟩ : ∃ sm, sumB (chR l S X) j = sm := ⟨_, rfl⟩
          have SR : Hid (∀ i, setR l j S X i = (S i || decide (sm = 0 ∨ (0 < sm ∧ 0 < chR l S X i) ∨ (sm < 0 ∧ chR l S X i < 0)))) := Lib.hid (fun i => by unfold setR; rw [hsm])
          rw [hsm]
          clear hsm HO HC S6 HB X6 HV BB6
          go_wp2_with fail
          go_loopg [20] j (fun g1 vi wr => ∃ i : Nat, vi = .int .i64 i ∧ i ≤ j ∧ j - i ≤ g1 ∧ Hid (BoolsB wr gS j (setP l j S X i)) ∧ Hid (But2 B gS gS wp wr))
          case atStart => exact ⟨0, rfl, by omega, by omega, Lib.hid (S7.out.congr (fun i _ => by simp [setP])), Lib.hid (But2.refl _ _ _ _)⟩
          case round =>
            obtain ⟨i, rfl, hi, hg1, HS, HB⟩ := hrel
            obtain ⟨wq, hwq⟩ : ∃ wq, wq = wr := ⟨_, rfl⟩
            subst hwq
            clear S7
            by_cases hlt : i < j
            · have hz : (i : Int) < j := by omega
              have hz0 : (0 : Int) ≤ i := by omega
              have wi : IntKind.i64.wrap ((i : Int) + 1) = (i : Int) + 1 := IntWalk.i64_in _ (by omega)
              have CW := Lib.hid (C7.out.but2 HB.out (fun e => N1.out.2.2.1 e.symm) (fun e => N1.out.2.2.1 e.symm))
              have c0 := CW.out.cell i hlt
              have w0 := HS.out.cell i hlt
              have f0 := HS.out.fro i hlt
              have SRi := Lib.hid (SR.out i)
              have PS := Lib.hid (fun h => setP_set l j S X i h)
              have PE := Lib.hid (fun h => setP_same l j S X i h)
              generalize chR l S X i = ch at c0 SRi
              have YES : Hid ((sm = 0 ∨ (0 < sm ∧ 0 < ch) ∨ (sm < 0 ∧ ch < 0)) → BoolsB (wq.setCell ⟨gS, i, none⟩ (.bool true)) gS j (setP l j S X (i + 1))) := Lib.hid (fun h => (HS.out.set hlt (.bool true)).congr (fun a _ => PS.out (by rw [SRi.out, decide_eq_true h, Bool.or_true]) a))
              have NO : Hid (¬ (sm = 0 ∨ (0 < sm ∧ 0 < ch) ∨ (sm < 0 ∧ ch < 0)) → BoolsB wq gS j (setP l j S X (i + 1))) := Lib.hid (fun h => HS.out.congr (fun a _ => by rw [PE.out (by rw [SRi.out, decide_eq_false h, Bool.or_false]) a]))
              have BY := Lib.hid (HB.out.cellA HNS.out i (.bool true))
              clear CW PS PE SRi SR
              by_cases h0 : sm = 0
              · have d0 : ((sm : Int) == 0) = true := by simp [h0]
                have I := Lib.hid (YES.out (.inl h0))
                clear YES NO h0
                go_wp2_with fail
                go_roundg (j - (i + 1))
                case measure => omega
                case rel => exact ⟨i + 1, by go_num, by omega, Nat.le_refl _, I, BY⟩
              · have d0 : ((sm : Int) == 0) = false := by simp [h0]
                by_cases hp : 0 < sm
                · have d1 : decide (0 < sm) = true := decide_eq_true hp
                  have d2 : decide (sm < 0) = false := decide_eq_false (by omega)
                  by_cases hc : 0 < ch
                  · have d3 : decide (0 < ch) = true := decide_eq_true hc
                    have I := Lib.hid (YES.out (.inr (.inl ⟨hp, hc⟩)))
                    clear YES NO h0 hp hc
                    go_wp2_with fail
                    go_roundg (j - (i + 1))
                    case measure => omega
                    case rel => exact ⟨i + 1, by go_num, by omega, Nat.le_refl _, I, BY⟩
                  · have d3 : decide (0 < ch) = false := decide_eq_false hc
                    have I := Lib.hid (NO.out (by omega))
                    clear YES NO h0 hp hc
                    go_wp2_with fail
                    go_roundg (j - (i + 1))
                    case measure => omega
                    case rel => exact ⟨i + 1, by go_num, by omega, Nat.le_refl _, I, HB⟩
                · have d1 : decide (0 < sm) = false := decide_eq_false hp
                  have d2 : decide (sm < 0) = true := decide_eq_true (by omega)
                  by_cases hc : ch < 0
                  · have d3 : decide (ch < 0) = true := decide_eq_true hc
                    have I := Lib.hid (YES.out (.inr (.inr ⟨by omega, hc⟩)))
                    clear YES NO h0 hp hc
                    go_wp2_with fail
                    go_roundg (j - (i + 1))
                    case measure => omega
                    case rel => exact ⟨i + 1, by go_num, by omega, Nat.le_refl _, I, BY⟩
                  · have d3 : decide (ch < 0) = false := decide_eq_false hc
                    have I := Lib.hid (NO.out (by omega))
                    clear YES NO h0 hp hc
                    go_wp2_with fail
                    go_roundg (j - (i + 1))
                    case measure => omega
                    case rel => exact ⟨i + 1, by go_num, by omega, Nat.le_refl _, I, HB⟩
            · obtain rfl : i = j := by omega
              have hz : ¬ (i : Int) < i := by omega
              have RD : Hid (Rounded l i g t out S gO gS wq) := Lib.hid ⟨X, SH.out, O7.out.but2 HB.out HNE.out.1 HNE.out.1, HS.out.congr (fun a ha => by unfold setP; rw [if_pos ha])⟩
              have BF := Lib.hid (B7.out.trans HB.out.below)
              go_wp2_with fail
              go_ret
              exact ⟨rfl, BF.out, by first | (rw [← HT0.out]; exact RD.out) | (intro _; rw [← HT0.out]; exact RD.out)⟩
end Go.Proofs.Ytjlnaadpiohbnaa
