/-
  The law BlockThrough: of any Stack, Join, Value that answer as is asked.
-/
import Derived.Test.YtidbfkbeploagaaThroughM14
import Derived.Test.YtidbfkbeploagaaBelowW14
namespace Go.Proofs.Ytidbfkbeploagaa
open Go.RowKit

theorem new_three (W : World) (a b c : Mg) : MgIn (W.alloc (.cells #[.int .i64 a.1, .int .i64 a.2, .int .i64 b.1, .int .i64 b.2, .int .i64 c.1, .int .i64 c.2] 25)) (.slice (some ⟨W.heap.size, 0, none⟩) 3 3) [a, b, c] := mgs_new [a, b, c] (by simp) _
set_option maxRecDepth 100000 in
set_option maxHeartbeats 8000000 in
theorem through14 (hS : StackOK 10) (hJ : JoinOK 15) (hV : ValueOK 16) (hM : MayOK13 38) (hA : AwakeOK14 12) (A : Option Addr) (n c : Nat) (l : List Kd) (w : World) (hv : KdIn w (.slice A n c) l) (hl : l.length = n) (hn : n ≤ 140737488351232) :
    Calls Try.prog 7 #[.slice A n c] w fun e w' => e = .returned (.bool true) ∧ Below w.heap.size w w' := by
  have KA := Lib.hid (fun W => hA W)
  have HV := Lib.hid hv
  have HL := Lib.hid hl
  have KN := Lib.hid (fun W (hW : KdIn W (.slice A n c) l) => near_any hM l _ W hW (by omega))
  clear hA hM
  by_cases hnear : NearK l
  case neg =>
    rw [decide_eq_false hnear] at KN
    clear hS hJ hV hnear hl hv
    go_enter Try.func7, Try.ntmps7
    go_wp2_with (first
      | (go_at_call 12; (with_reducible refine (KA.out _).mono ?_); rintro e w1 ⟨rfl, hb⟩; have B1 := Lib.hid hb; clear hb)
      | (go_at_call 13; (with_reducible refine (KN.out _ (HV.out.keep B1.out)).mono ?_); rintro e w2 ⟨rfl, hb⟩; have B2 := Lib.hid (b_next B1.out hb); clear hb))
    go_ret
    exact ⟨rfl, B2.out⟩
  rw [decide_eq_true hnear] at KN
  have hn2 : n ≤ 200 := by have := hnear.1; omega
  have NA := Lib.hid (near_all hnear)
  have KB1 := Lib.hid (fun W (hW : KdIn W (.slice A n c) l) => hS l _ true true W hW (by omega) (near_big hnear))
  have KB2 := Lib.hid (fun W (hW : KdIn W (.slice A n c) l) => hS l _ false false W hW (by omega) (near_big hnear))
  rw [near_told14 NA.out (by omega) true true] at KB1
  rw [near_told14 NA.out (by omega) false false] at KB2
  have T1 : Hid (thrB l n = true → toldS l true true = ⟨atsS (startS true) l, 0, joinT l n, mgZ, true⟩) := Lib.hid (fun h => by rw [← hl] at h ⊢; exact told_open h)
  have T2 : Hid (thrB l n = false → (toldS l true true).thr = false) := Lib.hid (fun h => by rw [← hl] at h; exact told_open_no h)
  have T3 := Lib.hid (told_shut_thr l)
  have T4 : Hid (thrB l n = true → (toldS l false false).h = if 0 < (joinT l n).1 + (joinT l n).2 then (joinT l n).1 + (joinT l n).2 else 0) := Lib.hid (fun h => by rw [← hl] at h ⊢; exact told_shut_h h)
  have JS := Lib.hid (fun k (hk : k ≤ n) => joinT_small NA.out (k := k) (by omega))
  have JT := Lib.hid (fun k (hk : k < n) => joinT_succ (l := l) (k := k) (by omega))
  have TB := Lib.hid (fun k (hk : k < n) => thrB_succ (l := l) (k := k) (by omega))
  obtain ⟨R1, hR1⟩ : ∃ R, toldS l true true = R := ⟨_, rfl⟩
  obtain ⟨R2, hR2⟩ : ∃ R, toldS l false false = R := ⟨_, rfl⟩
  rw [hR1] at KB1 T1 T2
  rw [hR2] at KB2 T3 T4
  have KJ := Lib.hid (fun x y z W v (h : MgIn W v [x, y, z]) => hJ [x, y, z] v W h (by simp))
  have KV := Lib.hid (fun (a b : Int) W => hV (a, b) W)
  obtain ⟨ats1, H1, ⟨p1, p2⟩, ⟨p3, p4⟩, p5⟩ := R1
  obtain ⟨ats2, H2, ⟨r1, r2⟩, ⟨r3, r4⟩, r5⟩ := R2
  unfold skV at KB1 KB2
  dsimp only at KB1 KB2 T2 T3 T4
  obtain rfl : r5 = false := T3.out
  clear hS hJ hV hnear hl hv hR1 hR2 T3
  go_enter Try.func7, Try.ntmps7
  go_upto_region 6 with (first
    | (go_at_call 12; (with_reducible refine (KA.out _).mono ?_); rintro e w1 ⟨rfl, hb⟩; have B1 := Lib.hid hb; clear hb)
    | (go_at_call 13; (with_reducible refine (KN.out _ (HV.out.keep B1.out)).mono ?_); rintro e w2 ⟨rfl, hb⟩; have B2 := Lib.hid (b_next B1.out hb); clear hb)
    | (go_at_call 10; (with_reducible refine (KB1.out _ (HV.out.keep B2.out)).mono ?_); rintro e w3 ⟨vA, rfl, hO, hb⟩; obtain ⟨A2, c2, rfl⟩ := own_len14 hO; have B3 := Lib.hid (b_next B2.out hb); clear hO hb))
  generalize ats1.length = m1
  have W4 : Hid (SkAt (w3.alloc (.cells #[.slice A2 m1 c2, .int .i64 H1, .int .i64 p1, .int .i64 p2, .int .i64 p3, .int .i64 p4, .bool p5] 27)) w3.heap.size (.slice A2 m1 c2) ⟨ats1, H1, (p1, p2), (p3, p4), p5⟩) := Lib.hid (SkAt.new w3 (.slice A2 m1 c2) ⟨ats1, H1, (p1, p2), (p3, p4), p5⟩)
  have C4 : Hid (Below w3.heap.size w3 (w3.alloc (.cells #[.slice A2 m1 c2, .int .i64 H1, .int .i64 p1, .int .i64 p2, .int .i64 p3, .int .i64 p4, .bool p5] 27))) := Lib.hid ((Below.refl _ _).alloc (Nat.le_refl _) _)
  have B4 := Lib.hid (b_next B3.out C4.out)
  clear C4 B3 KB1 KN KA B1 B2
  generalize w3.alloc (.cells #[.slice A2 m1 c2, .int .i64 H1, .int .i64 p1, .int .i64 p2, .int .i64 p3, .int .i64 p4, .bool p5] 27) = w4 at W4 B4 ⊢
  generalize w3.heap.size = g1 at W4 ⊢
  go_upto_region 7 with (go_at_call 10; (with_reducible refine (KB2.out _ (HV.out.keep B4.out)).mono ?_); rintro e w5 ⟨vA, rfl, hO, hb⟩; obtain ⟨A3, c3, rfl⟩ := own_len14 hO; have B5 := Lib.hid (b_next B4.out hb); have W5 := Lib.hid (W4.out.keep hb); clear hO hb)
  generalize ats2.length = m2
  have X6 : Hid (SkAt (w5.alloc (.cells #[.slice A3 m2 c3, .int .i64 H2, .int .i64 r1, .int .i64 r2, .int .i64 r3, .int .i64 r4, .bool false] 27)) w5.heap.size (.slice A3 m2 c3) ⟨ats2, H2, (r1, r2), (r3, r4), false⟩) := Lib.hid (SkAt.new w5 (.slice A3 m2 c3) ⟨ats2, H2, (r1, r2), (r3, r4), false⟩)
  have C6 : Hid (Below w5.heap.size w5 (w5.alloc (.cells #[.slice A3 m2 c3, .int .i64 H2, .int .i64 r1, .int .i64 r2, .int .i64 r3, .int .i64 r4, .bool false] 27))) := Lib.hid ((Below.refl _ _).alloc (Nat.le_refl _) _)
  have B6 := Lib.hid (b_next B5.out C6.out)
  have W6 := Lib.hid (W5.out.keep C6.out)
  clear C6 B5 KB2 B4 W4 W5
  generalize w5.alloc (.cells #[.slice A3 m2 c3, .int .i64 H2, .int .i64 r1, .int .i64 r2, .int .i64 r3, .int .i64 r4, .bool false] 27) = w6 at W6 X6 B6 ⊢
  generalize w5.heap.size = g2 at X6 ⊢
  go_upto_region 8 with fail
  have C7 : Hid (Below w6.heap.size w6 (w6.alloc (.cells #[.int .i64 0, .int .i64 0] 25))) := Lib.hid ((Below.refl _ _).alloc (Nat.le_refl _) _)
  have M7 : Hid (MgAt (w6.alloc (.cells #[.int .i64 0, .int .i64 0] 25)) w6.heap.size mgZ) := Lib.hid (MgAt.new w6 mgZ)
  generalize w6.alloc (.cells #[.int .i64 0, .int .i64 0] 25) = w7 at C7 M7 ⊢
  obtain ⟨q, hq⟩ : ∃ q, w6.heap.size = q := ⟨_, rfl⟩
  rw [hq] at C7 M7 ⊢
  have HQ := Lib.hid hq
  clear hq
  go_wp2_with fail
  go_loopg [8, 9] n (fun g' vt vi wr => ∃ k : Nat, vi = .int .i64 k ∧ vt = .bool (thrB l k) ∧ k ≤ n ∧ n - k ≤ g' ∧ Hid (Below q w6 wr) ∧ Hid (MgAt wr q (joinT l k)))
  case atStart => exact ⟨0, rfl, rfl, by omega, by omega, C7, M7⟩
  case round =>
    obtain ⟨k, rfl, rfl, hk, hg1, HB, HW⟩ := hrel
    obtain ⟨wo, hwo⟩ : ∃ wo, wo = wr := ⟨_, rfl⟩
    subst hwo
    have HS : Hid (∀ W, Below wo.heap.size wo W → Below q w6 W) := Lib.hid (fun W hW => HB.out.trans (hW.mono (by have := HB.out.size; have := HQ.out; omega)))
    by_cases hlt : k < n
    · have hz1 : (k : Int) < n := by omega
      have hz0 : (0 : Int) ≤ k := by omega
      have wi : IntKind.i64.wrap ((k : Int) + 1) = (k : Int) + 1 := IntWalk.i64_in _ (by omega)
      obtain ⟨b, off, c1, e', -, -, -⟩ := HV.out.get (i := k) (by have := HL.out; omega)
      injection e' with e1 e2 e3
      subst e1 e3
      clear e2
      have VK := Lib.hid (KdIn.later (HV.out.keep B6.out) (k := k) (by have := HL.out; omega))
      have J2 := Lib.hid (JT.out k hlt)
      have T5 := Lib.hid (TB.out k hlt)
      generalize kAt l k = x at VK J2 T5
      generalize joinT l k = a at HW J2
      generalize thrB l k = tb at T5 ⊢
      obtain ⟨jn, hjn⟩ : ∃ jn, joinT l (k + 1) = jn := ⟨_, rfl⟩
      rw [hjn] at J2
      have E2 := Lib.hid hjn
      clear hjn
      have KJ1 := Lib.hid (fun W v (h : MgIn W v [a, x.t, x.b]) => KJ.out a x.t x.b W v h)
      rw [joinM_three, ← J2.out] at KJ1
      clear J2
      obtain ⟨⟨tu, td⟩, ⟨bu, bd⟩, hh, thr⟩ := x
      obtain ⟨a1, a2⟩ := a
      obtain ⟨j1, j2⟩ := jn
      dsimp only at KJ1 T5 HW
      unfold mgV at KJ1
      dsimp only at KJ1
      have CT : Hid (∀ W, Below q w6 W → KdAt W b (off + k * 6) ⟨(tu, td), (bu, bd), hh, thr⟩) := Lib.hid (fun W hW => VK.out W (by rw [HQ.out]; exact hW))
      unfold KdAt at CT
      dsimp only at CT
      clear VK KJ KV
      go_wp2_with fail
      refine' wp_region_last [opV _, opV _, opV _, opV _, opV _, opV _, opV _, opV _, opV _, opV _, opV _, opM [(a1, a2), (tu, td), (bu, bd)], opV (.agg #[.int .i64 j1, .int .i64 j2])] 13 _ rfl (by kernel_rfl) rfl (by kernel_rfl) ⟨?s0, ?s1, ?s2, ?s3, ?s4, ?s5, ?s6, ?s7, ?s8, ?s9, ?s10, ?s11, ?s12, trivial⟩ rfl ?fin
      case s0 =>
        refine BStep.of [] [] (opV _) (by kernel_rfl) (fun _ _ => by kernel_rfl) rfl ?_
        intro vs wv hB hA
        clear hA
        simp only [fillP]
        have ct := CT.out wv (HS.out wv hB); have a0 := ct.1; have a1 := ct.2.1; have a2 := ct.2.2.1; have a3 := ct.2.2.2.1; have q0 := (MgAt.cells (HW.out.keep hB)).1; have q1 := (MgAt.cells (HW.out.keep hB)).2; dsimp only at q0 q1; clear ct; go_wp2_with fail
        refine postB_val ?_ (Below.refl _ _)
        simp only [List.getElem?_cons_succ, List.getElem?_cons_zero]
        rfl
      case s1 =>
        refine BStep.of [] [] (opV _) (by kernel_rfl) (fun _ _ => by kernel_rfl) rfl ?_
        intro vs wv hB hA
        clear hA
        simp only [fillP]
        have ct := CT.out wv (HS.out wv hB); have a0 := ct.1; have a1 := ct.2.1; have a2 := ct.2.2.1; have a3 := ct.2.2.2.1; have q0 := (MgAt.cells (HW.out.keep hB)).1; have q1 := (MgAt.cells (HW.out.keep hB)).2; dsimp only at q0 q1; clear ct; go_wp2_with fail
        refine postB_val ?_ (Below.refl _ _)
        simp only [List.getElem?_cons_succ, List.getElem?_cons_zero]
        rfl
      case s2 =>
        refine BStep.of [] [] (opV _) (by kernel_rfl) (fun _ _ => by kernel_rfl) rfl ?_
        intro vs wv hB hA
        clear hA
        simp only [fillP]
        have ct := CT.out wv (HS.out wv hB); have a0 := ct.1; have a1 := ct.2.1; have a2 := ct.2.2.1; have a3 := ct.2.2.2.1; have q0 := (MgAt.cells (HW.out.keep hB)).1; have q1 := (MgAt.cells (HW.out.keep hB)).2; dsimp only at q0 q1; clear ct; go_wp2_with fail
        refine postB_val ?_ (Below.refl _ _)
        simp only [List.getElem?_cons_succ, List.getElem?_cons_zero]
        rfl
      case s3 =>
        refine BStep.of [1, 2] [(33, 1), (34, 2)] (opV _) (by kernel_rfl) (fun _ _ => by kernel_rfl) rfl ?_
        intro vs wv hB hA
        have h1 : vs 1 = _ := hA.1
        have h2 : vs 2 = _ := hA.2.1
        clear hA
        simp only [fillP, List.setIfInBounds_toArray, List.set_cons_zero, List.set_cons_succ, h1, h2]
        have ct := CT.out wv (HS.out wv hB); have a0 := ct.1; have a1 := ct.2.1; have a2 := ct.2.2.1; have a3 := ct.2.2.2.1; have q0 := (MgAt.cells (HW.out.keep hB)).1; have q1 := (MgAt.cells (HW.out.keep hB)).2; dsimp only at q0 q1; clear ct; go_wp2_with fail
        refine postB_val ?_ (Below.refl _ _)
        simp only [List.getElem?_cons_succ, List.getElem?_cons_zero]
        rfl
      case s4 =>
        refine BStep.of [3] [(35, 3)] (opV _) (by kernel_rfl) (fun _ _ => by kernel_rfl) rfl ?_
        intro vs wv hB hA
        have h3 : vs 3 = _ := hA.1
        clear hA
        simp only [fillP, List.setIfInBounds_toArray, List.set_cons_zero, List.set_cons_succ, h3]
        have ct := CT.out wv (HS.out wv hB); have a0 := ct.1; have a1 := ct.2.1; have a2 := ct.2.2.1; have a3 := ct.2.2.2.1; have q0 := (MgAt.cells (HW.out.keep hB)).1; have q1 := (MgAt.cells (HW.out.keep hB)).2; dsimp only at q0 q1; clear ct; go_wp2_with fail
        refine postB_val ?_ (Below.refl _ _)
        simp only [List.getElem?_cons_succ, List.getElem?_cons_zero]
        rfl
      case s5 =>
        refine BStep.of [4] [(36, 4)] (opV _) (by kernel_rfl) (fun _ _ => by kernel_rfl) rfl ?_
        intro vs wv hB hA
        have h4 : vs 4 = _ := hA.1
        clear hA
        simp only [fillP, List.setIfInBounds_toArray, List.set_cons_zero, List.set_cons_succ, h4]
        have ct := CT.out wv (HS.out wv hB); have a0 := ct.1; have a1 := ct.2.1; have a2 := ct.2.2.1; have a3 := ct.2.2.2.1; have q0 := (MgAt.cells (HW.out.keep hB)).1; have q1 := (MgAt.cells (HW.out.keep hB)).2; dsimp only at q0 q1; clear ct; go_wp2_with fail
        refine postB_val ?_ (Below.refl _ _)
        simp only [List.getElem?_cons_succ, List.getElem?_cons_zero]
        rfl
      case s6 =>
        refine BStep.of [] [] (opV _) (by kernel_rfl) (fun _ _ => by kernel_rfl) rfl ?_
        intro vs wv hB hA
        clear hA
        simp only [fillP]
        have ct := CT.out wv (HS.out wv hB); have a0 := ct.1; have a1 := ct.2.1; have a2 := ct.2.2.1; have a3 := ct.2.2.2.1; have q0 := (MgAt.cells (HW.out.keep hB)).1; have q1 := (MgAt.cells (HW.out.keep hB)).2; dsimp only at q0 q1; clear ct; go_wp2_with fail
        refine postB_val ?_ (Below.refl _ _)
        simp only [List.getElem?_cons_succ, List.getElem?_cons_zero]
        rfl
      case s7 =>
        refine BStep.of [] [] (opV _) (by kernel_rfl) (fun _ _ => by kernel_rfl) rfl ?_
        intro vs wv hB hA
        clear hA
        simp only [fillP]
        have ct := CT.out wv (HS.out wv hB); have a0 := ct.1; have a1 := ct.2.1; have a2 := ct.2.2.1; have a3 := ct.2.2.2.1; have q0 := (MgAt.cells (HW.out.keep hB)).1; have q1 := (MgAt.cells (HW.out.keep hB)).2; dsimp only at q0 q1; clear ct; go_wp2_with fail
        refine postB_val ?_ (Below.refl _ _)
        simp only [List.getElem?_cons_succ, List.getElem?_cons_zero]
        rfl
      case s8 =>
        refine BStep.of [6, 7] [(38, 6), (39, 7)] (opV _) (by kernel_rfl) (fun _ _ => by kernel_rfl) rfl ?_
        intro vs wv hB hA
        have h6 : vs 6 = _ := hA.1
        have h7 : vs 7 = _ := hA.2.1
        clear hA
        simp only [fillP, List.setIfInBounds_toArray, List.set_cons_zero, List.set_cons_succ, h6, h7]
        have ct := CT.out wv (HS.out wv hB); have a0 := ct.1; have a1 := ct.2.1; have a2 := ct.2.2.1; have a3 := ct.2.2.2.1; have q0 := (MgAt.cells (HW.out.keep hB)).1; have q1 := (MgAt.cells (HW.out.keep hB)).2; dsimp only at q0 q1; clear ct; go_wp2_with fail
        refine postB_val ?_ (Below.refl _ _)
        simp only [List.getElem?_cons_succ, List.getElem?_cons_zero]
        rfl
      case s9 =>
        refine BStep.of [8] [(40, 8)] (opV _) (by kernel_rfl) (fun _ _ => by kernel_rfl) rfl ?_
        intro vs wv hB hA
        have h8 : vs 8 = _ := hA.1
        clear hA
        simp only [fillP, List.setIfInBounds_toArray, List.set_cons_zero, List.set_cons_succ, h8]
        have ct := CT.out wv (HS.out wv hB); have a0 := ct.1; have a1 := ct.2.1; have a2 := ct.2.2.1; have a3 := ct.2.2.2.1; have q0 := (MgAt.cells (HW.out.keep hB)).1; have q1 := (MgAt.cells (HW.out.keep hB)).2; dsimp only at q0 q1; clear ct; go_wp2_with fail
        refine postB_val ?_ (Below.refl _ _)
        simp only [List.getElem?_cons_succ, List.getElem?_cons_zero]
        rfl
      case s10 =>
        refine BStep.of [9] [(41, 9)] (opV _) (by kernel_rfl) (fun _ _ => by kernel_rfl) rfl ?_
        intro vs wv hB hA
        have h9 : vs 9 = _ := hA.1
        clear hA
        simp only [fillP, List.setIfInBounds_toArray, List.set_cons_zero, List.set_cons_succ, h9]
        have ct := CT.out wv (HS.out wv hB); have a0 := ct.1; have a1 := ct.2.1; have a2 := ct.2.2.1; have a3 := ct.2.2.2.1; have q0 := (MgAt.cells (HW.out.keep hB)).1; have q1 := (MgAt.cells (HW.out.keep hB)).2; dsimp only at q0 q1; clear ct; go_wp2_with fail
        refine postB_val ?_ (Below.refl _ _)
        simp only [List.getElem?_cons_succ, List.getElem?_cons_zero]
        rfl
      case s11 =>
        refine BStep.of [0, 5, 10] [(32, 0), (37, 5), (42, 10)] (opM [(a1, a2), (tu, td), (bu, bd)]) (by kernel_rfl) (fun _ _ => by kernel_rfl) rfl ?_
        intro vs wv hB hA
        have h0 : vs 0 = _ := hA.1
        have h5 : vs 5 = _ := hA.2.1
        have h10 : vs 10 = _ := hA.2.2.1
        clear hA
        simp only [fillP, List.setIfInBounds_toArray, List.set_cons_zero, List.set_cons_succ, h0, h5, h10]
        go_wp2_with fail; exact postB_R rfl (new_three wv (a1, a2) (tu, td) (bu, bd)) ((Below.refl _ _).alloc (Nat.le_refl _) _)
      case s12 =>
        refine BStep.of [11] [(43, 11)] (opV (.agg #[.int .i64 j1, .int .i64 j2])) (by kernel_rfl) (fun _ _ => by kernel_rfl) rfl ?_
        intro vs wv hB hA
        have h11 : MgIn wv (vs 11) [(a1, a2), (tu, td), (bu, bd)] := hA.1
        clear hA
        simp only [fillP, List.setIfInBounds_toArray, List.set_cons_zero, List.set_cons_succ]
        (go_wp2_with (go_at_call 15; (with_reducible refine (KJ1.out _ _ h11).mono ?_); rintro e w7 ⟨rfl, hb⟩)); exact postB_val rfl hb
      case fin =>
        refine last_of [0, 1, 2, 3, 4, 5, 6, 7, 8, 9, 10, 11, 12] [(32, 0), (33, 1), (34, 2), (35, 3), (36, 4), (37, 5), (38, 6), (39, 7), (40, 8), (41, 9), (42, 10), (43, 11), (44, 12)] (by kernel_rfl) (fun _ _ => by kernel_rfl) ?_
        intro vs wv hB hA
        have h0 : vs 0 = _ := hA.1
        have h1 : vs 1 = _ := hA.2.1
        have h2 : vs 2 = _ := hA.2.2.1
        have h3 : vs 3 = _ := hA.2.2.2.1
        have h4 : vs 4 = _ := hA.2.2.2.2.1
        have h5 : vs 5 = _ := hA.2.2.2.2.2.1
        have h6 : vs 6 = _ := hA.2.2.2.2.2.2.1
        have h7 : vs 7 = _ := hA.2.2.2.2.2.2.2.1
        have h8 : vs 8 = _ := hA.2.2.2.2.2.2.2.2.1
        have h9 : vs 9 = _ := hA.2.2.2.2.2.2.2.2.2.1
        have h10 : vs 10 = _ := hA.2.2.2.2.2.2.2.2.2.2.1
        have h11 : MgIn wv (vs 11) [(a1, a2), (tu, td), (bu, bd)] := hA.2.2.2.2.2.2.2.2.2.2.2.1
        have h12 : vs 12 = _ := hA.2.2.2.2.2.2.2.2.2.2.2.2.1
        clear hA
        simp only [fillP, List.setIfInBounds_toArray, List.set_cons_zero, List.set_cons_succ, h0, h1, h2, h3, h4, h5, h6, h7, h8, h9, h10, h12]
        have q0 := (MgAt.cells (HW.out.keep hB)).1
        have q1 := (MgAt.cells (HW.out.keep hB)).2
        have z0 := MgAt.fro (HW.out.keep hB) 0
        have z1 := MgAt.fro (HW.out.keep hB) 1
        dsimp only at q0 q1
        have M6 : Hid (MgAt ((wv.setCell ⟨q, 0, none⟩ (.int .i64 j1)).setCell ⟨q, 1, none⟩ (.int .i64 j2)) q (j1, j2)) := Lib.hid (((HW.out.keep hB).set 0 (.int .i64 j1) (j1, a2) rfl).set 1 (.int .i64 j2) (j1, j2) rfl)
        have B7 := Lib.hid (((HS.out wv hB).setCell (p := ⟨q, 0, none⟩) (Nat.le_refl _) (.int .i64 j1)).setCell (p := ⟨q, 1, none⟩) (Nat.le_refl _) (.int .i64 j2))
        go_upto_region 12 with fail
        clear q0 q1 z0 z1 HW HS hB HB
        generalize (wv.setCell ⟨q, 0, none⟩ (.int .i64 j1)).setCell ⟨q, 1, none⟩ (.int .i64 j2) = w8 at M6 B7 ⊢
        have a5 := (CT.out w8 B7.out).2.2.2.2.2
        cases tb with
        | true =>
          go_wp2_with fail
          go_roundg (n - (k + 1))
          case measure => omega
          case rel => exact ⟨k + 1, by go_num, by rw [T5.out]; simp, by omega, Nat.le_refl _, B7, by rw [E2.out]; exact M6⟩
        | false =>
          go_wp2_with fail
          go_roundg (n - (k + 1))
          case measure => omega
          case rel => exact ⟨k + 1, by go_num, by rw [T5.out]; simp, by omega, Nat.le_refl _, B7, by rw [E2.out]; exact M6⟩
    · obtain rfl : k = n := by omega
      have hz1 : ¬ (k : Int) < k := by omega
      have JS1 := Lib.hid (JS.out k (Nat.le_refl _))
      have BZ : Hid (Below w.heap.size w wo) := Lib.hid (b_next B6.out (by rw [HQ.out]; exact HB.out))
      have CT : Hid (∀ W, Below q w6 W → SkAt W g1 (.slice A2 m1 c2) ⟨ats1, H1, (p1, p2), (p3, p4), p5⟩ ∧ SkAt W g2 (.slice A3 m2 c3) ⟨ats2, H2, (r1, r2), (r3, r4), false⟩) := Lib.hid (fun W hW => by
        have hW' : Below w6.heap.size w6 W := by rw [HQ.out]; exact hW
        exact ⟨W6.out.keep hW', X6.out.keep hW'⟩)
      obtain ⟨-, x1, x2, x3, x4, x5, x6⟩ := (CT.out wo HB.out).1.cells
      obtain ⟨-, y1, -, -, -, -, y6⟩ := (CT.out wo HB.out).2.cells
      dsimp only at x1 x2 x3 x4 x5 x6 y1 y6
      obtain ⟨tb, htb⟩ : ∃ tb, thrB l k = tb := ⟨_, rfl⟩
      rw [htb] at T1 T2 T4 ⊢
      clear htb
      generalize joinT l k = a at HW JS1 T1 T4
      cases tb with
      | false =>
        obtain rfl : p5 = false := T2.out rfl
        clear T1 T2 T4
        go_wp2_with fail
        refine' wp_region_below [opV _, opV _, opV _, opV _, opV _, opV _, opV _, opV _, opV _, opV _, opV _, opV _, opV _, opV _, opV _, opV _, opV _, opV _, opV _, opV _, opV _, opV _, opV _, opV _, opV _, opV _, opV _, opV _] rfl (by kernel_rfl) ⟨?s0, ?s1, ?s2, ?s3, ?s4, ?s5, ?s6, ?s7, ?s8, ?s9, ?s10, ?s11, ?s12, ?s13, ?s14, ?s15, ?s16, ?s17, ?s18, ?s19, ?s20, ?s21, ?s22, ?s23, ?s24, ?s25, ?s26, ?s27, trivial⟩ ?fin
        case s0 =>
          refine BStep.of [] [] (opV _) (by kernel_rfl) (fun _ _ => by kernel_rfl) rfl ?_
          intro vs wv hB hA
          clear hA
          simp only [fillP]
          go_wp2_with fail
          refine postB_val ?_ (Below.refl _ _)
          simp only [List.getElem?_cons_succ, List.getElem?_cons_zero]
          rfl
        case s1 =>
          refine BStep.of [0] [(69, 0)] (opV _) (by kernel_rfl) (fun _ _ => by kernel_rfl) rfl ?_
          intro vs wv hB hA
          have h0 : vs 0 = _ := hA.1
          clear hA
          simp only [fillP, List.setIfInBounds_toArray, List.set_cons_zero, List.set_cons_succ, h0]
          go_wp2_with fail
          refine postB_val ?_ (Below.refl _ _)
          simp only [List.getElem?_cons_succ, List.getElem?_cons_zero]
          rfl
        case s2 =>
          refine BStep.of [1] [(70, 1)] (opV _) (by kernel_rfl) (fun _ _ => by kernel_rfl) rfl ?_
          intro vs wv hB hA
          have h1 : vs 1 = _ := hA.1
          clear hA
          simp only [fillP, List.setIfInBounds_toArray, List.set_cons_zero, List.set_cons_succ, h1]
          go_wp2_with fail
          refine postB_val ?_ (Below.refl _ _)
          simp only [List.getElem?_cons_succ, List.getElem?_cons_zero]
          rfl
        case s3 =>
          refine BStep.of [2] [(71, 2)] (opV _) (by kernel_rfl) (fun _ _ => by kernel_rfl) rfl ?_
          intro vs wv hB hA
          have h2 : vs 2 = _ := hA.1
          clear hA
          simp only [fillP, List.setIfInBounds_toArray, List.set_cons_zero, List.set_cons_succ, h2]
          go_wp2_with fail
          refine postB_val ?_ (Below.refl _ _)
          simp only [List.getElem?_cons_succ, List.getElem?_cons_zero]
          rfl
        case s4 =>
          refine BStep.of [2, 3] [(71, 2), (72, 3)] (opV _) (by kernel_rfl) (fun _ _ => by kernel_rfl) rfl ?_
          intro vs wv hB hA
          have h2 : vs 2 = _ := hA.1
          have h3 : vs 3 = _ := hA.2.1
          clear hA
          simp only [fillP, List.setIfInBounds_toArray, List.set_cons_zero, List.set_cons_succ, h2, h3]
          go_wp2_with fail
          refine postB_val ?_ (Below.refl _ _)
          simp only [List.getElem?_cons_succ, List.getElem?_cons_zero]
          rfl
        case s5 =>
          refine BStep.of [2, 4] [(71, 2), (73, 4)] (opV _) (by kernel_rfl) (fun _ _ => by kernel_rfl) rfl ?_
          intro vs wv hB hA
          have h2 : vs 2 = _ := hA.1
          have h4 : vs 4 = _ := hA.2.1
          clear hA
          simp only [fillP, List.setIfInBounds_toArray, List.set_cons_zero, List.set_cons_succ, h2, h4]
          go_wp2_with fail
          refine postB_val ?_ (Below.refl _ _)
          simp only [List.getElem?_cons_succ, List.getElem?_cons_zero]
          rfl
        case s6 =>
          refine BStep.of [2, 5] [(71, 2), (74, 5)] (opV _) (by kernel_rfl) (fun _ _ => by kernel_rfl) rfl ?_
          intro vs wv hB hA
          have h2 : vs 2 = _ := hA.1
          have h5 : vs 5 = _ := hA.2.1
          clear hA
          simp only [fillP, List.setIfInBounds_toArray, List.set_cons_zero, List.set_cons_succ, h2, h5]
          go_wp2_with fail
          refine postB_val ?_ (Below.refl _ _)
          simp only [List.getElem?_cons_succ, List.getElem?_cons_zero]
          rfl
        case s7 =>
          refine BStep.of [6] [(75, 6)] (opV _) (by kernel_rfl) (fun _ _ => by kernel_rfl) rfl ?_
          intro vs wv hB hA
          have h6 : vs 6 = _ := hA.1
          clear hA
          simp only [fillP, List.setIfInBounds_toArray, List.set_cons_zero, List.set_cons_succ, h6]
          go_wp2_with fail
          refine postB_val ?_ (Below.refl _ _)
          simp only [List.getElem?_cons_succ, List.getElem?_cons_zero]
          rfl
        case s8 =>
          refine BStep.of [6, 7] [(75, 6), (76, 7)] (opV _) (by kernel_rfl) (fun _ _ => by kernel_rfl) rfl ?_
          intro vs wv hB hA
          have h6 : vs 6 = _ := hA.1
          have h7 : vs 7 = _ := hA.2.1
          clear hA
          simp only [fillP, List.setIfInBounds_toArray, List.set_cons_zero, List.set_cons_succ, h6, h7]
          go_wp2_with fail
          refine postB_val ?_ (Below.refl _ _)
          simp only [List.getElem?_cons_succ, List.getElem?_cons_zero]
          rfl
        case s9 =>
          refine BStep.of [6] [(75, 6)] (opV _) (by kernel_rfl) (fun _ _ => by kernel_rfl) rfl ?_
          intro vs wv hB hA
          have h6 : vs 6 = _ := hA.1
          clear hA
          simp only [fillP, List.setIfInBounds_toArray, List.set_cons_zero, List.set_cons_succ, h6]
          go_wp2_with fail
          refine postB_val ?_ (Below.refl _ _)
          simp only [List.getElem?_cons_succ, List.getElem?_cons_zero]
          rfl
        case s10 =>
          refine BStep.of [6, 8, 9] [(75, 6), (77, 8), (78, 9)] (opV _) (by kernel_rfl) (fun _ _ => by kernel_rfl) rfl ?_
          intro vs wv hB hA
          have h6 : vs 6 = _ := hA.1
          have h8 : vs 8 = _ := hA.2.1
          have h9 : vs 9 = _ := hA.2.2.1
          clear hA
          simp only [fillP, List.setIfInBounds_toArray, List.set_cons_zero, List.set_cons_succ, h6, h8, h9]
          go_wp2_with fail
          refine postB_val ?_ (Below.refl _ _)
          simp only [List.getElem?_cons_succ, List.getElem?_cons_zero]
          rfl
        case s11 =>
          refine BStep.of [2, 6, 10] [(71, 2), (75, 6), (79, 10)] (opV _) (by kernel_rfl) (fun _ _ => by kernel_rfl) rfl ?_
          intro vs wv hB hA
          have h2 : vs 2 = _ := hA.1
          have h6 : vs 6 = _ := hA.2.1
          have h10 : vs 10 = _ := hA.2.2.1
          clear hA
          simp only [fillP, List.setIfInBounds_toArray, List.set_cons_zero, List.set_cons_succ, h2, h6, h10]
          go_wp2_with fail
          refine postB_val ?_ (Below.refl _ _)
          simp only [List.getElem?_cons_succ, List.getElem?_cons_zero]
          rfl
        case s12 =>
          refine BStep.of [2, 6, 11] [(71, 2), (75, 6), (80, 11)] (opV _) (by kernel_rfl) (fun _ _ => by kernel_rfl) rfl ?_
          intro vs wv hB hA
          have h2 : vs 2 = _ := hA.1
          have h6 : vs 6 = _ := hA.2.1
          have h11 : vs 11 = _ := hA.2.2.1
          clear hA
          simp only [fillP, List.setIfInBounds_toArray, List.set_cons_zero, List.set_cons_succ, h2, h6, h11]
          go_wp2_with fail
          refine postB_val ?_ (Below.refl _ _)
          simp only [List.getElem?_cons_succ, List.getElem?_cons_zero]
          rfl
        case s13 =>
          refine BStep.of [12] [(81, 12)] (opV _) (by kernel_rfl) (fun _ _ => by kernel_rfl) rfl ?_
          intro vs wv hB hA
          have h12 : vs 12 = _ := hA.1
          clear hA
          simp only [fillP, List.setIfInBounds_toArray, List.set_cons_zero, List.set_cons_succ, h12]
          go_wp2_with fail
          refine postB_val ?_ (Below.refl _ _)
          simp only [List.getElem?_cons_succ, List.getElem?_cons_zero]
          rfl
        case s14 =>
          refine BStep.of [12, 13] [(81, 12), (82, 13)] (opV _) (by kernel_rfl) (fun _ _ => by kernel_rfl) rfl ?_
          intro vs wv hB hA
          have h12 : vs 12 = _ := hA.1
          have h13 : vs 13 = _ := hA.2.1
          clear hA
          simp only [fillP, List.setIfInBounds_toArray, List.set_cons_zero, List.set_cons_succ, h12, h13]
          go_wp2_with fail
          refine postB_val ?_ (Below.refl _ _)
          simp only [List.getElem?_cons_succ, List.getElem?_cons_zero]
          rfl
        case s15 =>
          refine BStep.of [12] [(81, 12)] (opV _) (by kernel_rfl) (fun _ _ => by kernel_rfl) rfl ?_
          intro vs wv hB hA
          have h12 : vs 12 = _ := hA.1
          clear hA
          simp only [fillP, List.setIfInBounds_toArray, List.set_cons_zero, List.set_cons_succ, h12]
          go_wp2_with fail
          refine postB_val ?_ (Below.refl _ _)
          simp only [List.getElem?_cons_succ, List.getElem?_cons_zero]
          rfl
        case s16 =>
          refine BStep.of [12, 14, 15] [(81, 12), (83, 14), (84, 15)] (opV _) (by kernel_rfl) (fun _ _ => by kernel_rfl) rfl ?_
          intro vs wv hB hA
          have h12 : vs 12 = _ := hA.1
          have h14 : vs 14 = _ := hA.2.1
          have h15 : vs 15 = _ := hA.2.2.1
          clear hA
          simp only [fillP, List.setIfInBounds_toArray, List.set_cons_zero, List.set_cons_succ, h12, h14, h15]
          go_wp2_with fail
          refine postB_val ?_ (Below.refl _ _)
          simp only [List.getElem?_cons_succ, List.getElem?_cons_zero]
          rfl
        case s17 =>
          refine BStep.of [2, 12, 16] [(71, 2), (81, 12), (85, 16)] (opV _) (by kernel_rfl) (fun _ _ => by kernel_rfl) rfl ?_
          intro vs wv hB hA
          have h2 : vs 2 = _ := hA.1
          have h12 : vs 12 = _ := hA.2.1
          have h16 : vs 16 = _ := hA.2.2.1
          clear hA
          simp only [fillP, List.setIfInBounds_toArray, List.set_cons_zero, List.set_cons_succ, h2, h12, h16]
          go_wp2_with fail
          refine postB_val ?_ (Below.refl _ _)
          simp only [List.getElem?_cons_succ, List.getElem?_cons_zero]
          rfl
        case s18 =>
          refine BStep.of [2, 12, 17] [(71, 2), (81, 12), (86, 17)] (opV _) (by kernel_rfl) (fun _ _ => by kernel_rfl) rfl ?_
          intro vs wv hB hA
          have h2 : vs 2 = _ := hA.1
          have h12 : vs 12 = _ := hA.2.1
          have h17 : vs 17 = _ := hA.2.2.1
          clear hA
          simp only [fillP, List.setIfInBounds_toArray, List.set_cons_zero, List.set_cons_succ, h2, h12, h17]
          go_wp2_with fail
          refine postB_val ?_ (Below.refl _ _)
          simp only [List.getElem?_cons_succ, List.getElem?_cons_zero]
          rfl
        case s19 =>
          refine BStep.of [18] [(87, 18)] (opV _) (by kernel_rfl) (fun _ _ => by kernel_rfl) rfl ?_
          intro vs wv hB hA
          have h18 : vs 18 = _ := hA.1
          clear hA
          simp only [fillP, List.setIfInBounds_toArray, List.set_cons_zero, List.set_cons_succ, h18]
          go_wp2_with fail
          refine postB_val ?_ (Below.refl _ _)
          simp only [List.getElem?_cons_succ, List.getElem?_cons_zero]
          rfl
        case s20 =>
          refine BStep.of [18, 19] [(87, 18), (88, 19)] (opV _) (by kernel_rfl) (fun _ _ => by kernel_rfl) rfl ?_
          intro vs wv hB hA
          have h18 : vs 18 = _ := hA.1
          have h19 : vs 19 = _ := hA.2.1
          clear hA
          simp only [fillP, List.setIfInBounds_toArray, List.set_cons_zero, List.set_cons_succ, h18, h19]
          go_wp2_with fail
          refine postB_val ?_ (Below.refl _ _)
          simp only [List.getElem?_cons_succ, List.getElem?_cons_zero]
          rfl
        case s21 =>
          refine BStep.of [18] [(87, 18)] (opV _) (by kernel_rfl) (fun _ _ => by kernel_rfl) rfl ?_
          intro vs wv hB hA
          have h18 : vs 18 = _ := hA.1
          clear hA
          simp only [fillP, List.setIfInBounds_toArray, List.set_cons_zero, List.set_cons_succ, h18]
          go_wp2_with fail
          refine postB_val ?_ (Below.refl _ _)
          simp only [List.getElem?_cons_succ, List.getElem?_cons_zero]
          rfl
        case s22 =>
          refine BStep.of [18, 21] [(87, 18), (90, 21)] (opV _) (by kernel_rfl) (fun _ _ => by kernel_rfl) rfl ?_
          intro vs wv hB hA
          have h18 : vs 18 = _ := hA.1
          have h21 : vs 21 = _ := hA.2.1
          clear hA
          simp only [fillP, List.setIfInBounds_toArray, List.set_cons_zero, List.set_cons_succ, h18, h21]
          go_wp2_with fail
          refine postB_val ?_ (Below.refl _ _)
          simp only [List.getElem?_cons_succ, List.getElem?_cons_zero]
          rfl
        case s23 =>
          refine BStep.of [18, 22] [(87, 18), (91, 22)] (opV _) (by kernel_rfl) (fun _ _ => by kernel_rfl) rfl ?_
          intro vs wv hB hA
          have h18 : vs 18 = _ := hA.1
          have h22 : vs 22 = _ := hA.2.1
          clear hA
          simp only [fillP, List.setIfInBounds_toArray, List.set_cons_zero, List.set_cons_succ, h18, h22]
          go_wp2_with fail
          refine postB_val ?_ (Below.refl _ _)
          simp only [List.getElem?_cons_succ, List.getElem?_cons_zero]
          rfl
        case s24 =>
          refine BStep.of [18, 20, 23] [(87, 18), (89, 20), (92, 23)] (opV _) (by kernel_rfl) (fun _ _ => by kernel_rfl) rfl ?_
          intro vs wv hB hA
          have h18 : vs 18 = _ := hA.1
          have h20 : vs 20 = _ := hA.2.1
          have h23 : vs 23 = _ := hA.2.2.1
          clear hA
          simp only [fillP, List.setIfInBounds_toArray, List.set_cons_zero, List.set_cons_succ, h18, h20, h23]
          go_wp2_with fail
          refine postB_val ?_ (Below.refl _ _)
          simp only [List.getElem?_cons_succ, List.getElem?_cons_zero]
          rfl
        case s25 =>
          refine BStep.of [2, 18, 24] [(71, 2), (87, 18), (93, 24)] (opV _) (by kernel_rfl) (fun _ _ => by kernel_rfl) rfl ?_
          intro vs wv hB hA
          have h2 : vs 2 = _ := hA.1
          have h18 : vs 18 = _ := hA.2.1
          have h24 : vs 24 = _ := hA.2.2.1
          clear hA
          simp only [fillP, List.setIfInBounds_toArray, List.set_cons_zero, List.set_cons_succ, h2, h18, h24]
          go_wp2_with fail
          refine postB_val ?_ (Below.refl _ _)
          simp only [List.getElem?_cons_succ, List.getElem?_cons_zero]
          rfl
        case s26 =>
          refine BStep.of [2, 25] [(71, 2), (94, 25)] (opV _) (by kernel_rfl) (fun _ _ => by kernel_rfl) rfl ?_
          intro vs wv hB hA
          have h2 : vs 2 = _ := hA.1
          have h25 : vs 25 = _ := hA.2.1
          clear hA
          simp only [fillP, List.setIfInBounds_toArray, List.set_cons_zero, List.set_cons_succ, h2, h25]
          go_wp2_with fail
          refine postB_val ?_ (Below.refl _ _)
          simp only [List.getElem?_cons_succ, List.getElem?_cons_zero]
          rfl
        case s27 =>
          refine BStep.of [0, 1, 2, 3, 4, 5, 6, 7, 8, 9, 10, 11, 12, 13, 14, 15, 16, 17, 18, 19, 20, 21, 22, 23, 24, 25, 26] [(69, 0), (70, 1), (71, 2), (72, 3), (73, 4), (74, 5), (75, 6), (76, 7), (77, 8), (78, 9), (79, 10), (80, 11), (81, 12), (82, 13), (83, 14), (84, 15), (85, 16), (86, 17), (87, 18), (88, 19), (89, 20), (90, 21), (91, 22), (92, 23), (93, 24), (94, 25), (95, 26)] (opV _) (by kernel_rfl) (fun _ _ => by kernel_rfl) rfl ?_
          intro vs wv hB hA
          have h0 : vs 0 = _ := hA.1
          have h1 : vs 1 = _ := hA.2.1
          have h2 : vs 2 = _ := hA.2.2.1
          have h3 : vs 3 = _ := hA.2.2.2.1
          have h4 : vs 4 = _ := hA.2.2.2.2.1
          have h5 : vs 5 = _ := hA.2.2.2.2.2.1
          have h6 : vs 6 = _ := hA.2.2.2.2.2.2.1
          have h7 : vs 7 = _ := hA.2.2.2.2.2.2.2.1
          have h8 : vs 8 = _ := hA.2.2.2.2.2.2.2.2.1
          have h9 : vs 9 = _ := hA.2.2.2.2.2.2.2.2.2.1
          have h10 : vs 10 = _ := hA.2.2.2.2.2.2.2.2.2.2.1
          have h11 : vs 11 = _ := hA.2.2.2.2.2.2.2.2.2.2.2.1
          have h12 : vs 12 = _ := hA.2.2.2.2.2.2.2.2.2.2.2.2.1
          have h13 : vs 13 = _ := hA.2.2.2.2.2.2.2.2.2.2.2.2.2.1
          have h14 : vs 14 = _ := hA.2.2.2.2.2.2.2.2.2.2.2.2.2.2.1
          have h15 : vs 15 = _ := hA.2.2.2.2.2.2.2.2.2.2.2.2.2.2.2.1
          have h16 : vs 16 = _ := hA.2.2.2.2.2.2.2.2.2.2.2.2.2.2.2.2.1
          have h17 : vs 17 = _ := hA.2.2.2.2.2.2.2.2.2.2.2.2.2.2.2.2.2.1
          have h18 : vs 18 = _ := hA.2.2.2.2.2.2.2.2.2.2.2.2.2.2.2.2.2.2.1
          have h19 : vs 19 = _ := hA.2.2.2.2.2.2.2.2.2.2.2.2.2.2.2.2.2.2.2.1
          have h20 : vs 20 = _ := hA.2.2.2.2.2.2.2.2.2.2.2.2.2.2.2.2.2.2.2.2.1
          have h21 : vs 21 = _ := hA.2.2.2.2.2.2.2.2.2.2.2.2.2.2.2.2.2.2.2.2.2.1
          have h22 : vs 22 = _ := hA.2.2.2.2.2.2.2.2.2.2.2.2.2.2.2.2.2.2.2.2.2.2.1
          have h23 : vs 23 = _ := hA.2.2.2.2.2.2.2.2.2.2.2.2.2.2.2.2.2.2.2.2.2.2.2.1
          have h24 : vs 24 = _ := hA.2.2.2.2.2.2.2.2.2.2.2.2.2.2.2.2.2.2.2.2.2.2.2.2.1
          have h25 : vs 25 = _ := hA.2.2.2.2.2.2.2.2.2.2.2.2.2.2.2.2.2.2.2.2.2.2.2.2.2.1
          have h26 : vs 26 = _ := hA.2.2.2.2.2.2.2.2.2.2.2.2.2.2.2.2.2.2.2.2.2.2.2.2.2.2.1
          clear hA
          simp only [fillP, List.setIfInBounds_toArray, List.set_cons_zero, List.set_cons_succ, h0, h1, h2, h3, h4, h5, h6, h7, h8, h9, h10, h11, h12, h13, h14, h15, h16, h17, h18, h19, h20, h21, h22, h23, h24, h25, h26]
          go_wp2_with fail
          refine postB_val ?_ (Below.refl _ _)
          simp only [List.getElem?_cons_succ, List.getElem?_cons_zero]
          rfl
        case fin =>
          refine fin_of [0, 1, 2, 3, 4, 5, 6, 7, 8, 9, 10, 11, 12, 13, 14, 15, 16, 17, 18, 19, 20, 21, 22, 23, 24, 25, 26, 27] [(69, 0), (70, 1), (71, 2), (72, 3), (73, 4), (74, 5), (75, 6), (76, 7), (77, 8), (78, 9), (79, 10), (80, 11), (81, 12), (82, 13), (83, 14), (84, 15), (85, 16), (86, 17), (87, 18), (88, 19), (89, 20), (90, 21), (91, 22), (92, 23), (93, 24), (94, 25), (95, 26), (2, 27)] (by kernel_rfl) (fun _ _ => by kernel_rfl) ?_
          intro vs wv hB hA
          have h0 : vs 0 = _ := hA.1
          have h1 : vs 1 = _ := hA.2.1
          have h2 : vs 2 = _ := hA.2.2.1
          have h3 : vs 3 = _ := hA.2.2.2.1
          have h4 : vs 4 = _ := hA.2.2.2.2.1
          have h5 : vs 5 = _ := hA.2.2.2.2.2.1
          have h6 : vs 6 = _ := hA.2.2.2.2.2.2.1
          have h7 : vs 7 = _ := hA.2.2.2.2.2.2.2.1
          have h8 : vs 8 = _ := hA.2.2.2.2.2.2.2.2.1
          have h9 : vs 9 = _ := hA.2.2.2.2.2.2.2.2.2.1
          have h10 : vs 10 = _ := hA.2.2.2.2.2.2.2.2.2.2.1
          have h11 : vs 11 = _ := hA.2.2.2.2.2.2.2.2.2.2.2.1
          have h12 : vs 12 = _ := hA.2.2.2.2.2.2.2.2.2.2.2.2.1
          have h13 : vs 13 = _ := hA.2.2.2.2.2.2.2.2.2.2.2.2.2.1
          have h14 : vs 14 = _ := hA.2.2.2.2.2.2.2.2.2.2.2.2.2.2.1
          have h15 : vs 15 = _ := hA.2.2.2.2.2.2.2.2.2.2.2.2.2.2.2.1
          have h16 : vs 16 = _ := hA.2.2.2.2.2.2.2.2.2.2.2.2.2.2.2.2.1
          have h17 : vs 17 = _ := hA.2.2.2.2.2.2.2.2.2.2.2.2.2.2.2.2.2.1
          have h18 : vs 18 = _ := hA.2.2.2.2.2.2.2.2.2.2.2.2.2.2.2.2.2.2.1
          have h19 : vs 19 = _ := hA.2.2.2.2.2.2.2.2.2.2.2.2.2.2.2.2.2.2.2.1
          have h20 : vs 20 = _ := hA.2.2.2.2.2.2.2.2.2.2.2.2.2.2.2.2.2.2.2.2.1
          have h21 : vs 21 = _ := hA.2.2.2.2.2.2.2.2.2.2.2.2.2.2.2.2.2.2.2.2.2.1
          have h22 : vs 22 = _ := hA.2.2.2.2.2.2.2.2.2.2.2.2.2.2.2.2.2.2.2.2.2.2.1
          have h23 : vs 23 = _ := hA.2.2.2.2.2.2.2.2.2.2.2.2.2.2.2.2.2.2.2.2.2.2.2.1
          have h24 : vs 24 = _ := hA.2.2.2.2.2.2.2.2.2.2.2.2.2.2.2.2.2.2.2.2.2.2.2.2.1
          have h25 : vs 25 = _ := hA.2.2.2.2.2.2.2.2.2.2.2.2.2.2.2.2.2.2.2.2.2.2.2.2.2.1
          have h26 : vs 26 = _ := hA.2.2.2.2.2.2.2.2.2.2.2.2.2.2.2.2.2.2.2.2.2.2.2.2.2.2.1
          have h27 : vs 27 = _ := hA.2.2.2.2.2.2.2.2.2.2.2.2.2.2.2.2.2.2.2.2.2.2.2.2.2.2.2.1
          clear hA
          simp only [fillP, List.setIfInBounds_toArray, List.set_cons_zero, List.set_cons_succ, h0, h1, h2, h3, h4, h5, h6, h7, h8, h9, h10, h11, h12, h13, h14, h15, h16, h17, h18, h19, h20, h21, h22, h23, h24, h25, h26, h27]
          go_wp2_with fail; go_ret; exact ⟨by first|rfl | simp, b_next BZ.out hB⟩
      | true =>
        have e1 := T1.out rfl
        obtain ⟨a1, a2⟩ := a
        unfold mgZ at e1
        injection e1 with f1 f2 f3 f4 f5
        injection f3 with f6 f7
        injection f4 with f8 f9
        subst f2 f5 f6 f7 f8 f9
        have EH : Hid (H2 = if 0 < p1 + p2 then p1 + p2 else 0) := Lib.hid (T4.out rfl)
        have js := JS1.out
        unfold SmallM MayM at js
        dsimp only at js HW
        have KV1 := Lib.hid (fun W => KV.out p1 p2 W)
        have v1 : valueM (p1, p2) = p1 + p2 := IntWalk.i64_in _ (by dsimp only; omega)
        rw [v1] at KV1
        obtain ⟨vv, hvv⟩ : ∃ vv, p1 + p2 = vv := ⟨_, rfl⟩
        rw [hvv] at KV1 EH
        unfold mgV at KV1
        dsimp only at KV1
        have k1 : (p1 == p1) = true := by simp
        have k2 : (p2 == p2) = true := by simp
        clear T1 T2 T4 JS1 v1 hvv js KV KJ f1
        by_cases hp : 0 < vv
        · obtain rfl : H2 = vv := by rw [EH.out, if_pos hp]
          have k3 : (H2 == H2) = true := by simp
          clear EH
          go_wp2_with fail
          refine' wp_region_below [opV _, opV _, opV _, opV _, opV _, opV _, opV _, opV _, opV _, opV _, opV _, opV _, opV _, opV _, opV _, opV _, opV _, opV _, opV _, opV _, opV _, opV _, opV (.int .i64 H2), opV _, opV _, opV _, opV _, opV _] rfl (by kernel_rfl) ⟨?s0, ?s1, ?s2, ?s3, ?s4, ?s5, ?s6, ?s7, ?s8, ?s9, ?s10, ?s11, ?s12, ?s13, ?s14, ?s15, ?s16, ?s17, ?s18, ?s19, ?s20, ?s21, ?s22, ?s23, ?s24, ?s25, ?s26, ?s27, trivial⟩ ?fin
          case s0 =>
            refine BStep.of [] [] (opV _) (by kernel_rfl) (fun _ _ => by kernel_rfl) rfl ?_
            intro vs wv hB hA
            clear hA
            simp only [fillP]
            have s1 := (CT.out wv (HS.out wv hB)).1.cells; have s2 := (CT.out wv (HS.out wv hB)).2.cells; have x1 := s1.2.1; have x2 := s1.2.2.1; have x3 := s1.2.2.2.1; have x4 := s1.2.2.2.2.1; have x5 := s1.2.2.2.2.2.1; have y1 := s2.2.1; dsimp only at x1 x2 x3 x4 x5 y1; clear s1 s2; have q0 := (MgAt.cells (HW.out.keep hB)).1; have q1 := (MgAt.cells (HW.out.keep hB)).2; dsimp only at q0 q1; go_wp2_with fail
            refine postB_val ?_ (Below.refl _ _)
            simp only [List.getElem?_cons_succ, List.getElem?_cons_zero]
            rfl
          case s1 =>
            refine BStep.of [0] [(69, 0)] (opV _) (by kernel_rfl) (fun _ _ => by kernel_rfl) rfl ?_
            intro vs wv hB hA
            have h0 : vs 0 = _ := hA.1
            clear hA
            simp only [fillP, List.setIfInBounds_toArray, List.set_cons_zero, List.set_cons_succ, h0]
            have s1 := (CT.out wv (HS.out wv hB)).1.cells; have s2 := (CT.out wv (HS.out wv hB)).2.cells; have x1 := s1.2.1; have x2 := s1.2.2.1; have x3 := s1.2.2.2.1; have x4 := s1.2.2.2.2.1; have x5 := s1.2.2.2.2.2.1; have y1 := s2.2.1; dsimp only at x1 x2 x3 x4 x5 y1; clear s1 s2; have q0 := (MgAt.cells (HW.out.keep hB)).1; have q1 := (MgAt.cells (HW.out.keep hB)).2; dsimp only at q0 q1; go_wp2_with fail
            refine postB_val ?_ (Below.refl _ _)
            simp only [List.getElem?_cons_succ, List.getElem?_cons_zero]
            rfl
          case s2 =>
            refine BStep.of [1] [(70, 1)] (opV _) (by kernel_rfl) (fun _ _ => by kernel_rfl) rfl ?_
            intro vs wv hB hA
            have h1 : vs 1 = _ := hA.1
            clear hA
            simp only [fillP, List.setIfInBounds_toArray, List.set_cons_zero, List.set_cons_succ, h1]
            have s1 := (CT.out wv (HS.out wv hB)).1.cells; have s2 := (CT.out wv (HS.out wv hB)).2.cells; have x1 := s1.2.1; have x2 := s1.2.2.1; have x3 := s1.2.2.2.1; have x4 := s1.2.2.2.2.1; have x5 := s1.2.2.2.2.2.1; have y1 := s2.2.1; dsimp only at x1 x2 x3 x4 x5 y1; clear s1 s2; have q0 := (MgAt.cells (HW.out.keep hB)).1; have q1 := (MgAt.cells (HW.out.keep hB)).2; dsimp only at q0 q1; go_wp2_with fail
            refine postB_val ?_ (Below.refl _ _)
            simp only [List.getElem?_cons_succ, List.getElem?_cons_zero]
            rfl
          case s3 =>
            refine BStep.of [2] [(71, 2)] (opV _) (by kernel_rfl) (fun _ _ => by kernel_rfl) rfl ?_
            intro vs wv hB hA
            have h2 : vs 2 = _ := hA.1
            clear hA
            simp only [fillP, List.setIfInBounds_toArray, List.set_cons_zero, List.set_cons_succ, h2]
            have s1 := (CT.out wv (HS.out wv hB)).1.cells; have s2 := (CT.out wv (HS.out wv hB)).2.cells; have x1 := s1.2.1; have x2 := s1.2.2.1; have x3 := s1.2.2.2.1; have x4 := s1.2.2.2.2.1; have x5 := s1.2.2.2.2.2.1; have y1 := s2.2.1; dsimp only at x1 x2 x3 x4 x5 y1; clear s1 s2; have q0 := (MgAt.cells (HW.out.keep hB)).1; have q1 := (MgAt.cells (HW.out.keep hB)).2; dsimp only at q0 q1; go_wp2_with fail
            refine postB_val ?_ (Below.refl _ _)
            simp only [List.getElem?_cons_succ, List.getElem?_cons_zero]
            rfl
          case s4 =>
            refine BStep.of [2, 3] [(71, 2), (72, 3)] (opV _) (by kernel_rfl) (fun _ _ => by kernel_rfl) rfl ?_
            intro vs wv hB hA
            have h2 : vs 2 = _ := hA.1
            have h3 : vs 3 = _ := hA.2.1
            clear hA
            simp only [fillP, List.setIfInBounds_toArray, List.set_cons_zero, List.set_cons_succ, h2, h3]
            have s1 := (CT.out wv (HS.out wv hB)).1.cells; have s2 := (CT.out wv (HS.out wv hB)).2.cells; have x1 := s1.2.1; have x2 := s1.2.2.1; have x3 := s1.2.2.2.1; have x4 := s1.2.2.2.2.1; have x5 := s1.2.2.2.2.2.1; have y1 := s2.2.1; dsimp only at x1 x2 x3 x4 x5 y1; clear s1 s2; have q0 := (MgAt.cells (HW.out.keep hB)).1; have q1 := (MgAt.cells (HW.out.keep hB)).2; dsimp only at q0 q1; go_wp2_with fail
            refine postB_val ?_ (Below.refl _ _)
            simp only [List.getElem?_cons_succ, List.getElem?_cons_zero]
            rfl
          case s5 =>
            refine BStep.of [2, 4] [(71, 2), (73, 4)] (opV _) (by kernel_rfl) (fun _ _ => by kernel_rfl) rfl ?_
            intro vs wv hB hA
            have h2 : vs 2 = _ := hA.1
            have h4 : vs 4 = _ := hA.2.1
            clear hA
            simp only [fillP, List.setIfInBounds_toArray, List.set_cons_zero, List.set_cons_succ, h2, h4]
            have s1 := (CT.out wv (HS.out wv hB)).1.cells; have s2 := (CT.out wv (HS.out wv hB)).2.cells; have x1 := s1.2.1; have x2 := s1.2.2.1; have x3 := s1.2.2.2.1; have x4 := s1.2.2.2.2.1; have x5 := s1.2.2.2.2.2.1; have y1 := s2.2.1; dsimp only at x1 x2 x3 x4 x5 y1; clear s1 s2; have q0 := (MgAt.cells (HW.out.keep hB)).1; have q1 := (MgAt.cells (HW.out.keep hB)).2; dsimp only at q0 q1; go_wp2_with fail
            refine postB_val ?_ (Below.refl _ _)
            simp only [List.getElem?_cons_succ, List.getElem?_cons_zero]
            rfl
          case s6 =>
            refine BStep.of [2, 5] [(71, 2), (74, 5)] (opV _) (by kernel_rfl) (fun _ _ => by kernel_rfl) rfl ?_
            intro vs wv hB hA
            have h2 : vs 2 = _ := hA.1
            have h5 : vs 5 = _ := hA.2.1
            clear hA
            simp only [fillP, List.setIfInBounds_toArray, List.set_cons_zero, List.set_cons_succ, h2, h5]
            have s1 := (CT.out wv (HS.out wv hB)).1.cells; have s2 := (CT.out wv (HS.out wv hB)).2.cells; have x1 := s1.2.1; have x2 := s1.2.2.1; have x3 := s1.2.2.2.1; have x4 := s1.2.2.2.2.1; have x5 := s1.2.2.2.2.2.1; have y1 := s2.2.1; dsimp only at x1 x2 x3 x4 x5 y1; clear s1 s2; have q0 := (MgAt.cells (HW.out.keep hB)).1; have q1 := (MgAt.cells (HW.out.keep hB)).2; dsimp only at q0 q1; go_wp2_with fail
            refine postB_val ?_ (Below.refl _ _)
            simp only [List.getElem?_cons_succ, List.getElem?_cons_zero]
            rfl
          case s7 =>
            refine BStep.of [6] [(75, 6)] (opV _) (by kernel_rfl) (fun _ _ => by kernel_rfl) rfl ?_
            intro vs wv hB hA
            have h6 : vs 6 = _ := hA.1
            clear hA
            simp only [fillP, List.setIfInBounds_toArray, List.set_cons_zero, List.set_cons_succ, h6]
            have s1 := (CT.out wv (HS.out wv hB)).1.cells; have s2 := (CT.out wv (HS.out wv hB)).2.cells; have x1 := s1.2.1; have x2 := s1.2.2.1; have x3 := s1.2.2.2.1; have x4 := s1.2.2.2.2.1; have x5 := s1.2.2.2.2.2.1; have y1 := s2.2.1; dsimp only at x1 x2 x3 x4 x5 y1; clear s1 s2; have q0 := (MgAt.cells (HW.out.keep hB)).1; have q1 := (MgAt.cells (HW.out.keep hB)).2; dsimp only at q0 q1; go_wp2_with fail
            refine postB_val ?_ (Below.refl _ _)
            simp only [List.getElem?_cons_succ, List.getElem?_cons_zero]
            rfl
          case s8 =>
            refine BStep.of [6, 7] [(75, 6), (76, 7)] (opV _) (by kernel_rfl) (fun _ _ => by kernel_rfl) rfl ?_
            intro vs wv hB hA
            have h6 : vs 6 = _ := hA.1
            have h7 : vs 7 = _ := hA.2.1
            clear hA
            simp only [fillP, List.setIfInBounds_toArray, List.set_cons_zero, List.set_cons_succ, h6, h7]
            have s1 := (CT.out wv (HS.out wv hB)).1.cells; have s2 := (CT.out wv (HS.out wv hB)).2.cells; have x1 := s1.2.1; have x2 := s1.2.2.1; have x3 := s1.2.2.2.1; have x4 := s1.2.2.2.2.1; have x5 := s1.2.2.2.2.2.1; have y1 := s2.2.1; dsimp only at x1 x2 x3 x4 x5 y1; clear s1 s2; have q0 := (MgAt.cells (HW.out.keep hB)).1; have q1 := (MgAt.cells (HW.out.keep hB)).2; dsimp only at q0 q1; go_wp2_with fail
            refine postB_val ?_ (Below.refl _ _)
            simp only [List.getElem?_cons_succ, List.getElem?_cons_zero]
            rfl
          case s9 =>
            refine BStep.of [6] [(75, 6)] (opV _) (by kernel_rfl) (fun _ _ => by kernel_rfl) rfl ?_
            intro vs wv hB hA
            have h6 : vs 6 = _ := hA.1
            clear hA
            simp only [fillP, List.setIfInBounds_toArray, List.set_cons_zero, List.set_cons_succ, h6]
            have s1 := (CT.out wv (HS.out wv hB)).1.cells; have s2 := (CT.out wv (HS.out wv hB)).2.cells; have x1 := s1.2.1; have x2 := s1.2.2.1; have x3 := s1.2.2.2.1; have x4 := s1.2.2.2.2.1; have x5 := s1.2.2.2.2.2.1; have y1 := s2.2.1; dsimp only at x1 x2 x3 x4 x5 y1; clear s1 s2; have q0 := (MgAt.cells (HW.out.keep hB)).1; have q1 := (MgAt.cells (HW.out.keep hB)).2; dsimp only at q0 q1; go_wp2_with fail
            refine postB_val ?_ (Below.refl _ _)
            simp only [List.getElem?_cons_succ, List.getElem?_cons_zero]
            rfl
          case s10 =>
            refine BStep.of [6, 8, 9] [(75, 6), (77, 8), (78, 9)] (opV _) (by kernel_rfl) (fun _ _ => by kernel_rfl) rfl ?_
            intro vs wv hB hA
            have h6 : vs 6 = _ := hA.1
            have h8 : vs 8 = _ := hA.2.1
            have h9 : vs 9 = _ := hA.2.2.1
            clear hA
            simp only [fillP, List.setIfInBounds_toArray, List.set_cons_zero, List.set_cons_succ, h6, h8, h9]
            have s1 := (CT.out wv (HS.out wv hB)).1.cells; have s2 := (CT.out wv (HS.out wv hB)).2.cells; have x1 := s1.2.1; have x2 := s1.2.2.1; have x3 := s1.2.2.2.1; have x4 := s1.2.2.2.2.1; have x5 := s1.2.2.2.2.2.1; have y1 := s2.2.1; dsimp only at x1 x2 x3 x4 x5 y1; clear s1 s2; have q0 := (MgAt.cells (HW.out.keep hB)).1; have q1 := (MgAt.cells (HW.out.keep hB)).2; dsimp only at q0 q1; go_wp2_with fail
            refine postB_val ?_ (Below.refl _ _)
            simp only [List.getElem?_cons_succ, List.getElem?_cons_zero]
            rfl
          case s11 =>
            refine BStep.of [2, 6, 10] [(71, 2), (75, 6), (79, 10)] (opV _) (by kernel_rfl) (fun _ _ => by kernel_rfl) rfl ?_
            intro vs wv hB hA
            have h2 : vs 2 = _ := hA.1
            have h6 : vs 6 = _ := hA.2.1
            have h10 : vs 10 = _ := hA.2.2.1
            clear hA
            simp only [fillP, List.setIfInBounds_toArray, List.set_cons_zero, List.set_cons_succ, h2, h6, h10]
            have s1 := (CT.out wv (HS.out wv hB)).1.cells; have s2 := (CT.out wv (HS.out wv hB)).2.cells; have x1 := s1.2.1; have x2 := s1.2.2.1; have x3 := s1.2.2.2.1; have x4 := s1.2.2.2.2.1; have x5 := s1.2.2.2.2.2.1; have y1 := s2.2.1; dsimp only at x1 x2 x3 x4 x5 y1; clear s1 s2; have q0 := (MgAt.cells (HW.out.keep hB)).1; have q1 := (MgAt.cells (HW.out.keep hB)).2; dsimp only at q0 q1; go_wp2_with fail
            refine postB_val ?_ (Below.refl _ _)
            simp only [List.getElem?_cons_succ, List.getElem?_cons_zero]
            rfl
          case s12 =>
            refine BStep.of [2, 6, 11] [(71, 2), (75, 6), (80, 11)] (opV _) (by kernel_rfl) (fun _ _ => by kernel_rfl) rfl ?_
            intro vs wv hB hA
            have h2 : vs 2 = _ := hA.1
            have h6 : vs 6 = _ := hA.2.1
            have h11 : vs 11 = _ := hA.2.2.1
            clear hA
            simp only [fillP, List.setIfInBounds_toArray, List.set_cons_zero, List.set_cons_succ, h2, h6, h11]
            have s1 := (CT.out wv (HS.out wv hB)).1.cells; have s2 := (CT.out wv (HS.out wv hB)).2.cells; have x1 := s1.2.1; have x2 := s1.2.2.1; have x3 := s1.2.2.2.1; have x4 := s1.2.2.2.2.1; have x5 := s1.2.2.2.2.2.1; have y1 := s2.2.1; dsimp only at x1 x2 x3 x4 x5 y1; clear s1 s2; have q0 := (MgAt.cells (HW.out.keep hB)).1; have q1 := (MgAt.cells (HW.out.keep hB)).2; dsimp only at q0 q1; go_wp2_with fail
            refine postB_val ?_ (Below.refl _ _)
            simp only [List.getElem?_cons_succ, List.getElem?_cons_zero]
            rfl
          case s13 =>
            refine BStep.of [12] [(81, 12)] (opV _) (by kernel_rfl) (fun _ _ => by kernel_rfl) rfl ?_
            intro vs wv hB hA
            have h12 : vs 12 = _ := hA.1
            clear hA
            simp only [fillP, List.setIfInBounds_toArray, List.set_cons_zero, List.set_cons_succ, h12]
            have s1 := (CT.out wv (HS.out wv hB)).1.cells; have s2 := (CT.out wv (HS.out wv hB)).2.cells; have x1 := s1.2.1; have x2 := s1.2.2.1; have x3 := s1.2.2.2.1; have x4 := s1.2.2.2.2.1; have x5 := s1.2.2.2.2.2.1; have y1 := s2.2.1; dsimp only at x1 x2 x3 x4 x5 y1; clear s1 s2; have q0 := (MgAt.cells (HW.out.keep hB)).1; have q1 := (MgAt.cells (HW.out.keep hB)).2; dsimp only at q0 q1; go_wp2_with fail
            refine postB_val ?_ (Below.refl _ _)
            simp only [List.getElem?_cons_succ, List.getElem?_cons_zero]
            rfl
          case s14 =>
            refine BStep.of [12, 13] [(81, 12), (82, 13)] (opV _) (by kernel_rfl) (fun _ _ => by kernel_rfl) rfl ?_
            intro vs wv hB hA
            have h12 : vs 12 = _ := hA.1
            have h13 : vs 13 = _ := hA.2.1
            clear hA
            simp only [fillP, List.setIfInBounds_toArray, List.set_cons_zero, List.set_cons_succ, h12, h13]
            have s1 := (CT.out wv (HS.out wv hB)).1.cells; have s2 := (CT.out wv (HS.out wv hB)).2.cells; have x1 := s1.2.1; have x2 := s1.2.2.1; have x3 := s1.2.2.2.1; have x4 := s1.2.2.2.2.1; have x5 := s1.2.2.2.2.2.1; have y1 := s2.2.1; dsimp only at x1 x2 x3 x4 x5 y1; clear s1 s2; have q0 := (MgAt.cells (HW.out.keep hB)).1; have q1 := (MgAt.cells (HW.out.keep hB)).2; dsimp only at q0 q1; go_wp2_with fail
            refine postB_val ?_ (Below.refl _ _)
            simp only [List.getElem?_cons_succ, List.getElem?_cons_zero]
            rfl
          case s15 =>
            refine BStep.of [12] [(81, 12)] (opV _) (by kernel_rfl) (fun _ _ => by kernel_rfl) rfl ?_
            intro vs wv hB hA
            have h12 : vs 12 = _ := hA.1
            clear hA
            simp only [fillP, List.setIfInBounds_toArray, List.set_cons_zero, List.set_cons_succ, h12]
            have s1 := (CT.out wv (HS.out wv hB)).1.cells; have s2 := (CT.out wv (HS.out wv hB)).2.cells; have x1 := s1.2.1; have x2 := s1.2.2.1; have x3 := s1.2.2.2.1; have x4 := s1.2.2.2.2.1; have x5 := s1.2.2.2.2.2.1; have y1 := s2.2.1; dsimp only at x1 x2 x3 x4 x5 y1; clear s1 s2; have q0 := (MgAt.cells (HW.out.keep hB)).1; have q1 := (MgAt.cells (HW.out.keep hB)).2; dsimp only at q0 q1; go_wp2_with fail
            refine postB_val ?_ (Below.refl _ _)
            simp only [List.getElem?_cons_succ, List.getElem?_cons_zero]
            rfl
          case s16 =>
            refine BStep.of [12, 14, 15] [(81, 12), (83, 14), (84, 15)] (opV _) (by kernel_rfl) (fun _ _ => by kernel_rfl) rfl ?_
            intro vs wv hB hA
            have h12 : vs 12 = _ := hA.1
            have h14 : vs 14 = _ := hA.2.1
            have h15 : vs 15 = _ := hA.2.2.1
            clear hA
            simp only [fillP, List.setIfInBounds_toArray, List.set_cons_zero, List.set_cons_succ, h12, h14, h15]
            have s1 := (CT.out wv (HS.out wv hB)).1.cells; have s2 := (CT.out wv (HS.out wv hB)).2.cells; have x1 := s1.2.1; have x2 := s1.2.2.1; have x3 := s1.2.2.2.1; have x4 := s1.2.2.2.2.1; have x5 := s1.2.2.2.2.2.1; have y1 := s2.2.1; dsimp only at x1 x2 x3 x4 x5 y1; clear s1 s2; have q0 := (MgAt.cells (HW.out.keep hB)).1; have q1 := (MgAt.cells (HW.out.keep hB)).2; dsimp only at q0 q1; go_wp2_with fail
            refine postB_val ?_ (Below.refl _ _)
            simp only [List.getElem?_cons_succ, List.getElem?_cons_zero]
            rfl
          case s17 =>
            refine BStep.of [2, 12, 16] [(71, 2), (81, 12), (85, 16)] (opV _) (by kernel_rfl) (fun _ _ => by kernel_rfl) rfl ?_
            intro vs wv hB hA
            have h2 : vs 2 = _ := hA.1
            have h12 : vs 12 = _ := hA.2.1
            have h16 : vs 16 = _ := hA.2.2.1
            clear hA
            simp only [fillP, List.setIfInBounds_toArray, List.set_cons_zero, List.set_cons_succ, h2, h12, h16]
            have s1 := (CT.out wv (HS.out wv hB)).1.cells; have s2 := (CT.out wv (HS.out wv hB)).2.cells; have x1 := s1.2.1; have x2 := s1.2.2.1; have x3 := s1.2.2.2.1; have x4 := s1.2.2.2.2.1; have x5 := s1.2.2.2.2.2.1; have y1 := s2.2.1; dsimp only at x1 x2 x3 x4 x5 y1; clear s1 s2; have q0 := (MgAt.cells (HW.out.keep hB)).1; have q1 := (MgAt.cells (HW.out.keep hB)).2; dsimp only at q0 q1; go_wp2_with fail
            refine postB_val ?_ (Below.refl _ _)
            simp only [List.getElem?_cons_succ, List.getElem?_cons_zero]
            rfl
          case s18 =>
            refine BStep.of [2, 12, 17] [(71, 2), (81, 12), (86, 17)] (opV _) (by kernel_rfl) (fun _ _ => by kernel_rfl) rfl ?_
            intro vs wv hB hA
            have h2 : vs 2 = _ := hA.1
            have h12 : vs 12 = _ := hA.2.1
            have h17 : vs 17 = _ := hA.2.2.1
            clear hA
            simp only [fillP, List.setIfInBounds_toArray, List.set_cons_zero, List.set_cons_succ, h2, h12, h17]
            have s1 := (CT.out wv (HS.out wv hB)).1.cells; have s2 := (CT.out wv (HS.out wv hB)).2.cells; have x1 := s1.2.1; have x2 := s1.2.2.1; have x3 := s1.2.2.2.1; have x4 := s1.2.2.2.2.1; have x5 := s1.2.2.2.2.2.1; have y1 := s2.2.1; dsimp only at x1 x2 x3 x4 x5 y1; clear s1 s2; have q0 := (MgAt.cells (HW.out.keep hB)).1; have q1 := (MgAt.cells (HW.out.keep hB)).2; dsimp only at q0 q1; go_wp2_with fail
            refine postB_val ?_ (Below.refl _ _)
            simp only [List.getElem?_cons_succ, List.getElem?_cons_zero]
            rfl
          case s19 =>
            refine BStep.of [18] [(87, 18)] (opV _) (by kernel_rfl) (fun _ _ => by kernel_rfl) rfl ?_
            intro vs wv hB hA
            have h18 : vs 18 = _ := hA.1
            clear hA
            simp only [fillP, List.setIfInBounds_toArray, List.set_cons_zero, List.set_cons_succ, h18]
            have s1 := (CT.out wv (HS.out wv hB)).1.cells; have s2 := (CT.out wv (HS.out wv hB)).2.cells; have x1 := s1.2.1; have x2 := s1.2.2.1; have x3 := s1.2.2.2.1; have x4 := s1.2.2.2.2.1; have x5 := s1.2.2.2.2.2.1; have y1 := s2.2.1; dsimp only at x1 x2 x3 x4 x5 y1; clear s1 s2; have q0 := (MgAt.cells (HW.out.keep hB)).1; have q1 := (MgAt.cells (HW.out.keep hB)).2; dsimp only at q0 q1; go_wp2_with fail
            refine postB_val ?_ (Below.refl _ _)
            simp only [List.getElem?_cons_succ, List.getElem?_cons_zero]
            rfl
          case s20 =>
            refine BStep.of [18, 19] [(87, 18), (88, 19)] (opV _) (by kernel_rfl) (fun _ _ => by kernel_rfl) rfl ?_
            intro vs wv hB hA
            have h18 : vs 18 = _ := hA.1
            have h19 : vs 19 = _ := hA.2.1
            clear hA
            simp only [fillP, List.setIfInBounds_toArray, List.set_cons_zero, List.set_cons_succ, h18, h19]
            have s1 := (CT.out wv (HS.out wv hB)).1.cells; have s2 := (CT.out wv (HS.out wv hB)).2.cells; have x1 := s1.2.1; have x2 := s1.2.2.1; have x3 := s1.2.2.2.1; have x4 := s1.2.2.2.2.1; have x5 := s1.2.2.2.2.2.1; have y1 := s2.2.1; dsimp only at x1 x2 x3 x4 x5 y1; clear s1 s2; have q0 := (MgAt.cells (HW.out.keep hB)).1; have q1 := (MgAt.cells (HW.out.keep hB)).2; dsimp only at q0 q1; go_wp2_with fail
            refine postB_val ?_ (Below.refl _ _)
            simp only [List.getElem?_cons_succ, List.getElem?_cons_zero]
            rfl
          case s21 =>
            refine BStep.of [18] [(87, 18)] (opV _) (by kernel_rfl) (fun _ _ => by kernel_rfl) rfl ?_
            intro vs wv hB hA
            have h18 : vs 18 = _ := hA.1
            clear hA
            simp only [fillP, List.setIfInBounds_toArray, List.set_cons_zero, List.set_cons_succ, h18]
            have s1 := (CT.out wv (HS.out wv hB)).1.cells; have s2 := (CT.out wv (HS.out wv hB)).2.cells; have x1 := s1.2.1; have x2 := s1.2.2.1; have x3 := s1.2.2.2.1; have x4 := s1.2.2.2.2.1; have x5 := s1.2.2.2.2.2.1; have y1 := s2.2.1; dsimp only at x1 x2 x3 x4 x5 y1; clear s1 s2; have q0 := (MgAt.cells (HW.out.keep hB)).1; have q1 := (MgAt.cells (HW.out.keep hB)).2; dsimp only at q0 q1; go_wp2_with fail
            refine postB_val ?_ (Below.refl _ _)
            simp only [List.getElem?_cons_succ, List.getElem?_cons_zero]
            rfl
          case s22 =>
            refine BStep.of [18, 21] [(87, 18), (90, 21)] (opV (.int .i64 H2)) (by kernel_rfl) (fun _ _ => by kernel_rfl) rfl ?_
            intro vs wv hB hA
            have h18 : vs 18 = _ := hA.1
            have h21 : vs 21 = _ := hA.2.1
            clear hA
            simp only [fillP, List.setIfInBounds_toArray, List.set_cons_zero, List.set_cons_succ, h18, h21]
            have q0 := (MgAt.cells (HW.out.keep hB)).1; have q1 := (MgAt.cells (HW.out.keep hB)).2; dsimp only at q0 q1; (go_wp2_with (go_at_call 16; (with_reducible refine (KV1.out _).mono ?_); rintro e w7 ⟨rfl, hb⟩)); exact postB_val rfl hb
          case s23 =>
            refine BStep.of [18, 22] [(87, 18), (91, 22)] (opV _) (by kernel_rfl) (fun _ _ => by kernel_rfl) rfl ?_
            intro vs wv hB hA
            have h18 : vs 18 = _ := hA.1
            have h22 : vs 22 = _ := hA.2.1
            clear hA
            simp only [fillP, List.setIfInBounds_toArray, List.set_cons_zero, List.set_cons_succ, h18, h22]
            have s1 := (CT.out wv (HS.out wv hB)).1.cells; have s2 := (CT.out wv (HS.out wv hB)).2.cells; have x1 := s1.2.1; have x2 := s1.2.2.1; have x3 := s1.2.2.2.1; have x4 := s1.2.2.2.2.1; have x5 := s1.2.2.2.2.2.1; have y1 := s2.2.1; dsimp only at x1 x2 x3 x4 x5 y1; clear s1 s2; have q0 := (MgAt.cells (HW.out.keep hB)).1; have q1 := (MgAt.cells (HW.out.keep hB)).2; dsimp only at q0 q1; go_wp2_with fail
            refine postB_val ?_ (Below.refl _ _)
            simp only [List.getElem?_cons_succ, List.getElem?_cons_zero]
            rfl
          case s24 =>
            refine BStep.of [18, 20, 23] [(87, 18), (89, 20), (92, 23)] (opV _) (by kernel_rfl) (fun _ _ => by kernel_rfl) rfl ?_
            intro vs wv hB hA
            have h18 : vs 18 = _ := hA.1
            have h20 : vs 20 = _ := hA.2.1
            have h23 : vs 23 = _ := hA.2.2.1
            clear hA
            simp only [fillP, List.setIfInBounds_toArray, List.set_cons_zero, List.set_cons_succ, h18, h20, h23]
            have s1 := (CT.out wv (HS.out wv hB)).1.cells; have s2 := (CT.out wv (HS.out wv hB)).2.cells; have x1 := s1.2.1; have x2 := s1.2.2.1; have x3 := s1.2.2.2.1; have x4 := s1.2.2.2.2.1; have x5 := s1.2.2.2.2.2.1; have y1 := s2.2.1; dsimp only at x1 x2 x3 x4 x5 y1; clear s1 s2; have q0 := (MgAt.cells (HW.out.keep hB)).1; have q1 := (MgAt.cells (HW.out.keep hB)).2; dsimp only at q0 q1; go_wp2_with fail
            refine postB_val ?_ (Below.refl _ _)
            simp only [List.getElem?_cons_succ, List.getElem?_cons_zero]
            rfl
          case s25 =>
            refine BStep.of [2, 18, 24] [(71, 2), (87, 18), (93, 24)] (opV _) (by kernel_rfl) (fun _ _ => by kernel_rfl) rfl ?_
            intro vs wv hB hA
            have h2 : vs 2 = _ := hA.1
            have h18 : vs 18 = _ := hA.2.1
            have h24 : vs 24 = _ := hA.2.2.1
            clear hA
            simp only [fillP, List.setIfInBounds_toArray, List.set_cons_zero, List.set_cons_succ, h2, h18, h24]
            have s1 := (CT.out wv (HS.out wv hB)).1.cells; have s2 := (CT.out wv (HS.out wv hB)).2.cells; have x1 := s1.2.1; have x2 := s1.2.2.1; have x3 := s1.2.2.2.1; have x4 := s1.2.2.2.2.1; have x5 := s1.2.2.2.2.2.1; have y1 := s2.2.1; dsimp only at x1 x2 x3 x4 x5 y1; clear s1 s2; have q0 := (MgAt.cells (HW.out.keep hB)).1; have q1 := (MgAt.cells (HW.out.keep hB)).2; dsimp only at q0 q1; go_wp2_with fail
            refine postB_val ?_ (Below.refl _ _)
            simp only [List.getElem?_cons_succ, List.getElem?_cons_zero]
            rfl
          case s26 =>
            refine BStep.of [2, 25] [(71, 2), (94, 25)] (opV _) (by kernel_rfl) (fun _ _ => by kernel_rfl) rfl ?_
            intro vs wv hB hA
            have h2 : vs 2 = _ := hA.1
            have h25 : vs 25 = _ := hA.2.1
            clear hA
            simp only [fillP, List.setIfInBounds_toArray, List.set_cons_zero, List.set_cons_succ, h2, h25]
            have s1 := (CT.out wv (HS.out wv hB)).1.cells; have s2 := (CT.out wv (HS.out wv hB)).2.cells; have x1 := s1.2.1; have x2 := s1.2.2.1; have x3 := s1.2.2.2.1; have x4 := s1.2.2.2.2.1; have x5 := s1.2.2.2.2.2.1; have y1 := s2.2.1; dsimp only at x1 x2 x3 x4 x5 y1; clear s1 s2; have q0 := (MgAt.cells (HW.out.keep hB)).1; have q1 := (MgAt.cells (HW.out.keep hB)).2; dsimp only at q0 q1; go_wp2_with fail
            refine postB_val ?_ (Below.refl _ _)
            simp only [List.getElem?_cons_succ, List.getElem?_cons_zero]
            rfl
          case s27 =>
            refine BStep.of [0, 1, 2, 3, 4, 5, 6, 7, 8, 9, 10, 11, 12, 13, 14, 15, 16, 17, 18, 19, 20, 21, 22, 23, 24, 25, 26] [(69, 0), (70, 1), (71, 2), (72, 3), (73, 4), (74, 5), (75, 6), (76, 7), (77, 8), (78, 9), (79, 10), (80, 11), (81, 12), (82, 13), (83, 14), (84, 15), (85, 16), (86, 17), (87, 18), (88, 19), (89, 20), (90, 21), (91, 22), (92, 23), (93, 24), (94, 25), (95, 26)] (opV _) (by kernel_rfl) (fun _ _ => by kernel_rfl) rfl ?_
            intro vs wv hB hA
            have h0 : vs 0 = _ := hA.1
            have h1 : vs 1 = _ := hA.2.1
            have h2 : vs 2 = _ := hA.2.2.1
            have h3 : vs 3 = _ := hA.2.2.2.1
            have h4 : vs 4 = _ := hA.2.2.2.2.1
            have h5 : vs 5 = _ := hA.2.2.2.2.2.1
            have h6 : vs 6 = _ := hA.2.2.2.2.2.2.1
            have h7 : vs 7 = _ := hA.2.2.2.2.2.2.2.1
            have h8 : vs 8 = _ := hA.2.2.2.2.2.2.2.2.1
            have h9 : vs 9 = _ := hA.2.2.2.2.2.2.2.2.2.1
            have h10 : vs 10 = _ := hA.2.2.2.2.2.2.2.2.2.2.1
            have h11 : vs 11 = _ := hA.2.2.2.2.2.2.2.2.2.2.2.1
            have h12 : vs 12 = _ := hA.2.2.2.2.2.2.2.2.2.2.2.2.1
            have h13 : vs 13 = _ := hA.2.2.2.2.2.2.2.2.2.2.2.2.2.1
            have h14 : vs 14 = _ := hA.2.2.2.2.2.2.2.2.2.2.2.2.2.2.1
            have h15 : vs 15 = _ := hA.2.2.2.2.2.2.2.2.2.2.2.2.2.2.2.1
            have h16 : vs 16 = _ := hA.2.2.2.2.2.2.2.2.2.2.2.2.2.2.2.2.1
            have h17 : vs 17 = _ := hA.2.2.2.2.2.2.2.2.2.2.2.2.2.2.2.2.2.1
            have h18 : vs 18 = _ := hA.2.2.2.2.2.2.2.2.2.2.2.2.2.2.2.2.2.2.1
            have h19 : vs 19 = _ := hA.2.2.2.2.2.2.2.2.2.2.2.2.2.2.2.2.2.2.2.1
            have h20 : vs 20 = _ := hA.2.2.2.2.2.2.2.2.2.2.2.2.2.2.2.2.2.2.2.2.1
            have h21 : vs 21 = _ := hA.2.2.2.2.2.2.2.2.2.2.2.2.2.2.2.2.2.2.2.2.2.1
            have h22 : vs 22 = _ := hA.2.2.2.2.2.2.2.2.2.2.2.2.2.2.2.2.2.2.2.2.2.2.1
            have h23 : vs 23 = _ := hA.2.2.2.2.2.2.2.2.2.2.2.2.2.2.2.2.2.2.2.2.2.2.2.1
            have h24 : vs 24 = _ := hA.2.2.2.2.2.2.2.2.2.2.2.2.2.2.2.2.2.2.2.2.2.2.2.2.1
            have h25 : vs 25 = _ := hA.2.2.2.2.2.2.2.2.2.2.2.2.2.2.2.2.2.2.2.2.2.2.2.2.2.1
            have h26 : vs 26 = _ := hA.2.2.2.2.2.2.2.2.2.2.2.2.2.2.2.2.2.2.2.2.2.2.2.2.2.2.1
            clear hA
            simp only [fillP, List.setIfInBounds_toArray, List.set_cons_zero, List.set_cons_succ, h0, h1, h2, h3, h4, h5, h6, h7, h8, h9, h10, h11, h12, h13, h14, h15, h16, h17, h18, h19, h20, h21, h22, h23, h24, h25, h26]
            have s1 := (CT.out wv (HS.out wv hB)).1.cells; have s2 := (CT.out wv (HS.out wv hB)).2.cells; have x1 := s1.2.1; have x2 := s1.2.2.1; have x3 := s1.2.2.2.1; have x4 := s1.2.2.2.2.1; have x5 := s1.2.2.2.2.2.1; have y1 := s2.2.1; dsimp only at x1 x2 x3 x4 x5 y1; clear s1 s2; have q0 := (MgAt.cells (HW.out.keep hB)).1; have q1 := (MgAt.cells (HW.out.keep hB)).2; dsimp only at q0 q1; go_wp2_with fail
            refine postB_val ?_ (Below.refl _ _)
            simp only [List.getElem?_cons_succ, List.getElem?_cons_zero]
            rfl
          case fin =>
            refine fin_of [0, 1, 2, 3, 4, 5, 6, 7, 8, 9, 10, 11, 12, 13, 14, 15, 16, 17, 18, 19, 20, 21, 22, 23, 24, 25, 26, 27] [(69, 0), (70, 1), (71, 2), (72, 3), (73, 4), (74, 5), (75, 6), (76, 7), (77, 8), (78, 9), (79, 10), (80, 11), (81, 12), (82, 13), (83, 14), (84, 15), (85, 16), (86, 17), (87, 18), (88, 19), (89, 20), (90, 21), (91, 22), (92, 23), (93, 24), (94, 25), (95, 26), (2, 27)] (by kernel_rfl) (fun _ _ => by kernel_rfl) ?_
            intro vs wv hB hA
            have h0 : vs 0 = _ := hA.1
            have h1 : vs 1 = _ := hA.2.1
            have h2 : vs 2 = _ := hA.2.2.1
            have h3 : vs 3 = _ := hA.2.2.2.1
            have h4 : vs 4 = _ := hA.2.2.2.2.1
            have h5 : vs 5 = _ := hA.2.2.2.2.2.1
            have h6 : vs 6 = _ := hA.2.2.2.2.2.2.1
            have h7 : vs 7 = _ := hA.2.2.2.2.2.2.2.1
            have h8 : vs 8 = _ := hA.2.2.2.2.2.2.2.2.1
            have h9 : vs 9 = _ := hA.2.2.2.2.2.2.2.2.2.1
            have h10 : vs 10 = _ := hA.2.2.2.2.2.2.2.2.2.2.1
            have h11 : vs 11 = _ := hA.2.2.2.2.2.2.2.2.2.2.2.1
            have h12 : vs 12 = _ := hA.2.2.2.2.2.2.2.2.2.2.2.2.1
            have h13 : vs 13 = _ := hA.2.2.2.2.2.2.2.2.2.2.2.2.2.1
            have h14 : vs 14 = _ := hA.2.2.2.2.2.2.2.2.2.2.2.2.2.2.1
            have h15 : vs 15 = _ := hA.2.2.2.2.2.2.2.2.2.2.2.2.2.2.2.1
            have h16 : vs 16 = _ := hA.2.2.2.2.2.2.2.2.2.2.2.2.2.2.2.2.1
            have h17 : vs 17 = _ := hA.2.2.2.2.2.2.2.2.2.2.2.2.2.2.2.2.2.1
            have h18 : vs 18 = _ := hA.2.2.2.2.2.2.2.2.2.2.2.2.2.2.2.2.2.2.1
            have h19 : vs 19 = _ := hA.2.2.2.2.2.2.2.2.2.2.2.2.2.2.2.2.2.2.2.1
            have h20 : vs 20 = _ := hA.2.2.2.2.2.2.2.2.2.2.2.2.2.2.2.2.2.2.2.2.1
            have h21 : vs 21 = _ := hA.2.2.2.2.2.2.2.2.2.2.2.2.2.2.2.2.2.2.2.2.2.1
            have h22 : vs 22 = _ := hA.2.2.2.2.2.2.2.2.2.2.2.2.2.2.2.2.2.2.2.2.2.2.1
            have h23 : vs 23 = _ := hA.2.2.2.2.2.2.2.2.2.2.2.2.2.2.2.2.2.2.2.2.2.2.2.1
            have h24 : vs 24 = _ := hA.2.2.2.2.2.2.2.2.2.2.2.2.2.2.2.2.2.2.2.2.2.2.2.2.1
            have h25 : vs 25 = _ := hA.2.2.2.2.2.2.2.2.2.2.2.2.2.2.2.2.2.2.2.2.2.2.2.2.2.1
            have h26 : vs 26 = _ := hA.2.2.2.2.2.2.2.2.2.2.2.2.2.2.2.2.2.2.2.2.2.2.2.2.2.2.1
            have h27 : vs 27 = _ := hA.2.2.2.2.2.2.2.2.2.2.2.2.2.2.2.2.2.2.2.2.2.2.2.2.2.2.2.1
            clear hA
            simp only [fillP, List.setIfInBounds_toArray, List.set_cons_zero, List.set_cons_succ, h0, h1, h2, h3, h4, h5, h6, h7, h8, h9, h10, h11, h12, h13, h14, h15, h16, h17, h18, h19, h20, h21, h22, h23, h24, h25, h26, h27]
            go_wp2_with fail; go_ret; exact ⟨by first|rfl | simp, b_next BZ.out hB⟩
        · obtain rfl : H2 = 0 := by rw [EH.out, if_neg hp]
          clear EH
          go_wp2_with fail
          refine' wp_region_below [opV _, opV _, opV _, opV _, opV _, opV _, opV _, opV _, opV _, opV _, opV _, opV _, opV _, opV _, opV _, opV _, opV _, opV _, opV _, opV _, opV _, opV _, opV (.int .i64 vv), opV _, opV _, opV _, opV _, opV _] rfl (by kernel_rfl) ⟨?s0, ?s1, ?s2, ?s3, ?s4, ?s5, ?s6, ?s7, ?s8, ?s9, ?s10, ?s11, ?s12, ?s13, ?s14, ?s15, ?s16, ?s17, ?s18, ?s19, ?s20, ?s21, ?s22, ?s23, ?s24, ?s25, ?s26, ?s27, trivial⟩ ?fin
          case s0 =>
            refine BStep.of [] [] (opV _) (by kernel_rfl) (fun _ _ => by kernel_rfl) rfl ?_
            intro vs wv hB hA
            clear hA
            simp only [fillP]
            have s1 := (CT.out wv (HS.out wv hB)).1.cells; have s2 := (CT.out wv (HS.out wv hB)).2.cells; have x1 := s1.2.1; have x2 := s1.2.2.1; have x3 := s1.2.2.2.1; have x4 := s1.2.2.2.2.1; have x5 := s1.2.2.2.2.2.1; have y1 := s2.2.1; dsimp only at x1 x2 x3 x4 x5 y1; clear s1 s2; have q0 := (MgAt.cells (HW.out.keep hB)).1; have q1 := (MgAt.cells (HW.out.keep hB)).2; dsimp only at q0 q1; go_wp2_with fail
            refine postB_val ?_ (Below.refl _ _)
            simp only [List.getElem?_cons_succ, List.getElem?_cons_zero]
            rfl
          case s1 =>
            refine BStep.of [0] [(69, 0)] (opV _) (by kernel_rfl) (fun _ _ => by kernel_rfl) rfl ?_
            intro vs wv hB hA
            have h0 : vs 0 = _ := hA.1
            clear hA
            simp only [fillP, List.setIfInBounds_toArray, List.set_cons_zero, List.set_cons_succ, h0]
            have s1 := (CT.out wv (HS.out wv hB)).1.cells; have s2 := (CT.out wv (HS.out wv hB)).2.cells; have x1 := s1.2.1; have x2 := s1.2.2.1; have x3 := s1.2.2.2.1; have x4 := s1.2.2.2.2.1; have x5 := s1.2.2.2.2.2.1; have y1 := s2.2.1; dsimp only at x1 x2 x3 x4 x5 y1; clear s1 s2; have q0 := (MgAt.cells (HW.out.keep hB)).1; have q1 := (MgAt.cells (HW.out.keep hB)).2; dsimp only at q0 q1; go_wp2_with fail
            refine postB_val ?_ (Below.refl _ _)
            simp only [List.getElem?_cons_succ, List.getElem?_cons_zero]
            rfl
          case s2 =>
            refine BStep.of [1] [(70, 1)] (opV _) (by kernel_rfl) (fun _ _ => by kernel_rfl) rfl ?_
            intro vs wv hB hA
            have h1 : vs 1 = _ := hA.1
            clear hA
            simp only [fillP, List.setIfInBounds_toArray, List.set_cons_zero, List.set_cons_succ, h1]
            have s1 := (CT.out wv (HS.out wv hB)).1.cells; have s2 := (CT.out wv (HS.out wv hB)).2.cells; have x1 := s1.2.1; have x2 := s1.2.2.1; have x3 := s1.2.2.2.1; have x4 := s1.2.2.2.2.1; have x5 := s1.2.2.2.2.2.1; have y1 := s2.2.1; dsimp only at x1 x2 x3 x4 x5 y1; clear s1 s2; have q0 := (MgAt.cells (HW.out.keep hB)).1; have q1 := (MgAt.cells (HW.out.keep hB)).2; dsimp only at q0 q1; go_wp2_with fail
            refine postB_val ?_ (Below.refl _ _)
            simp only [List.getElem?_cons_succ, List.getElem?_cons_zero]
            rfl
          case s3 =>
            refine BStep.of [2] [(71, 2)] (opV _) (by kernel_rfl) (fun _ _ => by kernel_rfl) rfl ?_
            intro vs wv hB hA
            have h2 : vs 2 = _ := hA.1
            clear hA
            simp only [fillP, List.setIfInBounds_toArray, List.set_cons_zero, List.set_cons_succ, h2]
            have s1 := (CT.out wv (HS.out wv hB)).1.cells; have s2 := (CT.out wv (HS.out wv hB)).2.cells; have x1 := s1.2.1; have x2 := s1.2.2.1; have x3 := s1.2.2.2.1; have x4 := s1.2.2.2.2.1; have x5 := s1.2.2.2.2.2.1; have y1 := s2.2.1; dsimp only at x1 x2 x3 x4 x5 y1; clear s1 s2; have q0 := (MgAt.cells (HW.out.keep hB)).1; have q1 := (MgAt.cells (HW.out.keep hB)).2; dsimp only at q0 q1; go_wp2_with fail
            refine postB_val ?_ (Below.refl _ _)
            simp only [List.getElem?_cons_succ, List.getElem?_cons_zero]
            rfl
          case s4 =>
            refine BStep.of [2, 3] [(71, 2), (72, 3)] (opV _) (by kernel_rfl) (fun _ _ => by kernel_rfl) rfl ?_
            intro vs wv hB hA
            have h2 : vs 2 = _ := hA.1
            have h3 : vs 3 = _ := hA.2.1
            clear hA
            simp only [fillP, List.setIfInBounds_toArray, List.set_cons_zero, List.set_cons_succ, h2, h3]
            have s1 := (CT.out wv (HS.out wv hB)).1.cells; have s2 := (CT.out wv (HS.out wv hB)).2.cells; have x1 := s1.2.1; have x2 := s1.2.2.1; have x3 := s1.2.2.2.1; have x4 := s1.2.2.2.2.1; have x5 := s1.2.2.2.2.2.1; have y1 := s2.2.1; dsimp only at x1 x2 x3 x4 x5 y1; clear s1 s2; have q0 := (MgAt.cells (HW.out.keep hB)).1; have q1 := (MgAt.cells (HW.out.keep hB)).2; dsimp only at q0 q1; go_wp2_with fail
            refine postB_val ?_ (Below.refl _ _)
            simp only [List.getElem?_cons_succ, List.getElem?_cons_zero]
            rfl
          case s5 =>
            refine BStep.of [2, 4] [(71, 2), (73, 4)] (opV _) (by kernel_rfl) (fun _ _ => by kernel_rfl) rfl ?_
            intro vs wv hB hA
            have h2 : vs 2 = _ := hA.1
            have h4 : vs 4 = _ := hA.2.1
            clear hA
            simp only [fillP, List.setIfInBounds_toArray, List.set_cons_zero, List.set_cons_succ, h2, h4]
            have s1 := (CT.out wv (HS.out wv hB)).1.cells; have s2 := (CT.out wv (HS.out wv hB)).2.cells; have x1 := s1.2.1; have x2 := s1.2.2.1; have x3 := s1.2.2.2.1; have x4 := s1.2.2.2.2.1; have x5 := s1.2.2.2.2.2.1; have y1 := s2.2.1; dsimp only at x1 x2 x3 x4 x5 y1; clear s1 s2; have q0 := (MgAt.cells (HW.out.keep hB)).1; have q1 := (MgAt.cells (HW.out.keep hB)).2; dsimp only at q0 q1; go_wp2_with fail
            refine postB_val ?_ (Below.refl _ _)
            simp only [List.getElem?_cons_succ, List.getElem?_cons_zero]
            rfl
          case s6 =>
            refine BStep.of [2, 5] [(71, 2), (74, 5)] (opV _) (by kernel_rfl) (fun _ _ => by kernel_rfl) rfl ?_
            intro vs wv hB hA
            have h2 : vs 2 = _ := hA.1
            have h5 : vs 5 = _ := hA.2.1
            clear hA
            simp only [fillP, List.setIfInBounds_toArray, List.set_cons_zero, List.set_cons_succ, h2, h5]
            have s1 := (CT.out wv (HS.out wv hB)).1.cells; have s2 := (CT.out wv (HS.out wv hB)).2.cells; have x1 := s1.2.1; have x2 := s1.2.2.1; have x3 := s1.2.2.2.1; have x4 := s1.2.2.2.2.1; have x5 := s1.2.2.2.2.2.1; have y1 := s2.2.1; dsimp only at x1 x2 x3 x4 x5 y1; clear s1 s2; have q0 := (MgAt.cells (HW.out.keep hB)).1; have q1 := (MgAt.cells (HW.out.keep hB)).2; dsimp only at q0 q1; go_wp2_with fail
            refine postB_val ?_ (Below.refl _ _)
            simp only [List.getElem?_cons_succ, List.getElem?_cons_zero]
            rfl
          case s7 =>
            refine BStep.of [6] [(75, 6)] (opV _) (by kernel_rfl) (fun _ _ => by kernel_rfl) rfl ?_
            intro vs wv hB hA
            have h6 : vs 6 = _ := hA.1
            clear hA
            simp only [fillP, List.setIfInBounds_toArray, List.set_cons_zero, List.set_cons_succ, h6]
            have s1 := (CT.out wv (HS.out wv hB)).1.cells; have s2 := (CT.out wv (HS.out wv hB)).2.cells; have x1 := s1.2.1; have x2 := s1.2.2.1; have x3 := s1.2.2.2.1; have x4 := s1.2.2.2.2.1; have x5 := s1.2.2.2.2.2.1; have y1 := s2.2.1; dsimp only at x1 x2 x3 x4 x5 y1; clear s1 s2; have q0 := (MgAt.cells (HW.out.keep hB)).1; have q1 := (MgAt.cells (HW.out.keep hB)).2; dsimp only at q0 q1; go_wp2_with fail
            refine postB_val ?_ (Below.refl _ _)
            simp only [List.getElem?_cons_succ, List.getElem?_cons_zero]
            rfl
          case s8 =>
            refine BStep.of [6, 7] [(75, 6), (76, 7)] (opV _) (by kernel_rfl) (fun _ _ => by kernel_rfl) rfl ?_
            intro vs wv hB hA
            have h6 : vs 6 = _ := hA.1
            have h7 : vs 7 = _ := hA.2.1
            clear hA
            simp only [fillP, List.setIfInBounds_toArray, List.set_cons_zero, List.set_cons_succ, h6, h7]
            have s1 := (CT.out wv (HS.out wv hB)).1.cells; have s2 := (CT.out wv (HS.out wv hB)).2.cells; have x1 := s1.2.1; have x2 := s1.2.2.1; have x3 := s1.2.2.2.1; have x4 := s1.2.2.2.2.1; have x5 := s1.2.2.2.2.2.1; have y1 := s2.2.1; dsimp only at x1 x2 x3 x4 x5 y1; clear s1 s2; have q0 := (MgAt.cells (HW.out.keep hB)).1; have q1 := (MgAt.cells (HW.out.keep hB)).2; dsimp only at q0 q1; go_wp2_with fail
            refine postB_val ?_ (Below.refl _ _)
            simp only [List.getElem?_cons_succ, List.getElem?_cons_zero]
            rfl
          case s9 =>
            refine BStep.of [6] [(75, 6)] (opV _) (by kernel_rfl) (fun _ _ => by kernel_rfl) rfl ?_
            intro vs wv hB hA
            have h6 : vs 6 = _ := hA.1
            clear hA
            simp only [fillP, List.setIfInBounds_toArray, List.set_cons_zero, List.set_cons_succ, h6]
            have s1 := (CT.out wv (HS.out wv hB)).1.cells; have s2 := (CT.out wv (HS.out wv hB)).2.cells; have x1 := s1.2.1; have x2 := s1.2.2.1; have x3 := s1.2.2.2.1; have x4 := s1.2.2.2.2.1; have x5 := s1.2.2.2.2.2.1; have y1 := s2.2.1; dsimp only at x1 x2 x3 x4 x5 y1; clear s1 s2; have q0 := (MgAt.cells (HW.out.keep hB)).1; have q1 := (MgAt.cells (HW.out.keep hB)).2; dsimp only at q0 q1; go_wp2_with fail
            refine postB_val ?_ (Below.refl _ _)
            simp only [List.getElem?_cons_succ, List.getElem?_cons_zero]
            rfl
          case s10 =>
            refine BStep.of [6, 8, 9] [(75, 6), (77, 8), (78, 9)] (opV _) (by kernel_rfl) (fun _ _ => by kernel_rfl) rfl ?_
            intro vs wv hB hA
            have h6 : vs 6 = _ := hA.1
            have h8 : vs 8 = _ := hA.2.1
            have h9 : vs 9 = _ := hA.2.2.1
            clear hA
            simp only [fillP, List.setIfInBounds_toArray, List.set_cons_zero, List.set_cons_succ, h6, h8, h9]
            have s1 := (CT.out wv (HS.out wv hB)).1.cells; have s2 := (CT.out wv (HS.out wv hB)).2.cells; have x1 := s1.2.1; have x2 := s1.2.2.1; have x3 := s1.2.2.2.1; have x4 := s1.2.2.2.2.1; have x5 := s1.2.2.2.2.2.1; have y1 := s2.2.1; dsimp only at x1 x2 x3 x4 x5 y1; clear s1 s2; have q0 := (MgAt.cells (HW.out.keep hB)).1; have q1 := (MgAt.cells (HW.out.keep hB)).2; dsimp only at q0 q1; go_wp2_with fail
            refine postB_val ?_ (Below.refl _ _)
            simp only [List.getElem?_cons_succ, List.getElem?_cons_zero]
            rfl
          case s11 =>
            refine BStep.of [2, 6, 10] [(71, 2), (75, 6), (79, 10)] (opV _) (by kernel_rfl) (fun _ _ => by kernel_rfl) rfl ?_
            intro vs wv hB hA
            have h2 : vs 2 = _ := hA.1
            have h6 : vs 6 = _ := hA.2.1
            have h10 : vs 10 = _ := hA.2.2.1
            clear hA
            simp only [fillP, List.setIfInBounds_toArray, List.set_cons_zero, List.set_cons_succ, h2, h6, h10]
            have s1 := (CT.out wv (HS.out wv hB)).1.cells; have s2 := (CT.out wv (HS.out wv hB)).2.cells; have x1 := s1.2.1; have x2 := s1.2.2.1; have x3 := s1.2.2.2.1; have x4 := s1.2.2.2.2.1; have x5 := s1.2.2.2.2.2.1; have y1 := s2.2.1; dsimp only at x1 x2 x3 x4 x5 y1; clear s1 s2; have q0 := (MgAt.cells (HW.out.keep hB)).1; have q1 := (MgAt.cells (HW.out.keep hB)).2; dsimp only at q0 q1; go_wp2_with fail
            refine postB_val ?_ (Below.refl _ _)
            simp only [List.getElem?_cons_succ, List.getElem?_cons_zero]
            rfl
          case s12 =>
            refine BStep.of [2, 6, 11] [(71, 2), (75, 6), (80, 11)] (opV _) (by kernel_rfl) (fun _ _ => by kernel_rfl) rfl ?_
            intro vs wv hB hA
            have h2 : vs 2 = _ := hA.1
            have h6 : vs 6 = _ := hA.2.1
            have h11 : vs 11 = _ := hA.2.2.1
            clear hA
            simp only [fillP, List.setIfInBounds_toArray, List.set_cons_zero, List.set_cons_succ, h2, h6, h11]
            have s1 := (CT.out wv (HS.out wv hB)).1.cells; have s2 := (CT.out wv (HS.out wv hB)).2.cells; have x1 := s1.2.1; have x2 := s1.2.2.1; have x3 := s1.2.2.2.1; have x4 := s1.2.2.2.2.1; have x5 := s1.2.2.2.2.2.1; have y1 := s2.2.1; dsimp only at x1 x2 x3 x4 x5 y1; clear s1 s2; have q0 := (MgAt.cells (HW.out.keep hB)).1; have q1 := (MgAt.cells (HW.out.keep hB)).2; dsimp only at q0 q1; go_wp2_with fail
            refine postB_val ?_ (Below.refl _ _)
            simp only [List.getElem?_cons_succ, List.getElem?_cons_zero]
            rfl
          case s13 =>
            refine BStep.of [12] [(81, 12)] (opV _) (by kernel_rfl) (fun _ _ => by kernel_rfl) rfl ?_
            intro vs wv hB hA
            have h12 : vs 12 = _ := hA.1
            clear hA
            simp only [fillP, List.setIfInBounds_toArray, List.set_cons_zero, List.set_cons_succ, h12]
            have s1 := (CT.out wv (HS.out wv hB)).1.cells; have s2 := (CT.out wv (HS.out wv hB)).2.cells; have x1 := s1.2.1; have x2 := s1.2.2.1; have x3 := s1.2.2.2.1; have x4 := s1.2.2.2.2.1; have x5 := s1.2.2.2.2.2.1; have y1 := s2.2.1; dsimp only at x1 x2 x3 x4 x5 y1; clear s1 s2; have q0 := (MgAt.cells (HW.out.keep hB)).1; have q1 := (MgAt.cells (HW.out.keep hB)).2; dsimp only at q0 q1; go_wp2_with fail
            refine postB_val ?_ (Below.refl _ _)
            simp only [List.getElem?_cons_succ, List.getElem?_cons_zero]
            rfl
          case s14 =>
            refine BStep.of [12, 13] [(81, 12), (82, 13)] (opV _) (by kernel_rfl) (fun _ _ => by kernel_rfl) rfl ?_
            intro vs wv hB hA
            have h12 : vs 12 = _ := hA.1
            have h13 : vs 13 = _ := hA.2.1
            clear hA
            simp only [fillP, List.setIfInBounds_toArray, List.set_cons_zero, List.set_cons_succ, h12, h13]
            have s1 := (CT.out wv (HS.out wv hB)).1.cells; have s2 := (CT.out wv (HS.out wv hB)).2.cells; have x1 := s1.2.1; have x2 := s1.2.2.1; have x3 := s1.2.2.2.1; have x4 := s1.2.2.2.2.1; have x5 := s1.2.2.2.2.2.1; have y1 := s2.2.1; dsimp only at x1 x2 x3 x4 x5 y1; clear s1 s2; have q0 := (MgAt.cells (HW.out.keep hB)).1; have q1 := (MgAt.cells (HW.out.keep hB)).2; dsimp only at q0 q1; go_wp2_with fail
            refine postB_val ?_ (Below.refl _ _)
            simp only [List.getElem?_cons_succ, List.getElem?_cons_zero]
            rfl
          case s15 =>
            refine BStep.of [12] [(81, 12)] (opV _) (by kernel_rfl) (fun _ _ => by kernel_rfl) rfl ?_
            intro vs wv hB hA
            have h12 : vs 12 = _ := hA.1
            clear hA
            simp only [fillP, List.setIfInBounds_toArray, List.set_cons_zero, List.set_cons_succ, h12]
            have s1 := (CT.out wv (HS.out wv hB)).1.cells; have s2 := (CT.out wv (HS.out wv hB)).2.cells; have x1 := s1.2.1; have x2 := s1.2.2.1; have x3 := s1.2.2.2.1; have x4 := s1.2.2.2.2.1; have x5 := s1.2.2.2.2.2.1; have y1 := s2.2.1; dsimp only at x1 x2 x3 x4 x5 y1; clear s1 s2; have q0 := (MgAt.cells (HW.out.keep hB)).1; have q1 := (MgAt.cells (HW.out.keep hB)).2; dsimp only at q0 q1; go_wp2_with fail
            refine postB_val ?_ (Below.refl _ _)
            simp only [List.getElem?_cons_succ, List.getElem?_cons_zero]
            rfl
          case s16 =>
            refine BStep.of [12, 14, 15] [(81, 12), (83, 14), (84, 15)] (opV _) (by kernel_rfl) (fun _ _ => by kernel_rfl) rfl ?_
            intro vs wv hB hA
            have h12 : vs 12 = _ := hA.1
            have h14 : vs 14 = _ := hA.2.1
            have h15 : vs 15 = _ := hA.2.2.1
            clear hA
            simp only [fillP, List.setIfInBounds_toArray, List.set_cons_zero, List.set_cons_succ, h12, h14, h15]
            have s1 := (CT.out wv (HS.out wv hB)).1.cells; have s2 := (CT.out wv (HS.out wv hB)).2.cells; have x1 := s1.2.1; have x2 := s1.2.2.1; have x3 := s1.2.2.2.1; have x4 := s1.2.2.2.2.1; have x5 := s1.2.2.2.2.2.1; have y1 := s2.2.1; dsimp only at x1 x2 x3 x4 x5 y1; clear s1 s2; have q0 := (MgAt.cells (HW.out.keep hB)).1; have q1 := (MgAt.cells (HW.out.keep hB)).2; dsimp only at q0 q1; go_wp2_with fail
            refine postB_val ?_ (Below.refl _ _)
            simp only [List.getElem?_cons_succ, List.getElem?_cons_zero]
            rfl
          case s17 =>
            refine BStep.of [2, 12, 16] [(71, 2), (81, 12), (85, 16)] (opV _) (by kernel_rfl) (fun _ _ => by kernel_rfl) rfl ?_
            intro vs wv hB hA
            have h2 : vs 2 = _ := hA.1
            have h12 : vs 12 = _ := hA.2.1
            have h16 : vs 16 = _ := hA.2.2.1
            clear hA
            simp only [fillP, List.setIfInBounds_toArray, List.set_cons_zero, List.set_cons_succ, h2, h12, h16]
            have s1 := (CT.out wv (HS.out wv hB)).1.cells; have s2 := (CT.out wv (HS.out wv hB)).2.cells; have x1 := s1.2.1; have x2 := s1.2.2.1; have x3 := s1.2.2.2.1; have x4 := s1.2.2.2.2.1; have x5 := s1.2.2.2.2.2.1; have y1 := s2.2.1; dsimp only at x1 x2 x3 x4 x5 y1; clear s1 s2; have q0 := (MgAt.cells (HW.out.keep hB)).1; have q1 := (MgAt.cells (HW.out.keep hB)).2; dsimp only at q0 q1; go_wp2_with fail
            refine postB_val ?_ (Below.refl _ _)
            simp only [List.getElem?_cons_succ, List.getElem?_cons_zero]
            rfl
          case s18 =>
            refine BStep.of [2, 12, 17] [(71, 2), (81, 12), (86, 17)] (opV _) (by kernel_rfl) (fun _ _ => by kernel_rfl) rfl ?_
            intro vs wv hB hA
            have h2 : vs 2 = _ := hA.1
            have h12 : vs 12 = _ := hA.2.1
            have h17 : vs 17 = _ := hA.2.2.1
            clear hA
            simp only [fillP, List.setIfInBounds_toArray, List.set_cons_zero, List.set_cons_succ, h2, h12, h17]
            have s1 := (CT.out wv (HS.out wv hB)).1.cells; have s2 := (CT.out wv (HS.out wv hB)).2.cells; have x1 := s1.2.1; have x2 := s1.2.2.1; have x3 := s1.2.2.2.1; have x4 := s1.2.2.2.2.1; have x5 := s1.2.2.2.2.2.1; have y1 := s2.2.1; dsimp only at x1 x2 x3 x4 x5 y1; clear s1 s2; have q0 := (MgAt.cells (HW.out.keep hB)).1; have q1 := (MgAt.cells (HW.out.keep hB)).2; dsimp only at q0 q1; go_wp2_with fail
            refine postB_val ?_ (Below.refl _ _)
            simp only [List.getElem?_cons_succ, List.getElem?_cons_zero]
            rfl
          case s19 =>
            refine BStep.of [18] [(87, 18)] (opV _) (by kernel_rfl) (fun _ _ => by kernel_rfl) rfl ?_
            intro vs wv hB hA
            have h18 : vs 18 = _ := hA.1
            clear hA
            simp only [fillP, List.setIfInBounds_toArray, List.set_cons_zero, List.set_cons_succ, h18]
            have s1 := (CT.out wv (HS.out wv hB)).1.cells; have s2 := (CT.out wv (HS.out wv hB)).2.cells; have x1 := s1.2.1; have x2 := s1.2.2.1; have x3 := s1.2.2.2.1; have x4 := s1.2.2.2.2.1; have x5 := s1.2.2.2.2.2.1; have y1 := s2.2.1; dsimp only at x1 x2 x3 x4 x5 y1; clear s1 s2; have q0 := (MgAt.cells (HW.out.keep hB)).1; have q1 := (MgAt.cells (HW.out.keep hB)).2; dsimp only at q0 q1; go_wp2_with fail
            refine postB_val ?_ (Below.refl _ _)
            simp only [List.getElem?_cons_succ, List.getElem?_cons_zero]
            rfl
          case s20 =>
            refine BStep.of [18, 19] [(87, 18), (88, 19)] (opV _) (by kernel_rfl) (fun _ _ => by kernel_rfl) rfl ?_
            intro vs wv hB hA
            have h18 : vs 18 = _ := hA.1
            have h19 : vs 19 = _ := hA.2.1
            clear hA
            simp only [fillP, List.setIfInBounds_toArray, List.set_cons_zero, List.set_cons_succ, h18, h19]
            have s1 := (CT.out wv (HS.out wv hB)).1.cells; have s2 := (CT.out wv (HS.out wv hB)).2.cells; have x1 := s1.2.1; have x2 := s1.2.2.1; have x3 := s1.2.2.2.1; have x4 := s1.2.2.2.2.1; have x5 := s1.2.2.2.2.2.1; have y1 := s2.2.1; dsimp only at x1 x2 x3 x4 x5 y1; clear s1 s2; have q0 := (MgAt.cells (HW.out.keep hB)).1; have q1 := (MgAt.cells (HW.out.keep hB)).2; dsimp only at q0 q1; go_wp2_with fail
            refine postB_val ?_ (Below.refl _ _)
            simp only [List.getElem?_cons_succ, List.getElem?_cons_zero]
            rfl
          case s21 =>
            refine BStep.of [18] [(87, 18)] (opV _) (by kernel_rfl) (fun _ _ => by kernel_rfl) rfl ?_
            intro vs wv hB hA
            have h18 : vs 18 = _ := hA.1
            clear hA
            simp only [fillP, List.setIfInBounds_toArray, List.set_cons_zero, List.set_cons_succ, h18]
            have s1 := (CT.out wv (HS.out wv hB)).1.cells; have s2 := (CT.out wv (HS.out wv hB)).2.cells; have x1 := s1.2.1; have x2 := s1.2.2.1; have x3 := s1.2.2.2.1; have x4 := s1.2.2.2.2.1; have x5 := s1.2.2.2.2.2.1; have y1 := s2.2.1; dsimp only at x1 x2 x3 x4 x5 y1; clear s1 s2; have q0 := (MgAt.cells (HW.out.keep hB)).1; have q1 := (MgAt.cells (HW.out.keep hB)).2; dsimp only at q0 q1; go_wp2_with fail
            refine postB_val ?_ (Below.refl _ _)
            simp only [List.getElem?_cons_succ, List.getElem?_cons_zero]
            rfl
          case s22 =>
            refine BStep.of [18, 21] [(87, 18), (90, 21)] (opV (.int .i64 vv)) (by kernel_rfl) (fun _ _ => by kernel_rfl) rfl ?_
            intro vs wv hB hA
            have h18 : vs 18 = _ := hA.1
            have h21 : vs 21 = _ := hA.2.1
            clear hA
            simp only [fillP, List.setIfInBounds_toArray, List.set_cons_zero, List.set_cons_succ, h18, h21]
            have q0 := (MgAt.cells (HW.out.keep hB)).1; have q1 := (MgAt.cells (HW.out.keep hB)).2; dsimp only at q0 q1; (go_wp2_with (go_at_call 16; (with_reducible refine (KV1.out _).mono ?_); rintro e w7 ⟨rfl, hb⟩)); exact postB_val rfl hb
          case s23 =>
            refine BStep.of [18, 22] [(87, 18), (91, 22)] (opV _) (by kernel_rfl) (fun _ _ => by kernel_rfl) rfl ?_
            intro vs wv hB hA
            have h18 : vs 18 = _ := hA.1
            have h22 : vs 22 = _ := hA.2.1
            clear hA
            simp only [fillP, List.setIfInBounds_toArray, List.set_cons_zero, List.set_cons_succ, h18, h22]
            have s1 := (CT.out wv (HS.out wv hB)).1.cells; have s2 := (CT.out wv (HS.out wv hB)).2.cells; have x1 := s1.2.1; have x2 := s1.2.2.1; have x3 := s1.2.2.2.1; have x4 := s1.2.2.2.2.1; have x5 := s1.2.2.2.2.2.1; have y1 := s2.2.1; dsimp only at x1 x2 x3 x4 x5 y1; clear s1 s2; have q0 := (MgAt.cells (HW.out.keep hB)).1; have q1 := (MgAt.cells (HW.out.keep hB)).2; dsimp only at q0 q1; go_wp2_with fail
            refine postB_val ?_ (Below.refl _ _)
            simp only [List.getElem?_cons_succ, List.getElem?_cons_zero]
            rfl
          case s24 =>
            refine BStep.of [18, 20, 23] [(87, 18), (89, 20), (92, 23)] (opV _) (by kernel_rfl) (fun _ _ => by kernel_rfl) rfl ?_
            intro vs wv hB hA
            have h18 : vs 18 = _ := hA.1
            have h20 : vs 20 = _ := hA.2.1
            have h23 : vs 23 = _ := hA.2.2.1
            clear hA
            simp only [fillP, List.setIfInBounds_toArray, List.set_cons_zero, List.set_cons_succ, h18, h20, h23]
            have s1 := (CT.out wv (HS.out wv hB)).1.cells; have s2 := (CT.out wv (HS.out wv hB)).2.cells; have x1 := s1.2.1; have x2 := s1.2.2.1; have x3 := s1.2.2.2.1; have x4 := s1.2.2.2.2.1; have x5 := s1.2.2.2.2.2.1; have y1 := s2.2.1; dsimp only at x1 x2 x3 x4 x5 y1; clear s1 s2; have q0 := (MgAt.cells (HW.out.keep hB)).1; have q1 := (MgAt.cells (HW.out.keep hB)).2; dsimp only at q0 q1; go_wp2_with fail
            refine postB_val ?_ (Below.refl _ _)
            simp only [List.getElem?_cons_succ, List.getElem?_cons_zero]
            rfl
          case s25 =>
            refine BStep.of [2, 18, 24] [(71, 2), (87, 18), (93, 24)] (opV _) (by kernel_rfl) (fun _ _ => by kernel_rfl) rfl ?_
            intro vs wv hB hA
            have h2 : vs 2 = _ := hA.1
            have h18 : vs 18 = _ := hA.2.1
            have h24 : vs 24 = _ := hA.2.2.1
            clear hA
            simp only [fillP, List.setIfInBounds_toArray, List.set_cons_zero, List.set_cons_succ, h2, h18, h24]
            have s1 := (CT.out wv (HS.out wv hB)).1.cells; have s2 := (CT.out wv (HS.out wv hB)).2.cells; have x1 := s1.2.1; have x2 := s1.2.2.1; have x3 := s1.2.2.2.1; have x4 := s1.2.2.2.2.1; have x5 := s1.2.2.2.2.2.1; have y1 := s2.2.1; dsimp only at x1 x2 x3 x4 x5 y1; clear s1 s2; have q0 := (MgAt.cells (HW.out.keep hB)).1; have q1 := (MgAt.cells (HW.out.keep hB)).2; dsimp only at q0 q1; go_wp2_with fail
            refine postB_val ?_ (Below.refl _ _)
            simp only [List.getElem?_cons_succ, List.getElem?_cons_zero]
            rfl
          case s26 =>
            refine BStep.of [2, 25] [(71, 2), (94, 25)] (opV _) (by kernel_rfl) (fun _ _ => by kernel_rfl) rfl ?_
            intro vs wv hB hA
            have h2 : vs 2 = _ := hA.1
            have h25 : vs 25 = _ := hA.2.1
            clear hA
            simp only [fillP, List.setIfInBounds_toArray, List.set_cons_zero, List.set_cons_succ, h2, h25]
            have s1 := (CT.out wv (HS.out wv hB)).1.cells; have s2 := (CT.out wv (HS.out wv hB)).2.cells; have x1 := s1.2.1; have x2 := s1.2.2.1; have x3 := s1.2.2.2.1; have x4 := s1.2.2.2.2.1; have x5 := s1.2.2.2.2.2.1; have y1 := s2.2.1; dsimp only at x1 x2 x3 x4 x5 y1; clear s1 s2; have q0 := (MgAt.cells (HW.out.keep hB)).1; have q1 := (MgAt.cells (HW.out.keep hB)).2; dsimp only at q0 q1; go_wp2_with fail
            refine postB_val ?_ (Below.refl _ _)
            simp only [List.getElem?_cons_succ, List.getElem?_cons_zero]
            rfl
          case s27 =>
            refine BStep.of [0, 1, 2, 3, 4, 5, 6, 7, 8, 9, 10, 11, 12, 13, 14, 15, 16, 17, 18, 19, 20, 21, 22, 23, 24, 25, 26] [(69, 0), (70, 1), (71, 2), (72, 3), (73, 4), (74, 5), (75, 6), (76, 7), (77, 8), (78, 9), (79, 10), (80, 11), (81, 12), (82, 13), (83, 14), (84, 15), (85, 16), (86, 17), (87, 18), (88, 19), (89, 20), (90, 21), (91, 22), (92, 23), (93, 24), (94, 25), (95, 26)] (opV _) (by kernel_rfl) (fun _ _ => by kernel_rfl) rfl ?_
            intro vs wv hB hA
            have h0 : vs 0 = _ := hA.1
            have h1 : vs 1 = _ := hA.2.1
            have h2 : vs 2 = _ := hA.2.2.1
            have h3 : vs 3 = _ := hA.2.2.2.1
            have h4 : vs 4 = _ := hA.2.2.2.2.1
            have h5 : vs 5 = _ := hA.2.2.2.2.2.1
            have h6 : vs 6 = _ := hA.2.2.2.2.2.2.1
            have h7 : vs 7 = _ := hA.2.2.2.2.2.2.2.1
            have h8 : vs 8 = _ := hA.2.2.2.2.2.2.2.2.1
            have h9 : vs 9 = _ := hA.2.2.2.2.2.2.2.2.2.1
            have h10 : vs 10 = _ := hA.2.2.2.2.2.2.2.2.2.2.1
            have h11 : vs 11 = _ := hA.2.2.2.2.2.2.2.2.2.2.2.1
            have h12 : vs 12 = _ := hA.2.2.2.2.2.2.2.2.2.2.2.2.1
            have h13 : vs 13 = _ := hA.2.2.2.2.2.2.2.2.2.2.2.2.2.1
            have h14 : vs 14 = _ := hA.2.2.2.2.2.2.2.2.2.2.2.2.2.2.1
            have h15 : vs 15 = _ := hA.2.2.2.2.2.2.2.2.2.2.2.2.2.2.2.1
            have h16 : vs 16 = _ := hA.2.2.2.2.2.2.2.2.2.2.2.2.2.2.2.2.1
            have h17 : vs 17 = _ := hA.2.2.2.2.2.2.2.2.2.2.2.2.2.2.2.2.2.1
            have h18 : vs 18 = _ := hA.2.2.2.2.2.2.2.2.2.2.2.2.2.2.2.2.2.2.1
            have h19 : vs 19 = _ := hA.2.2.2.2.2.2.2.2.2.2.2.2.2.2.2.2.2.2.2.1
            have h20 : vs 20 = _ := hA.2.2.2.2.2.2.2.2.2.2.2.2.2.2.2.2.2.2.2.2.1
            have h21 : vs 21 = _ := hA.2.2.2.2.2.2.2.2.2.2.2.2.2.2.2.2.2.2.2.2.2.1
            have h22 : vs 22 = _ := hA.2.2.2.2.2.2.2.2.2.2.2.2.2.2.2.2.2.2.2.2.2.2.1
            have h23 : vs 23 = _ := hA.2.2.2.2.2.2.2.2.2.2.2.2.2.2.2.2.2.2.2.2.2.2.2.1
            have h24 : vs 24 = _ := hA.2.2.2.2.2.2.2.2.2.2.2.2.2.2.2.2.2.2.2.2.2.2.2.2.1
            have h25 : vs 25 = _ := hA.2.2.2.2.2.2.2.2.2.2.2.2.2.2.2.2.2.2.2.2.2.2.2.2.2.1
            have h26 : vs 26 = _ := hA.2.2.2.2.2.2.2.2.2.2.2.2.2.2.2.2.2.2.2.2.2.2.2.2.2.2.1
            clear hA
            simp only [fillP, List.setIfInBounds_toArray, List.set_cons_zero, List.set_cons_succ, h0, h1, h2, h3, h4, h5, h6, h7, h8, h9, h10, h11, h12, h13, h14, h15, h16, h17, h18, h19, h20, h21, h22, h23, h24, h25, h26]
            have s1 := (CT.out wv (HS.out wv hB)).1.cells; have s2 := (CT.out wv (HS.out wv hB)).2.cells; have x1 := s1.2.1; have x2 := s1.2.2.1; have x3 := s1.2.2.2.1; have x4 := s1.2.2.2.2.1; have x5 := s1.2.2.2.2.2.1; have y1 := s2.2.1; dsimp only at x1 x2 x3 x4 x5 y1; clear s1 s2; have q0 := (MgAt.cells (HW.out.keep hB)).1; have q1 := (MgAt.cells (HW.out.keep hB)).2; dsimp only at q0 q1; go_wp2_with fail
            refine postB_val ?_ (Below.refl _ _)
            simp only [List.getElem?_cons_succ, List.getElem?_cons_zero]
            rfl
          case fin =>
            refine fin_of [0, 1, 2, 3, 4, 5, 6, 7, 8, 9, 10, 11, 12, 13, 14, 15, 16, 17, 18, 19, 20, 21, 22, 23, 24, 25, 26, 27] [(69, 0), (70, 1), (71, 2), (72, 3), (73, 4), (74, 5), (75, 6), (76, 7), (77, 8), (78, 9), (79, 10), (80, 11), (81, 12), (82, 13), (83, 14), (84, 15), (85, 16), (86, 17), (87, 18), (88, 19), (89, 20), (90, 21), (91, 22), (92, 23), (93, 24), (94, 25), (95, 26), (2, 27)] (by kernel_rfl) (fun _ _ => by kernel_rfl) ?_
            intro vs wv hB hA
            have h0 : vs 0 = _ := hA.1
            have h1 : vs 1 = _ := hA.2.1
            have h2 : vs 2 = _ := hA.2.2.1
            have h3 : vs 3 = _ := hA.2.2.2.1
            have h4 : vs 4 = _ := hA.2.2.2.2.1
            have h5 : vs 5 = _ := hA.2.2.2.2.2.1
            have h6 : vs 6 = _ := hA.2.2.2.2.2.2.1
            have h7 : vs 7 = _ := hA.2.2.2.2.2.2.2.1
            have h8 : vs 8 = _ := hA.2.2.2.2.2.2.2.2.1
            have h9 : vs 9 = _ := hA.2.2.2.2.2.2.2.2.2.1
            have h10 : vs 10 = _ := hA.2.2.2.2.2.2.2.2.2.2.1
            have h11 : vs 11 = _ := hA.2.2.2.2.2.2.2.2.2.2.2.1
            have h12 : vs 12 = _ := hA.2.2.2.2.2.2.2.2.2.2.2.2.1
            have h13 : vs 13 = _ := hA.2.2.2.2.2.2.2.2.2.2.2.2.2.1
            have h14 : vs 14 = _ := hA.2.2.2.2.2.2.2.2.2.2.2.2.2.2.1
            have h15 : vs 15 = _ := hA.2.2.2.2.2.2.2.2.2.2.2.2.2.2.2.1
            have h16 : vs 16 = _ := hA.2.2.2.2.2.2.2.2.2.2.2.2.2.2.2.2.1
            have h17 : vs 17 = _ := hA.2.2.2.2.2.2.2.2.2.2.2.2.2.2.2.2.2.1
            have h18 : vs 18 = _ := hA.2.2.2.2.2.2.2.2.2.2.2.2.2.2.2.2.2.2.1
            have h19 : vs 19 = _ := hA.2.2.2.2.2.2.2.2.2.2.2.2.2.2.2.2.2.2.2.1
            have h20 : vs 20 = _ := hA.2.2.2.2.2.2.2.2.2.2.2.2.2.2.2.2.2.2.2.2.1
            have h21 : vs 21 = _ := hA.2.2.2.2.2.2.2.2.2.2.2.2.2.2.2.2.2.2.2.2.2.1
            have h22 : vs 22 = _ := hA.2.2.2.2.2.2.2.2.2.2.2.2.2.2.2.2.2.2.2.2.2.2.1
            have h23 : vs 23 = _ := hA.2.2.2.2.2.2.2.2.2.2.2.2.2.2.2.2.2.2.2.2.2.2.2.1
            have h24 : vs 24 = _ := hA.2.2.2.2.2.2.2.2.2.2.2.2.2.2.2.2.2.2.2.2.2.2.2.2.1
            have h25 : vs 25 = _ := hA.2.2.2.2.2.2.2.2.2.2.2.2.2.2.2.2.2.2.2.2.2.2.2.2.2.1
            have h26 : vs 26 = _ := hA.2.2.2.2.2.2.2.2.2.2.2.2.2.2.2.2.2.2.2.2.2.2.2.2.2.2.1
            have h27 : vs 27 = _ := hA.2.2.2.2.2.2.2.2.2.2.2.2.2.2.2.2.2.2.2.2.2.2.2.2.2.2.2.1
            clear hA
            simp only [fillP, List.setIfInBounds_toArray, List.set_cons_zero, List.set_cons_succ, h0, h1, h2, h3, h4, h5, h6, h7, h8, h9, h10, h11, h12, h13, h14, h15, h16, h17, h18, h19, h20, h21, h22, h23, h24, h25, h26, h27]
            go_wp2_with fail; go_ret; exact ⟨by first|rfl | simp, b_next BZ.out hB⟩
end Go.Proofs.Ytidbfkbeploagaa
