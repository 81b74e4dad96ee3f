/-
  The landed One, Value, May, with, Join.
-/
import Derived.Test.YtidbfkbeploagaaRefJoin13
import Derived.Test.YtidbfkbeploagaaRely
import Derived.Deep.RegionHeld3
import Derived.Deep.Cut
namespace Go.Proofs.Ytidbfkbeploagaa
open Go.RowKit

set_option maxRecDepth 100000 in
set_option maxHeartbeats 4000000 in
theorem one13_any : OneOK 37 := by
  intro n w
  by_cases h : 0 < n
  · have e : oneM n = (n, 0) := by unfold oneM; rw [if_pos h]
    have h2 : ¬ n < 0 := by omega
    have D : Hid (Below w.heap.size w (w.alloc (.cells #[.int .i64 n, .int .i64 0] 25))) := Lib.hid ((Below.refl _ w).alloc (Nat.le_refl _) _)
    rw [e]
    unfold mgV
    dsimp only
    clear e
    have h3 : ¬ n ≤ 0 := by omega
    have h4 : 0 ≤ n := by omega
    go_enter Try.func37, Try.ntmps37
    go_wp2_with fail
    refine bodyPost_ret (results_cell_row rfl _ _ w.heap.size _ _ _ _ rfl (heap_alloc_new w _) Try.underlying25 rfl (by kernel_rfl)) rfl ?_
    exact ⟨rfl, D.out⟩
  · have e : oneM n = (0, n) := by unfold oneM; rw [if_neg h]
    by_cases h2 : n < 0
    · have D : Hid (Below w.heap.size w (w.alloc (.cells #[.int .i64 0, .int .i64 n] 25))) := Lib.hid ((Below.refl _ w).alloc (Nat.le_refl _) _)
      rw [e]
      unfold mgV
      dsimp only
      clear e
      have h3 : n ≤ 0 := by omega
      have h4 : ¬ 0 ≤ n := by omega
      go_enter Try.func37, Try.ntmps37
      go_wp2_with fail
      refine bodyPost_ret (results_cell_row rfl _ _ w.heap.size _ _ _ _ rfl (heap_alloc_new w _) Try.underlying25 rfl (by kernel_rfl)) rfl ?_
      exact ⟨rfl, D.out⟩
    · obtain rfl : n = 0 := by omega
      have D : Hid (Below w.heap.size w (w.alloc (.cells #[.int .i64 0, .int .i64 0] 25))) := Lib.hid ((Below.refl _ w).alloc (Nat.le_refl _) _)
      rw [e]
      unfold mgV
      dsimp only
      clear e h h2
      go_enter Try.func37, Try.ntmps37
      go_wp2_with fail
      refine bodyPost_ret (results_cell_row rfl _ _ w.heap.size _ _ _ _ rfl (heap_alloc_new w _) Try.underlying25 rfl (by kernel_rfl)) rfl ?_
      exact ⟨rfl, D.out⟩

set_option maxRecDepth 100000 in
set_option maxHeartbeats 4000000 in
theorem value13_any : ValueOK 16 := by
  intro m w
  have D : Hid (Below w.heap.size w (w.alloc (.cells #[.int .i64 m.1, .int .i64 m.2] 25))) := Lib.hid ((Below.refl _ w).alloc (Nat.le_refl _) _)
  unfold mgV
  obtain ⟨a, b⟩ := m
  dsimp only at D ⊢
  unfold valueM
  dsimp only
  obtain ⟨s, hs⟩ : ∃ s, IntKind.i64.wrap (a + b) = s := ⟨_, rfl⟩
  rw [hs]
  go_enter Try.func16, Try.ntmps16
  go_wp2_with fail
  go_ret
  exact ⟨rfl, D.out⟩

set_option maxRecDepth 100000 in
set_option maxHeartbeats 4000000 in
theorem may13_any : MayOK13 38 := by
  intro m w
  have D : Hid (Below w.heap.size w (w.alloc (.cells #[.int .i64 m.1, .int .i64 m.2] 25))) := Lib.hid ((Below.refl _ w).alloc (Nat.le_refl _) _)
  unfold mgV
  obtain ⟨a, b⟩ := m
  dsimp only at D ⊢
  obtain ⟨r, hr⟩ : ∃ r, decide (MayM (a, b)) = r := ⟨_, rfl⟩
  rw [hr]
  have HR := Lib.hid hr
  clear hr
  unfold MayM at HR
  dsimp only at HR
  by_cases h1 : 0 ≤ a
  · by_cases h2 : a ≤ 1099511627776
    · by_cases h3 : -1099511627776 ≤ b
      · have R : Hid (r = decide (b ≤ 0)) := Lib.hid (by rw [← HR.out]; exact decide_eq_decide.2 ⟨fun h => h.2.1, fun h => ⟨⟨h1, h2⟩, h, h3⟩⟩)
        have d1 : decide (0 ≤ a) = true := decide_eq_true h1
        have d2 : decide (a ≤ 1099511627776) = true := decide_eq_true h2
        have d3 : decide (-1099511627776 ≤ b) = true := decide_eq_true h3
        clear HR h1 h2 h3
        go_enter Try.func38, Try.ntmps38
        go_wp2_with fail
        go_ret
        exact ⟨by rw [R.out]; rfl, D.out⟩
      · have R : Hid (r = false) := Lib.hid (by rw [← HR.out]; exact decide_eq_false (by omega))
        have d1 : decide (0 ≤ a) = true := decide_eq_true h1
        have d2 : decide (a ≤ 1099511627776) = true := decide_eq_true h2
        have d3 : decide (-1099511627776 ≤ b) = false := decide_eq_false h3
        clear HR h1 h2 h3
        go_enter Try.func38, Try.ntmps38
        go_wp2_with fail
        go_ret
        exact ⟨by rw [R.out]; rfl, D.out⟩
    · have R : Hid (r = false) := Lib.hid (by rw [← HR.out]; exact decide_eq_false (by omega))
      have d1 : decide (0 ≤ a) = true := decide_eq_true h1
      have d2 : decide (a ≤ 1099511627776) = false := decide_eq_false h2
      clear HR h1 h2
      go_enter Try.func38, Try.ntmps38
      go_wp2_with fail
      go_ret
      exact ⟨by rw [R.out]; rfl, D.out⟩
  · have R : Hid (r = false) := Lib.hid (by rw [← HR.out]; exact decide_eq_false (by omega))
    have d1 : decide (0 ≤ a) = false := decide_eq_false h1
    clear HR h1
    go_enter Try.func38, Try.ntmps38
    go_wp2_with fail
    go_ret
    exact ⟨by rw [R.out]; rfl, D.out⟩

/-- a margin, a result of noughts behind it; nothing ahead of them has turned -/
structure N2 (w w' : World) (a : Mg) : Prop where
  below : Below w.heap.size w w'
  mine : MgAt w' w.heap.size a
  res : MgAt w' (w.heap.size + 1) mgZ
theorem N2.of {w w' w2 : World} {a : Mg} (h : N2 w w' a) (hb : Below w'.heap.size w' w2) : N2 w w2 a := ⟨h.below.trans (hb.mono h.below.size), h.mine.keep hb, h.res.keep hb⟩
theorem N2.set {w w' : World} {a : Mg} (h : N2 w w' a) (j : Nat) (v : Value) (a' : Mg) (e : (mgCells a).set j v = mgCells a') : N2 w (w'.setCell ⟨w.heap.size, j, none⟩ v) a' :=
  ⟨h.below.setCell (Nat.le_refl _) _, h.mine.set j v a' e, h.res.off (by omega)⟩
theorem N2.done {w w' : World} {a : Mg} (h : N2 w w' a) : ((w'.setCell ⟨w.heap.size + 1, 0, none⟩ (.int .i64 a.1)).setCell ⟨w.heap.size + 1, 1, none⟩ (.int .i64 a.2)).heap[w.heap.size + 1]? = some (.cells (mgCells a).toArray 25) ∧ Below w.heap.size w ((w'.setCell ⟨w.heap.size + 1, 0, none⟩ (.int .i64 a.1)).setCell ⟨w.heap.size + 1, 1, none⟩ (.int .i64 a.2)) := by
  refine ⟨(h.res.set 0 (.int .i64 a.1) (a.1, 0) rfl).set 1 (.int .i64 a.2) a rfl, (h.below.setCell (by show w.heap.size ≤ w.heap.size + 1; omega) _).setCell (by show w.heap.size ≤ w.heap.size + 1; omega) _⟩
theorem N2.new (w : World) (a : Mg) : N2 w ((w.alloc (.cells (mgCells a).toArray 25)).alloc (.cells (mgCells mgZ).toArray 25)) a := by
  have h1 : MgAt (w.alloc (.cells (mgCells a).toArray 25)) w.heap.size a := MgAt.new w a
  refine ⟨((Below.refl _ w).alloc (Nat.le_refl _) _).alloc (by rw [World.size_alloc]; omega) _, h1.keep ((Below.refl _ _).alloc (Nat.le_refl _) _), ?_⟩
  have h2 := MgAt.new (w.alloc (.cells (mgCells a).toArray 25)) mgZ
  rwa [World.size_alloc] at h2
/-- one, and the first of others, joined -/
def joinF (m : Mg) (l : List Mg) (k : Nat) : Mg := (l.take k).foldl mjoin m
theorem joinF_zero (m : Mg) (l : List Mg) : joinF m l 0 = m := rfl
theorem joinF_all (m : Mg) (l : List Mg) {n : Nat} (h : l.length = n) : joinF m l n = l.foldl mjoin m := by unfold joinF; rw [← h, List.take_length]
theorem joinF_succ (m : Mg) {l : List Mg} {k : Nat} (hk : k < l.length) : joinF m l (k + 1) = mjoin (joinF m l k) (mu l k, md l k) := by
  unfold joinF mu md
  rw [mgAt_get hk, List.take_succ_eq_append_getElem hk, List.foldl_append]
  rfl

set_option maxRecDepth 100000 in
set_option maxHeartbeats 4000000 in
theorem with13_any (m : Mg) (l : List Mg) (v : Value) (w : World) (hv : MgIn w v l) (hn : l.length ≤ 100000) :
    Calls Try.prog 31 #[mgV m, v] w fun e w' => e = .returned (mgV (l.foldl mjoin m)) ∧ Below w.heap.size w w' := by
  have HV := Lib.hid hv
  obtain ⟨A, c, rfl, -, -⟩ := hv
  obtain ⟨n, en⟩ : ∃ n, l.length = n := ⟨_, rfl⟩
  have EJ : Hid (l.foldl mjoin m = joinF m l n) := Lib.hid (joinF_all m l en).symm
  rw [EJ.out]
  have HN := Lib.hid en
  have JS := Lib.hid (fun k (hk : k < n) => joinF_succ m (l := l) (k := k) (by omega))
  have M0 := Lib.hid (N2.new w m)
  rw [en] at hn HV ⊢
  rw [← joinF_zero m l] at M0
  have e0 : (joinF m l 0).1 = m.1 ∧ (joinF m l 0).2 = m.2 := ⟨rfl, rfl⟩
  unfold mgCells mgZ at M0
  dsimp only at M0
  rw [e0.1, e0.2] at M0
  clear e0 EJ en
  unfold mgV
  generalize m.1 = m1 at M0 ⊢
  generalize m.2 = m2 at M0 ⊢
  go_enter Try.func31, Try.ntmps31
  go_wp2_with fail
  go_loopg [9] n (fun g1 vi wr => ∃ k : Nat, vi = .int .i64 k ∧ k ≤ n ∧ n - k ≤ g1 ∧ Hid (N2 w wr (joinF m l k)))
  case atStart => exact ⟨0, rfl, by omega, by omega, M0⟩
  case round =>
    obtain ⟨k, rfl, hk, hg1, HM⟩ := hrel
    obtain ⟨wo, hwo⟩ : ∃ wo, wo = wr := ⟨_, rfl⟩
    subst hwo
    clear M0
    by_cases hlt : k < n
    · have hz : (k : Int) < n := by omega
      have hz0 : (0 : Int) ≤ k := by omega
      have wi : IntKind.i64.wrap ((k : Int) + 1) = (k : Int) + 1 := IntWalk.i64_in _ (by omega)
      obtain ⟨b, off, c', e, x0, x1⟩ := (HV.out.keep HM.out.below).get (i := k) (by have := HN.out; omega)
      injection e with e1 e2 e3
      subst e1 e3
      clear e2
      have E := Lib.hid (JS.out k hlt)
      unfold mjoin at E
      dsimp only at E
      generalize mu l k = z0 at x0 E
      generalize md l k = z1 at x1 E
      obtain ⟨⟨p, q⟩, hpq⟩ : ∃ m0, joinF m l k = m0 := ⟨_, rfl⟩
      rw [hpq] at E HM
      dsimp only at E
      clear hpq
      have HS := Lib.hid (World.size_alloc wo (.cells #[.int .i64 z0, .int .i64 z1] 25))
      have HM2 := Lib.hid (HM.out.of ((Below.refl _ wo).alloc (Nat.le_refl _) (.cells #[.int .i64 z0, .int .i64 z1] 25)))
      have G2 : Hid (MgAt (wo.alloc (.cells #[.int .i64 z0, .int .i64 z1] 25)) wo.heap.size (z0, z1)) := Lib.hid (MgAt.new wo (z0, z1))
      go_upto_region 4 with fail
      clear x0 x1 HM
      generalize wo.alloc (.cells #[.int .i64 z0, .int .i64 z1] 25) = wx at HM2 G2 HS ⊢
      obtain ⟨c0, c1⟩ := HM2.out.mine.cells
      obtain ⟨d0, d1⟩ := G2.out.cells
      have f0 := HM2.out.mine.fro 0
      have f1 := HM2.out.mine.fro 1
      dsimp only at c0 c1 d0 d1
      obtain ⟨p1, hp1⟩ : ∃ p1, (if p < z0 then z0 else p) = p1 := ⟨_, rfl⟩
      obtain ⟨q1, hq1⟩ : ∃ q1, (if z1 < q then z1 else q) = q1 := ⟨_, rfl⟩
      have E' : Hid (joinF m l (k + 1) = (p1, q1)) := Lib.hid (by rw [E.out, ← hp1, ← hq1])
      have P1 := Lib.hid hp1
      have Q1 := Lib.hid hq1
      have M1 := Lib.hid ((HM2.out.of (Below.refl _ wx).drew).set 0 (.int .i64 p1) (p1, q) rfl)
      have M2 := Lib.hid (M1.out.set 1 (.int .i64 q1) (p1, q1) rfl)
      clear E
      go_region
      all_goals (
        go_wp2_with fail
        go_roundg (n - (k + 1))
        case measure => omega
        case rel =>
          refine ⟨k + 1, by go_num, by omega, Nat.le_refl _, ?_⟩
          rw [E'.out]
          first
            | exact M2)
    · obtain rfl : k = n := by omega
      have hz : ¬ (k : Int) < k := by omega
      obtain ⟨m0, m1⟩ := HM.out.mine.cells
      obtain ⟨r0, r1⟩ := HM.out.res.cells
      have f0 := HM.out.res.fro 0
      have f1 := HM.out.res.fro 1
      have D := Lib.hid HM.out.done
      obtain ⟨⟨p, q⟩, hpq⟩ : ∃ m', joinF m l k = m' := ⟨_, rfl⟩
      rw [hpq] at m0 m1 D
      have HP := Lib.hid hpq
      unfold mgCells at D
      dsimp only at m0 m1 D
      clear HM hpq
      go_wp2_with fail
      refine bodyPost_ret (results_cell_row rfl _ _ (w.heap.size + 1) _ _ _ _ rfl D.out.1 Try.underlying25 rfl (by kernel_rfl)) rfl ?_
      exact ⟨by rw [HP.out], D.out.2⟩

theorem joinM_head {l : List Mg} (h : 0 < l.length) : joinM l = (l.drop 1).foldl mjoin (mu l 0, md l 0) := by
  unfold mu md
  rw [mgAt_get h]
  cases l with
  | nil => simp at h
  | cons x l => rfl
set_option maxRecDepth 100000 in
set_option maxHeartbeats 4000000 in
theorem join13_any : JoinOK 15 := by
  intro l v w hv hn
  have HV := Lib.hid hv
  obtain ⟨A, c, rfl, hc1, hc2⟩ := hv
  have HM := Lib.hid (MgAt.new w mgZ)
  have B0 : Hid (Below w.heap.size w (w.alloc (.cells (mgCells mgZ).toArray 25))) := Lib.hid ((Below.refl _ w).alloc (Nat.le_refl _) _)
  by_cases h0 : l.length = 0
  · obtain rfl : l = [] := List.length_eq_zero_iff.1 h0
    have D : Hid (Below w.heap.size w (w.alloc (.cells #[.int .i64 0, .int .i64 0] 25))) := Lib.hid ((Below.refl _ w).alloc (Nat.le_refl _) _)
    dsimp only [List.length_nil]
    clear hn h0 HV HM B0 hc1
    go_enter Try.func15, Try.ntmps15
    go_wp2_with fail
    refine bodyPost_ret (results_cell_row rfl _ _ w.heap.size _ _ _ _ rfl (heap_alloc_new w _) Try.underlying25 rfl (by kernel_rfl)) rfl ?_
    exact ⟨rfl, D.out⟩
  · have EJ := Lib.hid (joinM_head (l := l) (by omega))
    obtain ⟨n, en⟩ : ∃ n, l.length = n := ⟨_, rfl⟩
    have HN := Lib.hid en
    obtain ⟨b, off, c', e, x0, x1⟩ := (HV.out.keep B0.out).get (i := 0) (by omega)
    injection e with e1 e2 e3
    subst e1 e3
    clear e2
    have VD := Lib.hid (HV.out.drop (k := 1) (by omega))
    rw [Nat.zero_mul, Nat.add_zero] at x0 x1
    rw [en] at hn HV h0 VD hc1 ⊢
    rw [Nat.one_mul] at VD
    obtain ⟨off2, hoff, VD⟩ : ∃ off2, Hid (c = 1 ∧ off2 = off ∨ c ≠ 1 ∧ off2 = off + 2) ∧ Hid (MgIn w (.slice (some ⟨b, off2, none⟩) (n - 1) (c - 1)) (l.drop 1)) := by
      by_cases hc : c = 1
      · have hn1 : n - 1 = 0 := by omega
        refine ⟨off, Lib.hid (.inl ⟨hc, rfl⟩), Lib.hid ?_⟩
        have hl : l.drop 1 = [] := List.length_eq_zero_iff.1 (by rw [List.length_drop, HN.out]; exact hn1)
        rw [hl]
        exact ⟨_, _, by rw [hn1]; rfl, ⟨by simp, by omega⟩, fun h => absurd rfl h⟩
      · exact ⟨off + 2, Lib.hid (.inr ⟨hc, rfl⟩), VD⟩
    have hne : ((n : Int) == 0) = false := by simp; omega
    have hp : (0 : Int) < n := by omega
    have hp1 : (1 : Int) ≤ n := by omega
    have hp2 : (n : Int) ≤ c := by omega
    have hp3 : (1 : Int) ≤ c := by omega
    have t1 : ((n : Int) - 1).toNat = n - 1 := by omega
    have t2 : ((c : Int) - 1).toNat = c - 1 := by omega
    have KW := Lib.hid (fun W u (hW : MgIn W u (l.drop 1)) => with13_any (mu l 0, md l 0) (l.drop 1) u W hW (by rw [List.length_drop]; have := HN.out; omega))
    rw [← EJ.out] at KW
    obtain ⟨⟨j1, j2⟩, hj⟩ : ∃ m0, joinM l = m0 := ⟨_, rfl⟩
    rw [hj] at KW ⊢
    have CC : Hid (∀ W, Below w.heap.size w W → W.cell? ⟨b, off, none⟩ = some (.int .i64 (mu l 0)) ∧ W.cell? ⟨b, off + 1, none⟩ = some (.int .i64 (md l 0))) := Lib.hid (fun W hW => by
      have := (HV.out.keep hW).at_ (i := 0) (by have := HN.out; omega)
      rwa [Nat.zero_mul, Nat.add_zero] at this)
    generalize mu l 0 = z0 at x0 KW CC
    generalize md l 0 = z1 at x1 KW CC
    unfold mgV at KW ⊢
    dsimp only at KW ⊢
    clear hj EJ en x0 x1
    unfold mgCells mgZ at B0 HM
    dsimp only at B0 HM
    go_enter Try.func15, Try.ntmps15
    go_upto_region 3 with fail
    generalize w.alloc (.cells #[.int .i64 0, .int .i64 0] 25) = wx at B0 HM ⊢
    refine' wp_region_last [opV _, opV _, opV _, opV _, opV (.slice (some ⟨b, off2, none⟩) (n - 1) (c - 1)), opV (.agg #[.int .i64 j1, .int .i64 j2])] 6 _ rfl (by kernel_rfl) rfl (by kernel_rfl) ⟨?s0, ?s1, ?s2, ?s3, ?s4, ?s5, trivial⟩ rfl ?fin
    case s0 =>
      refine BStep.of [] [] (opV _) (by kernel_rfl) (fun _ _ => by kernel_rfl) rfl ?_
      intro vs wv hB hA
      clear hA
      simp only [fillP]
      have c0 := (CC.out wv (B0.out.trans (hB.mono B0.out.size))).1; have c1 := (CC.out wv (B0.out.trans (hB.mono B0.out.size))).2; go_wp2_with fail
      refine postB_val ?_ (Below.refl _ _)
      simp only [List.getElem?_cons_succ, List.getElem?_cons_zero]
      rfl
    case s1 =>
      refine BStep.of [0] [(7, 0)] (opV _) (by kernel_rfl) (fun _ _ => by kernel_rfl) rfl ?_
      intro vs wv hB hA
      have h0 : vs 0 = _ := hA.1
      clear hA
      simp only [fillP, List.setIfInBounds_toArray, List.set_cons_zero, List.set_cons_succ, h0]
      have c0 := (CC.out wv (B0.out.trans (hB.mono B0.out.size))).1; have c1 := (CC.out wv (B0.out.trans (hB.mono B0.out.size))).2; go_wp2_with fail
      refine postB_val ?_ (Below.refl _ _)
      simp only [List.getElem?_cons_succ, List.getElem?_cons_zero]
      rfl
    case s2 =>
      refine BStep.of [1] [(8, 1)] (opV _) (by kernel_rfl) (fun _ _ => by kernel_rfl) rfl ?_
      intro vs wv hB hA
      have h1 : vs 1 = _ := hA.1
      clear hA
      simp only [fillP, List.setIfInBounds_toArray, List.set_cons_zero, List.set_cons_succ, h1]
      have c0 := (CC.out wv (B0.out.trans (hB.mono B0.out.size))).1; have c1 := (CC.out wv (B0.out.trans (hB.mono B0.out.size))).2; go_wp2_with fail
      refine postB_val ?_ (Below.refl _ _)
      simp only [List.getElem?_cons_succ, List.getElem?_cons_zero]
      rfl
    case s3 =>
      refine BStep.of [] [] (opV _) (by kernel_rfl) (fun _ _ => by kernel_rfl) rfl ?_
      intro vs wv hB hA
      clear hA
      simp only [fillP]
      have c0 := (CC.out wv (B0.out.trans (hB.mono B0.out.size))).1; have c1 := (CC.out wv (B0.out.trans (hB.mono B0.out.size))).2; go_wp2_with fail
      refine postB_val ?_ (Below.refl _ _)
      simp only [List.getElem?_cons_succ, List.getElem?_cons_zero]
      rfl
    case s4 =>
      refine BStep.of [3] [(10, 3)] (opV (.slice (some ⟨b, off2, none⟩) (n - 1) (c - 1))) (by kernel_rfl) (fun _ _ => by kernel_rfl) rfl ?_
      intro vs wv hB hA
      have h3 : vs 3 = _ := hA.1
      clear hA
      simp only [fillP, List.setIfInBounds_toArray, List.set_cons_zero, List.set_cons_succ, h3]
      rcases hoff.out with ⟨hc, ho⟩ | ⟨hc, ho⟩; (obtain rfl := ho; subst hc; go_wp2_with fail; exact postB_val rfl (Below.refl _ _)); (obtain rfl := ho; go_wp2_with fail; exact postB_val rfl (Below.refl _ _))
    case s5 =>
      refine BStep.of [2, 4] [(9, 2), (11, 4)] (opV (.agg #[.int .i64 j1, .int .i64 j2])) (by kernel_rfl) (fun _ _ => by kernel_rfl) rfl ?_
      intro vs wv hB hA
      have h2 : vs 2 = _ := hA.1
      have h4 : vs 4 = _ := hA.2.1
      clear hA
      simp only [fillP, List.setIfInBounds_toArray, List.set_cons_zero, List.set_cons_succ, h2, h4]
      (go_wp2_with (go_at_call 31; (with_reducible refine (KW.out _ _ (VD.out.keep (B0.out.trans (hB.mono B0.out.size)))).mono ?_); rintro e w7 ⟨rfl, hb⟩)); exact postB_val rfl hb
    case fin =>
      refine last_of [0, 1, 2, 3, 4, 5] [(7, 0), (8, 1), (9, 2), (10, 3), (11, 4), (12, 5)] (by kernel_rfl) (fun _ _ => by kernel_rfl) ?_
      intro vs wv hB hA
      have h0 : vs 0 = _ := hA.1
      have h1 : vs 1 = _ := hA.2.1
      have h2 : vs 2 = _ := hA.2.2.1
      have h3 : vs 3 = _ := hA.2.2.2.1
      have h4 : vs 4 = _ := hA.2.2.2.2.1
      have h5 : vs 5 = _ := hA.2.2.2.2.2.1
      clear hA
      simp only [fillP, List.setIfInBounds_toArray, List.set_cons_zero, List.set_cons_succ, h0, h1, h2, h3, h4, h5]
      have G := Lib.hid (HM.out.keep hB); have BF := Lib.hid (B0.out.trans (hB.mono B0.out.size)); have f0 := G.out.fro 0; have f1 := G.out.fro 1; obtain ⟨m0, m1⟩ := G.out.cells; go_wp2_with fail
      refine bodyPost_ret (results_cell_row rfl _ _ w.heap.size _ _ _ _ rfl ((G.out.set 0 (.int .i64 j1) (j1, 0) rfl).set 1 (.int .i64 j2) (j1, j2) rfl) Try.underlying25 rfl (by kernel_rfl)) rfl ?_
      exact ⟨rfl, (BF.out.setCell (Nat.le_refl _) _).setCell (Nat.le_refl _) _⟩
end Go.Proofs.Ytidbfkbeploagaa
