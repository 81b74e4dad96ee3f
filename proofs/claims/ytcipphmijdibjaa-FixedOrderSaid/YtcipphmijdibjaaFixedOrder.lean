/-
  The law FixedOrder: in whatever order lengths stand, their sum is the same, or refused; with their opposites it is 0.
-/
import Derived.Test.YtcipphmijdibjaaOrderMath
import Derived.Deep.RegionLaw
import Derived.Deep.AppendLies
import Derived.Deep.DrawnRows
import Derived.IntWalk
namespace Go.Proofs.Ytcipphmijdibjaa
open Go.RowKit
attribute [local go_sem ↓] Go.wp_at_zero Go.wp_at_succ

theorem len_still (x : Int) (y : Int) (hy : len x = y) (w : World) :
    Calls Try.prog 29 #[.int .i64 x] w fun e w' => e = .returned (.int .i64 y) ∧ w' = w := (len_any x w y hy).mono fun _ _ ⟨h, h'⟩ => ⟨h, h'.symm⟩
theorem one_new (W : World) (x : Int) (t : TypeId) : ∀ j u, ([Value.int .i64 x])[j]? = some u → (W.alloc (.cells #[.int .i64 x] t)).cell? (Addr.add ⟨W.heap.size, 0, none⟩ j) = some u := by
  intro j u hj
  match j, hj with
  | 0, hj => simp at hj; subst hj; simp [Addr.add, World.cell?_alloc_at]
theorem two_new (W : World) (x y : Int) (t : TypeId) : ∀ j u, ([Value.int .i64 x, Value.int .i64 y])[j]? = some u → (W.alloc (.cells #[.int .i64 x, .int .i64 y] t)).cell? (Addr.add ⟨W.heap.size, 0, none⟩ j) = some u := by
  intro j u hj
  match j, hj with
  | 0, hj => simp at hj; subst hj; simp [Addr.add, World.cell?_alloc_at]
  | 1, hj => simp at hj; subst hj; simp [Addr.add, World.cell?_alloc_at]
theorem one_cells1 (x : Int) : ∀ u ∈ [Value.int .i64 x], u.oneCell' = true := fun u hu => by simp at hu; subst hu; rfl
theorem one_cells2 (x y : Int) : ∀ u ∈ [Value.int .i64 x, Value.int .i64 y], u.oneCell' = true := fun u hu => by
  simp at hu; rcases hu with rfl | rfl <;> rfl

set_option maxRecDepth 100000 in
set_option maxHeartbeats 4000000 in
theorem order_walk (A : Option Addr) (n c : Nat) (f : Nat → Int) (a1 : Int) (w : World) (h : Ints w A n f) (hn : 0 < n) (hn2 : n ≤ 500) (y p : Nat) (hy : IntKind.u64.wrap a1 = (y : Int)) (hp : ((y : Int) % n) = (p : Int)) (hpn : p < n) :
    Calls Try.prog 7 #[.slice A n c, .int .i64 a1] w fun e w' => e = .returned (.bool true) ∧ Below w.heap.size w w' := by
  obtain ⟨i0, hi, hz0, hz1, hz2⟩ := info_parts info_int
  have H := Lib.hid h
  have HY := Lib.hid hy; have HP := Lib.hid hp
  clear h hy hp
  obtain ⟨g, hg⟩ : ∃ g : Nat → Int, g = fun i => len (f i) := ⟨_, rfl⟩
  have GF : Hid (∀ i, Fit (g i)) := Lib.hid (fun i => by rw [hg]; exact len_fit _)
  have GL : Hid (∀ i, len (f i) = g i) := Lib.hid (fun i => by rw [hg])
  clear hg
  have n0 : ((n : Int) == 0) = false := by simp; omega
  have n1 : ¬ (500 : Int) < n := by omega
  go_enter Try.func7, Try.ntmps7
  go_wp2_with fail
  refine (awake_any _).mono ?_
  rintro e w1 ⟨rfl, hb⟩
  have B1 := Lib.hid hb; have J := Lib.hid (H.out.below hb); clear hb H
  have hy := HY.out
  have hp := HP.out
  have hnn : ((n : Int) == 0) = false := n0
  have hnz : (n : Int) ≠ 0 := by omega
  have hp0 : (0 : Int) ≤ p := by omega
  have hp5 : (p : Int) < 500 := by omega
  go_wp2
  clear hy hp
  go_loopw [7, 8, 9, 10] (fun va vb vc i wr => ∃ k : Nat, k ≤ n ∧ i = .int .i64 (k : Nat) ∧ Tri wr w1.heap.size va vb vc ((List.range k).map g) ((List.range k).map (turned g n p)) ((List.range (2 * k)).map (paired g n)) ∧ Below w1.heap.size w1 wr) (fun _ _ _ i _ => n - (intOf i).toNat)
  case atStart => exact ⟨0, Nat.zero_le _, rfl, Tri.nil _ _, Below.refl _ _⟩
  case round =>
    obtain ⟨k, hk, rfl, hT, hB⟩ := hrel
    have T := Lib.hid hT; have B := Lib.hid hB
    clear hT hB
    by_cases hlt : k < n
    · obtain ⟨q, hq⟩ : ∃ q, (p + k) % n = q := ⟨_, rfl⟩
      have hqn : q < n := by rw [← hq]; exact Nat.mod_lt _ hn
      obtain ⟨b, off, rfl, hb, hc⟩ := J.out.2 (by omega)
      have HC : Hid (∀ W, Below w1.heap.size w1 W → ∀ i, i < n → W.cell? ⟨b, off + i, none⟩ = some (.int .i64 (f i))) := Lib.hid (fun W hW i hi => (hW.cell (p := ⟨b, off + i, none⟩) hb).trans (hc i hi))
      clear hb hc
      have c1 := HC.out wr B.out k hlt
      have c2 : Hid (∀ W, Below w1.heap.size w1 W → W.cell? ⟨b, off + q, none⟩ = some (.int .i64 (f q))) := Lib.hid (fun W hW => HC.out W hW q hqn)
      have c3 : Hid (∀ W, Below w1.heap.size w1 W → W.cell? ⟨b, off + (n - 1 - k), none⟩ = some (.int .i64 (f (n - 1 - k)))) := Lib.hid (fun W hW => HC.out W hW (n - 1 - k) (by omega))
      have c1b : Hid (∀ W, Below w1.heap.size w1 W → W.cell? ⟨b, off + k, none⟩ = some (.int .i64 (f k))) := Lib.hid (fun W hW => HC.out W hW k hlt)
      clear HC
      have y1 := GL.out k
      have y2 := GL.out q
      have y3 := GL.out (n - 1 - k)
      have b1 := GF.out k
      have b2 := GF.out q
      have b3 := GF.out (n - 1 - k)
      have SA : Hid ((List.range (k + 1)).map g = (List.range k).map g ++ [g k]) := Lib.hid (range_snoc _ _)
      have SB : Hid ((List.range (k + 1)).map (turned g n p) = (List.range k).map (turned g n p) ++ [g q]) := Lib.hid (by rw [range_snoc]; unfold turned; rw [hq])
      have SC : Hid ((List.range (2 * (k + 1))).map (paired g n) = (List.range (2 * k)).map (paired g n) ++ [g k, - g (n - 1 - k)]) := Lib.hid (by rw [range_snoc2, paired_even, paired_odd])
      generalize f k = x1 at c1 c1b y1
      generalize f q = x2 at c2 y2
      generalize f (n - 1 - k) = x3 at c3 y3
      generalize g k = z1 at y1 b1 SA SC
      generalize g q = z2 at y2 b2 SB
      generalize g (n - 1 - k) = z3 at y3 b3 SC
      have Y1 := Lib.hid y1; have Y2 := Lib.hid y2; have Y3 := Lib.hid y3
      have hqz : ((p : Int) + k) % n = (q : Int) := by rw [← hq]; simp
      have HQ := Lib.hid hqz
      clear y1 y2 y3 hqz hq
      unfold Fit at b1 b2 b3
      obtain ⟨b11, b12⟩ := b1
      obtain ⟨b21, b22⟩ := b2
      obtain ⟨b31, b32⟩ := b3
      have la : ((List.range k).map g).length = k := by simp
      have lb : ((List.range k).map (turned g n p)).length = k := by simp
      have lc : ((List.range (2 * k)).map (paired g n)).length = 2 * k := by simp
      have LA := Lib.hid la; have LB := Lib.hid lb; have LC := Lib.hid lc
      clear la lb lc
      have hk5 : k < 500 := by omega
      have hq0 : (0 : Int) ≤ q := by omega
      have hq1 : (q : Int) < n := by omega
      -- the first row
      go_wp2_with fail
      refine (len_any x1 wr z1 Y1.out).mono ?_
      rintro e w2 ⟨rfl, rfl⟩
      have T1 := Lib.hid (T.out.alloc (.cells #[.int .i64 z1] 3))
      go_wp2_with (at_builtin; refine wpList_append_own_at _ rfl _ _ 22 rfl w1.heap.size 3 i0 (.int .i64 0) 1 8 Try.underlying22 hi hz0 hz1 hz2 rfl (by decide) _ ((List.range k).map g).length _ rfl T1.out.a ⟨wr.heap.size, 0, none⟩ 1 1 [.int .i64 z1] rfl rfl (one_new wr z1 _) (one_cells1 z1) (by rw [LA.out]; unfold maxLen; omega) (by rw [LA.out]; omega) (by have := B.out.size; simp; omega) ?_)
      intro va' w3 hown hgrow _ hat
      have T2 : Hid (Tri w3 w1.heap.size va' u8 u9 ((List.range (k + 1)).map g) ((List.range k).map (turned g n p)) ((List.range (2 * k)).map (paired g n))) := Lib.hid (by
        rw [SA.out]
        refine T1.out.step (by unfold ownsI; simpa using hown) hgrow ?_
        simpa using hat)
      have B2 : Hid (Below w1.heap.size w1 w3) := Lib.hid ((B.out.alloc B.out.size _).trans (T1.out.below hgrow (by have := B.out.size; simp; omega)))
      clear hown hgrow hat T1 c1
      have d2 := c2.out w3 B2.out
      have hqz := HQ.out
      go_wp2_with fail
      clear hqz
      refine (len_any x2 w3 z2 Y2.out).mono ?_
      rintro e w4 ⟨rfl, rfl⟩
      clear d2
      have T3 := Lib.hid ((T2.out.rot).alloc (.cells #[.int .i64 z2] 3))
      go_wp2_with (at_builtin; refine wpList_append_own_at _ rfl _ _ 22 rfl w1.heap.size 3 i0 (.int .i64 0) 1 8 Try.underlying22 hi hz0 hz1 hz2 rfl (by decide) _ ((List.range k).map (turned g n p)).length _ rfl T3.out.a ⟨w3.heap.size, 0, none⟩ 1 1 [.int .i64 z2] rfl rfl (one_new w3 z2 _) (one_cells1 z2) (by rw [LB.out]; unfold maxLen; omega) (by rw [LB.out]; omega) (by have := B2.out.size; simp; omega) ?_)
      intro vb' w5 hown hgrow _ hat
      have T4 : Hid (Tri w5 w1.heap.size vb' u9 va' ((List.range (k + 1)).map (turned g n p)) ((List.range (2 * k)).map (paired g n)) ((List.range (k + 1)).map g)) := Lib.hid (by
        rw [SB.out]
        refine T3.out.step (by unfold ownsI; simpa using hown) hgrow ?_
        simpa using hat)
      have B4 : Hid (Below w1.heap.size w1 w5) := Lib.hid ((B2.out.alloc B2.out.size _).trans (T3.out.below hgrow (by have := B2.out.size; simp; omega)))
      clear hown hgrow hat T3 T2
      have d1 := c1b.out w5 B4.out
      have d3 := c3.out w5 B4.out
      obtain ⟨r, hr⟩ : ∃ r, n - 1 - k = r := ⟨_, rfl⟩
      rw [hr] at d3
      have e2 : (0 : Int) ≤ r := by omega
      have e3 : (r : Int) < n := by omega
      have e4 : (k : Int) < n := by omega
      have v1 : IntKind.i64.wrap ((n : Int) - 1) = (n : Int) - 1 := IntWalk.i64_in _ (by omega)
      have v2 : IntKind.i64.wrap ((n : Int) - 1 - k) = (r : Int) := by
        rw [show (n : Int) - 1 - k = (r : Int) by omega]; exact IntWalk.i64_in _ (by omega)
      have v3 : IntKind.i64.wrap (-z3) = -z3 := by clear v1 v2; exact IntWalk.i64_in _ (by omega)
      clear hr
      go_wp2_with fail
      have T5 := Lib.hid ((T4.out.rot).drew)
      have T5w := Lib.hid T4.out.rot; have B5 := B4
      have BD : Hid (Below w1.heap.size w1 w5.drew) := Lib.hid B4.out.drew
      have L1 : Hid (((List.range (2 * k)).map (paired g n)).length + 2 ≤ maxLen) := Lib.hid (by rw [LC.out]; unfold maxLen; omega)
      have L2 : Hid ((((List.range (2 * k)).map (paired g n)).length + 2) * 8 ≤ 140737488355328) := Lib.hid (by rw [LC.out]; omega)
      have L3 : Hid (∀ o : Obj, w1.heap.size ≤ (w5.drew.alloc o).heap.size) := Lib.hid (fun o => by have := BD.out.size; simp; simp at this; omega)
      clear T4 B4
      go_region_law (first
        | (refine step_append_lies _ (by rfl) _ _ 22 (by rfl) w1.heap.size 3 i0 (.int .i64 0) 1 8 Try.underlying22 hi hz0 hz1 hz2 rfl (by decide) u9 ((List.range (2 * k)).map (paired g n)).length _ (by rfl) (T5.out.alloc _).a _ 2 2 [.int .i64 z1, .int .i64 (-z3)] (by rfl) rfl (two_new _ _ _ _) (one_cells2 _ _) (by decide) L1.out L2.out (L3.out _) _ rfl ?_; intro g9 cap w7 hown hgrow hat hlt9)
        | (go_simp; go_at_call 29; (with_reducible refine (len_any x1 _ z1 Y1.out).mono ?_); rintro e w' ⟨rfl, rfl⟩)
        | (go_simp; go_at_call 29; (with_reducible refine (len_any x3 _ z3 Y3.out).mono ?_); rintro e w' ⟨rfl, rfl⟩))
      all_goals
        clear v1 v2 v3
        have T6 : Hid (Tri w7 w1.heap.size va' vb' (.slice (some ⟨g9, 0, none⟩) (2 * k + 2) cap) ((List.range (k + 1)).map g) ((List.range (k + 1)).map (turned g n p)) ((List.range (2 * (k + 1))).map (paired g n))) := Lib.hid (by
          rw [SC.out]
          rw [LC.out] at hown
          refine (((T5w.out.alloc _).drew).step (by unfold ownsI; simpa [LC.out] using hown) hgrow ?_).rot
          rcases hat with e | e
          · exact .inl e.symm
          · exact .inr (congrArg some e))
        have B6 : Hid (Below w1.heap.size w1 w7) := Lib.hid ((B5.out.alloc B5.out.size _).drew.trans (((T5w.out.alloc _).drew).below hgrow (by have := B5.out.size; simp; omega)))
        clear hown hgrow hat hlt9
        go_wp2
        go_roundw
        case rel => exact ⟨k + 1, by omega, by go_num, T6.out, B6.out⟩
        case measure => simp [intOf]; omega
    · obtain rfl : k = n := by omega
      obtain ⟨Aa, ca, rfl, ha⟩ := T.out.a.ints GF.out
      obtain ⟨Ab, cb, rfl, hb⟩ := T.out.b.ints (fun i => GF.out _)
      obtain ⟨Ac, cc, rfl, hc⟩ := T.out.c.ints (paired_fit GF.out k)
      have BB : Hid (Below w.heap.size w wr) := Lib.hid (B1.out.trans (B.out.mono B1.out.size))
      have Ha := Lib.hid ha; have Hb := Lib.hid hb; have Hc := Lib.hid hc
      have R1 := Lib.hid (res_turned g GF.out hpn)
      have R2 := Lib.hid (res_paired g GF.out k)
      have R3 := Lib.hid (res_cases g GF.out k)
      clear ha hb hc T B J
      obtain ⟨P, hP⟩ : ∃ P, addRes g k = P := ⟨_, rfl⟩
      rw [hP] at R1 R3
      have HP2 := Lib.hid hP; clear hP
      obtain ⟨P1, P2⟩ := P
      go_wp2_with fail
      refine (add_any Aa k ca g wr Ha.out (by omega) (P1, P2) HP2.out).mono ?_
      rintro e w2 ⟨rfl, hbel⟩
      have Hb2 := Lib.hid (Hb.out.below hbel); have Hc2 := Lib.hid (Hc.out.below hbel); have BB2 := Lib.hid (BB.out.trans (hbel.mono BB.out.size))
      clear hbel Hb Hc BB
      go_wp2_with fail
      refine (add_any Ab k cb (turned g k p) w2 Hb2.out (by omega) (P1, P2) R1.out).mono ?_
      rintro e w3 ⟨rfl, hbel⟩
      have Hc3 := Lib.hid (Hc2.out.below hbel); have BB3 := Lib.hid (BB2.out.trans (hbel.mono BB2.out.size))
      clear hbel Hb2 Hc2 BB2
      go_wp2_with fail
      refine (add_any Ac (2 * k) cc (paired g k) w3 Hc3.out (by omega) (0, 0) R2.out).mono ?_
      rintro e w4 ⟨rfl, hbel⟩
      have BB4 := Lib.hid (BB3.out.trans (hbel.mono BB3.out.size))
      clear hbel Hc3 BB3
      have R4 : P2 = 0 ∨ P2 = 10 := R3.out
      rcases R4 with rfl | rfl
      all_goals
        go_wp2
        go_ret
        exact ⟨by first | rfl | (simp [*]; done), BB4.out⟩

theorem none_walk (A : Option Addr) (n c : Nat) (a1 : Int) (w : World) (hn : n = 0 ∨ 500 < n) (hb : n ≤ 9223372036854775807) :
    Calls Try.prog 7 #[.slice A n c, .int .i64 a1] w fun e w' => e = .returned (.bool true) ∧ Below w.heap.size w w' := by
  have N0 : Hid (addRes (fun _ => (0 : Int)) 0 = (0, 0)) := Lib.hid (by decide)
  have n1 : (((n : Int) == 0) = true) ∨ (((n : Int) == 0) = false ∧ decide ((500 : Int) < n) = true) := by
    rcases hn with h | h
    · exact .inl (by simp; omega)
    · exact .inr ⟨by simp; omega, by simp; omega⟩
  clear hn
  rcases n1 with n1 | ⟨n1, n2⟩
  all_goals
    go_enter Try.func7, Try.ntmps7
    go_wp2_with fail
    refine (awake_any _).mono ?_
    rintro e w1 ⟨rfl, hb⟩
    have B1 := Lib.hid hb; clear hb
    go_wp2_with fail
    refine (add_any none 0 0 (fun _ => 0) w1 (Ints.zero _ _) (by omega) (0, 0) N0.out).mono ?_
    rintro e w2 ⟨rfl, hbel⟩
    have B2 := Lib.hid (B1.out.trans (hbel.mono B1.out.size)); clear hbel
    go_wp2
    go_ret
    exact ⟨by first | rfl | (simp [*]; done), B2.out⟩

theorem walkFixedOrder (A : Option Addr) (n c : Nat) (z : List Int) (a1 : Int) (w : World) (h : RowIn w A n c z) (_ha : (Lit.int .i64 a1).wf = true) :
    Calls Try.prog 7 #[.slice A n c, .int .i64 a1] w fun e w' => e = .returned (.bool true) ∧ Below w.heap.size w w' := by
  by_cases hn : n = 0 ∨ 500 < n
  · exact none_walk A n c a1 w hn h.bd
  · have hw : ∃ y : Nat, IntKind.u64.wrap a1 = (y : Int) := by
      refine ⟨(IntKind.u64.wrap a1).toNat, ?_⟩
      have : 0 ≤ IntKind.u64.wrap a1 := by
        unfold IntKind.wrap
        have h1 : IntKind.u64.signed = false := by decide
        rw [h1]
        simp only [Bool.false_and, Bool.false_eq_true, if_false]
        exact Int.emod_nonneg _ (by decide)
      omega
    obtain ⟨y, hy⟩ := hw
    refine order_walk A n c _ a1 w h.ints (by omega) (by omega) y (y % n) hy (by simp) (Nat.mod_lt _ (by omega))
end Go.Proofs.Ytcipphmijdibjaa
