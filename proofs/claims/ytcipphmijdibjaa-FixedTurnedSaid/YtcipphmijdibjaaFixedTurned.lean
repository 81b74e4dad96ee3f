/-
  The law FixedTurned: the shares of a total and of its opposite are opposites; so are parts; weights so many times as great have the same shares.
-/
import Derived.Test.YtcipphmijdibjaaAwake
import Derived.Test.YtcipphmijdibjaaDiv
import Derived.Test.YtcipphmijdibjaaFixedBack
import Derived.Test.YtcipphmijdibjaaTurnMath
namespace Go.Proofs.Ytcipphmijdibjaa
open Go.RowKit

theorem partRes_neg {n x : Int} (hx : Fit x) : partRes n (-x) = (-(partRes n x).1, (partRes n x).2) := by
  have hx' : Fit (-x) := by unfold Fit at *; omega
  unfold partRes
  by_cases h : n < 0 ∨ 100000 < n
  · rw [if_pos h, if_pos h]; rfl
  · rw [if_neg h, if_neg h, if_pos hx, if_pos hx', Int.mul_neg, Int.neg_tdiv]
    generalize (n * x).tdiv 10000 = y
    by_cases hy : Fit y
    · rw [pair_yes hy, pair_yes (by unfold Fit at *; omega)]
    · rw [pair_no hy, pair_no (by unfold Fit at *; omega)]; rfl
def timesRow (f : Nat → Int) (m : Int) (k : Nat) : List Value := ((List.range k).map (fun j => f j * m)).map (Value.int .i64)
theorem timesRow_snoc (f : Nat → Int) (m : Int) (k : Nat) : timesRow f m k ++ [.int .i64 (f k * m)] = timesRow f m (k + 1) := by
  unfold timesRow
  rw [List.range_succ, List.map_append, List.map_append]; rfl
theorem mul_bd {y m : Int} (h1 : 0 ≤ y) (h2 : y ≤ 1099511627776) (h3 : 1 ≤ m) (h4 : m ≤ 1000) : 0 ≤ y * m ∧ y * m ≤ 1099511627776000 := by
  have a := Int.mul_nonneg h1 (show 0 ≤ m by omega)
  have b : y * m ≤ 1099511627776 * m := Int.mul_le_mul_of_nonneg_right h2 (by omega)
  omega

set_option maxRecDepth 100000 in
set_option maxHeartbeats 4000000 in
theorem walkFixedTurned (t : Int) (A : Option Addr) (n c : Nat) (z : List Int) (np m : Int) (w : World) (_ht : (Lit.int .i64 t).wf = true) (h : RowIn w A n c z) (_hn : (Lit.int .i64 np).wf = true) (_hm : (Lit.int .i64 m).wf = true) :
    Calls Try.prog 9 #[.int .i64 t, .slice A n c, .int .i64 np, .int .i64 m] w fun e w' => e = .returned (.bool true) ∧ Below w.heap.size w w' := by
  clear _ht _hn _hm
  have hbn := h.bd
  have HI := Lib.hid h.ints
  generalize (fun i => z.getD i 0) = f at HI
  clear h
  by_cases hbig : 200 < n
  · go_enter Try.func9, Try.ntmps9
    go_wp2_with fail
    refine (awake_any _).mono ?_
    rintro e w1 ⟨rfl, hb⟩
    have B := Lib.hid hb
    clear hb
    go_wp2_with fail
    go_ret
    exact ⟨rfl, B.out⟩
  · by_cases hm1 : m < 1
    · go_enter Try.func9, Try.ntmps9
      go_wp2_with fail
      refine (awake_any _).mono ?_
      rintro e w1 ⟨rfl, hb⟩
      have B := Lib.hid hb
      clear hb
      go_wp2_with fail
      go_ret
      exact ⟨rfl, B.out⟩
    · by_cases hm2 : 1000 < m
      · go_enter Try.func9, Try.ntmps9
        go_wp2_with fail
        refine (awake_any _).mono ?_
        rintro e w1 ⟨rfl, hb⟩
        have B := Lib.hid hb
        clear hb
        go_wp2_with fail
        go_ret
        exact ⟨rfl, B.out⟩
      · obtain ⟨x, hx⟩ : ∃ x, len t = x := ⟨_, rfl⟩
        have fx := len_fit t
        rw [hx] at fx
        have X0 := Lib.hid hx
        have FX := Lib.hid fx
        clear hx
        obtain ⟨x1, x2⟩ := fx
        obtain ⟨i0, hi, hz0, hz1, hz2⟩ := info_parts info_int
        go_enter Try.func9, Try.ntmps9
        go_wp2_with fail
        refine (awake_any _).mono ?_
        rintro e w1 ⟨rfl, hb⟩
        have B1 := Lib.hid hb
        have I1 := Lib.hid (HI.out.below hb)
        clear hb HI
        go_wp2_with fail
        refine (len_any t _ x X0.out).mono ?_
        rintro e w2 ⟨rfl, rfl⟩
        go_wp2
        go_loopg [9, 10] n (fun g1 vm vi wr => ∃ k : Nat, vi = .int .i64 k ∧ k ≤ n ∧ n - k ≤ g1 ∧ Hid (∀ j, j < k → 0 ≤ f j ∧ f j ≤ 1099511627776) ∧ Hid (wr.ownsRow w1.heap.size 3 1 vm k (timesRow f m k)) ∧ Hid (Below w1.heap.size w1 wr))
        case atStart => exact ⟨0, rfl, by omega, by omega, Lib.hid (fun j hj => absurd hj (by omega)), Lib.hid (World.ownsRow_nil _ _ _ _), Lib.hid (Below.refl _ _)⟩
        case round =>
          obtain ⟨k, rfl, hk, hg1, HW, HO, HB⟩ := hrel
          by_cases hlt : k < n
          · obtain ⟨bl, off, rfl, hbl, hc⟩ := (I1.out.below HB.out).at_ hlt
            clear hbl
            by_cases hw : 0 ≤ f k ∧ f k ≤ 1099511627776
            · have HW2 : Hid (∀ j, j < k + 1 → 0 ≤ f j ∧ f j ≤ 1099511627776) := Lib.hid (fun j hj => by
                by_cases e : j = k
                · rw [e]; exact hw
                · exact HW.out j (by omega))
              obtain ⟨hw1, hw2⟩ := hw
              have mb := mul_bd hw1 hw2 (by omega) (by omega : m ≤ 1000)
              have SN := Lib.hid (timesRow_snoc f m k)
              generalize f k = y at hc hw1 hw2 mb SN
              have n1 : ¬ y < 0 := by omega
              have n2 : ¬ 1099511627776 < y := by omega
              obtain ⟨m1, m2⟩ := mb
              have OA := Lib.hid (HO.out.alloc (.cells #[.int .i64 (y * m)] 3))
              have sz := HB.out.size
              have C1 : Hid (∀ j u, ([Value.int .i64 (y * m)])[j]? = some u → (wr.alloc (.cells #[.int .i64 (y * m)] 3)).cell? (Addr.add ⟨wr.heap.size, 0, none⟩ j) = some u) := Lib.hid (fun j u hj => by
                match j, hj with
                | 0, hj => simp at hj; subst hj; simp [Addr.add, World.cell?_alloc_at])
              have C2 : Hid (∀ u ∈ [Value.int .i64 (y * m)], u.oneCell' = true) := Lib.hid (fun u hu => by simp at hu; subst hu; rfl)
              go_wp2_with (at_builtin; refine wpList_append_own _ rfl _ _ 22 rfl w1.heap.size 3 i0 (.int .i64 0) 1 8 Try.underlying22 hi hz0 hz1 hz2 rfl (by decide) _ k _ rfl OA.out ⟨wr.heap.size, 0, none⟩ 1 1 [.int .i64 (y * m)] rfl rfl C1.out C2.out (by unfold maxLen; omega) (by omega) (by simp; omega) ?_)
              intro v' w3 hown hgrow _
              rw [SN.out] at hown
              have HO2 := Lib.hid hown
              have HB2 : Hid (Below w1.heap.size w1 w3) := Lib.hid ((HB.out.alloc sz _).grown hgrow (by simp; omega) (fun g e => by
                rcases HO.out.2 with ⟨e', _⟩ | ⟨g', cap, cur, e', hge, _⟩
                · rw [e'] at e; cases e
                · rw [e'] at e; cases e; exact hge))
              clear hown hgrow HO OA C1 C2 HB
              go_wp2
              go_roundg (n - (k + 1))
              case measure => omega
              case rel => exact ⟨k + 1, by go_num, by omega, Nat.le_refl _, HW2, HO2, HB2⟩
            · have BB : Hid (Below w.heap.size w wr) := Lib.hid (B1.out.trans (HB.out.mono B1.out.size))
              generalize f k = y at hc hw
              clear HW HO HB
              by_cases hy : y < 0
              · clear hw
                go_wp2
                go_ret
                exact ⟨rfl, BB.out⟩
              · have hy2 : 1099511627776 < y := by omega
                clear hw
                go_wp2
                go_ret
                exact ⟨rfl, BB.out⟩
          · obtain rfl : n = k := by omega
            obtain ⟨v, hv⟩ : ∃ v : Nat → Nat, ∀ i, i < n → (v i : Int) = f i := ⟨fun i => (f i).toNat, fun i hi => by have := (HW.out i hi).1; show ((f i).toNat : Int) = f i; omega⟩
            obtain ⟨mN, hmN⟩ : ∃ mN : Nat, (mN : Int) = m := ⟨m.toNat, by omega⟩
            have VB : Hid (∀ i, i < n → v i ≤ 1099511627776) := Lib.hid (fun i hi => by have := hv i hi; have := (HW.out i hi).2; omega)
            have VM : Hid (∀ i, i < n → v i * mN ≤ 1125899906842624) := Lib.hid (fun i hi => by
              have a := Nat.mul_le_mul (VB.out i hi) (show mN ≤ 1000 by omega)
              omega)
            have I2 : Hid (Ints wr A n (fun i => (v i : Int))) := Lib.hid ((I1.out.below HB.out).congr (fun i hi => (hv i hi).symm))
            obtain ⟨Am, cm, rfl, hI⟩ : ∃ Am cm, u9 = Value.slice Am n cm ∧ Ints wr Am n (fun i => ((v i * mN : Nat) : Int)) := by
              rcases HO.out.2 with ⟨e, e0⟩ | ⟨g, cap, cur, e, _⟩
              · exact ⟨none, 0, by rw [e, e0], by rw [e0]; exact Ints.zero _ _⟩
              · subst e
                refine ⟨some ⟨g, 0, none⟩, cap, rfl, ?_⟩
                refine Ints.of_own (zs := (List.range n).map (fun j => f j * m)) HO.out (fun i hi => ?_) (fun i hi => ?_)
                · simp [hi, ← hv i hi, ← hmN]
                · have := VM.out i hi; omega
            have I3 := Lib.hid hI
            have BB : Hid (Below w.heap.size w wr) := Lib.hid (B1.out.trans (HB.out.mono B1.out.size))
            have mpos : Hid (0 < mN) := Lib.hid (by omega)
            have FN : Hid (Fit (-x)) := Lib.hid (by have := FX.out; unfold Fit at *; omega)
            clear hv hI HW HO HB I1 B1 hmN
            go_wp2_with fail
            refine (share_yes x n c A v _ FX.out (by omega) (fun i hi => by have := VB.out i hi; omega) I2.out (.inr div_any)).mono ?_
            rintro e w3 ⟨g1, X, rfl, hw, hb, hg, hX⟩
            have SX := Lib.hid hX
            have W1 := Lib.hid hw
            have I2b := Lib.hid (I2.out.below hb)
            have I3b := Lib.hid (I3.out.below hb)
            have B3 := Lib.hid (BB.out.trans (hb.mono BB.out.size))
            clear hw hb hg hX BB I2 I3
            go_wp2_with fail
            refine (share_yes (-x) n c A v _ FN.out (by omega) (fun i hi => by have := VB.out i hi; omega) I2b.out (.inr div_any)).mono ?_
            rintro e w4 ⟨g2, Y, rfl, hw, hb, hg, hY⟩
            have SY := Lib.hid hY
            have W2 := Lib.hid hw
            have W1b := Lib.hid (W1.out.below hb W1.out.lt)
            have I3c := Lib.hid (I3b.out.below hb)
            have B4 := Lib.hid (B3.out.trans (hb.mono B3.out.size))
            clear hw hb hg hY B3 I2b I3b W1
            go_wp2_with fail
            refine (share_yes x n cm Am (fun i => v i * mN) _ FX.out (by omega) VM.out I3c.out (.inr div_any)).mono ?_
            rintro e w5 ⟨g3, Z, rfl, hw, hb, hg, hZ⟩
            have SZ := Lib.hid hZ
            have W3 := Lib.hid hw
            have W1c := Lib.hid (W1b.out.below hb W1b.out.lt)
            have W2c := Lib.hid (W2.out.below hb W2.out.lt)
            have B5 := Lib.hid (B4.out.trans (hb.mono B4.out.size))
            clear hw hb hg hZ B4 I3c W1b W2
            have XY : Hid (∀ i, i < n → X i = - Y i) := Lib.hid (SX.out.neg SY.out (fun h0 => SX.out.zero h0))
            have XZ : Hid (∀ i, i < n → X i = Z i) := Lib.hid (by
              obtain ⟨R, hR, hZ⟩ := SZ.out
              exact SX.out.uniq ⟨R, hR.times mpos.out, hZ⟩)
            have XB : Hid (∀ i, i < n → -1099511629824 ≤ X i ∧ X i ≤ 1099511629824) := Lib.hid (by
              obtain ⟨R, hR, hX⟩ := SX.out
              have hb := hR.bd (by have := FX.out; unfold Fit at this; omega) (by omega)
              intro i hi
              have := hb i hi
              rw [hX i hi]
              split <;> omega)
            clear SX SY SZ VB VM
            go_wp2
            go_loopg [17] n (fun g1 vi wr => ∃ k : Nat, vi = .int .i64 k ∧ k ≤ n ∧ n - k ≤ g1 ∧ Hid (Drawn w5 wr))
            case atStart => exact ⟨0, rfl, by omega, by omega, Lib.hid ⟨0, rfl⟩⟩
            case round =>
              obtain ⟨k, rfl, hk, hg1, HR⟩ := hrel
              obtain ⟨q, rfl⟩ := HR.out
              clear HR
              by_cases hlt2 : k < n
              · have c1 := (W1c.out.cell k).trans (cellsOf_get hlt2)
                have c2 := (W2c.out.cell k).trans (cellsOf_get hlt2)
                have c3 := (W3.out.cell k).trans (cellsOf_get hlt2)
                have e1 := XY.out k hlt2
                have e2 := XZ.out k hlt2
                have xb := XB.out k hlt2
                have ey : Y k = - X k := by omega
                rw [ey] at c2
                rw [← e2] at c3
                clear e1 e2 ey
                generalize X k = y at c1 c2 c3 xb
                have q1 : (y != y) = false := by simp
                have q2 : IntKind.i64.wrap (- -y) = y := by rw [Int.neg_neg]; exact IntWalk.i64_in _ (by omega)
                have q3 : IntKind.i64.wrap y = y := IntWalk.i64_in _ (by omega)
                have z1 : (0 : Int) ≤ k := by omega
                have z2 : (k : Int) < n := by omega
                go_wp2_with fail
                go_quiet (fail)
                go_wp2
                go_roundg (n - (k + 1))
                case measure => omega
                case rel => exact ⟨k + 1, by go_num, by omega, Nat.le_refl _, Lib.hid ⟨_, rfl⟩⟩
              · have hlt2z : ¬ (k : Int) < n := by omega
                obtain ⟨p, hp⟩ : ∃ p, partRes np x = p := ⟨_, rfl⟩
                obtain ⟨p1, p2⟩ := p
                have P1 := Lib.hid hp
                have P2 : Hid (partRes np (-x) = (-p1, p2)) := Lib.hid (by rw [partRes_neg FX.out, hp])
                have pb : -1099511627776 ≤ p1 ∧ p1 ≤ 1099511627776 := by
                  have e : p1 = (partRes np x).1 := by rw [hp]
                  rw [e]
                  unfold partRes
                  split
                  · simp
                  · split
                    · generalize (np * x).tdiv 10000 = y
                      by_cases hy : Fit y
                      · rw [pair_yes hy]; exact hy
                      · rw [pair_no hy]; simp
                    · simp
                clear hp
                have bX : Hid (Big x) := Lib.hid (by unfold Big; omega)
                have bN : Hid (Big (-x)) := Lib.hid (by unfold Big; omega)
                have pp : (p1 == p1) = true := by simp
                have pe : (p2 == p2) = true := by simp
                go_wp2_with fail
                refine (part_any np x bX.out _ _ P1.out).mono ?_
                rintro e w6 ⟨rfl, hb⟩
                have B6 := Lib.hid ((below_drewN B5.out q).trans (hb.mono B5.out.size))
                clear hb B5
                go_wp2_with fail
                refine (part_any np (-x) bN.out _ _ P2.out).mono ?_
                rintro e w7 ⟨rfl, hb⟩
                have B7 := Lib.hid (B6.out.trans (hb.mono B6.out.size))
                clear hb B6
                go_wp2_with fail
                go_ret
                exact ⟨rfl, B7.out⟩
end Go.Proofs.Ytcipphmijdibjaa
