/-
  The law FlexibleAlike: of any Sizes that answers as is asked.
-/
import Derived.Test.YtjlnaadpiohbnaaLaws16
namespace Go.Proofs.Ytjlnaadpiohbnaa
open Go.RowKit

theorem rep_at {x : It16} {n i : Nat} (h : i < n) : itA (List.replicate n x) i = x := by
  rw [itA_get (by simpa using h)]
  simp
/-- boxes that are alike, so far -/
structure AIt (w W : World) (q : Nat) (v : Value) (x : It16) (k : Nat) : Prop where
  below : Below w.heap.size w W
  box : TmAt W q 0 x
  own : ownsT W (q + 1) v (List.replicate k x)
  lt : w.heap.size ≤ q ∧ q < W.heap.size
theorem AIt.of {w W W' : World} {q : Nat} {v : Value} {x : It16} {k : Nat} (h : AIt w W q v x k) (hb : Below W.heap.size W W') : AIt w W' q v x k :=
  ⟨b_next16 h.below hb, h.box.keep h.lt.2 hb, h.own.keep hb, h.lt.1, Nat.lt_of_lt_of_le h.lt.2 hb.size⟩
theorem AIt.put {w W W' : World} {q : Nat} {v v' : Value} {x : It16} {k : Nat} (h : AIt w W q v x k) (hb : Below (q + 1) W W') (ho : ownsT W' (q + 1) v' (List.replicate k x ++ [x])) : AIt w W' q v' x (k + 1) := by
  refine ⟨h.below.trans (hb.mono (by have := h.lt; omega)), ?_, ?_, h.lt.1, Nat.lt_of_lt_of_le h.lt.2 hb.size⟩
  · obtain ⟨a0, a1, a2, a3, a4, a5⟩ := h.box
    have e : ∀ o, W'.cell? ⟨q, o, none⟩ = W.cell? ⟨q, o, none⟩ := fun o => hb.cell (p := ⟨q, o, none⟩) (Nat.lt_succ_self q)
    exact ⟨(e _).trans a0, (e _).trans a1, (e _).trans a2, (e _).trans a3, (e _).trans a4, (e _).trans a5⟩
  · rw [List.replicate_succ']
    exact ho
set_option maxRecDepth 100000 in
set_option maxHeartbeats 16000000 in
theorem alikeW16 (hS : SizesOK 11) (hF : FirstOK 13) (hA : AwakeOK16 15) (x : It16) (many room : Int) (w : World) :
    Calls Try.prog 8 #[tmV x, .int .i64 many, .int .i64 room] w fun e w' => e = .returned (.bool true) ∧ Below w.heap.size w w' := by
  have KA := Lib.hid (fun W => hA W)
  have HS0 := Lib.hid hS
  have HF0 := Lib.hid hF
  clear hS hF hA
  obtain ⟨x0, x1, x2, x3, x4, x5⟩ := x
  unfold tmV
  dsimp only
  have G0 : Hid ((w.alloc (.cells #[.int .i64 x0, .int .i64 x1, .int .i64 x2, .int .i64 x3, .int .i64 x4, .int .i64 x5] 32)).heap[w.heap.size]? = some (.cells #[.int .i64 x0, .int .i64 x1, .int .i64 x2, .int .i64 x3, .int .i64 x4, .int .i64 x5] 32) ∧ Below w.heap.size w (w.alloc (.cells #[.int .i64 x0, .int .i64 x1, .int .i64 x2, .int .i64 x3, .int .i64 x4, .int .i64 x5] 32)) ∧ w.heap.size < (w.alloc (.cells #[.int .i64 x0, .int .i64 x1, .int .i64 x2, .int .i64 x3, .int .i64 x4, .int .i64 x5] 32)).heap.size) := Lib.hid ⟨heap_alloc_new w _, (Below.refl _ w).alloc (Nat.le_refl _) _, by rw [World.size_alloc]; omega⟩
  go_enter Try.func8, Try.ntmps8
  go_upto_region 1 with fail
  generalize w.alloc (.cells #[.int .i64 x0, .int .i64 x1, .int .i64 x2, .int .i64 x3, .int .i64 x4, .int .i64 x5] 32) = w0 at G0 ⊢
  obtain ⟨q, hq⟩ : ∃ q, w.heap.size = q := ⟨_, rfl⟩
  have HQ := Lib.hid hq
  rw [hq]
  rw [hq] at G0
  clear hq
  go_upto_region 3 with (go_at_call 15; (with_reducible refine (KA.out _).mono ?_); rintro e w1 ⟨rfl, hb⟩; have G1 := Lib.hid (show w1.heap[q]? = some (.cells #[.int .i64 x0, .int .i64 x1, .int .i64 x2, .int .i64 x3, .int .i64 x4, .int .i64 x5] 32) from (hb.block q G0.out.2.2).trans G0.out.1); have B1 : Hid (Below w.heap.size w w1) := Lib.hid (by have h := G0.out.2.1; rw [← HQ.out] at h; exact b_next16 h hb); have L1 : Hid (q < w1.heap.size) := Lib.hid (Nat.lt_of_lt_of_le G0.out.2.2 hb.size); clear hb)
  have c1 : w1.cell? ⟨q, 1, none⟩ = some (.int .i64 x1) := by simp [World.cell?, G1.out]
  have c2 : w1.cell? ⟨q, 2, none⟩ = some (.int .i64 x2) := by simp [World.cell?, G1.out]
  have f1 : w1.frozen? ⟨q, 1, none⟩ = false := by simp [World.frozen?, G1.out]
  have f2 : w1.frozen? ⟨q, 2, none⟩ = false := by simp [World.frozen?, G1.out]
  have D : Hid (AIt w ((w1.setCell ⟨q, 1, none⟩ (.int .i64 0)).setCell ⟨q, 2, none⟩ (.int .i64 1099511627776)) q (.slice none 0 0) ⟨x0, 0, 1099511627776, x3, x4, x5⟩ 0) := Lib.hid (by
    refine ⟨(B1.out.setCell (by show w.heap.size ≤ q; rw [HQ.out]; exact Nat.le_refl _) _).setCell (by show w.heap.size ≤ q; rw [HQ.out]; exact Nat.le_refl _) _, ?_, ownsT.nil _ _, by rw [HQ.out]; exact Nat.le_refl _, by simpa [World.setCell] using L1.out⟩
    simp [TmAt, World.cell?, World.setCell, Array.getElem?_modify, G1.out])
  go_upto_region 4 with fail
  clear c1 c2 f1 f2 G1 B1 L1 G0 KA
  generalize (w1.setCell ⟨q, 1, none⟩ (.int .i64 0)).setCell ⟨q, 2, none⟩ (.int .i64 1099511627776) = w2 at D ⊢
  obtain ⟨a0, a1, a2, a3, a4, a5⟩ := D.out.box
  simp only [Nat.zero_add] at a0 a1 a2 a3 a4 a5
  by_cases hm1 : many < 1
  · have dhm1 : decide (many < 1) = true := decide_eq_true hm1
    clear HS0 HF0 hm1
    go_wp2_with fail
    go_ret
    exact ⟨rfl, D.out.below⟩
  have dhm1 : decide (many < 1) = false := decide_eq_false hm1
  replace hm1 : 1 ≤ many := by omega
  by_cases hm2 : 50 < many
  · have dhm2 : decide (50 < many) = true := decide_eq_true hm2
    clear HS0 HF0 hm2
    go_wp2_with fail
    go_ret
    exact ⟨rfl, D.out.below⟩
  have dhm2 : decide (50 < many) = false := decide_eq_false hm2
  replace hm2 : many ≤ 50 := by omega
  by_cases hr1 : room < 0
  · have dhr1 : decide (room < 0) = true := decide_eq_true hr1
    clear HS0 HF0 hr1
    go_wp2_with fail
    go_ret
    exact ⟨rfl, D.out.below⟩
  have dhr1 : decide (room < 0) = false := decide_eq_false hr1
  replace hr1 : 0 ≤ room := by omega
  by_cases hr2 : 68719476736 < room
  · have dhr2 : decide (68719476736 < room) = true := decide_eq_true hr2
    clear HS0 HF0 hr2
    go_wp2_with fail
    go_ret
    exact ⟨rfl, D.out.below⟩
  have dhr2 : decide (68719476736 < room) = false := decide_eq_false hr2
  replace hr2 : room ≤ 68719476736 := by omega
  by_cases hb1 : x0 < 0
  · have dhb1 : decide (x0 < 0) = true := decide_eq_true hb1
    clear HS0 HF0 hb1
    go_wp2_with fail
    go_ret
    exact ⟨rfl, D.out.below⟩
  have dhb1 : decide (x0 < 0) = false := decide_eq_false hb1
  replace hb1 : 0 ≤ x0 := by omega
  by_cases hb2 : 268435456 < x0
  · have dhb2 : decide (268435456 < x0) = true := decide_eq_true hb2
    clear HS0 HF0 hb2
    go_wp2_with fail
    go_ret
    exact ⟨rfl, D.out.below⟩
  have dhb2 : decide (268435456 < x0) = false := decide_eq_false hb2
  replace hb2 : x0 ≤ 268435456 := by omega
  by_cases hg1 : x3 < 0
  · have dhg1 : decide (x3 < 0) = true := decide_eq_true hg1
    clear HS0 HF0 hg1
    go_wp2_with fail
    go_ret
    exact ⟨rfl, D.out.below⟩
  have dhg1 : decide (x3 < 0) = false := decide_eq_false hg1
  replace hg1 : 0 ≤ x3 := by omega
  by_cases hg2 : 1000 < x3
  · have dhg2 : decide (1000 < x3) = true := decide_eq_true hg2
    clear HS0 HF0 hg2
    go_wp2_with fail
    go_ret
    exact ⟨rfl, D.out.below⟩
  have dhg2 : decide (1000 < x3) = false := decide_eq_false hg2
  replace hg2 : x3 ≤ 1000 := by omega
  by_cases hs1 : x4 < 0
  · have dhs1 : decide (x4 < 0) = true := decide_eq_true hs1
    clear HS0 HF0 hs1
    go_wp2_with fail
    go_ret
    exact ⟨rfl, D.out.below⟩
  have dhs1 : decide (x4 < 0) = false := decide_eq_false hs1
  replace hs1 : 0 ≤ x4 := by omega
  by_cases hs2 : 1000 < x4
  · have dhs2 : decide (1000 < x4) = true := decide_eq_true hs2
    clear HS0 HF0 hs2
    go_wp2_with fail
    go_ret
    exact ⟨rfl, D.out.below⟩
  have dhs2 : decide (1000 < x4) = false := decide_eq_false hs2
  replace hs2 : x4 ≤ 1000 := by omega
  by_cases ho1 : x5 < 0
  · have dho1 : decide (x5 < 0) = true := decide_eq_true ho1
    clear HS0 HF0 ho1
    go_wp2_with fail
    go_ret
    exact ⟨rfl, D.out.below⟩
  have dho1 : decide (x5 < 0) = false := decide_eq_false ho1
  replace ho1 : 0 ≤ x5 := by omega
  by_cases ho2 : 268435456 < x5
  · have dho2 : decide (268435456 < x5) = true := decide_eq_true ho2
    clear HS0 HF0 ho2
    go_wp2_with fail
    go_ret
    exact ⟨rfl, D.out.below⟩
  have dho2 : decide (268435456 < x5) = false := decide_eq_false ho2
  replace ho2 : x5 ≤ 268435456 := by omega
  obtain ⟨n, rfl⟩ : ∃ n : Nat, many = n := ⟨many.toNat, by omega⟩
  go_upto_region 6 with fail
  clear a0 a1 a2 a3 a4 a5 dhm1 dhm2 dhr1 dhr2 dhb1 dhb2 dhg1 dhg2 dhs1 dhs2 dho1 dho2
  obtain ⟨x, hx⟩ : ∃ x : It16, x = ⟨x0, 0, 1099511627776, x3, x4, x5⟩ := ⟨_, rfl⟩
  have HX := Lib.hid hx
  have XN : Hid (NearI x ∧ x.least = 0 ∧ x.most = 1099511627776) := Lib.hid (by rw [hx]; exact ⟨⟨by dsimp only; omega, by dsimp only; omega, by dsimp only; omega, by dsimp only; omega, by dsimp only; omega, by dsimp only; omega⟩, rfl, rfl⟩)
  have XB : Hid (∀ y ∈ [x.base, x.least, x.most, x.grow, x.shrink, x.outer], -9223372036854775808 ≤ y ∧ y ≤ 9223372036854775807) := Lib.hid (by
    have h1 := XN.out.1.hbase; have h2 := XN.out.1.hleast; have h3 := XN.out.1.hmost; have h4 := XN.out.1.hgrow; have h5 := XN.out.1.hshrink; have h6 := XN.out.1.houter
    intro y hy
    simp only [List.mem_cons, List.not_mem_nil, or_false] at hy
    rcases hy with rfl | rfl | rfl | rfl | rfl | rfl <;> omega)
  rw [← hx] at D
  clear hx hb1 hb2 hg1 hg2 hs1 hs2 ho1 ho2
  go_wp2_with fail
  go_loopg [7, 8] n (fun g1 vv vi wr => ∃ k : Nat, vi = .int .i64 k ∧ k ≤ n ∧ n - k ≤ g1 ∧ Hid (AIt w wr q vv x k))
  case atStart => exact ⟨0, rfl, by omega, by omega, D⟩
  case round =>
    obtain ⟨k, rfl, hk, hg1, HI⟩ := hrel
    obtain ⟨wo, hwo⟩ : ∃ wo, wo = wr := ⟨_, rfl⟩
    subst hwo
    clear D
    by_cases hlt : k < n
    · have hz : (k : Int) < n := by omega
      have wi : IntKind.i64.wrap ((k : Int) + 1) = (k : Int) + 1 := IntWalk.i64_in _ (by omega)
      obtain ⟨a0, a1, a2, a3, a4, a5⟩ := HI.out.box
      rw [HX.out] at a0 a1 a2 a3 a4 a5
      simp only [Nat.zero_add] at a0 a1 a2 a3 a4 a5
      have TM : Hid (TmIn (wo.alloc (.cells #[.int .i64 x0, .int .i64 0, .int .i64 1099511627776, .int .i64 x3, .int .i64 x4, .int .i64 x5] 32)) (.slice (some ⟨wo.heap.size, 0, none⟩) 1 1) [x]) := Lib.hid (by have h := tms_new (w := wo) [x] (by simp) 32; rw [HX.out] at h ⊢; exact h)
      have BA : Hid (Below wo.heap.size wo (wo.alloc (.cells #[.int .i64 x0, .int .i64 0, .int .i64 1099511627776, .int .i64 x3, .int .i64 x4, .int .i64 x5] 32))) := Lib.hid ((Below.refl _ _).alloc (Nat.le_refl _) _)
      have HI2 := Lib.hid (HI.out.of BA.out)
      clear HS0 HF0
      go_wp2_with ((with_reducible change wpList _ _ _ (Oper.mk (some 81) _ _ _ _ _ :: _) _ _); refine wpList_append_tms rfl _ _ rfl (q + 1) _ (List.replicate k x) rfl HI2.out.own [x] _ rfl TM.out (by simp; omega) HI2.out.lt.2 ?_; intro v5 w5 hO hB _; have I5 := Lib.hid (HI2.out.put hB hO); clear hO hB)
      go_roundg (n - (k + 1))
      case measure => omega
      case rel => exact ⟨k + 1, by go_num, by omega, Nat.le_refl _, I5⟩
    · obtain rfl : k = n := by omega
      have hz : ¬ (k : Int) < k := by omega
      have TI := Lib.hid HI.out.own.tms
      obtain ⟨A, c, ev, -, -, -⟩ := HI.out.own.tms
      subst ev
      rw [List.length_replicate] at TI
      have XA : Hid (∀ i, i < k → itA (List.replicate k x) i = x) := Lib.hid (fun i hi => rep_at hi)
      have NR0 : Hid (NearI x) := Lib.hid XN.out.1
      have KS := Lib.hid (HS0.out (List.replicate k x) _ 0 room wo TI.out (by simp; omega) (fun i hi => by rw [List.length_replicate] at hi; rw [XA.out i hi]; exact XB.out) (by decide) ⟨by omega, by omega⟩)
      have KS2 := Lib.hid (KS.out.mono (R' := fun e w' => ∃ vO f, e = .returned (.tuple #[vO, .int .i64 0]) ∧ Hid (∀ i, i < k → (growI (List.replicate k x) k 0 room = true → f i ≤ f 0 ∧ f 0 ≤ f i + 1) ∧ (growI (List.replicate k x) k 0 room = false → f 0 ≤ f i ∧ f i ≤ f 0 + 1)) ∧ Hid (∀ i, i < k → 0 ≤ f i ∧ f i ≤ 1099511627776) ∧ Hid (ownsI16 w' wo.heap.size vO (listF f k)) ∧ Below wo.heap.size wo w') (by
        rintro e w' ⟨vO, o, z, rfl, h1, h2, hb⟩
        have hI : ∀ i, i < (List.replicate k x).length → NearI (itA (List.replicate k x) i) := fun i hi => by rw [List.length_replicate] at hi; rw [XA.out i hi]; exact NR0.out
        obtain ⟨f, rfl, rfl, h3⟩ := near_sizes (by simp; omega) ⟨by omega, by omega⟩ ⟨by omega, by omega⟩ hI h1
        unfold RunsOf at h3
        rw [List.length_replicate] at h3 h2
        obtain ⟨o, h4, h5⟩ := alike16 (by omega) (by omega) ⟨by omega, by omega⟩ XA.out NR0.out XN.out.2.1 XN.out.2.2 h3
        cases h4
        obtain ⟨o, h6, -, -, -, -, h7⟩ := sizes16 (by omega) ⟨by omega, by omega⟩ ⟨by omega, by omega⟩ (fun i hi => by rw [XA.out i hi]; exact NR0.out) h3
        cases h6
        refine ⟨vO, f, rfl, Lib.hid h5, Lib.hid (fun i hi => ?_), Lib.hid h2, hb⟩
        obtain ⟨y, hy⟩ := h7 i hi
        rw [XA.out i hi] at hy
        rw [hy]
        unfold cI
        rw [XN.out.2.1, XN.out.2.2]
        omega))
      have BI := Lib.hid HI.out.below
      clear KS XB HI XA
      go_upto_region 12 with (go_at_call 11; (with_reducible refine KS2.out.mono ?_); rintro e w5 ⟨vO, f, rfl, FA, FB, O5, hb⟩; have B5 := Lib.hid (b_next16 BI.out hb); have TI5 := Lib.hid (TI.out.keep hb); clear hb)
      obtain ⟨AO, cO, eO⟩ := own_row16 O5.out
      subst eO
      have KF := Lib.hid (first16I HF0.out A k c (List.replicate k x) 0 room w5 TI5.out (by simp) (by omega) ⟨by omega, by omega⟩ (fun i hi => by rw [rep_at hi]; exact NR0.out))
      rw [firstS_near] at KF
      generalize firstS (List.replicate k x) 0 k = s6 at KF
      obtain ⟨g, hg⟩ : ∃ g, growI (List.replicate k x) k 0 room = g := ⟨_, rfl⟩
      rw [hg] at KF FA
      clear hg KS2 HS0 HF0 TI BI
      go_upto_region 15 with (go_at_call 17; (with_reducible refine KF.out.mono ?_); rintro e w6 ⟨rfl, hb⟩; have B6 := Lib.hid (b_next16 B5.out hb); have O6 := Lib.hid (show ownsI16 w6 wo.heap.size _ (listF f k) from own_keep O5.out hb); clear hb)
      go_wp2_with fail
      go_loopg [13] k (fun g1 vi wr => ∃ j : Nat, vi = .int .i64 j ∧ j ≤ k ∧ k - j ≤ g1 ∧ Hid (Below w6.heap.size w6 wr))
      case atStart => exact ⟨0, rfl, by omega, by omega, Lib.hid (Below.refl _ _)⟩
      case round =>
        obtain ⟨j, rfl, hj, hg1, HB⟩ := hrel
        obtain ⟨wp, hwp⟩ : ∃ wp, wp = wr := ⟨_, rfl⟩
        subst hwp
        by_cases hlt : j < k
        · have hz : (j : Int) < k := by omega
          have hz0 : (0 : Int) ≤ j := by omega
          have hzk : (0 : Int) < k := by omega
          have wi : IntKind.i64.wrap ((j : Int) + 1) = (j : Int) + 1 := IntWalk.i64_in _ (by omega)
          obtain ⟨gO, cO', e, -, hgl, hoc⟩ := own_at16 O6.out hlt
          injection e with e1 e2 e3
          subst e1 e3
          clear e2
          obtain ⟨gO2, cO', e, -, -, ho0⟩ := own_at16 O6.out (show 0 < k by omega)
          injection e with e1 e2 e3
          injection e1 with e1
          injection e1 with e1
          subst e1
          clear e2 e3
          have k0 := (HB.out.cell (p := ⟨gO, 0, none⟩) hgl).trans ho0
          have k1 := (HB.out.cell (p := ⟨gO, j, none⟩) hgl).trans hoc
          have F1 := FA.out j hlt
          have F2 := FB.out j hlt
          have F3 := FB.out 0 (by omega)
          clear hoc ho0 hgl
          generalize f 0 = y0 at k0 F1 F3
          generalize f j = y at k1 F1 F2
          have wd0 : IntKind.i64.wrap (y0 - y) = y0 - y := IntWalk.i64_in _ (by omega)
          obtain ⟨d, hd⟩ : ∃ d, y0 - y = d := ⟨_, rfl⟩
          have wd := wd0.trans hd
          have e1 : decide (1 < d) = false := decide_eq_false (by cases g <;> simp at F1 <;> omega)
          have e2 : decide (d < -1) = false := decide_eq_false (by cases g <;> simp at F1 <;> omega)
          have DD : Hid ((g = true → decide (d < 0) = false) ∧ (g = false → decide (0 < d) = false)) := Lib.hid ⟨fun h => decide_eq_false (by subst h; simp at F1; omega), fun h => decide_eq_false (by subst h; simp at F1; omega)⟩
          clear wd0 hd F1 F2 F3
          go_upto_region 18 with fail
          go_quiet (fail)
          cases g with
          | true =>
            have e3 := DD.out.1 rfl
            go_wp2_with fail
            go_roundg (k - (j + 1))
            case measure => omega
            case rel => exact ⟨j + 1, by go_num, by omega, Nat.le_refl _, Lib.hid (b_next16 HB.out (drewN_below _ _ _))⟩
          | false =>
            have e3 := DD.out.2 rfl
            go_wp2_with fail
            go_roundg (k - (j + 1))
            case measure => omega
            case rel => exact ⟨j + 1, by go_num, by omega, Nat.le_refl _, Lib.hid (b_next16 HB.out (drewN_below _ _ _))⟩
        · obtain rfl : j = k := by omega
          have hz : ¬ (j : Int) < j := by omega
          go_wp2_with fail
          go_ret
          exact ⟨rfl, b_next16 B6.out HB.out⟩
end Go.Proofs.Ytjlnaadpiohbnaa
