/-
  The law FlexibleStiff: of any Sizes that answers as is asked.
-/
import Derived.Test.YtjlnaadpiohbnaaLaws16
namespace Go.Proofs.Ytjlnaadpiohbnaa
open Go.RowKit

/-- a box that neither grows nor shrinks -/
def stf (x : It16) : It16 := ⟨x.base, x.least, x.most, 0, 0, x.outer⟩
theorem stf_first (x : It16) : firstI (stf x) = firstI x := rfl
theorem stf_at {l : List It16} {i : Nat} (h : i < l.length) : itA (l.map stf) i = stf (itA l i) := by
  unfold itA
  rw [List.getElem?_map, List.getElem?_eq_getElem h]
  rfl
theorem stf_take {l : List It16} {k : Nat} (h : k < l.length) : (l.take (k + 1)).map stf = (l.take k).map stf ++ [stf (itA l k)] := by
  rw [List.take_succ_eq_append_getElem h, List.map_append, itA_get h]
  rfl
theorem stf_near {l : List It16} {gap room : Int} (h : NearR l gap room) : NearR (l.map stf) gap room := by
  refine ⟨by rw [List.length_map]; exact h.hn, h.hgap, h.hroom, fun i hi => ?_⟩
  rw [List.length_map] at hi
  obtain ⟨h1, h2⟩ := h.hI i hi
  rw [stf_at hi]
  exact ⟨⟨h1.hbase, h1.hleast, h1.hmost, ⟨Int.le_refl _, by show (0 : Int) ≤ 1000; omega⟩, ⟨Int.le_refl _, by show (0 : Int) ≤ 1000; omega⟩, h1.houter⟩, h2⟩
/-- what stiff boxes are told -/
theorem stf_told {l : List It16} {gap room : Int} (h : NearR l gap room) {o : List Int} {z : Int} (hs : SizesIs (l.map stf) gap room o z) : o = listF (fun i => firstI (itA l i)) l.length ∧ z = 0 := by
  obtain ⟨f, rfl, rfl, ht⟩ := near_told16 (stf_near h) hs
  rw [List.length_map] at ht ⊢
  refine ⟨?_, rfl⟩
  have e : ∀ i, i < l.length → f i = firstI (itA l i) := fun i hi => by
    rw [← stf_first, ← stf_at hi]
    by_cases hr : room < 0
    · exact ht.first hr i hi
    · cases hg : growI (l.map stf) l.length gap room with
      | true => exact (ht.gway (by omega) hg i hi).2 (by rw [stf_at hi]; rfl)
      | false => exact (ht.sway (by omega) hg i hi).2 (by rw [stf_at hi]; rfl)
  unfold listF
  exact List.map_congr_left fun i hi => e i (List.mem_range.1 hi)
/-- what boxes are told in a room that their first sizes fill -/
theorem full_told {l : List It16} {gap room N : Int} (h : NearR l gap room) (hN : firstS l gap l.length = N) (h0 : 0 ≤ N) {o : List Int} {z : Int} (hs : SizesIs l gap N o z) : o = listF (fun i => firstI (itA l i)) l.length ∧ z = 0 := by
  have hI : ∀ i, i < l.length → NearI (itA l i) := fun i hi => (h.hI i hi).1
  have hb := first_bd (l := l) (k := l.length) h.hn h.hgap hI
  obtain ⟨f, rfl, rfl, hx⟩ := near_sizes h.hn h.hgap ⟨h0, by omega⟩ hI hs
  have hN' : allI l l.length + aroundI l gap l.length = N := hN
  obtain ⟨o, h1, h2⟩ := stiff16 h.hn h.hgap (by omega) hI (r := some f) (by rw [hN']; exact hx)
  cases h1
  refine ⟨?_, rfl⟩
  unfold listF
  exact List.map_congr_left fun i hi => h2 i (List.mem_range.1 hi)
/-- as long as each base is the first size -/
def sameT (l : List It16) (N : Int) : Nat → Int
  | 0 => N
  | k + 1 => if (itA l k).base = firstI (itA l k) then sameT l N k else -1
theorem sameT_or (l : List It16) (N : Int) : ∀ k, sameT l N k = N ∨ sameT l N k = -1
  | 0 => .inl rfl
  | k + 1 => by
    unfold sameT
    split
    · exact sameT_or l N k
    · exact .inr rfl

set_option maxRecDepth 100000 in
set_option maxHeartbeats 16000000 in
theorem stiffW16 (hS : SizesOK 11) (hF : FirstOK 13) (hA : AwakeOK16 15) (A : Option Addr) (n c : Nat) (l : List It16) (gap room : Int) (w : World) (hv : TmIn w (.slice A n c) l) (hl : l.length = n)
    (hbig : ∀ i, i < l.length → ∀ y ∈ [(itA l i).base, (itA l i).least, (itA l i).most, (itA l i).grow, (itA l i).shrink, (itA l i).outer], -9223372036854775808 ≤ y ∧ y ≤ 9223372036854775807) :
    Calls Try.prog 6 #[.slice A n c, .int .i64 gap, .int .i64 room] w fun e w' => e = .returned (.bool true) ∧ Below w.heap.size w w' := by
  have KA := Lib.hid (fun W => hA W)
  have HV := Lib.hid hv
  have HL := Lib.hid hl
  obtain ⟨bg, hbg⟩ : ∃ b, decide (NearR l gap room) = b := ⟨_, rfl⟩
  have KN := Lib.hid (fun W (hW : TmIn W (.slice A n c) l) => near16 A n c l gap room W hW hl bg hbg)
  have HS0 := Lib.hid hS
  have HB0 := Lib.hid hbig
  have KF0 := Lib.hid (fun W (hW : TmIn W (.slice A n c) l) (h : NearR l gap 0) => first16 hF A n c l gap room W hW hl h)
  have KO := Lib.hid (fun x W => hF x W)
  clear hv hA hS hbig hF hl
  cases bg with
  | false =>
    clear HS0 HB0 KF0 KO
    go_enter Try.func6, Try.ntmps6
    go_wp2_with (first
      | (go_at_call 15; (with_reducible refine (KA.out _).mono ?_); rintro e w1 ⟨rfl, hb⟩; have B1 := Lib.hid hb; clear hb)
      | (go_at_call 16; (with_reducible refine (KN.out _ (HV.out.keep B1.out)).mono ?_); rintro e w2 ⟨rfl, hb⟩; have B2 := Lib.hid (b_next16 B1.out hb); clear hb))
    go_ret
    exact ⟨rfl, B2.out⟩
  | true =>
  have NR : Hid (NearR l gap room) := Lib.hid (of_decide_eq_true hbg)
  have hn1 : n ≤ 100 := by have := NR.out.hn; have := HL.out; omega
  have NI : Hid (∀ i, i < n → NearI (itA l i)) := Lib.hid (fun i hi => (NR.out.hI i (by rw [HL.out]; exact hi)).1)
  have KS1 := Lib.hid (fun v W (hW : TmIn W v (l.map stf)) => (HS0.out (l.map stf) v gap room W hW (by rw [List.length_map]; have := HL.out; omega) (fun i hi y hy => by
      rw [List.length_map] at hi
      rw [stf_at hi] at hy
      have h := NI.out i (by have := HL.out; omega)
      have h1 := h.hbase; have h2 := h.hleast; have h3 := h.hmost; have h6 := h.houter
      simp only [stf, List.mem_cons, List.not_mem_nil, or_false] at hy
      rcases hy with rfl | rfl | rfl | rfl | rfl | rfl <;> omega) NR.out.ig NR.out.ir).mono (R' := fun e w' => ∃ vO, e = .returned (.tuple #[vO, .int .i64 0]) ∧ Hid (ownsI16 w' W.heap.size vO (listF (fun i => firstI (itA l i)) n)) ∧ Below W.heap.size W w') (by
    rintro e w' ⟨vO, o, z, rfl, h1, h2, hb⟩
    obtain ⟨rfl, rfl⟩ := stf_told NR.out h1
    rw [HL.out] at h2
    exact ⟨vO, rfl, Lib.hid h2, hb⟩))
  have FSB : Hid (I64 (firstS l gap n)) := Lib.hid (by have := first_bd (l := l) (k := n) hn1 NR.out.hgap NI.out; exact ⟨by omega, by omega⟩)
  have KS2 := Lib.hid (fun W (hW : TmIn W (.slice A n c) l) (h0 : 0 ≤ firstS l gap n) => (HS0.out l (.slice A n c) gap (firstS l gap n) W hW (by have := HL.out; omega) HB0.out NR.out.ig FSB.out).mono (R' := fun e w' => ∃ vO, e = .returned (.tuple #[vO, .int .i64 0]) ∧ Hid (ownsI16 w' W.heap.size vO (listF (fun i => firstI (itA l i)) n)) ∧ Below W.heap.size W w') (by
    rintro e w' ⟨vO, o, z, rfl, h1, h2, hb⟩
    obtain ⟨rfl, rfl⟩ := full_told NR.out (by rw [HL.out]) h0 h1
    rw [HL.out] at h2
    exact ⟨vO, rfl, Lib.hid h2, hb⟩))
  have KF := Lib.hid (fun W hW => KF0.out W hW NR.out.zero)
  clear HS0 HB0 KF0 hbg NI
  go_enter Try.func6, Try.ntmps6
  go_upto_region 5 with (first
    | (go_at_call 15; (with_reducible refine (KA.out _).mono ?_); rintro e w1 ⟨rfl, hb⟩; have B1 := Lib.hid hb; clear hb)
    | (go_at_call 16; (with_reducible refine (KN.out _ (HV.out.keep B1.out)).mono ?_); rintro e w2 ⟨rfl, hb⟩; have B2 := Lib.hid (b_next16 B1.out hb); clear hb))
  have V2 := Lib.hid (HV.out.keep B2.out)
  clear KA KN B1 HV
  go_wp2_with fail
  go_loopg [7, 8] n (fun g1 vv vi wr => ∃ k : Nat, vi = .int .i64 k ∧ k ≤ n ∧ n - k ≤ g1 ∧ Hid (ownsT wr w2.heap.size vv ((l.take k).map stf) ∧ Below w2.heap.size w2 wr))
  case atStart => exact ⟨0, rfl, by omega, by omega, Lib.hid ⟨ownsT.nil _ _, Below.refl _ _⟩⟩
  case round =>
    obtain ⟨k, rfl, hk, hg1, HI⟩ := hrel
    obtain ⟨wo, hwo⟩ : ∃ wo, wo = wr := ⟨_, rfl⟩
    subst hwo
    by_cases hlt : k < n
    · have hz : (k : Int) < n := by omega
      have hz0 : (0 : Int) ≤ k := by omega
      have wi : IntKind.i64.wrap ((k : Int) + 1) = (k : Int) + 1 := IntWalk.i64_in _ (by omega)
      obtain ⟨bb, off, c1, e, -, -, -⟩ := V2.out.get (i := k) (by have := HL.out; omega)
      injection e with e1 e2 e3
      subst e1 e3
      clear e2
      obtain ⟨a0, a1, a2, a3, a4, a5⟩ := V2.out.later (k := k) (by have := HL.out; omega) wo HI.out.2
      have ST := Lib.hid (stf_take (l := l) (k := k) (by have := HL.out; omega))
      have LT : Hid (((l.take k).map stf).length ≤ 100) := Lib.hid (by rw [List.length_map, List.length_take]; omega)
      generalize itA l k = x at a0 a1 a2 a3 a4 a5 ST
      generalize (l.take k).map stf = m at HI ST LT
      have B8 : Hid (Below wo.heap.size wo (wo.alloc (.cells (tmCells (stf x)).toArray 32)) ∧ Below wo.heap.size wo ((wo.alloc (.cells (tmCells (stf x)).toArray 32)).alloc (.cells (tmCells (stf x)).toArray 32))) := Lib.hid ⟨(Below.refl _ _).alloc (Nat.le_refl _) _, ((Below.refl _ _).alloc (Nat.le_refl _) _).alloc (by rw [World.size_alloc]; omega) _⟩
      have TM : Hid (TmIn ((wo.alloc (.cells (tmCells (stf x)).toArray 32)).alloc (.cells (tmCells (stf x)).toArray 32)) (.slice (some ⟨(wo.alloc (.cells (tmCells (stf x)).toArray 32)).heap.size, 0, none⟩) 1 1) [stf x]) := Lib.hid (tms_new (w := wo.alloc (.cells (tmCells (stf x)).toArray 32)) [stf x] (by simp) 32)
      rw [World.size_alloc] at TM
      have O2 := Lib.hid (HI.out.1.keep B8.out.2)
      have S2 : Hid (w2.heap.size ≤ ((wo.alloc (.cells (tmCells (stf x)).toArray 32)).alloc (.cells (tmCells (stf x)).toArray 32)).heap.size) := Lib.hid (Nat.le_trans HI.out.2.size B8.out.2.size)
      have BW : Hid (Below w2.heap.size w2 ((wo.alloc (.cells (tmCells (stf x)).toArray 32)).alloc (.cells (tmCells (stf x)).toArray 32))) := Lib.hid (b_next16 HI.out.2 B8.out.2)
      clear B8 KO KF KS1 KS2
      obtain ⟨x0, x1, x2, x3, x4, x5⟩ := x
      unfold tmCells stf at TM O2 S2 BW
      dsimp only at TM O2 S2 BW a0 a1 a2 a3 a4 a5
      go_wp2_with ((with_reducible change wpList _ _ _ (Oper.mk (some 40) _ _ _ _ _ :: _) _ _); refine wpList_append_tms rfl _ _ rfl w2.heap.size _ m rfl O2.out [_] _ rfl TM.out (by have := LT.out; simp; omega) S2.out ?_; intro v5 w5 hO hB _; have I5 := Lib.hid (show ownsT w5 w2.heap.size v5 (m ++ [stf ⟨x0, x1, x2, x3, x4, x5⟩]) ∧ Below w2.heap.size w2 w5 from ⟨hO, BW.out.trans hB⟩); clear hO hB)
      go_roundg (n - (k + 1))
      case measure => omega
      case rel => exact ⟨k + 1, by go_num, by omega, Nat.le_refl _, by rw [ST.out]; exact I5⟩
    · obtain rfl : k = n := by omega
      have hz : ¬ (k : Int) < k := by omega
      have et : l.take k = l := by rw [← HL.out, List.take_length]
      rw [et] at HI
      have TI := Lib.hid HI.out.1.tms
      have BI := Lib.hid HI.out.2
      obtain ⟨A7, c7, ev, -, -, -⟩ := HI.out.1.tms
      subst ev
      have KS3 := Lib.hid (KS1.out _ wo TI.out)
      rw [List.length_map, HL.out] at KS3
      have el : (l.map stf).length = k := by rw [List.length_map]; exact HL.out
      rw [el]
      clear el et HI KS1 TI
      go_upto_region 13 with (go_at_call 11; (with_reducible refine KS3.out.mono ?_); rintro e w5 ⟨vO, rfl, O5, hb⟩; have B5 := Lib.hid (b_next16 BI.out hb); clear hb)
      obtain ⟨AO, cO, eO⟩ := own_row16 O5.out
      subst eO
      have V5 := Lib.hid (V2.out.keep B5.out)
      have KF1 := Lib.hid (KF.out w5 V5.out)
      clear KS3 BI KF
      go_upto_region 16 with (go_at_call 17; (with_reducible refine KF1.out.mono ?_); rintro e w6 ⟨rfl, hb⟩; have B6 := Lib.hid (b_next16 B5.out hb); have O6 := Lib.hid (show ownsI16 w6 wo.heap.size _ (listF (fun i => firstI (itA l i)) k) from own_keep O5.out hb); have V6 := Lib.hid (V5.out.keep hb); clear hb)
      obtain ⟨N, hN⟩ : ∃ N, firstS l gap k = N := ⟨_, rfl⟩
      rw [hN] at KS2 ⊢
      clear KF1 B5 O5 V5 hN
      go_wp2_with fail
      go_loopg [12, 14] k (fun g1 vn vi wr => ∃ j : Nat, vi = .int .i64 j ∧ vn = .int .i64 (sameT l N j) ∧ j ≤ k ∧ k - j ≤ g1 ∧ Hid (Below w6.heap.size w6 wr))
      case atStart => exact ⟨0, rfl, rfl, by omega, by omega, Lib.hid (Below.refl _ _)⟩
      case round =>
        obtain ⟨j, rfl, rfl, hj, hg1, HB⟩ := hrel
        obtain ⟨wp, hwp⟩ : ∃ wp, wp = wr := ⟨_, rfl⟩
        subst hwp
        by_cases hlt : j < k
        · have hz : (j : Int) < k := by omega
          have hz0 : (0 : Int) ≤ j := by omega
          have wi : IntKind.i64.wrap ((j : Int) + 1) = (j : Int) + 1 := IntWalk.i64_in _ (by omega)
          obtain ⟨bb, off, c1, e, -, -, -⟩ := V6.out.get (i := j) (by have := HL.out; omega)
          injection e with e1 e2 e3
          subst e1 e3
          clear e2
          obtain ⟨gO, cO', e, -, hgl, hoc⟩ := own_at16 O6.out hlt
          injection e with e1 e2 e3
          subst e1 e3
          clear e2
          have CT : Hid (∀ W, Below wp.heap.size wp W → TmAt W bb (off + j * 6) (itA l j) ∧ W.cell? ⟨gO, j, none⟩ = some (.int .i64 (firstI (itA l j)))) := Lib.hid (fun W hW => ⟨V6.out.later (k := j) (by have := HL.out; omega) W (b_next16 HB.out hW), ((b_next16 HB.out hW).cell (p := ⟨gO, j, none⟩) hgl).trans hoc⟩)
          have KO1 := Lib.hid (fun W => KO.out (itA l j) W)
          have SE : Hid (sameT l N (j + 1) = if (itA l j).base = firstI (itA l j) then sameT l N j else -1) := Lib.hid rfl
          have HB2 := Lib.hid (fun W (hW : Below wp.heap.size wp W) => b_next16 HB.out hW)
          clear hgl hoc
          generalize firstI (itA l j) = fi at CT KO1 SE
          generalize sameT l N j = s at SE ⊢
          generalize itA l j = x at CT KO1 SE
          obtain ⟨x0, x1, x2, x3, x4, x5⟩ := x
          unfold TmAt at CT
          unfold tmV at KO1
          dsimp only at CT KO1 SE
          have yy : ((fi : Int) != fi) = (!true) := by simp
          go_upto_region 19 with fail
          clear KO KS2
          refine' wp_region_below [opV _, opV _, opV _, opV _, opV _, opV _, opV _, opV _, opV (.int .i64 fi), opV _] rfl (by kernel_rfl) ⟨?s0, ?s1, ?s2, ?s3, ?s4, ?s5, ?s6, ?s7, ?s8, ?s9, trivial⟩ ?fin
          case s0 =>
            refine BStep.of [] [] (opV _) (by kernel_rfl) (fun _ _ => by kernel_rfl) rfl ?_
            intro vs wv hB hA
            clear hA
            simp only [fillP]
            have ct := (CT.out wv hB).1; have a0 := ct.1; have a1 := ct.2.1; have a2 := ct.2.2.1; have a3 := ct.2.2.2.1; have a4 := ct.2.2.2.2.1; have a5 := ct.2.2.2.2.2; have a6 := (CT.out wv hB).2; clear ct; go_wp2_with fail
            refine postB_val ?_ (Below.refl _ _)
            simp only [List.getElem?_cons_succ, List.getElem?_cons_zero]
            rfl
          case s1 =>
            refine BStep.of [] [] (opV _) (by kernel_rfl) (fun _ _ => by kernel_rfl) rfl ?_
            intro vs wv hB hA
            clear hA
            simp only [fillP]
            have ct := (CT.out wv hB).1; have a0 := ct.1; have a1 := ct.2.1; have a2 := ct.2.2.1; have a3 := ct.2.2.2.1; have a4 := ct.2.2.2.2.1; have a5 := ct.2.2.2.2.2; have a6 := (CT.out wv hB).2; clear ct; go_wp2_with fail
            refine postB_val ?_ (Below.refl _ _)
            simp only [List.getElem?_cons_succ, List.getElem?_cons_zero]
            rfl
          case s2 =>
            refine BStep.of [0, 1] [(70, 0), (71, 1)] (opV _) (by kernel_rfl) (fun _ _ => by kernel_rfl) rfl ?_
            intro vs wv hB hA
            have h0 : vs 0 = _ := hA.1
            have h1 : vs 1 = _ := hA.2.1
            clear hA
            simp only [fillP, List.setIfInBounds_toArray, List.set_cons_zero, List.set_cons_succ, h0, h1]
            have ct := (CT.out wv hB).1; have a0 := ct.1; have a1 := ct.2.1; have a2 := ct.2.2.1; have a3 := ct.2.2.2.1; have a4 := ct.2.2.2.2.1; have a5 := ct.2.2.2.2.2; have a6 := (CT.out wv hB).2; clear ct; go_wp2_with fail
            refine postB_val ?_ (Below.refl _ _)
            simp only [List.getElem?_cons_succ, List.getElem?_cons_zero]
            rfl
          case s3 =>
            refine BStep.of [2] [(72, 2)] (opV _) (by kernel_rfl) (fun _ _ => by kernel_rfl) rfl ?_
            intro vs wv hB hA
            have h2 : vs 2 = _ := hA.1
            clear hA
            simp only [fillP, List.setIfInBounds_toArray, List.set_cons_zero, List.set_cons_succ, h2]
            have ct := (CT.out wv hB).1; have a0 := ct.1; have a1 := ct.2.1; have a2 := ct.2.2.1; have a3 := ct.2.2.2.1; have a4 := ct.2.2.2.2.1; have a5 := ct.2.2.2.2.2; have a6 := (CT.out wv hB).2; clear ct; go_wp2_with fail
            refine postB_val ?_ (Below.refl _ _)
            simp only [List.getElem?_cons_succ, List.getElem?_cons_zero]
            rfl
          case s4 =>
            refine BStep.of [] [] (opV _) (by kernel_rfl) (fun _ _ => by kernel_rfl) rfl ?_
            intro vs wv hB hA
            clear hA
            simp only [fillP]
            have ct := (CT.out wv hB).1; have a0 := ct.1; have a1 := ct.2.1; have a2 := ct.2.2.1; have a3 := ct.2.2.2.1; have a4 := ct.2.2.2.2.1; have a5 := ct.2.2.2.2.2; have a6 := (CT.out wv hB).2; clear ct; go_wp2_with fail
            refine postB_val ?_ (Below.refl _ _)
            simp only [List.getElem?_cons_succ, List.getElem?_cons_zero]
            rfl
          case s5 =>
            refine BStep.of [] [] (opV _) (by kernel_rfl) (fun _ _ => by kernel_rfl) rfl ?_
            intro vs wv hB hA
            clear hA
            simp only [fillP]
            have ct := (CT.out wv hB).1; have a0 := ct.1; have a1 := ct.2.1; have a2 := ct.2.2.1; have a3 := ct.2.2.2.1; have a4 := ct.2.2.2.2.1; have a5 := ct.2.2.2.2.2; have a6 := (CT.out wv hB).2; clear ct; go_wp2_with fail
            refine postB_val ?_ (Below.refl _ _)
            simp only [List.getElem?_cons_succ, List.getElem?_cons_zero]
            rfl
          case s6 =>
            refine BStep.of [4, 5] [(74, 4), (75, 5)] (opV _) (by kernel_rfl) (fun _ _ => by kernel_rfl) rfl ?_
            intro vs wv hB hA
            have h4 : vs 4 = _ := hA.1
            have h5 : vs 5 = _ := hA.2.1
            clear hA
            simp only [fillP, List.setIfInBounds_toArray, List.set_cons_zero, List.set_cons_succ, h4, h5]
            have ct := (CT.out wv hB).1; have a0 := ct.1; have a1 := ct.2.1; have a2 := ct.2.2.1; have a3 := ct.2.2.2.1; have a4 := ct.2.2.2.2.1; have a5 := ct.2.2.2.2.2; have a6 := (CT.out wv hB).2; clear ct; go_wp2_with fail
            refine postB_val ?_ (Below.refl _ _)
            simp only [List.getElem?_cons_succ, List.getElem?_cons_zero]
            rfl
          case s7 =>
            refine BStep.of [6] [(76, 6)] (opV _) (by kernel_rfl) (fun _ _ => by kernel_rfl) rfl ?_
            intro vs wv hB hA
            have h6 : vs 6 = _ := hA.1
            clear hA
            simp only [fillP, List.setIfInBounds_toArray, List.set_cons_zero, List.set_cons_succ, h6]
            have ct := (CT.out wv hB).1; have a0 := ct.1; have a1 := ct.2.1; have a2 := ct.2.2.1; have a3 := ct.2.2.2.1; have a4 := ct.2.2.2.2.1; have a5 := ct.2.2.2.2.2; have a6 := (CT.out wv hB).2; clear ct; go_wp2_with fail
            refine postB_val ?_ (Below.refl _ _)
            simp only [List.getElem?_cons_succ, List.getElem?_cons_zero]
            rfl
          case s8 =>
            refine BStep.of [7] [(77, 7)] (opV (.int .i64 fi)) (by kernel_rfl) (fun _ _ => by kernel_rfl) rfl ?_
            intro vs wv hB hA
            have h7 : vs 7 = _ := hA.1
            clear hA
            simp only [fillP, List.setIfInBounds_toArray, List.set_cons_zero, List.set_cons_succ, h7]
            (go_wp2_with (go_at_call 13; (with_reducible refine (KO1.out _).mono ?_); rintro e w7 ⟨rfl, hb⟩)); exact postB_val rfl hb
          case s9 =>
            refine BStep.of [3, 8] [(73, 3), (78, 8)] (opV _) (by kernel_rfl) (fun _ _ => by kernel_rfl) rfl ?_
            intro vs wv hB hA
            have h3 : vs 3 = _ := hA.1
            have h8 : vs 8 = _ := hA.2.1
            clear hA
            simp only [fillP, List.setIfInBounds_toArray, List.set_cons_zero, List.set_cons_succ, h3, h8]
            have ct := (CT.out wv hB).1; have a0 := ct.1; have a1 := ct.2.1; have a2 := ct.2.2.1; have a3 := ct.2.2.2.1; have a4 := ct.2.2.2.2.1; have a5 := ct.2.2.2.2.2; have a6 := (CT.out wv hB).2; clear ct; go_wp2_with fail
            refine postB_val ?_ (Below.refl _ _)
            simp only [List.getElem?_cons_succ, List.getElem?_cons_zero]
            rfl
          case fin =>
            refine fin_of [0, 1, 2, 3, 4, 5, 6, 7, 8, 9] [(70, 0), (71, 1), (72, 2), (73, 3), (74, 4), (75, 5), (76, 6), (77, 7), (78, 8), (79, 9)] (by kernel_rfl) (fun _ _ => by kernel_rfl) ?_
            intro vs wv hB hA
            have h0 : vs 0 = _ := hA.1
            have h1 : vs 1 = _ := hA.2.1
            have h2 : vs 2 = _ := hA.2.2.1
            have h3 : vs 3 = _ := hA.2.2.2.1
            have h4 : vs 4 = _ := hA.2.2.2.2.1
            have h5 : vs 5 = _ := hA.2.2.2.2.2.1
            have h6 : vs 6 = _ := hA.2.2.2.2.2.2.1
            have h7 : vs 7 = _ := hA.2.2.2.2.2.2.2.1
            have h8 : vs 8 = _ := hA.2.2.2.2.2.2.2.2.1
            have h9 : vs 9 = _ := hA.2.2.2.2.2.2.2.2.2.1
            clear hA
            simp only [fillP, List.setIfInBounds_toArray, List.set_cons_zero, List.set_cons_succ, h0, h1, h2, h3, h4, h5, h6, h7, h8, h9]
            skip
            go_upto_region 21 with fail
            clear h0 h1 h2 h3 h4 h5 h6 h7 h8 h9
            have CT : Hid (∀ W, Below wv.heap.size wv W → _) := Lib.hid (fun W hW => CT.out W (b_next16 hB hW))
            have HB3 := Lib.hid (fun W (hW : Below wv.heap.size wv W) => HB2.out W (b_next16 hB hW))
            clear hB HB2
            obtain ⟨wq, hwq⟩ : ∃ wq, wq = wv := ⟨_, rfl⟩
            subst hwq
            by_cases hx : x0 = fi
            · subst hx
              have SE2 : Hid (sameT l N (j + 1) = s) := Lib.hid (by rw [SE.out, if_pos rfl])
              have y2 : ((x0 : Int) != x0) = (!true) := by simp
              clear SE
              refine' wp_region_below [opV _, opV _, opV _, opV _, opV _, opV _, opV _, opV _, opV _, opV (.int .i64 x0), opV _] rfl (by kernel_rfl) ⟨?s0, ?s1, ?s2, ?s3, ?s4, ?s5, ?s6, ?s7, ?s8, ?s9, ?s10, trivial⟩ ?fin
              case s0 =>
                refine BStep.of [] [] (opV _) (by kernel_rfl) (fun _ _ => by kernel_rfl) rfl ?_
                intro vs wv hB hA
                clear hA
                simp only [fillP]
                have ct := (CT.out wv hB).1; have a0 := ct.1; have a1 := ct.2.1; have a2 := ct.2.2.1; have a3 := ct.2.2.2.1; have a4 := ct.2.2.2.2.1; have a5 := ct.2.2.2.2.2; have a6 := (CT.out wv hB).2; clear ct; go_wp2_with fail
                refine postB_val ?_ (Below.refl _ _)
                simp only [List.getElem?_cons_succ, List.getElem?_cons_zero]
                rfl
              case s1 =>
                refine BStep.of [] [] (opV _) (by kernel_rfl) (fun _ _ => by kernel_rfl) rfl ?_
                intro vs wv hB hA
                clear hA
                simp only [fillP]
                have ct := (CT.out wv hB).1; have a0 := ct.1; have a1 := ct.2.1; have a2 := ct.2.2.1; have a3 := ct.2.2.2.1; have a4 := ct.2.2.2.2.1; have a5 := ct.2.2.2.2.2; have a6 := (CT.out wv hB).2; clear ct; go_wp2_with fail
                refine postB_val ?_ (Below.refl _ _)
                simp only [List.getElem?_cons_succ, List.getElem?_cons_zero]
                rfl
              case s2 =>
                refine BStep.of [0, 1] [(80, 0), (81, 1)] (opV _) (by kernel_rfl) (fun _ _ => by kernel_rfl) rfl ?_
                intro vs wv hB hA
                have h0 : vs 0 = _ := hA.1
                have h1 : vs 1 = _ := hA.2.1
                clear hA
                simp only [fillP, List.setIfInBounds_toArray, List.set_cons_zero, List.set_cons_succ, h0, h1]
                have ct := (CT.out wv hB).1; have a0 := ct.1; have a1 := ct.2.1; have a2 := ct.2.2.1; have a3 := ct.2.2.2.1; have a4 := ct.2.2.2.2.1; have a5 := ct.2.2.2.2.2; have a6 := (CT.out wv hB).2; clear ct; go_wp2_with fail
                refine postB_val ?_ (Below.refl _ _)
                simp only [List.getElem?_cons_succ, List.getElem?_cons_zero]
                rfl
              case s3 =>
                refine BStep.of [2] [(82, 2)] (opV _) (by kernel_rfl) (fun _ _ => by kernel_rfl) rfl ?_
                intro vs wv hB hA
                have h2 : vs 2 = _ := hA.1
                clear hA
                simp only [fillP, List.setIfInBounds_toArray, List.set_cons_zero, List.set_cons_succ, h2]
                have ct := (CT.out wv hB).1; have a0 := ct.1; have a1 := ct.2.1; have a2 := ct.2.2.1; have a3 := ct.2.2.2.1; have a4 := ct.2.2.2.2.1; have a5 := ct.2.2.2.2.2; have a6 := (CT.out wv hB).2; clear ct; go_wp2_with fail
                refine postB_val ?_ (Below.refl _ _)
                simp only [List.getElem?_cons_succ, List.getElem?_cons_zero]
                rfl
              case s4 =>
                refine BStep.of [3] [(83, 3)] (opV _) (by kernel_rfl) (fun _ _ => by kernel_rfl) rfl ?_
                intro vs wv hB hA
                have h3 : vs 3 = _ := hA.1
                clear hA
                simp only [fillP, List.setIfInBounds_toArray, List.set_cons_zero, List.set_cons_succ, h3]
                have ct := (CT.out wv hB).1; have a0 := ct.1; have a1 := ct.2.1; have a2 := ct.2.2.1; have a3 := ct.2.2.2.1; have a4 := ct.2.2.2.2.1; have a5 := ct.2.2.2.2.2; have a6 := (CT.out wv hB).2; clear ct; go_wp2_with fail
                refine postB_val ?_ (Below.refl _ _)
                simp only [List.getElem?_cons_succ, List.getElem?_cons_zero]
                rfl
              case s5 =>
                refine BStep.of [] [] (opV _) (by kernel_rfl) (fun _ _ => by kernel_rfl) rfl ?_
                intro vs wv hB hA
                clear hA
                simp only [fillP]
                have ct := (CT.out wv hB).1; have a0 := ct.1; have a1 := ct.2.1; have a2 := ct.2.2.1; have a3 := ct.2.2.2.1; have a4 := ct.2.2.2.2.1; have a5 := ct.2.2.2.2.2; have a6 := (CT.out wv hB).2; clear ct; go_wp2_with fail
                refine postB_val ?_ (Below.refl _ _)
                simp only [List.getElem?_cons_succ, List.getElem?_cons_zero]
                rfl
              case s6 =>
                refine BStep.of [] [] (opV _) (by kernel_rfl) (fun _ _ => by kernel_rfl) rfl ?_
                intro vs wv hB hA
                clear hA
                simp only [fillP]
                have ct := (CT.out wv hB).1; have a0 := ct.1; have a1 := ct.2.1; have a2 := ct.2.2.1; have a3 := ct.2.2.2.1; have a4 := ct.2.2.2.2.1; have a5 := ct.2.2.2.2.2; have a6 := (CT.out wv hB).2; clear ct; go_wp2_with fail
                refine postB_val ?_ (Below.refl _ _)
                simp only [List.getElem?_cons_succ, List.getElem?_cons_zero]
                rfl
              case s7 =>
                refine BStep.of [5, 6] [(85, 5), (86, 6)] (opV _) (by kernel_rfl) (fun _ _ => by kernel_rfl) rfl ?_
                intro vs wv hB hA
                have h5 : vs 5 = _ := hA.1
                have h6 : vs 6 = _ := hA.2.1
                clear hA
                simp only [fillP, List.setIfInBounds_toArray, List.set_cons_zero, List.set_cons_succ, h5, h6]
                have ct := (CT.out wv hB).1; have a0 := ct.1; have a1 := ct.2.1; have a2 := ct.2.2.1; have a3 := ct.2.2.2.1; have a4 := ct.2.2.2.2.1; have a5 := ct.2.2.2.2.2; have a6 := (CT.out wv hB).2; clear ct; go_wp2_with fail
                refine postB_val ?_ (Below.refl _ _)
                simp only [List.getElem?_cons_succ, List.getElem?_cons_zero]
                rfl
              case s8 =>
                refine BStep.of [7] [(87, 7)] (opV _) (by kernel_rfl) (fun _ _ => by kernel_rfl) rfl ?_
                intro vs wv hB hA
                have h7 : vs 7 = _ := hA.1
                clear hA
                simp only [fillP, List.setIfInBounds_toArray, List.set_cons_zero, List.set_cons_succ, h7]
                have ct := (CT.out wv hB).1; have a0 := ct.1; have a1 := ct.2.1; have a2 := ct.2.2.1; have a3 := ct.2.2.2.1; have a4 := ct.2.2.2.2.1; have a5 := ct.2.2.2.2.2; have a6 := (CT.out wv hB).2; clear ct; go_wp2_with fail
                refine postB_val ?_ (Below.refl _ _)
                simp only [List.getElem?_cons_succ, List.getElem?_cons_zero]
                rfl
              case s9 =>
                refine BStep.of [8] [(88, 8)] (opV (.int .i64 x0)) (by kernel_rfl) (fun _ _ => by kernel_rfl) rfl ?_
                intro vs wv hB hA
                have h8 : vs 8 = _ := hA.1
                clear hA
                simp only [fillP, List.setIfInBounds_toArray, List.set_cons_zero, List.set_cons_succ, h8]
                (go_wp2_with (go_at_call 13; (with_reducible refine (KO1.out _).mono ?_); rintro e w7 ⟨rfl, hb⟩)); exact postB_val rfl hb
              case s10 =>
                refine BStep.of [4, 9] [(84, 4), (89, 9)] (opV _) (by kernel_rfl) (fun _ _ => by kernel_rfl) rfl ?_
                intro vs wv hB hA
                have h4 : vs 4 = _ := hA.1
                have h9 : vs 9 = _ := hA.2.1
                clear hA
                simp only [fillP, List.setIfInBounds_toArray, List.set_cons_zero, List.set_cons_succ, h4, h9]
                have ct := (CT.out wv hB).1; have a0 := ct.1; have a1 := ct.2.1; have a2 := ct.2.2.1; have a3 := ct.2.2.2.1; have a4 := ct.2.2.2.2.1; have a5 := ct.2.2.2.2.2; have a6 := (CT.out wv hB).2; clear ct; go_wp2_with fail
                refine postB_val ?_ (Below.refl _ _)
                simp only [List.getElem?_cons_succ, List.getElem?_cons_zero]
                rfl
              case fin =>
                refine fin_of [0, 1, 2, 3, 4, 5, 6, 7, 8, 9, 10] [(80, 0), (81, 1), (82, 2), (83, 3), (84, 4), (85, 5), (86, 6), (87, 7), (88, 8), (89, 9), (90, 10)] (by kernel_rfl) (fun _ _ => by kernel_rfl) ?_
                intro vs wv hB hA
                have h0 : vs 0 = _ := hA.1
                have h1 : vs 1 = _ := hA.2.1
                have h2 : vs 2 = _ := hA.2.2.1
                have h3 : vs 3 = _ := hA.2.2.2.1
                have h4 : vs 4 = _ := hA.2.2.2.2.1
                have h5 : vs 5 = _ := hA.2.2.2.2.2.1
                have h6 : vs 6 = _ := hA.2.2.2.2.2.2.1
                have h7 : vs 7 = _ := hA.2.2.2.2.2.2.2.1
                have h8 : vs 8 = _ := hA.2.2.2.2.2.2.2.2.1
                have h9 : vs 9 = _ := hA.2.2.2.2.2.2.2.2.2.1
                have h10 : vs 10 = _ := hA.2.2.2.2.2.2.2.2.2.2.1
                clear hA
                simp only [fillP, List.setIfInBounds_toArray, List.set_cons_zero, List.set_cons_succ, h0, h1, h2, h3, h4, h5, h6, h7, h8, h9, h10]
                go_wp2_with fail
                go_roundg (k - (j + 1))
                case measure => omega
                case rel => exact ⟨j + 1, by go_num, by rw [SE2.out], by omega, Nat.le_refl _, Lib.hid (HB3.out _ hB)⟩
            · have SE2 : Hid (sameT l N (j + 1) = -1) := Lib.hid (by rw [SE.out, if_neg hx])
              have y2 : ((x0 : Int) != fi) = (!false) := by simp; exact hx
              clear SE hx
              refine' wp_region_below [opV _, opV _, opV _, opV _, opV _, opV _, opV _, opV _, opV _, opV (.int .i64 fi), opV _] rfl (by kernel_rfl) ⟨?s0, ?s1, ?s2, ?s3, ?s4, ?s5, ?s6, ?s7, ?s8, ?s9, ?s10, trivial⟩ ?fin
              case s0 =>
                refine BStep.of [] [] (opV _) (by kernel_rfl) (fun _ _ => by kernel_rfl) rfl ?_
                intro vs wv hB hA
                clear hA
                simp only [fillP]
                have ct := (CT.out wv hB).1; have a0 := ct.1; have a1 := ct.2.1; have a2 := ct.2.2.1; have a3 := ct.2.2.2.1; have a4 := ct.2.2.2.2.1; have a5 := ct.2.2.2.2.2; have a6 := (CT.out wv hB).2; clear ct; go_wp2_with fail
                refine postB_val ?_ (Below.refl _ _)
                simp only [List.getElem?_cons_succ, List.getElem?_cons_zero]
                rfl
              case s1 =>
                refine BStep.of [] [] (opV _) (by kernel_rfl) (fun _ _ => by kernel_rfl) rfl ?_
                intro vs wv hB hA
                clear hA
                simp only [fillP]
                have ct := (CT.out wv hB).1; have a0 := ct.1; have a1 := ct.2.1; have a2 := ct.2.2.1; have a3 := ct.2.2.2.1; have a4 := ct.2.2.2.2.1; have a5 := ct.2.2.2.2.2; have a6 := (CT.out wv hB).2; clear ct; go_wp2_with fail
                refine postB_val ?_ (Below.refl _ _)
                simp only [List.getElem?_cons_succ, List.getElem?_cons_zero]
                rfl
              case s2 =>
                refine BStep.of [0, 1] [(80, 0), (81, 1)] (opV _) (by kernel_rfl) (fun _ _ => by kernel_rfl) rfl ?_
                intro vs wv hB hA
                have h0 : vs 0 = _ := hA.1
                have h1 : vs 1 = _ := hA.2.1
                clear hA
                simp only [fillP, List.setIfInBounds_toArray, List.set_cons_zero, List.set_cons_succ, h0, h1]
                have ct := (CT.out wv hB).1; have a0 := ct.1; have a1 := ct.2.1; have a2 := ct.2.2.1; have a3 := ct.2.2.2.1; have a4 := ct.2.2.2.2.1; have a5 := ct.2.2.2.2.2; have a6 := (CT.out wv hB).2; clear ct; go_wp2_with fail
                refine postB_val ?_ (Below.refl _ _)
                simp only [List.getElem?_cons_succ, List.getElem?_cons_zero]
                rfl
              case s3 =>
                refine BStep.of [2] [(82, 2)] (opV _) (by kernel_rfl) (fun _ _ => by kernel_rfl) rfl ?_
                intro vs wv hB hA
                have h2 : vs 2 = _ := hA.1
                clear hA
                simp only [fillP, List.setIfInBounds_toArray, List.set_cons_zero, List.set_cons_succ, h2]
                have ct := (CT.out wv hB).1; have a0 := ct.1; have a1 := ct.2.1; have a2 := ct.2.2.1; have a3 := ct.2.2.2.1; have a4 := ct.2.2.2.2.1; have a5 := ct.2.2.2.2.2; have a6 := (CT.out wv hB).2; clear ct; go_wp2_with fail
                refine postB_val ?_ (Below.refl _ _)
                simp only [List.getElem?_cons_succ, List.getElem?_cons_zero]
                rfl
              case s4 =>
                refine BStep.of [3] [(83, 3)] (opV _) (by kernel_rfl) (fun _ _ => by kernel_rfl) rfl ?_
                intro vs wv hB hA
                have h3 : vs 3 = _ := hA.1
                clear hA
                simp only [fillP, List.setIfInBounds_toArray, List.set_cons_zero, List.set_cons_succ, h3]
                have ct := (CT.out wv hB).1; have a0 := ct.1; have a1 := ct.2.1; have a2 := ct.2.2.1; have a3 := ct.2.2.2.1; have a4 := ct.2.2.2.2.1; have a5 := ct.2.2.2.2.2; have a6 := (CT.out wv hB).2; clear ct; go_wp2_with fail
                refine postB_val ?_ (Below.refl _ _)
                simp only [List.getElem?_cons_succ, List.getElem?_cons_zero]
                rfl
              case s5 =>
                refine BStep.of [] [] (opV _) (by kernel_rfl) (fun _ _ => by kernel_rfl) rfl ?_
                intro vs wv hB hA
                clear hA
                simp only [fillP]
                have ct := (CT.out wv hB).1; have a0 := ct.1; have a1 := ct.2.1; have a2 := ct.2.2.1; have a3 := ct.2.2.2.1; have a4 := ct.2.2.2.2.1; have a5 := ct.2.2.2.2.2; have a6 := (CT.out wv hB).2; clear ct; go_wp2_with fail
                refine postB_val ?_ (Below.refl _ _)
                simp only [List.getElem?_cons_succ, List.getElem?_cons_zero]
                rfl
              case s6 =>
                refine BStep.of [] [] (opV _) (by kernel_rfl) (fun _ _ => by kernel_rfl) rfl ?_
                intro vs wv hB hA
                clear hA
                simp only [fillP]
                have ct := (CT.out wv hB).1; have a0 := ct.1; have a1 := ct.2.1; have a2 := ct.2.2.1; have a3 := ct.2.2.2.1; have a4 := ct.2.2.2.2.1; have a5 := ct.2.2.2.2.2; have a6 := (CT.out wv hB).2; clear ct; go_wp2_with fail
                refine postB_val ?_ (Below.refl _ _)
                simp only [List.getElem?_cons_succ, List.getElem?_cons_zero]
                rfl
              case s7 =>
                refine BStep.of [5, 6] [(85, 5), (86, 6)] (opV _) (by kernel_rfl) (fun _ _ => by kernel_rfl) rfl ?_
                intro vs wv hB hA
                have h5 : vs 5 = _ := hA.1
                have h6 : vs 6 = _ := hA.2.1
                clear hA
                simp only [fillP, List.setIfInBounds_toArray, List.set_cons_zero, List.set_cons_succ, h5, h6]
                have ct := (CT.out wv hB).1; have a0 := ct.1; have a1 := ct.2.1; have a2 := ct.2.2.1; have a3 := ct.2.2.2.1; have a4 := ct.2.2.2.2.1; have a5 := ct.2.2.2.2.2; have a6 := (CT.out wv hB).2; clear ct; go_wp2_with fail
                refine postB_val ?_ (Below.refl _ _)
                simp only [List.getElem?_cons_succ, List.getElem?_cons_zero]
                rfl
              case s8 =>
                refine BStep.of [7] [(87, 7)] (opV _) (by kernel_rfl) (fun _ _ => by kernel_rfl) rfl ?_
                intro vs wv hB hA
                have h7 : vs 7 = _ := hA.1
                clear hA
                simp only [fillP, List.setIfInBounds_toArray, List.set_cons_zero, List.set_cons_succ, h7]
                have ct := (CT.out wv hB).1; have a0 := ct.1; have a1 := ct.2.1; have a2 := ct.2.2.1; have a3 := ct.2.2.2.1; have a4 := ct.2.2.2.2.1; have a5 := ct.2.2.2.2.2; have a6 := (CT.out wv hB).2; clear ct; go_wp2_with fail
                refine postB_val ?_ (Below.refl _ _)
                simp only [List.getElem?_cons_succ, List.getElem?_cons_zero]
                rfl
              case s9 =>
                refine BStep.of [8] [(88, 8)] (opV (.int .i64 fi)) (by kernel_rfl) (fun _ _ => by kernel_rfl) rfl ?_
                intro vs wv hB hA
                have h8 : vs 8 = _ := hA.1
                clear hA
                simp only [fillP, List.setIfInBounds_toArray, List.set_cons_zero, List.set_cons_succ, h8]
                (go_wp2_with (go_at_call 13; (with_reducible refine (KO1.out _).mono ?_); rintro e w7 ⟨rfl, hb⟩)); exact postB_val rfl hb
              case s10 =>
                refine BStep.of [4, 9] [(84, 4), (89, 9)] (opV _) (by kernel_rfl) (fun _ _ => by kernel_rfl) rfl ?_
                intro vs wv hB hA
                have h4 : vs 4 = _ := hA.1
                have h9 : vs 9 = _ := hA.2.1
                clear hA
                simp only [fillP, List.setIfInBounds_toArray, List.set_cons_zero, List.set_cons_succ, h4, h9]
                have ct := (CT.out wv hB).1; have a0 := ct.1; have a1 := ct.2.1; have a2 := ct.2.2.1; have a3 := ct.2.2.2.1; have a4 := ct.2.2.2.2.1; have a5 := ct.2.2.2.2.2; have a6 := (CT.out wv hB).2; clear ct; go_wp2_with fail
                refine postB_val ?_ (Below.refl _ _)
                simp only [List.getElem?_cons_succ, List.getElem?_cons_zero]
                rfl
              case fin =>
                refine fin_of [0, 1, 2, 3, 4, 5, 6, 7, 8, 9, 10] [(80, 0), (81, 1), (82, 2), (83, 3), (84, 4), (85, 5), (86, 6), (87, 7), (88, 8), (89, 9), (90, 10)] (by kernel_rfl) (fun _ _ => by kernel_rfl) ?_
                intro vs wv hB hA
                have h0 : vs 0 = _ := hA.1
                have h1 : vs 1 = _ := hA.2.1
                have h2 : vs 2 = _ := hA.2.2.1
                have h3 : vs 3 = _ := hA.2.2.2.1
                have h4 : vs 4 = _ := hA.2.2.2.2.1
                have h5 : vs 5 = _ := hA.2.2.2.2.2.1
                have h6 : vs 6 = _ := hA.2.2.2.2.2.2.1
                have h7 : vs 7 = _ := hA.2.2.2.2.2.2.2.1
                have h8 : vs 8 = _ := hA.2.2.2.2.2.2.2.2.1
                have h9 : vs 9 = _ := hA.2.2.2.2.2.2.2.2.2.1
                have h10 : vs 10 = _ := hA.2.2.2.2.2.2.2.2.2.2.1
                clear hA
                simp only [fillP, List.setIfInBounds_toArray, List.set_cons_zero, List.set_cons_succ, h0, h1, h2, h3, h4, h5, h6, h7, h8, h9, h10]
                go_wp2_with fail
                go_roundg (k - (j + 1))
                case measure => omega
                case rel => exact ⟨j + 1, by go_num, by rw [SE2.out], by omega, Nat.le_refl _, Lib.hid (HB3.out _ hB)⟩
        · obtain rfl : j = k := by omega
          have hz : ¬ (j : Int) < j := by omega
          have B7 := Lib.hid (b_next16 B6.out HB.out)
          have O7 := Lib.hid (show ownsI16 wp wo.heap.size _ (listF (fun i => firstI (itA l i)) j) from own_keep O6.out HB.out)
          have V7 := Lib.hid (V6.out.keep HB.out)
          have SO := Lib.hid (sameT_or l N j)
          generalize sameT l N j = s at SO ⊢
          clear HB B6 O6 V6 KO
          by_cases hs : s < 0
          · have ds : decide (s < 0) = true := decide_eq_true hs
            clear KS2 SO
            go_wp2_with fail
            go_ret
            exact ⟨rfl, b_next16 B2.out B7.out⟩
          · have ds : decide (s < 0) = false := decide_eq_false hs
            obtain rfl : s = N := by rcases SO.out with h | h <;> omega
            have KS4 := Lib.hid (KS2.out wp V7.out (by omega))
            replace hs : 0 ≤ s := by omega
            clear KS2 SO
            go_upto_region 26 with (go_at_call 11; (with_reducible refine KS4.out.mono ?_); rintro e w8 ⟨vP, rfl, O8, hb⟩; have B8 := Lib.hid (b_next16 B7.out hb); have O9 := Lib.hid (show ownsI16 w8 wo.heap.size _ (listF (fun i => firstI (itA l i)) j) from own_keep O7.out hb); clear hb)
            obtain ⟨AP, cP, eP⟩ := own_row16 O8.out
            subst eP
            clear KS4 B7 O7 V7
            go_wp2_with fail
            go_loopg [17] j (fun g1 vi wr => ∃ i : Nat, vi = .int .i64 i ∧ i ≤ j ∧ j - i ≤ g1 ∧ Hid (Below w8.heap.size w8 wr))
            case atStart => exact ⟨0, rfl, by omega, by omega, Lib.hid (Below.refl _ _)⟩
            case round =>
              obtain ⟨i, rfl, hi, hg1, HB⟩ := hrel
              obtain ⟨wq, hwq⟩ : ∃ wq, wq = wr := ⟨_, rfl⟩
              subst hwq
              by_cases hlt : i < j
              · have hz : (i : Int) < j := by omega
                have hz0 : (0 : Int) ≤ i := by omega
                have wi : IntKind.i64.wrap ((i : Int) + 1) = (i : Int) + 1 := IntWalk.i64_in _ (by omega)
                obtain ⟨q1, c5, e, -, hq1, hc1⟩ := own_at16 O8.out hlt
                injection e with e1 e2 e3
                subst e1 e3
                clear e2
                obtain ⟨q2, c6, e, -, hq2, hc2⟩ := own_at16 O9.out hlt
                injection e with e1 e2 e3
                subst e1 e3
                clear e2
                have m1 := (HB.out.cell (p := ⟨q1, i, none⟩) hq1).trans hc1
                have m2 := (HB.out.cell (p := ⟨q2, i, none⟩) hq2).trans hc2
                clear hc1 hc2 hq1 hq2
                generalize firstI (itA l i) = y at m1 m2
                have yy : ((y : Int) != y) = (!true) := by simp
                go_upto_region 31 with fail
                go_quiet (fail)
                go_wp2_with fail
                go_roundg (j - (i + 1))
                case measure => omega
                case rel => exact ⟨i + 1, by go_num, by omega, Nat.le_refl _, Lib.hid (b_next16 HB.out (drewN_below _ _ _))⟩
              · obtain rfl : i = j := by omega
                have hz : ¬ (i : Int) < i := by omega
                go_wp2_with fail
                go_ret
                exact ⟨rfl, b_next16 B2.out (b_next16 B8.out HB.out)⟩
end Go.Proofs.Ytjlnaadpiohbnaa
