/-
  The document's Sizes.
-/
import Derived.Test.YtjlnaadpiohbnaaRefRound16
namespace Go.Proofs.Ytjlnaadpiohbnaa
open Go.RowKit

theorem Try.infoI16 : (Try.prog.info? 3).map (fun i => (i.zero, i.size, i.bytes)) = some (some (.int .i64 0), 1, 8) := by kernel_rfl
theorem Try.infoB16 : (Try.prog.info? 4).map (fun i => (i.zero, i.size, i.bytes)) = some (some (.bool false), 1, 1) := by kernel_rfl
theorem wpList_append_i16 {w : World} {ops : Array Oper} {rest : List Oper} {o : Oper} {a : Act} {Q : Exit → Act → World → Prop} (hgd : o.guard = none) (s x : Operand)
    (ho : o.op = .call { callee := .builtin .append, args := #[s, x], argTypes := #[24, 24] })
    (base : Nat) (v : Value) (l : List Int) (hs : a.eval s = v) (hown : ownsI16 w base v l) (y : Int) (T : TypeId) (hx : a.eval x = .slice (some ⟨w.heap.size, 0, none⟩) 1 1)
    (hb : l.length ≤ 90000) (hbase : base ≤ w.heap.size)
    (h : ∀ v' w', ownsI16 w' base v' (l ++ [y]) → Below base w w' → wpList Try.prog ops Q rest (a.put o.dst v') w') :
    wpList Try.prog ops Q (o :: rest) a (w.alloc (.cells #[.int .i64 y] T)) := by
  obtain ⟨i0, hi, hz0, hz1, hz2⟩ := info_parts10 Try.infoI16
  have ha : Below base w (w.alloc (.cells #[.int .i64 y] T)) := (Below.refl _ _).alloc hbase _
  have hown2 : (w.alloc (.cells #[.int .i64 y] T)).ownsRow base 3 1 v l.length (l.map (Value.int .i64)) := hown.alloc _
  refine wpList_append_own _ hgd s x 24 ho base 3 i0 (.int .i64 0) 1 8 Try.underlying24 hi hz0 hz1 hz2 rfl (by decide) v l.length _ hs hown2 ⟨w.heap.size, 0, none⟩ 1 1 [.int .i64 y] hx rfl (fun j u hj => ?_) (fun u hu => by simp at hu; subst hu; rfl) (by unfold maxLen; omega) (by omega) (by have := ha.size; omega) ?_
  · match j, hj with
    | 0, hj => simp at hj; subst hj; simp [Addr.add, World.cell?_alloc_at]
  · intro v' w' hown' hgrow _
    have ho2 : Below base (w.alloc (.cells #[.int .i64 y] T)) w' := (Below.refl base _).grown hgrow (by have := ha.size; omega) (fun k e => by
      rcases hown2.2 with ⟨rfl, _⟩ | ⟨g, cap, cur, rfl, hbg, _⟩
      · cases e
      · cases e; exact hbg)
    refine h v' w' ?_ (ha.trans ho2)
    unfold ownsI16
    rw [List.map_append, List.length_append]
    exact hown'
theorem listF_succ (f : Nat → Int) (n : Nat) : listF f (n + 1) = listF f n ++ [f n] := by simp [listF, List.range_succ]
theorem pk_listF (f : Nat → Int) {n i : Nat} (h : i < n) : pk (listF f n) i = f i := by unfold pk; rw [listF_get f h]; rfl
/-- a row of sizes that can be read -/
def RowI (w : World) (v : Value) (o : List Int) : Prop := ∃ A c, v = .slice A o.length c ∧ Ints w A o.length (pk o)
theorem RowI.nil (w : World) : RowI w (.slice none 0 0) [] := ⟨none, 0, rfl, Ints.zero _ _⟩
theorem own_rowI {w : World} {B : Nat} {v : Value} {f : Nat → Int} {n : Nat} (h : ownsI16 w B v (listF f n)) (hb : ∀ i, i < n → -9223372036854775808 ≤ f i ∧ f i ≤ 9223372036854775807) : RowI w v (listF f n) := by
  have h' := h
  unfold ownsI16 at h'
  obtain ⟨A, c, e, -⟩ := own_form h'
  subst e
  refine ⟨A, c, rfl, ?_⟩
  rw [listF_len] at h' ⊢
  exact Ints.of_own h' (fun i hi => by rw [listF_get f hi, pk_listF f hi]) (fun i hi => by rw [pk_listF f hi]; exact hb i hi)
theorem cells_rowI {w : World} {g c n : Nat} {f : Nat → Int} (h : IntsB w g n f) (hb : ∀ i, i < n → -9223372036854775808 ≤ f i ∧ f i ≤ 9223372036854775807) : RowI w (.slice (some ⟨g, 0, none⟩) n c) (listF f n) := by
  refine ⟨some ⟨g, 0, none⟩, c, by rw [listF_len], ?_⟩
  rw [listF_len]
  exact (h.ints hb).congr (fun i hi => (pk_listF f hi).symm)
/-- the sizes of the call's own, as cells -/
theorem own_cells16 {w : World} {B : Nat} {v : Value} {f : Nat → Int} {n : Nat} (h : ownsI16 w B v (listF f n)) (hn : 0 < n) : ∃ g c, v = .slice (some ⟨g, 0, none⟩) n c ∧ B ≤ g ∧ IntsB w g n f := by
  have h' := h
  unfold ownsI16 at h'
  rw [listF_len] at h'
  obtain ⟨g, c, rfl, -, -, hB, h5, h6, h7⟩ := own_at h' (by omega)
  refine ⟨g, c, rfl, hB, ⟨h5, fun i hi => h6 i _ ?_, fun i _ => h7 i⟩⟩
  rw [List.getElem?_map, listF_get f hi]
  rfl
def sP (l : List It16) (g : Bool) (k i : Nat) : Bool := if i < k then set0 l g i else false
theorem sP_set (l : List It16) (g : Bool) (k : Nat) {u : Bool} (h : set0 l g k = u) (i : Nat) : (if i = k then Value.bool u else .bool (sP l g k i)) = .bool (sP l g (k + 1) i) := by
  unfold sP
  by_cases e : i = k
  · subst e; rw [if_pos rfl, if_pos (Nat.lt_succ_self _), h]
  · rw [if_neg e]
    by_cases h' : i < k
    · rw [if_pos h', if_pos (by omega)]
    · rw [if_neg h', if_neg (by omega)]
/-- what the first loop leaves -/
structure L1 (w wr : World) (vo : Value) (l : List It16) (k : Nat) : Prop where
  own : ownsI16 wr w.heap.size vo (listF (out0 l) k)
  below : Below w.heap.size w wr
/-- where the rounds stand -/
structure RS (w wr : World) (l : List It16) (n : Nat) (g : Bool) (R : Int) (gO gS : Nat) (out : Nat → Int) (S : Nat → Bool) : Prop where
  o : IntsB wr gO n out
  s : BoolsB wr gS n S
  below : Below w.heap.size w wr
  runs : ∀ r, Runs l n g R out S r → Runs l n g R (out0 l) (set0 l g) r
  bd : ∀ i, i < n → S i = true → 0 ≤ out i ∧ out i ≤ 1099511627776

/-- what is asked of the document's Sizes -/
def RefSizes (w : World) (l : List It16) (gap room : Int) (e : Ending) (w' : World) : Prop :=
  ∃ vO o z, e = .returned (.tuple #[vO, .int .i64 z]) ∧ SizesIs l gap room o z ∧ RowI w' vO o ∧ Below w.heap.size w w'
set_option maxRecDepth 100000 in
set_option maxHeartbeats 16000000 in
theorem refSizes16 (l : List It16) (v : Value) (gap room : Int) (w : World) (hv : TmIn w v l) (hn : l.length ≤ 80000) (hbig : ∀ i, i < l.length → ∀ y ∈ [(itA l i).base, (itA l i).least, (itA l i).most, (itA l i).grow, (itA l i).shrink, (itA l i).outer], -9223372036854775808 ≤ y ∧ y ≤ 9223372036854775807) :
    Calls Try.prog 10 #[v, .int .i64 gap, .int .i64 room] w (RefSizes w l gap room) := by
  have HV := Lib.hid hv
  have K1 := Lib.hid (refAsked16 l v gap room w hv hn hbig)
  obtain ⟨A, c, rfl, -, -, -⟩ := hv
  obtain ⟨n, en⟩ : ∃ n, l.length = n := ⟨_, rfl⟩
  have HL := Lib.hid en
  rw [en] at HV K1
  rw [en]
  clear hbig hn en
  obtain ⟨e, he⟩ : ∃ e, askT l gap room = e := ⟨_, rfl⟩
  rw [he] at K1
  have HE := Lib.hid he
  clear he
  go_enter Try.func10, Try.ntmps10
  go_upto_region 2 with (go_at_call 18; (with_reducible refine K1.out.mono ?_); rintro e1 w1 ⟨rfl, hb⟩; have B1 := Lib.hid hb; clear hb)
  clear K1
  by_cases h0 : e ≠ 0
  · have n1 : (e == 0) = false := by simp [h0]
    have n2 : (e != 0) = true := by simp [h0]
    have SZ : Hid (SizesIs l gap room [] e) := Lib.hid (by rw [← HE.out]; exact .bad (by rw [HE.out]; exact h0))
    clear h0
    go_wp2_with fail
    go_ret2
    exact ⟨.slice none 0 0, [], e, rfl, SZ.out, RowI.nil _, B1.out⟩
  obtain rfl : e = 0 := by omega
  clear h0
  obtain ⟨hn', hgap, hroom, hI⟩ := askT_ok HE.out
  rw [HL.out] at hn' hI
  have HI := Lib.hid hI
  clear hI
  have AB := Lib.hid (fun k (hk : k ≤ n) => around_bd2 (l := l) (gap := gap) (k := k) (by omega) hgap (fun i hi => (HI.out i (by omega)).2))
  have LB := Lib.hid (fun k (hk : k ≤ n) => all_bd2 (l := l) (k := k) (by omega) (fun i hi => (HI.out i (by omega)).1))
  have KF := Lib.hid (fun x W => refFirst16 x W)
  go_wp2_with fail
  go_loopg [9, 10, 11, 12] n (fun g1 vv va vs vi wr => ∃ (k : Nat) (vo : Value), vv = vo ∧ vi = .int .i64 k ∧ va = .int .i64 (aroundI l gap k) ∧ vs = .int .i64 (allI l k) ∧ k ≤ n ∧ n - k ≤ g1 ∧ Hid (L1 w wr vo l k))
  case atStart => exact ⟨0, _, rfl, rfl, by simp [aroundI, sumB], rfl, by omega, by omega, Lib.hid ⟨⟨rfl, .inl ⟨rfl, rfl⟩⟩, B1.out⟩⟩
  case round =>
    obtain ⟨k, vo, hvo, rfl, rfl, rfl, hk, hg1, HR⟩ := hrel
    obtain rfl := hvo.symm
    clear hvo
    obtain ⟨wo, hwo⟩ : ∃ wo, wo = wr := ⟨_, rfl⟩
    subst hwo
    by_cases hlt : k < n
    · have hz : (k : Int) < n := by omega
      have hz0 : (0 : Int) ≤ k := by omega
      have wi : IntKind.i64.wrap ((k : Int) + 1) = (k : Int) + 1 := IntWalk.i64_in _ (by omega)
      obtain ⟨bb, off, c1, e, hbl, -, hk6⟩ := HV.out.get (i := k) (by have := HL.out; omega)
      injection e with e1 e2 e3
      subst e1 e3
      clear e2
      have CT : Hid (∀ W, Below w.heap.size w W → TmAt W bb (off + k * 6) (itA l k)) := Lib.hid (fun W hW => (hk6 k (by have := HL.out; omega)).keep hbl hW)
      have a0 := AB.out k (by omega)
      have a1 := AB.out (k + 1) (by omega)
      have b0 := LB.out k (by omega)
      have b1 := LB.out (k + 1) (by omega)
      have EA := Lib.hid (around_succ l gap k)
      have EB : Hid (allI l (k + 1) = allI l k + firstI (itA l k)) := Lib.hid rfl
      have EF := Lib.hid (listF_succ (out0 l) k)
      have EO : Hid (out0 l k = firstI (itA l k)) := Lib.hid rfl
      have LN := Lib.hid (listF_len (out0 l) k)
      have GX := (HI.out k hlt).1.c (itA l k).base
      have OX := (HI.out k hlt).2
      have KF1 := Lib.hid (fun W => KF.out (itA l k) W)
      rw [EA.out] at a1
      rw [EB.out] at b1
      clear hbl hk6
      have GX2 : 0 ≤ firstI (itA l k) ∧ firstI (itA l k) ≤ 1099511627776 := GX
      clear GX
      generalize aroundI l gap k = ar at a0 a1 EA ⊢
      generalize allI l k = al at b0 b1 EB ⊢
      generalize firstI (itA l k) = fi at GX2 b1 EB EO KF1
      have OW := Lib.hid HR.out.own
      generalize listF (out0 l) k = lo at OW EF LN
      have EL : Hid (listF (out0 l) (k + 1) = lo ++ [fi]) := Lib.hid (by rw [EF.out, EO.out])
      generalize itA l k = x at CT OX a1 EA KF1
      obtain ⟨x0, x1, x2, x3, x4, x5⟩ := x
      unfold TmAt at CT
      unfold tmV at KF1
      dsimp only at CT OX a1 EA KF1
      have wa0 : IntKind.i64.wrap (ar + x5) = ar + x5 := IntWalk.i64_in _ (by omega)
      obtain ⟨t, ht⟩ : ∃ t, ar + x5 = t := ⟨_, rfl⟩
      have wa := wa0.trans ht
      rw [ht] at EA a1
      have wb0 : IntKind.i64.wrap (t + gap) = t + gap := IntWalk.i64_in _ (by omega)
      obtain ⟨t2, ht2⟩ : ∃ t2, t + gap = t2 := ⟨_, rfl⟩
      have wb := wb0.trans ht2
      have wc : IntKind.i64.wrap (al + fi) = al + fi := IntWalk.i64_in _ (by omega)
      have HA2 : Hid (aroundI l gap (k + 1) = if 0 < k then t2 else t) := Lib.hid (by rw [EA.out, ← ht2]; split <;> omega)
      clear wa0 wb0 ht ht2 a0 a1 b0 b1 GX2 OX EA EF EO
      have BW := Lib.hid HR.out.below
      clear HR
      obtain ⟨c0, c1', c2, c3, c4, c5⟩ := CT.out wo BW.out
      go_upto_region 10 with (first
        | (go_at_call 14; (with_reducible refine (KF1.out _).mono ?_); rintro e w5 ⟨rfl, hb⟩; have H5 := Lib.hid hb; have O5 := Lib.hid (show ownsI16 w5 w.heap.size _ lo from own_keep OW.out hb); have B5 := Lib.hid (b_nx16 BW.out hb); clear hb)
        | ((with_reducible change wpList _ _ _ (Oper.mk (some 36) _ _ _ _ _ :: _) _ _); refine wpList_append_i16 rfl _ _ rfl w.heap.size _ lo rfl O5.out fi _ rfl (by have := LN.out; omega) B5.out.size ?_; intro v6 w6 hO hB; have O6 := Lib.hid hO; have B6 := Lib.hid hB; clear hO hB))
      have BW6 := Lib.hid (B5.out.trans B6.out)
      clear c0 c1' c2 c3 c4 c5 H5 O5 B5 B6 OW BW KF1
      rw [← EL.out] at O6
      obtain ⟨g6, c6, e6, -, I6⟩ := own_cells16 O6.out (Nat.succ_pos k)
      subst e6
      have m6 := I6.cell k (Nat.lt_succ_self k)
      have EO2 : Hid (out0 l k = fi) := Lib.hid (by
        have h := EL.out
        have h2 : (listF (out0 l) (k + 1))[k]? = (lo ++ [fi])[k]? := by rw [h]
        rw [listF_get _ (Nat.lt_succ_self k), List.getElem?_append_right (by rw [LN.out]; exact Nat.le_refl _), LN.out] at h2
        simpa using h2)
      rw [EO2.out] at m6
      obtain ⟨c0, c1', c2, c3, c4, c5⟩ := CT.out w6 BW6.out
      clear CT KF HV HI AB LB EL EO2 I6
      by_cases hk0 : 0 < k
      · have d1 : decide ((0 : Int) < k) = true := decide_eq_true (by omega)
        have HA3 : Hid (aroundI l gap (k + 1) = t2) := Lib.hid (by rw [HA2.out, if_pos hk0])
        go_wp2_with fail
        go_roundg (n - (k + 1))
        case measure => omega
        case rel => exact ⟨k + 1, _, rfl, by go_num, by rw [HA3.out], by rw [EB.out], by omega, Nat.le_refl _, Lib.hid ⟨O6.out, BW6.out⟩⟩
      · have d1 : decide ((0 : Int) < k) = false := decide_eq_false (by omega)
        have HA3 : Hid (aroundI l gap (k + 1) = t) := Lib.hid (by rw [HA2.out, if_neg hk0])
        go_wp2_with fail
        go_roundg (n - (k + 1))
        case measure => omega
        case rel => exact ⟨k + 1, _, rfl, by go_num, by rw [HA3.out], by rw [EB.out], by omega, Nat.le_refl _, Lib.hid ⟨O6.out, BW6.out⟩⟩
    · obtain rfl : k = n := by omega
      have hz : ¬ (k : Int) < k := by omega
      have OB : Hid (∀ i, i < k → 0 ≤ out0 l i ∧ out0 l i ≤ 1099511627776) := Lib.hid (fun i hi => (HI.out i hi).1.c _)
      by_cases hr : room = -1
      · subst hr
        have SZ : Hid (SizesIs l gap (-1) (listF (out0 l) k) 0) := Lib.hid (by have h := SizesIs.wide (l := l) (gap := gap) (room := -1) HE.out rfl; rwa [HL.out] at h)
        have RW := Lib.hid (own_rowI HR.out.own (fun i hi => by have := OB.out i hi; omega))
        clear AB LB KF HI
        go_wp2_with fail
        go_ret2
        exact ⟨vo, _, 0, rfl, SZ.out, RW.out, HR.out.below⟩
      have dr : ((room : Int) == -1) = false := by simp [hr]
      have ab := AB.out k (Nat.le_refl _)
      have lb := LB.out k (Nat.le_refl _)
      obtain ⟨g, hg⟩ : ∃ g, growI l k gap room = g := ⟨_, rfl⟩
      have HG : Hid (decide (allI l k + aroundI l gap k < room) = g) := Lib.hid hg
      have RR : Hid (∀ r, RunsOf l gap room r ↔ Runs l k g (room - aroundI l gap k) (out0 l) (set0 l g) r) := Lib.hid (fun r => by unfold RunsOf; rw [HL.out, hg])
      clear hg AB LB KF
      obtain ⟨R, hR⟩ : ∃ R, room - aroundI l gap k = R := ⟨_, rfl⟩
      have wR : IntKind.i64.wrap (room - aroundI l gap k) = R := (IntWalk.i64_in _ (by omega)).trans hR
      have RB : -9007199254740992 ≤ R ∧ R ≤ 9007199254740992 := by omega
      have wS : IntKind.i64.wrap (allI l k + aroundI l gap k) = allI l k + aroundI l gap k := IntWalk.i64_in _ (by omega)
      rw [hR] at RR
      clear hR ab lb
      generalize aroundI l gap k = ar at HG wR wS ⊢
      generalize allI l k = al at HG wS ⊢
      have dg := HG.out
      obtain ⟨A9, c9, e9, -⟩ := own_form (show wo.ownsRow w.heap.size 3 1 vo (listF (out0 l) k).length ((listF (out0 l) k).map (Value.int .i64)) from HR.out.own)
      rw [listF_len] at e9
      subst e9
      obtain ⟨ib, hi, hz0, hz1, hz2⟩ := info_parts10 Try.infoB16
      go_upto_region 17 with fail
      clear HG dg wS
      go_upto_region 18 with ((with_reducible change wpList _ _ _ (Oper.mk (some 65) _ _ _ _ _ :: _) _ _); refine wpList_make_full _ rfl _ _ 41 rfl wo.heap.size 4 ib _ 1 Try.underlying41 hi hz0 hz1 .i64 .i64 k k k rfl rfl rfl rfl (by rw [hz2]; omega) (by unfold maxLen; omega) (Nat.le_refl _) ?_; intro w2 hown hgrow; have O2 := Lib.hid hown; have G2 := Lib.hid hgrow; clear hown hgrow)
      have B2 : Hid (Below wo.heap.size wo w2) := Lib.hid ((Below.refl _ _).grown G2.out (Nat.le_refl _) (fun k e => by cases e))
      have BW2 := Lib.hid (b_nx16 HR.out.below B2.out)
      have T2 : Hid (BoolsB w2 wo.heap.size k (fun _ => false)) := Lib.hid (made_cells rfl O2.out (own_lt16 O2.out))
      have GS : Hid (w.heap.size ≤ wo.heap.size) := Lib.hid HR.out.below.size
      obtain ⟨gS, hgS⟩ : ∃ gS, wo.heap.size = gS := ⟨_, rfl⟩
      have OW2 : Hid (ownsI16 w2 w.heap.size (.slice A9 k c9) (listF (out0 l) k)) := Lib.hid (own_keep HR.out.own B2.out)
      have HLT : Hid (∀ g' c', Value.slice A9 k c9 = .slice (some ⟨g', 0, none⟩) k c' → IntsB wo g' k (out0 l) → g' < gS) := Lib.hid (fun g' c' _ h => by rw [← hgS]; exact h.lt)
      have OC := Lib.hid (fun h => own_cells16 (w := wo) (f := out0 l) (n := k) HR.out.own h)
      rw [hgS] at T2 GS ⊢
      have HGS := Lib.hid hgS
      clear hgS O2 G2 hi hz0 hz1 hz2 HR
      by_cases hk0 : k = 0
      · subst hk0
        have SZ : Hid (SizesIs l gap room (listF (out0 l) 0) 0) := Lib.hid (by
          have h := SizesIs.ok (l := l) (gap := gap) (room := room) (out0 l) HE.out hr ((RR.out _).2 (.done _ _ (fun i hi => absurd hi (by omega)))) (fun i hi => by rw [HL.out] at hi; exact absurd hi (by omega))
          rwa [HL.out] at h)
        have RW := Lib.hid (own_rowI OW2.out (fun i hi => absurd hi (by omega)))
        have KE := Lib.hid (refEvery16 gS 0 0 (fun _ => false) w2 T2.out (by omega) true (by simp))
        have KA := Lib.hid (all_any A9 0 c9 (fun _ => 0) w2 (Ints.zero _ _) (by omega) true (by simp [allFit]))
        clear HV HI OB RR OC HLT
        go_wp2_with fail
        go_loopg [15] 0 (fun g1 vi wr => vi = .int .i64 0 ∧ Hid (w2 = wr))
        case atStart => exact ⟨rfl, Lib.hid rfl⟩
        case round =>
          obtain ⟨rfl, HW⟩ := hrel
          obtain rfl := HW.out
          go_wp2_with fail
          go_loopg [] 0 (fun g1 wr => Hid (w2 = wr))
          case atStart => exact Lib.hid rfl
          case round =>
            obtain rfl := hrel.out
            go_wp2_with (first
              | (go_at_call 19; (with_reducible refine KE.out.mono ?_); rintro e6 w6 ⟨rfl, hw'⟩; obtain rfl := hw')
              | (go_at_call 21; refine KA.out.mono ?_; rintro e6 w6 ⟨rfl, hw'⟩; obtain rfl := hw'))
            go_ret2
            exact ⟨_, _, 0, rfl, SZ.out, RW.out, BW2.out⟩
      have hkp : 0 < k := by omega
      obtain ⟨gO, c10, e10, hBO, IO⟩ := OC.out hkp
      have HLTO := Lib.hid (HLT.out gO c10 e10 IO)
      have HBO := Lib.hid hBO
      injection e10 with e11 e12 e13
      subst e11 e13
      clear e12 hBO
      have IO2 : Hid (IntsB w2 gO k (out0 l)) := Lib.hid (IO.keep B2.out)
      clear OC HLT IO OW2
      go_wp2_with fail
      go_loopg [15] k (fun g1 vi wr => ∃ j : Nat, vi = .int .i64 j ∧ j ≤ k ∧ k - j ≤ g1 ∧ Hid (BoolsB wr gS k (sP l g j)) ∧ Hid (But2 w.heap.size gS gS w2 wr))
      case atStart => exact ⟨0, rfl, by omega, by omega, Lib.hid (T2.out.congr (fun i _ => by simp [sP])), Lib.hid (But2.refl _ _ _ _)⟩
      case round =>
        obtain ⟨j, rfl, hj, hg1, HS, HB⟩ := hrel
        obtain ⟨wp, hwp⟩ : ∃ wp, wp = wr := ⟨_, rfl⟩
        subst hwp
        clear T2
        by_cases hlt : j < k
        · have hz : (j : Int) < k := by omega
          have hz0 : (0 : Int) ≤ j := by omega
          have wi : IntKind.i64.wrap ((j : Int) + 1) = (j : Int) + 1 := IntWalk.i64_in _ (by omega)
          obtain ⟨bb, off, c1, e, hbl, -, hk6⟩ := HV.out.get (i := j) (by have := HL.out; omega)
          injection e with e1 e2 e3
          subst e1 e3
          clear e2
          have BP := Lib.hid (BW2.out.trans HB.out.below)
          have IP := Lib.hid (IO2.out.but2 HB.out (by have := HLTO.out; omega) (by have := HLTO.out; omega))
          have CT : Hid (∀ W, Below wp.heap.size wp W → TmAt W bb (off + j * 6) (itA l j) ∧ W.cell? ⟨gO, j, none⟩ = some (.int .i64 (firstI (itA l j))) ∧ Below wp.heap.size wp W) := Lib.hid (fun W hW => ⟨(hk6 j (by have := HL.out; omega)).keep hbl (b_nx16 BP.out hW), (IP.out.keep hW).cell j hlt, hW⟩)
          have PS := Lib.hid (fun u h => sP_set l g j (u := u) h)
          have S0 : Hid (set0 l g j = if g = true then decide ((itA l j).grow = 0 ∨ firstI (itA l j) < (itA l j).base) else decide ((itA l j).shrink = 0 ∨ (itA l j).base < firstI (itA l j))) := Lib.hid rfl
          have HB6 : Hid (w.heap.size ≤ w2.heap.size) := Lib.hid BW2.out.size
          clear hbl hk6 IP BP HV HI OB RR
          generalize firstI (itA l j) = fi at CT S0
          generalize itA l j = x at CT S0
          obtain ⟨x0, x1, x2, x3, x4, x5⟩ := x
          unfold TmAt at CT
          dsimp only at CT S0
          cases g with
          | true =>
            rw [if_pos rfl] at S0
            by_cases h3 : x3 = 0
            · subst h3
              have SE : Hid (set0 l true j = true) := Lib.hid (by rw [S0.out]; exact decide_eq_true (.inl rfl))
              clear S0
              go_upto_region 22 with fail
              refine' wp_region_last [opV _, opV _, opV _, opV _, opV _, opV _, opV _, opV _, opV _, opV _, opV _, opV _, opV _, opV _, opV _, opV _, opV _, opV _, opV _, opV (.bool true), opV _] 21 _ rfl (by kernel_rfl) rfl (by kernel_rfl) ⟨?s0, ?s1, ?s2, ?s3, ?s4, ?s5, ?s6, ?s7, ?s8, ?s9, ?s10, ?s11, ?s12, ?s13, ?s14, ?s15, ?s16, ?s17, ?s18, ?s19, ?s20, trivial⟩ rfl ?fin
              case s0 =>
                refine BStep.of [] [] (opV _) (by kernel_rfl) (fun _ _ => by kernel_rfl) rfl ?_
                intro vs wv hB hA
                clear hA
                simp only [fillP]
                have ct := (CT.out wv hB).1; have a0 := ct.1; have a1 := ct.2.1; have a2 := ct.2.2.1; have a3 := ct.2.2.2.1; have a4 := ct.2.2.2.2.1; have a5 := ct.2.2.2.2.2; have a6 := (CT.out wv hB).2.1; clear ct; go_wp2_with fail
                refine postB_val ?_ (Below.refl _ _)
                simp only [List.getElem?_cons_succ, List.getElem?_cons_zero]
                rfl
              case s1 =>
                refine BStep.of [] [] (opV _) (by kernel_rfl) (fun _ _ => by kernel_rfl) rfl ?_
                intro vs wv hB hA
                clear hA
                simp only [fillP]
                have ct := (CT.out wv hB).1; have a0 := ct.1; have a1 := ct.2.1; have a2 := ct.2.2.1; have a3 := ct.2.2.2.1; have a4 := ct.2.2.2.2.1; have a5 := ct.2.2.2.2.2; have a6 := (CT.out wv hB).2.1; clear ct; go_wp2_with fail
                refine postB_val ?_ (Below.refl _ _)
                simp only [List.getElem?_cons_succ, List.getElem?_cons_zero]
                rfl
              case s2 =>
                refine BStep.of [] [] (opV _) (by kernel_rfl) (fun _ _ => by kernel_rfl) rfl ?_
                intro vs wv hB hA
                clear hA
                simp only [fillP]
                have ct := (CT.out wv hB).1; have a0 := ct.1; have a1 := ct.2.1; have a2 := ct.2.2.1; have a3 := ct.2.2.2.1; have a4 := ct.2.2.2.2.1; have a5 := ct.2.2.2.2.2; have a6 := (CT.out wv hB).2.1; clear ct; go_wp2_with fail
                refine postB_val ?_ (Below.refl _ _)
                simp only [List.getElem?_cons_succ, List.getElem?_cons_zero]
                rfl
              case s3 =>
                refine BStep.of [] [] (opV _) (by kernel_rfl) (fun _ _ => by kernel_rfl) rfl ?_
                intro vs wv hB hA
                clear hA
                simp only [fillP]
                have ct := (CT.out wv hB).1; have a0 := ct.1; have a1 := ct.2.1; have a2 := ct.2.2.1; have a3 := ct.2.2.2.1; have a4 := ct.2.2.2.2.1; have a5 := ct.2.2.2.2.2; have a6 := (CT.out wv hB).2.1; clear ct; go_wp2_with fail
                refine postB_val ?_ (Below.refl _ _)
                simp only [List.getElem?_cons_succ, List.getElem?_cons_zero]
                rfl
              case s4 =>
                refine BStep.of [2, 3] [(75, 2), (76, 3)] (opV _) (by kernel_rfl) (fun _ _ => by kernel_rfl) rfl ?_
                intro vs wv hB hA
                have h2 : vs 2 = _ := hA.1
                have h3 : vs 3 = _ := hA.2.1
                clear hA
                simp only [fillP, List.setIfInBounds_toArray, List.set_cons_zero, List.set_cons_succ, h2, h3]
                have ct := (CT.out wv hB).1; have a0 := ct.1; have a1 := ct.2.1; have a2 := ct.2.2.1; have a3 := ct.2.2.2.1; have a4 := ct.2.2.2.2.1; have a5 := ct.2.2.2.2.2; have a6 := (CT.out wv hB).2.1; clear ct; go_wp2_with fail
                refine postB_val ?_ (Below.refl _ _)
                simp only [List.getElem?_cons_succ, List.getElem?_cons_zero]
                rfl
              case s5 =>
                refine BStep.of [4] [(77, 4)] (opV _) (by kernel_rfl) (fun _ _ => by kernel_rfl) rfl ?_
                intro vs wv hB hA
                have h4 : vs 4 = _ := hA.1
                clear hA
                simp only [fillP, List.setIfInBounds_toArray, List.set_cons_zero, List.set_cons_succ, h4]
                have ct := (CT.out wv hB).1; have a0 := ct.1; have a1 := ct.2.1; have a2 := ct.2.2.1; have a3 := ct.2.2.2.1; have a4 := ct.2.2.2.2.1; have a5 := ct.2.2.2.2.2; have a6 := (CT.out wv hB).2.1; clear ct; go_wp2_with fail
                refine postB_val ?_ (Below.refl _ _)
                simp only [List.getElem?_cons_succ, List.getElem?_cons_zero]
                rfl
              case s6 =>
                refine BStep.of [5] [(78, 5)] (opV _) (by kernel_rfl) (fun _ _ => by kernel_rfl) rfl ?_
                intro vs wv hB hA
                have h5 : vs 5 = _ := hA.1
                clear hA
                simp only [fillP, List.setIfInBounds_toArray, List.set_cons_zero, List.set_cons_succ, h5]
                have ct := (CT.out wv hB).1; have a0 := ct.1; have a1 := ct.2.1; have a2 := ct.2.2.1; have a3 := ct.2.2.2.1; have a4 := ct.2.2.2.2.1; have a5 := ct.2.2.2.2.2; have a6 := (CT.out wv hB).2.1; clear ct; go_wp2_with fail
                refine postB_val ?_ (Below.refl _ _)
                simp only [List.getElem?_cons_succ, List.getElem?_cons_zero]
                rfl
              case s7 =>
                refine BStep.of [6] [(79, 6)] (opV _) (by kernel_rfl) (fun _ _ => by kernel_rfl) rfl ?_
                intro vs wv hB hA
                have h6 : vs 6 = _ := hA.1
                clear hA
                simp only [fillP, List.setIfInBounds_toArray, List.set_cons_zero, List.set_cons_succ, h6]
                have ct := (CT.out wv hB).1; have a0 := ct.1; have a1 := ct.2.1; have a2 := ct.2.2.1; have a3 := ct.2.2.2.1; have a4 := ct.2.2.2.2.1; have a5 := ct.2.2.2.2.2; have a6 := (CT.out wv hB).2.1; clear ct; go_wp2_with fail
                refine postB_val ?_ (Below.refl _ _)
                simp only [List.getElem?_cons_succ, List.getElem?_cons_zero]
                rfl
              case s8 =>
                refine BStep.of [7] [(80, 7)] (opV _) (by kernel_rfl) (fun _ _ => by kernel_rfl) rfl ?_
                intro vs wv hB hA
                have h7 : vs 7 = _ := hA.1
                clear hA
                simp only [fillP, List.setIfInBounds_toArray, List.set_cons_zero, List.set_cons_succ, h7]
                have ct := (CT.out wv hB).1; have a0 := ct.1; have a1 := ct.2.1; have a2 := ct.2.2.1; have a3 := ct.2.2.2.1; have a4 := ct.2.2.2.2.1; have a5 := ct.2.2.2.2.2; have a6 := (CT.out wv hB).2.1; clear ct; go_wp2_with fail
                refine postB_val ?_ (Below.refl _ _)
                simp only [List.getElem?_cons_succ, List.getElem?_cons_zero]
                rfl
              case s9 =>
                refine BStep.of [8] [(81, 8)] (opV _) (by kernel_rfl) (fun _ _ => by kernel_rfl) rfl ?_
                intro vs wv hB hA
                have h8 : vs 8 = _ := hA.1
                clear hA
                simp only [fillP, List.setIfInBounds_toArray, List.set_cons_zero, List.set_cons_succ, h8]
                have ct := (CT.out wv hB).1; have a0 := ct.1; have a1 := ct.2.1; have a2 := ct.2.2.1; have a3 := ct.2.2.2.1; have a4 := ct.2.2.2.2.1; have a5 := ct.2.2.2.2.2; have a6 := (CT.out wv hB).2.1; clear ct; go_wp2_with fail
                refine postB_val ?_ (Below.refl _ _)
                simp only [List.getElem?_cons_succ, List.getElem?_cons_zero]
                rfl
              case s10 =>
                refine BStep.of [8] [(81, 8)] (opV _) (by kernel_rfl) (fun _ _ => by kernel_rfl) rfl ?_
                intro vs wv hB hA
                have h8 : vs 8 = _ := hA.1
                clear hA
                simp only [fillP, List.setIfInBounds_toArray, List.set_cons_zero, List.set_cons_succ, h8]
                have ct := (CT.out wv hB).1; have a0 := ct.1; have a1 := ct.2.1; have a2 := ct.2.2.1; have a3 := ct.2.2.2.1; have a4 := ct.2.2.2.2.1; have a5 := ct.2.2.2.2.2; have a6 := (CT.out wv hB).2.1; clear ct; go_wp2_with fail
                refine postB_val ?_ (Below.refl _ _)
                simp only [List.getElem?_cons_succ, List.getElem?_cons_zero]
                rfl
              case s11 =>
                refine BStep.of [8, 9, 10] [(81, 8), (82, 9), (83, 10)] (opV _) (by kernel_rfl) (fun _ _ => by kernel_rfl) rfl ?_
                intro vs wv hB hA
                have h8 : vs 8 = _ := hA.1
                have h9 : vs 9 = _ := hA.2.1
                have h10 : vs 10 = _ := hA.2.2.1
                clear hA
                simp only [fillP, List.setIfInBounds_toArray, List.set_cons_zero, List.set_cons_succ, h8, h9, h10]
                have ct := (CT.out wv hB).1; have a0 := ct.1; have a1 := ct.2.1; have a2 := ct.2.2.1; have a3 := ct.2.2.2.1; have a4 := ct.2.2.2.2.1; have a5 := ct.2.2.2.2.2; have a6 := (CT.out wv hB).2.1; clear ct; go_wp2_with fail
                refine postB_val ?_ (Below.refl _ _)
                simp only [List.getElem?_cons_succ, List.getElem?_cons_zero]
                rfl
              case s12 =>
                refine BStep.of [8, 11] [(81, 8), (84, 11)] (opV _) (by kernel_rfl) (fun _ _ => by kernel_rfl) rfl ?_
                intro vs wv hB hA
                have h8 : vs 8 = _ := hA.1
                have h11 : vs 11 = _ := hA.2.1
                clear hA
                simp only [fillP, List.setIfInBounds_toArray, List.set_cons_zero, List.set_cons_succ, h8, h11]
                have ct := (CT.out wv hB).1; have a0 := ct.1; have a1 := ct.2.1; have a2 := ct.2.2.1; have a3 := ct.2.2.2.1; have a4 := ct.2.2.2.2.1; have a5 := ct.2.2.2.2.2; have a6 := (CT.out wv hB).2.1; clear ct; go_wp2_with fail
                refine postB_val ?_ (Below.refl _ _)
                simp only [List.getElem?_cons_succ, List.getElem?_cons_zero]
                rfl
              case s13 =>
                refine BStep.of [8, 12] [(81, 8), (85, 12)] (opV _) (by kernel_rfl) (fun _ _ => by kernel_rfl) rfl ?_
                intro vs wv hB hA
                have h8 : vs 8 = _ := hA.1
                have h12 : vs 12 = _ := hA.2.1
                clear hA
                simp only [fillP, List.setIfInBounds_toArray, List.set_cons_zero, List.set_cons_succ, h8, h12]
                have ct := (CT.out wv hB).1; have a0 := ct.1; have a1 := ct.2.1; have a2 := ct.2.2.1; have a3 := ct.2.2.2.1; have a4 := ct.2.2.2.2.1; have a5 := ct.2.2.2.2.2; have a6 := (CT.out wv hB).2.1; clear ct; go_wp2_with fail
                refine postB_val ?_ (Below.refl _ _)
                simp only [List.getElem?_cons_succ, List.getElem?_cons_zero]
                rfl
              case s14 =>
                refine BStep.of [8] [(81, 8)] (opV _) (by kernel_rfl) (fun _ _ => by kernel_rfl) rfl ?_
                intro vs wv hB hA
                have h8 : vs 8 = _ := hA.1
                clear hA
                simp only [fillP, List.setIfInBounds_toArray, List.set_cons_zero, List.set_cons_succ, h8]
                have ct := (CT.out wv hB).1; have a0 := ct.1; have a1 := ct.2.1; have a2 := ct.2.2.1; have a3 := ct.2.2.2.1; have a4 := ct.2.2.2.2.1; have a5 := ct.2.2.2.2.2; have a6 := (CT.out wv hB).2.1; clear ct; go_wp2_with fail
                refine postB_val ?_ (Below.refl _ _)
                simp only [List.getElem?_cons_succ, List.getElem?_cons_zero]
                rfl
              case s15 =>
                refine BStep.of [8] [(81, 8)] (opV _) (by kernel_rfl) (fun _ _ => by kernel_rfl) rfl ?_
                intro vs wv hB hA
                have h8 : vs 8 = _ := hA.1
                clear hA
                simp only [fillP, List.setIfInBounds_toArray, List.set_cons_zero, List.set_cons_succ, h8]
                have ct := (CT.out wv hB).1; have a0 := ct.1; have a1 := ct.2.1; have a2 := ct.2.2.1; have a3 := ct.2.2.2.1; have a4 := ct.2.2.2.2.1; have a5 := ct.2.2.2.2.2; have a6 := (CT.out wv hB).2.1; clear ct; go_wp2_with fail
                refine postB_val ?_ (Below.refl _ _)
                simp only [List.getElem?_cons_succ, List.getElem?_cons_zero]
                rfl
              case s16 =>
                refine BStep.of [8, 14, 15] [(81, 8), (87, 14), (88, 15)] (opV _) (by kernel_rfl) (fun _ _ => by kernel_rfl) rfl ?_
                intro vs wv hB hA
                have h8 : vs 8 = _ := hA.1
                have h14 : vs 14 = _ := hA.2.1
                have h15 : vs 15 = _ := hA.2.2.1
                clear hA
                simp only [fillP, List.setIfInBounds_toArray, List.set_cons_zero, List.set_cons_succ, h8, h14, h15]
                have ct := (CT.out wv hB).1; have a0 := ct.1; have a1 := ct.2.1; have a2 := ct.2.2.1; have a3 := ct.2.2.2.1; have a4 := ct.2.2.2.2.1; have a5 := ct.2.2.2.2.2; have a6 := (CT.out wv hB).2.1; clear ct; go_wp2_with fail
                refine postB_val ?_ (Below.refl _ _)
                simp only [List.getElem?_cons_succ, List.getElem?_cons_zero]
                rfl
              case s17 =>
                refine BStep.of [8, 16] [(81, 8), (89, 16)] (opV _) (by kernel_rfl) (fun _ _ => by kernel_rfl) rfl ?_
                intro vs wv hB hA
                have h8 : vs 8 = _ := hA.1
                have h16 : vs 16 = _ := hA.2.1
                clear hA
                simp only [fillP, List.setIfInBounds_toArray, List.set_cons_zero, List.set_cons_succ, h8, h16]
                have ct := (CT.out wv hB).1; have a0 := ct.1; have a1 := ct.2.1; have a2 := ct.2.2.1; have a3 := ct.2.2.2.1; have a4 := ct.2.2.2.2.1; have a5 := ct.2.2.2.2.2; have a6 := (CT.out wv hB).2.1; clear ct; go_wp2_with fail
                refine postB_val ?_ (Below.refl _ _)
                simp only [List.getElem?_cons_succ, List.getElem?_cons_zero]
                rfl
              case s18 =>
                refine BStep.of [8, 13, 17] [(81, 8), (86, 13), (90, 17)] (opV _) (by kernel_rfl) (fun _ _ => by kernel_rfl) rfl ?_
                intro vs wv hB hA
                have h8 : vs 8 = _ := hA.1
                have h13 : vs 13 = _ := hA.2.1
                have h17 : vs 17 = _ := hA.2.2.1
                clear hA
                simp only [fillP, List.setIfInBounds_toArray, List.set_cons_zero, List.set_cons_succ, h8, h13, h17]
                have ct := (CT.out wv hB).1; have a0 := ct.1; have a1 := ct.2.1; have a2 := ct.2.2.1; have a3 := ct.2.2.2.1; have a4 := ct.2.2.2.2.1; have a5 := ct.2.2.2.2.2; have a6 := (CT.out wv hB).2.1; clear ct; go_wp2_with fail
                refine postB_val ?_ (Below.refl _ _)
                simp only [List.getElem?_cons_succ, List.getElem?_cons_zero]
                rfl
              case s19 =>
                refine BStep.of [8, 18] [(81, 8), (91, 18)] (opV (.bool true)) (by kernel_rfl) (fun _ _ => by kernel_rfl) rfl ?_
                intro vs wv hB hA
                have h8 : vs 8 = _ := hA.1
                have h18 : vs 18 = _ := hA.2.1
                clear hA
                simp only [fillP, List.setIfInBounds_toArray, List.set_cons_zero, List.set_cons_succ, h8, h18]
                have ct := (CT.out wv hB).1; have a0 := ct.1; have a1 := ct.2.1; have a2 := ct.2.2.1; have a3 := ct.2.2.2.1; have a4 := ct.2.2.2.2.1; have a5 := ct.2.2.2.2.2; have a6 := (CT.out wv hB).2.1; clear ct; go_wp2_with fail; refine postB_val ?_ (Below.refl _ _); simp only [List.getElem?_cons_succ, List.getElem?_cons_zero]
              case s20 =>
                refine BStep.of [0, 1, 2, 3, 4, 5, 6, 7, 8, 9, 10, 11, 12, 13, 14, 15, 16, 17, 18, 19] [(73, 0), (74, 1), (75, 2), (76, 3), (77, 4), (78, 5), (79, 6), (80, 7), (81, 8), (82, 9), (83, 10), (84, 11), (85, 12), (86, 13), (87, 14), (88, 15), (89, 16), (90, 17), (91, 18), (92, 19)] (opV _) (by kernel_rfl) (fun _ _ => by kernel_rfl) rfl ?_
                intro vs wv hB hA
                have h0 : vs 0 = _ := hA.1
                have h1 : vs 1 = _ := hA.2.1
                have h2 : vs 2 = _ := hA.2.2.1
                have h3 : vs 3 = _ := hA.2.2.2.1
                have h4 : vs 4 = _ := hA.2.2.2.2.1
                have h5 : vs 5 = _ := hA.2.2.2.2.2.1
                have h6 : vs 6 = _ := hA.2.2.2.2.2.2.1
                have h7 : vs 7 = _ := hA.2.2.2.2.2.2.2.1
                have h8 : vs 8 = _ := hA.2.2.2.2.2.2.2.2.1
                have h9 : vs 9 = _ := hA.2.2.2.2.2.2.2.2.2.1
                have h10 : vs 10 = _ := hA.2.2.2.2.2.2.2.2.2.2.1
                have h11 : vs 11 = _ := hA.2.2.2.2.2.2.2.2.2.2.2.1
                have h12 : vs 12 = _ := hA.2.2.2.2.2.2.2.2.2.2.2.2.1
                have h13 : vs 13 = _ := hA.2.2.2.2.2.2.2.2.2.2.2.2.2.1
                have h14 : vs 14 = _ := hA.2.2.2.2.2.2.2.2.2.2.2.2.2.2.1
                have h15 : vs 15 = _ := hA.2.2.2.2.2.2.2.2.2.2.2.2.2.2.2.1
                have h16 : vs 16 = _ := hA.2.2.2.2.2.2.2.2.2.2.2.2.2.2.2.2.1
                have h17 : vs 17 = _ := hA.2.2.2.2.2.2.2.2.2.2.2.2.2.2.2.2.2.1
                have h18 : vs 18 = _ := hA.2.2.2.2.2.2.2.2.2.2.2.2.2.2.2.2.2.2.1
                have h19 : vs 19 = _ := hA.2.2.2.2.2.2.2.2.2.2.2.2.2.2.2.2.2.2.2.1
                clear hA
                simp only [fillP, List.setIfInBounds_toArray, List.set_cons_zero, List.set_cons_succ, h0, h1, h2, h3, h4, h5, h6, h7, h8, h9, h10, h11, h12, h13, h14, h15, h16, h17, h18, h19]
                have ct := (CT.out wv hB).1; have a0 := ct.1; have a1 := ct.2.1; have a2 := ct.2.2.1; have a3 := ct.2.2.2.1; have a4 := ct.2.2.2.2.1; have a5 := ct.2.2.2.2.2; have a6 := (CT.out wv hB).2.1; clear ct; go_wp2_with fail
                refine postB_val ?_ (Below.refl _ _)
                simp only [List.getElem?_cons_succ, List.getElem?_cons_zero]
                rfl
              case fin =>
                refine last_of [0, 1, 2, 3, 4, 5, 6, 7, 8, 9, 10, 11, 12, 13, 14, 15, 16, 17, 18, 19, 20] [(73, 0), (74, 1), (75, 2), (76, 3), (77, 4), (78, 5), (79, 6), (80, 7), (81, 8), (82, 9), (83, 10), (84, 11), (85, 12), (86, 13), (87, 14), (88, 15), (89, 16), (90, 17), (91, 18), (92, 19), (93, 20)] (by kernel_rfl) (fun _ _ => by kernel_rfl) ?_
                intro vs wv hB hA
                have h0 : vs 0 = _ := hA.1
                have h1 : vs 1 = _ := hA.2.1
                have h2 : vs 2 = _ := hA.2.2.1
                have h3 : vs 3 = _ := hA.2.2.2.1
                have h4 : vs 4 = _ := hA.2.2.2.2.1
                have h5 : vs 5 = _ := hA.2.2.2.2.2.1
                have h6 : vs 6 = _ := hA.2.2.2.2.2.2.1
                have h7 : vs 7 = _ := hA.2.2.2.2.2.2.2.1
                have h8 : vs 8 = _ := hA.2.2.2.2.2.2.2.2.1
                have h9 : vs 9 = _ := hA.2.2.2.2.2.2.2.2.2.1
                have h10 : vs 10 = _ := hA.2.2.2.2.2.2.2.2.2.2.1
                have h11 : vs 11 = _ := hA.2.2.2.2.2.2.2.2.2.2.2.1
                have h12 : vs 12 = _ := hA.2.2.2.2.2.2.2.2.2.2.2.2.1
                have h13 : vs 13 = _ := hA.2.2.2.2.2.2.2.2.2.2.2.2.2.1
                have h14 : vs 14 = _ := hA.2.2.2.2.2.2.2.2.2.2.2.2.2.2.1
                have h15 : vs 15 = _ := hA.2.2.2.2.2.2.2.2.2.2.2.2.2.2.2.1
                have h16 : vs 16 = _ := hA.2.2.2.2.2.2.2.2.2.2.2.2.2.2.2.2.1
                have h17 : vs 17 = _ := hA.2.2.2.2.2.2.2.2.2.2.2.2.2.2.2.2.2.1
                have h18 : vs 18 = _ := hA.2.2.2.2.2.2.2.2.2.2.2.2.2.2.2.2.2.2.1
                have h19 : vs 19 = _ := hA.2.2.2.2.2.2.2.2.2.2.2.2.2.2.2.2.2.2.2.1
                have h20 : vs 20 = _ := hA.2.2.2.2.2.2.2.2.2.2.2.2.2.2.2.2.2.2.2.2.1
                clear hA
                simp only [fillP, List.setIfInBounds_toArray, List.set_cons_zero, List.set_cons_succ, h0, h1, h2, h3, h4, h5, h6, h7, h8, h9, h10, h11, h12, h13, h14, h15, h16, h17, h18, h19, h20]
                clear h0 h1 h2 h3 h4 h5 h6 h7 h8 h9 h10 h11 h12 h13 h14 h15 h16 h17 h18 h19 h20
                have CW := Lib.hid (CT.out wv hB).2.2
                have HSv := Lib.hid (HS.out.keep CW.out)
                have BTv := Lib.hid (HB.out.next HB6.out CW.out)
                have f1 := HSv.out.fro j hlt
                have w1 := HSv.out.cell j hlt
                have I1 : Hid (BoolsB (wv.setCell ⟨gS, j, none⟩ (.bool true)) gS k (sP l true (j + 1))) := Lib.hid ((HSv.out.set hlt (.bool true)).congr (fun i _ => PS.out true SE.out i))
                have B8 : Hid (But2 w.heap.size gS gS w2 (wv.setCell ⟨gS, j, none⟩ (.bool true))) := Lib.hid (BTv.out.cellA GS.out _ _)
                clear CT CW HSv BTv HS HB PS
                go_wp2_with fail
                go_roundg (k - (j + 1))
                case measure => omega
                case rel => exact ⟨j + 1, by go_num, by omega, Nat.le_refl _, I1, B8⟩
            · have d3 : ((x3 : Int) == 0) = false := by simp [h3]
              obtain ⟨sb, hsb⟩ : ∃ sb, decide (fi < x0) = sb := ⟨_, rfl⟩
              have SE : Hid (set0 l true j = sb) := Lib.hid (by rw [S0.out, ← hsb]; exact decide_eq_decide.2 ⟨fun h => h.resolve_left h3, .inr⟩)
              clear S0 h3
              go_upto_region 22 with fail
              refine' wp_region_last [opV _, opV _, opV _, opV _, opV _, opV _, opV _, opV _, opV _, opV _, opV _, opV _, opV _, opV _, opV _, opV _, opV _, opV _, opV _, opV (.bool sb), opV _] 21 _ rfl (by kernel_rfl) rfl (by kernel_rfl) ⟨?s0, ?s1, ?s2, ?s3, ?s4, ?s5, ?s6, ?s7, ?s8, ?s9, ?s10, ?s11, ?s12, ?s13, ?s14, ?s15, ?s16, ?s17, ?s18, ?s19, ?s20, trivial⟩ rfl ?fin
              case s0 =>
                refine BStep.of [] [] (opV _) (by kernel_rfl) (fun _ _ => by kernel_rfl) rfl ?_
                intro vs wv hB hA
                clear hA
                simp only [fillP]
                have ct := (CT.out wv hB).1; have a0 := ct.1; have a1 := ct.2.1; have a2 := ct.2.2.1; have a3 := ct.2.2.2.1; have a4 := ct.2.2.2.2.1; have a5 := ct.2.2.2.2.2; have a6 := (CT.out wv hB).2.1; clear ct; go_wp2_with fail
                refine postB_val ?_ (Below.refl _ _)
                simp only [List.getElem?_cons_succ, List.getElem?_cons_zero]
                rfl
              case s1 =>
                refine BStep.of [] [] (opV _) (by kernel_rfl) (fun _ _ => by kernel_rfl) rfl ?_
                intro vs wv hB hA
                clear hA
                simp only [fillP]
                have ct := (CT.out wv hB).1; have a0 := ct.1; have a1 := ct.2.1; have a2 := ct.2.2.1; have a3 := ct.2.2.2.1; have a4 := ct.2.2.2.2.1; have a5 := ct.2.2.2.2.2; have a6 := (CT.out wv hB).2.1; clear ct; go_wp2_with fail
                refine postB_val ?_ (Below.refl _ _)
                simp only [List.getElem?_cons_succ, List.getElem?_cons_zero]
                rfl
              case s2 =>
                refine BStep.of [] [] (opV _) (by kernel_rfl) (fun _ _ => by kernel_rfl) rfl ?_
                intro vs wv hB hA
                clear hA
                simp only [fillP]
                have ct := (CT.out wv hB).1; have a0 := ct.1; have a1 := ct.2.1; have a2 := ct.2.2.1; have a3 := ct.2.2.2.1; have a4 := ct.2.2.2.2.1; have a5 := ct.2.2.2.2.2; have a6 := (CT.out wv hB).2.1; clear ct; go_wp2_with fail
                refine postB_val ?_ (Below.refl _ _)
                simp only [List.getElem?_cons_succ, List.getElem?_cons_zero]
                rfl
              case s3 =>
                refine BStep.of [] [] (opV _) (by kernel_rfl) (fun _ _ => by kernel_rfl) rfl ?_
                intro vs wv hB hA
                clear hA
                simp only [fillP]
                have ct := (CT.out wv hB).1; have a0 := ct.1; have a1 := ct.2.1; have a2 := ct.2.2.1; have a3 := ct.2.2.2.1; have a4 := ct.2.2.2.2.1; have a5 := ct.2.2.2.2.2; have a6 := (CT.out wv hB).2.1; clear ct; go_wp2_with fail
                refine postB_val ?_ (Below.refl _ _)
                simp only [List.getElem?_cons_succ, List.getElem?_cons_zero]
                rfl
              case s4 =>
                refine BStep.of [2, 3] [(75, 2), (76, 3)] (opV _) (by kernel_rfl) (fun _ _ => by kernel_rfl) rfl ?_
                intro vs wv hB hA
                have h2 : vs 2 = _ := hA.1
                have h3 : vs 3 = _ := hA.2.1
                clear hA
                simp only [fillP, List.setIfInBounds_toArray, List.set_cons_zero, List.set_cons_succ, h2, h3]
                have ct := (CT.out wv hB).1; have a0 := ct.1; have a1 := ct.2.1; have a2 := ct.2.2.1; have a3 := ct.2.2.2.1; have a4 := ct.2.2.2.2.1; have a5 := ct.2.2.2.2.2; have a6 := (CT.out wv hB).2.1; clear ct; go_wp2_with fail
                refine postB_val ?_ (Below.refl _ _)
                simp only [List.getElem?_cons_succ, List.getElem?_cons_zero]
                rfl
              case s5 =>
                refine BStep.of [4] [(77, 4)] (opV _) (by kernel_rfl) (fun _ _ => by kernel_rfl) rfl ?_
                intro vs wv hB hA
                have h4 : vs 4 = _ := hA.1
                clear hA
                simp only [fillP, List.setIfInBounds_toArray, List.set_cons_zero, List.set_cons_succ, h4]
                have ct := (CT.out wv hB).1; have a0 := ct.1; have a1 := ct.2.1; have a2 := ct.2.2.1; have a3 := ct.2.2.2.1; have a4 := ct.2.2.2.2.1; have a5 := ct.2.2.2.2.2; have a6 := (CT.out wv hB).2.1; clear ct; go_wp2_with fail
                refine postB_val ?_ (Below.refl _ _)
                simp only [List.getElem?_cons_succ, List.getElem?_cons_zero]
                rfl
              case s6 =>
                refine BStep.of [5] [(78, 5)] (opV _) (by kernel_rfl) (fun _ _ => by kernel_rfl) rfl ?_
                intro vs wv hB hA
                have h5 : vs 5 = _ := hA.1
                clear hA
                simp only [fillP, List.setIfInBounds_toArray, List.set_cons_zero, List.set_cons_succ, h5]
                have ct := (CT.out wv hB).1; have a0 := ct.1; have a1 := ct.2.1; have a2 := ct.2.2.1; have a3 := ct.2.2.2.1; have a4 := ct.2.2.2.2.1; have a5 := ct.2.2.2.2.2; have a6 := (CT.out wv hB).2.1; clear ct; go_wp2_with fail
                refine postB_val ?_ (Below.refl _ _)
                simp only [List.getElem?_cons_succ, List.getElem?_cons_zero]
                rfl
              case s7 =>
                refine BStep.of [6] [(79, 6)] (opV _) (by kernel_rfl) (fun _ _ => by kernel_rfl) rfl ?_
                intro vs wv hB hA
                have h6 : vs 6 = _ := hA.1
                clear hA
                simp only [fillP, List.setIfInBounds_toArray, List.set_cons_zero, List.set_cons_succ, h6]
                have ct := (CT.out wv hB).1; have a0 := ct.1; have a1 := ct.2.1; have a2 := ct.2.2.1; have a3 := ct.2.2.2.1; have a4 := ct.2.2.2.2.1; have a5 := ct.2.2.2.2.2; have a6 := (CT.out wv hB).2.1; clear ct; go_wp2_with fail
                refine postB_val ?_ (Below.refl _ _)
                simp only [List.getElem?_cons_succ, List.getElem?_cons_zero]
                rfl
              case s8 =>
                refine BStep.of [7] [(80, 7)] (opV _) (by kernel_rfl) (fun _ _ => by kernel_rfl) rfl ?_
                intro vs wv hB hA
                have h7 : vs 7 = _ := hA.1
                clear hA
                simp only [fillP, List.setIfInBounds_toArray, List.set_cons_zero, List.set_cons_succ, h7]
                have ct := (CT.out wv hB).1; have a0 := ct.1; have a1 := ct.2.1; have a2 := ct.2.2.1; have a3 := ct.2.2.2.1; have a4 := ct.2.2.2.2.1; have a5 := ct.2.2.2.2.2; have a6 := (CT.out wv hB).2.1; clear ct; go_wp2_with fail
                refine postB_val ?_ (Below.refl _ _)
                simp only [List.getElem?_cons_succ, List.getElem?_cons_zero]
                rfl
              case s9 =>
                refine BStep.of [8] [(81, 8)] (opV _) (by kernel_rfl) (fun _ _ => by kernel_rfl) rfl ?_
                intro vs wv hB hA
                have h8 : vs 8 = _ := hA.1
                clear hA
                simp only [fillP, List.setIfInBounds_toArray, List.set_cons_zero, List.set_cons_succ, h8]
                have ct := (CT.out wv hB).1; have a0 := ct.1; have a1 := ct.2.1; have a2 := ct.2.2.1; have a3 := ct.2.2.2.1; have a4 := ct.2.2.2.2.1; have a5 := ct.2.2.2.2.2; have a6 := (CT.out wv hB).2.1; clear ct; go_wp2_with fail
                refine postB_val ?_ (Below.refl _ _)
                simp only [List.getElem?_cons_succ, List.getElem?_cons_zero]
                rfl
              case s10 =>
                refine BStep.of [8] [(81, 8)] (opV _) (by kernel_rfl) (fun _ _ => by kernel_rfl) rfl ?_
                intro vs wv hB hA
                have h8 : vs 8 = _ := hA.1
                clear hA
                simp only [fillP, List.setIfInBounds_toArray, List.set_cons_zero, List.set_cons_succ, h8]
                have ct := (CT.out wv hB).1; have a0 := ct.1; have a1 := ct.2.1; have a2 := ct.2.2.1; have a3 := ct.2.2.2.1; have a4 := ct.2.2.2.2.1; have a5 := ct.2.2.2.2.2; have a6 := (CT.out wv hB).2.1; clear ct; go_wp2_with fail
                refine postB_val ?_ (Below.refl _ _)
                simp only [List.getElem?_cons_succ, List.getElem?_cons_zero]
                rfl
              case s11 =>
                refine BStep.of [8, 9, 10] [(81, 8), (82, 9), (83, 10)] (opV _) (by kernel_rfl) (fun _ _ => by kernel_rfl) rfl ?_
                intro vs wv hB hA
                have h8 : vs 8 = _ := hA.1
                have h9 : vs 9 = _ := hA.2.1
                have h10 : vs 10 = _ := hA.2.2.1
                clear hA
                simp only [fillP, List.setIfInBounds_toArray, List.set_cons_zero, List.set_cons_succ, h8, h9, h10]
                have ct := (CT.out wv hB).1; have a0 := ct.1; have a1 := ct.2.1; have a2 := ct.2.2.1; have a3 := ct.2.2.2.1; have a4 := ct.2.2.2.2.1; have a5 := ct.2.2.2.2.2; have a6 := (CT.out wv hB).2.1; clear ct; go_wp2_with fail
                refine postB_val ?_ (Below.refl _ _)
                simp only [List.getElem?_cons_succ, List.getElem?_cons_zero]
                rfl
              case s12 =>
                refine BStep.of [8, 11] [(81, 8), (84, 11)] (opV _) (by kernel_rfl) (fun _ _ => by kernel_rfl) rfl ?_
                intro vs wv hB hA
                have h8 : vs 8 = _ := hA.1
                have h11 : vs 11 = _ := hA.2.1
                clear hA
                simp only [fillP, List.setIfInBounds_toArray, List.set_cons_zero, List.set_cons_succ, h8, h11]
                have ct := (CT.out wv hB).1; have a0 := ct.1; have a1 := ct.2.1; have a2 := ct.2.2.1; have a3 := ct.2.2.2.1; have a4 := ct.2.2.2.2.1; have a5 := ct.2.2.2.2.2; have a6 := (CT.out wv hB).2.1; clear ct; go_wp2_with fail
                refine postB_val ?_ (Below.refl _ _)
                simp only [List.getElem?_cons_succ, List.getElem?_cons_zero]
                rfl
              case s13 =>
                refine BStep.of [8, 12] [(81, 8), (85, 12)] (opV _) (by kernel_rfl) (fun _ _ => by kernel_rfl) rfl ?_
                intro vs wv hB hA
                have h8 : vs 8 = _ := hA.1
                have h12 : vs 12 = _ := hA.2.1
                clear hA
                simp only [fillP, List.setIfInBounds_toArray, List.set_cons_zero, List.set_cons_succ, h8, h12]
                have ct := (CT.out wv hB).1; have a0 := ct.1; have a1 := ct.2.1; have a2 := ct.2.2.1; have a3 := ct.2.2.2.1; have a4 := ct.2.2.2.2.1; have a5 := ct.2.2.2.2.2; have a6 := (CT.out wv hB).2.1; clear ct; go_wp2_with fail
                refine postB_val ?_ (Below.refl _ _)
                simp only [List.getElem?_cons_succ, List.getElem?_cons_zero]
                rfl
              case s14 =>
                refine BStep.of [8] [(81, 8)] (opV _) (by kernel_rfl) (fun _ _ => by kernel_rfl) rfl ?_
                intro vs wv hB hA
                have h8 : vs 8 = _ := hA.1
                clear hA
                simp only [fillP, List.setIfInBounds_toArray, List.set_cons_zero, List.set_cons_succ, h8]
                have ct := (CT.out wv hB).1; have a0 := ct.1; have a1 := ct.2.1; have a2 := ct.2.2.1; have a3 := ct.2.2.2.1; have a4 := ct.2.2.2.2.1; have a5 := ct.2.2.2.2.2; have a6 := (CT.out wv hB).2.1; clear ct; go_wp2_with fail
                refine postB_val ?_ (Below.refl _ _)
                simp only [List.getElem?_cons_succ, List.getElem?_cons_zero]
                rfl
              case s15 =>
                refine BStep.of [8] [(81, 8)] (opV _) (by kernel_rfl) (fun _ _ => by kernel_rfl) rfl ?_
                intro vs wv hB hA
                have h8 : vs 8 = _ := hA.1
                clear hA
                simp only [fillP, List.setIfInBounds_toArray, List.set_cons_zero, List.set_cons_succ, h8]
                have ct := (CT.out wv hB).1; have a0 := ct.1; have a1 := ct.2.1; have a2 := ct.2.2.1; have a3 := ct.2.2.2.1; have a4 := ct.2.2.2.2.1; have a5 := ct.2.2.2.2.2; have a6 := (CT.out wv hB).2.1; clear ct; go_wp2_with fail
                refine postB_val ?_ (Below.refl _ _)
                simp only [List.getElem?_cons_succ, List.getElem?_cons_zero]
                rfl
              case s16 =>
                refine BStep.of [8, 14, 15] [(81, 8), (87, 14), (88, 15)] (opV _) (by kernel_rfl) (fun _ _ => by kernel_rfl) rfl ?_
                intro vs wv hB hA
                have h8 : vs 8 = _ := hA.1
                have h14 : vs 14 = _ := hA.2.1
                have h15 : vs 15 = _ := hA.2.2.1
                clear hA
                simp only [fillP, List.setIfInBounds_toArray, List.set_cons_zero, List.set_cons_succ, h8, h14, h15]
                have ct := (CT.out wv hB).1; have a0 := ct.1; have a1 := ct.2.1; have a2 := ct.2.2.1; have a3 := ct.2.2.2.1; have a4 := ct.2.2.2.2.1; have a5 := ct.2.2.2.2.2; have a6 := (CT.out wv hB).2.1; clear ct; go_wp2_with fail
                refine postB_val ?_ (Below.refl _ _)
                simp only [List.getElem?_cons_succ, List.getElem?_cons_zero]
                rfl
              case s17 =>
                refine BStep.of [8, 16] [(81, 8), (89, 16)] (opV _) (by kernel_rfl) (fun _ _ => by kernel_rfl) rfl ?_
                intro vs wv hB hA
                have h8 : vs 8 = _ := hA.1
                have h16 : vs 16 = _ := hA.2.1
                clear hA
                simp only [fillP, List.setIfInBounds_toArray, List.set_cons_zero, List.set_cons_succ, h8, h16]
                have ct := (CT.out wv hB).1; have a0 := ct.1; have a1 := ct.2.1; have a2 := ct.2.2.1; have a3 := ct.2.2.2.1; have a4 := ct.2.2.2.2.1; have a5 := ct.2.2.2.2.2; have a6 := (CT.out wv hB).2.1; clear ct; go_wp2_with fail
                refine postB_val ?_ (Below.refl _ _)
                simp only [List.getElem?_cons_succ, List.getElem?_cons_zero]
                rfl
              case s18 =>
                refine BStep.of [8, 13, 17] [(81, 8), (86, 13), (90, 17)] (opV _) (by kernel_rfl) (fun _ _ => by kernel_rfl) rfl ?_
                intro vs wv hB hA
                have h8 : vs 8 = _ := hA.1
                have h13 : vs 13 = _ := hA.2.1
                have h17 : vs 17 = _ := hA.2.2.1
                clear hA
                simp only [fillP, List.setIfInBounds_toArray, List.set_cons_zero, List.set_cons_succ, h8, h13, h17]
                have ct := (CT.out wv hB).1; have a0 := ct.1; have a1 := ct.2.1; have a2 := ct.2.2.1; have a3 := ct.2.2.2.1; have a4 := ct.2.2.2.2.1; have a5 := ct.2.2.2.2.2; have a6 := (CT.out wv hB).2.1; clear ct; go_wp2_with fail
                refine postB_val ?_ (Below.refl _ _)
                simp only [List.getElem?_cons_succ, List.getElem?_cons_zero]
                rfl
              case s19 =>
                refine BStep.of [8, 18] [(81, 8), (91, 18)] (opV (.bool sb)) (by kernel_rfl) (fun _ _ => by kernel_rfl) rfl ?_
                intro vs wv hB hA
                have h8 : vs 8 = _ := hA.1
                have h18 : vs 18 = _ := hA.2.1
                clear hA
                simp only [fillP, List.setIfInBounds_toArray, List.set_cons_zero, List.set_cons_succ, h8, h18]
                have ct := (CT.out wv hB).1; have a0 := ct.1; have a1 := ct.2.1; have a2 := ct.2.2.1; have a3 := ct.2.2.2.1; have a4 := ct.2.2.2.2.1; have a5 := ct.2.2.2.2.2; have a6 := (CT.out wv hB).2.1; clear ct; go_wp2_with fail; refine postB_val ?_ (Below.refl _ _); simp only [List.getElem?_cons_succ, List.getElem?_cons_zero]
              case s20 =>
                refine BStep.of [0, 1, 2, 3, 4, 5, 6, 7, 8, 9, 10, 11, 12, 13, 14, 15, 16, 17, 18, 19] [(73, 0), (74, 1), (75, 2), (76, 3), (77, 4), (78, 5), (79, 6), (80, 7), (81, 8), (82, 9), (83, 10), (84, 11), (85, 12), (86, 13), (87, 14), (88, 15), (89, 16), (90, 17), (91, 18), (92, 19)] (opV _) (by kernel_rfl) (fun _ _ => by kernel_rfl) rfl ?_
                intro vs wv hB hA
                have h0 : vs 0 = _ := hA.1
                have h1 : vs 1 = _ := hA.2.1
                have h2 : vs 2 = _ := hA.2.2.1
                have h3 : vs 3 = _ := hA.2.2.2.1
                have h4 : vs 4 = _ := hA.2.2.2.2.1
                have h5 : vs 5 = _ := hA.2.2.2.2.2.1
                have h6 : vs 6 = _ := hA.2.2.2.2.2.2.1
                have h7 : vs 7 = _ := hA.2.2.2.2.2.2.2.1
                have h8 : vs 8 = _ := hA.2.2.2.2.2.2.2.2.1
                have h9 : vs 9 = _ := hA.2.2.2.2.2.2.2.2.2.1
                have h10 : vs 10 = _ := hA.2.2.2.2.2.2.2.2.2.2.1
                have h11 : vs 11 = _ := hA.2.2.2.2.2.2.2.2.2.2.2.1
                have h12 : vs 12 = _ := hA.2.2.2.2.2.2.2.2.2.2.2.2.1
                have h13 : vs 13 = _ := hA.2.2.2.2.2.2.2.2.2.2.2.2.2.1
                have h14 : vs 14 = _ := hA.2.2.2.2.2.2.2.2.2.2.2.2.2.2.1
                have h15 : vs 15 = _ := hA.2.2.2.2.2.2.2.2.2.2.2.2.2.2.2.1
                have h16 : vs 16 = _ := hA.2.2.2.2.2.2.2.2.2.2.2.2.2.2.2.2.1
                have h17 : vs 17 = _ := hA.2.2.2.2.2.2.2.2.2.2.2.2.2.2.2.2.2.1
                have h18 : vs 18 = _ := hA.2.2.2.2.2.2.2.2.2.2.2.2.2.2.2.2.2.2.1
                have h19 : vs 19 = _ := hA.2.2.2.2.2.2.2.2.2.2.2.2.2.2.2.2.2.2.2.1
                clear hA
                simp only [fillP, List.setIfInBounds_toArray, List.set_cons_zero, List.set_cons_succ, h0, h1, h2, h3, h4, h5, h6, h7, h8, h9, h10, h11, h12, h13, h14, h15, h16, h17, h18, h19]
                have ct := (CT.out wv hB).1; have a0 := ct.1; have a1 := ct.2.1; have a2 := ct.2.2.1; have a3 := ct.2.2.2.1; have a4 := ct.2.2.2.2.1; have a5 := ct.2.2.2.2.2; have a6 := (CT.out wv hB).2.1; clear ct; go_wp2_with fail
                refine postB_val ?_ (Below.refl _ _)
                simp only [List.getElem?_cons_succ, List.getElem?_cons_zero]
                rfl
              case fin =>
                refine last_of [0, 1, 2, 3, 4, 5, 6, 7, 8, 9, 10, 11, 12, 13, 14, 15, 16, 17, 18, 19, 20] [(73, 0), (74, 1), (75, 2), (76, 3), (77, 4), (78, 5), (79, 6), (80, 7), (81, 8), (82, 9), (83, 10), (84, 11), (85, 12), (86, 13), (87, 14), (88, 15), (89, 16), (90, 17), (91, 18), (92, 19), (93, 20)] (by kernel_rfl) (fun _ _ => by kernel_rfl) ?_
                intro vs wv hB hA
                have h0 : vs 0 = _ := hA.1
                have h1 : vs 1 = _ := hA.2.1
                have h2 : vs 2 = _ := hA.2.2.1
                have h3 : vs 3 = _ := hA.2.2.2.1
                have h4 : vs 4 = _ := hA.2.2.2.2.1
                have h5 : vs 5 = _ := hA.2.2.2.2.2.1
                have h6 : vs 6 = _ := hA.2.2.2.2.2.2.1
                have h7 : vs 7 = _ := hA.2.2.2.2.2.2.2.1
                have h8 : vs 8 = _ := hA.2.2.2.2.2.2.2.2.1
                have h9 : vs 9 = _ := hA.2.2.2.2.2.2.2.2.2.1
                have h10 : vs 10 = _ := hA.2.2.2.2.2.2.2.2.2.2.1
                have h11 : vs 11 = _ := hA.2.2.2.2.2.2.2.2.2.2.2.1
                have h12 : vs 12 = _ := hA.2.2.2.2.2.2.2.2.2.2.2.2.1
                have h13 : vs 13 = _ := hA.2.2.2.2.2.2.2.2.2.2.2.2.2.1
                have h14 : vs 14 = _ := hA.2.2.2.2.2.2.2.2.2.2.2.2.2.2.1
                have h15 : vs 15 = _ := hA.2.2.2.2.2.2.2.2.2.2.2.2.2.2.2.1
                have h16 : vs 16 = _ := hA.2.2.2.2.2.2.2.2.2.2.2.2.2.2.2.2.1
                have h17 : vs 17 = _ := hA.2.2.2.2.2.2.2.2.2.2.2.2.2.2.2.2.2.1
                have h18 : vs 18 = _ := hA.2.2.2.2.2.2.2.2.2.2.2.2.2.2.2.2.2.2.1
                have h19 : vs 19 = _ := hA.2.2.2.2.2.2.2.2.2.2.2.2.2.2.2.2.2.2.2.1
                have h20 : vs 20 = _ := hA.2.2.2.2.2.2.2.2.2.2.2.2.2.2.2.2.2.2.2.2.1
                clear hA
                simp only [fillP, List.setIfInBounds_toArray, List.set_cons_zero, List.set_cons_succ, h0, h1, h2, h3, h4, h5, h6, h7, h8, h9, h10, h11, h12, h13, h14, h15, h16, h17, h18, h19, h20]
                clear h0 h1 h2 h3 h4 h5 h6 h7 h8 h9 h10 h11 h12 h13 h14 h15 h16 h17 h18 h19 h20
                have CW := Lib.hid (CT.out wv hB).2.2
                have HSv := Lib.hid (HS.out.keep CW.out)
                have BTv := Lib.hid (HB.out.next HB6.out CW.out)
                have f1 := HSv.out.fro j hlt
                have w1 := HSv.out.cell j hlt
                have I1 : Hid (BoolsB (wv.setCell ⟨gS, j, none⟩ (.bool sb)) gS k (sP l true (j + 1))) := Lib.hid ((HSv.out.set hlt (.bool sb)).congr (fun i _ => PS.out sb SE.out i))
                have B8 : Hid (But2 w.heap.size gS gS w2 (wv.setCell ⟨gS, j, none⟩ (.bool sb))) := Lib.hid (BTv.out.cellA GS.out _ _)
                clear CT CW HSv BTv HS HB PS
                go_wp2_with fail
                go_roundg (k - (j + 1))
                case measure => omega
                case rel => exact ⟨j + 1, by go_num, by omega, Nat.le_refl _, I1, B8⟩
          | false =>
            rw [if_neg (by decide)] at S0
            by_cases h3 : x4 = 0
            · subst h3
              have SE : Hid (set0 l false j = true) := Lib.hid (by rw [S0.out]; exact decide_eq_true (.inl rfl))
              clear S0
              go_upto_region 23 with fail
              refine' wp_region_last [opV _, opV _, opV _, opV _, opV _, opV _, opV _, opV _, opV _, opV _, opV _, opV _, opV _, opV _, opV _, opV _, opV _, opV _, opV _, opV (.bool true), opV _] 21 _ rfl (by kernel_rfl) rfl (by kernel_rfl) ⟨?s0, ?s1, ?s2, ?s3, ?s4, ?s5, ?s6, ?s7, ?s8, ?s9, ?s10, ?s11, ?s12, ?s13, ?s14, ?s15, ?s16, ?s17, ?s18, ?s19, ?s20, trivial⟩ rfl ?fin
              case s0 =>
                refine BStep.of [] [] (opV _) (by kernel_rfl) (fun _ _ => by kernel_rfl) rfl ?_
                intro vs wv hB hA
                clear hA
                simp only [fillP]
                have ct := (CT.out wv hB).1; have a0 := ct.1; have a1 := ct.2.1; have a2 := ct.2.2.1; have a3 := ct.2.2.2.1; have a4 := ct.2.2.2.2.1; have a5 := ct.2.2.2.2.2; have a6 := (CT.out wv hB).2.1; clear ct; go_wp2_with fail
                refine postB_val ?_ (Below.refl _ _)
                simp only [List.getElem?_cons_succ, List.getElem?_cons_zero]
                rfl
              case s1 =>
                refine BStep.of [] [] (opV _) (by kernel_rfl) (fun _ _ => by kernel_rfl) rfl ?_
                intro vs wv hB hA
                clear hA
                simp only [fillP]
                have ct := (CT.out wv hB).1; have a0 := ct.1; have a1 := ct.2.1; have a2 := ct.2.2.1; have a3 := ct.2.2.2.1; have a4 := ct.2.2.2.2.1; have a5 := ct.2.2.2.2.2; have a6 := (CT.out wv hB).2.1; clear ct; go_wp2_with fail
                refine postB_val ?_ (Below.refl _ _)
                simp only [List.getElem?_cons_succ, List.getElem?_cons_zero]
                rfl
              case s2 =>
                refine BStep.of [] [] (opV _) (by kernel_rfl) (fun _ _ => by kernel_rfl) rfl ?_
                intro vs wv hB hA
                clear hA
                simp only [fillP]
                have ct := (CT.out wv hB).1; have a0 := ct.1; have a1 := ct.2.1; have a2 := ct.2.2.1; have a3 := ct.2.2.2.1; have a4 := ct.2.2.2.2.1; have a5 := ct.2.2.2.2.2; have a6 := (CT.out wv hB).2.1; clear ct; go_wp2_with fail
                refine postB_val ?_ (Below.refl _ _)
                simp only [List.getElem?_cons_succ, List.getElem?_cons_zero]
                rfl
              case s3 =>
                refine BStep.of [] [] (opV _) (by kernel_rfl) (fun _ _ => by kernel_rfl) rfl ?_
                intro vs wv hB hA
                clear hA
                simp only [fillP]
                have ct := (CT.out wv hB).1; have a0 := ct.1; have a1 := ct.2.1; have a2 := ct.2.2.1; have a3 := ct.2.2.2.1; have a4 := ct.2.2.2.2.1; have a5 := ct.2.2.2.2.2; have a6 := (CT.out wv hB).2.1; clear ct; go_wp2_with fail
                refine postB_val ?_ (Below.refl _ _)
                simp only [List.getElem?_cons_succ, List.getElem?_cons_zero]
                rfl
              case s4 =>
                refine BStep.of [2, 3] [(96, 2), (97, 3)] (opV _) (by kernel_rfl) (fun _ _ => by kernel_rfl) rfl ?_
                intro vs wv hB hA
                have h2 : vs 2 = _ := hA.1
                have h3 : vs 3 = _ := hA.2.1
                clear hA
                simp only [fillP, List.setIfInBounds_toArray, List.set_cons_zero, List.set_cons_succ, h2, h3]
                have ct := (CT.out wv hB).1; have a0 := ct.1; have a1 := ct.2.1; have a2 := ct.2.2.1; have a3 := ct.2.2.2.1; have a4 := ct.2.2.2.2.1; have a5 := ct.2.2.2.2.2; have a6 := (CT.out wv hB).2.1; clear ct; go_wp2_with fail
                refine postB_val ?_ (Below.refl _ _)
                simp only [List.getElem?_cons_succ, List.getElem?_cons_zero]
                rfl
              case s5 =>
                refine BStep.of [4] [(98, 4)] (opV _) (by kernel_rfl) (fun _ _ => by kernel_rfl) rfl ?_
                intro vs wv hB hA
                have h4 : vs 4 = _ := hA.1
                clear hA
                simp only [fillP, List.setIfInBounds_toArray, List.set_cons_zero, List.set_cons_succ, h4]
                have ct := (CT.out wv hB).1; have a0 := ct.1; have a1 := ct.2.1; have a2 := ct.2.2.1; have a3 := ct.2.2.2.1; have a4 := ct.2.2.2.2.1; have a5 := ct.2.2.2.2.2; have a6 := (CT.out wv hB).2.1; clear ct; go_wp2_with fail
                refine postB_val ?_ (Below.refl _ _)
                simp only [List.getElem?_cons_succ, List.getElem?_cons_zero]
                rfl
              case s6 =>
                refine BStep.of [5] [(99, 5)] (opV _) (by kernel_rfl) (fun _ _ => by kernel_rfl) rfl ?_
                intro vs wv hB hA
                have h5 : vs 5 = _ := hA.1
                clear hA
                simp only [fillP, List.setIfInBounds_toArray, List.set_cons_zero, List.set_cons_succ, h5]
                have ct := (CT.out wv hB).1; have a0 := ct.1; have a1 := ct.2.1; have a2 := ct.2.2.1; have a3 := ct.2.2.2.1; have a4 := ct.2.2.2.2.1; have a5 := ct.2.2.2.2.2; have a6 := (CT.out wv hB).2.1; clear ct; go_wp2_with fail
                refine postB_val ?_ (Below.refl _ _)
                simp only [List.getElem?_cons_succ, List.getElem?_cons_zero]
                rfl
              case s7 =>
                refine BStep.of [6] [(100, 6)] (opV _) (by kernel_rfl) (fun _ _ => by kernel_rfl) rfl ?_
                intro vs wv hB hA
                have h6 : vs 6 = _ := hA.1
                clear hA
                simp only [fillP, List.setIfInBounds_toArray, List.set_cons_zero, List.set_cons_succ, h6]
                have ct := (CT.out wv hB).1; have a0 := ct.1; have a1 := ct.2.1; have a2 := ct.2.2.1; have a3 := ct.2.2.2.1; have a4 := ct.2.2.2.2.1; have a5 := ct.2.2.2.2.2; have a6 := (CT.out wv hB).2.1; clear ct; go_wp2_with fail
                refine postB_val ?_ (Below.refl _ _)
                simp only [List.getElem?_cons_succ, List.getElem?_cons_zero]
                rfl
              case s8 =>
                refine BStep.of [7] [(101, 7)] (opV _) (by kernel_rfl) (fun _ _ => by kernel_rfl) rfl ?_
                intro vs wv hB hA
                have h7 : vs 7 = _ := hA.1
                clear hA
                simp only [fillP, List.setIfInBounds_toArray, List.set_cons_zero, List.set_cons_succ, h7]
                have ct := (CT.out wv hB).1; have a0 := ct.1; have a1 := ct.2.1; have a2 := ct.2.2.1; have a3 := ct.2.2.2.1; have a4 := ct.2.2.2.2.1; have a5 := ct.2.2.2.2.2; have a6 := (CT.out wv hB).2.1; clear ct; go_wp2_with fail
                refine postB_val ?_ (Below.refl _ _)
                simp only [List.getElem?_cons_succ, List.getElem?_cons_zero]
                rfl
              case s9 =>
                refine BStep.of [8] [(102, 8)] (opV _) (by kernel_rfl) (fun _ _ => by kernel_rfl) rfl ?_
                intro vs wv hB hA
                have h8 : vs 8 = _ := hA.1
                clear hA
                simp only [fillP, List.setIfInBounds_toArray, List.set_cons_zero, List.set_cons_succ, h8]
                have ct := (CT.out wv hB).1; have a0 := ct.1; have a1 := ct.2.1; have a2 := ct.2.2.1; have a3 := ct.2.2.2.1; have a4 := ct.2.2.2.2.1; have a5 := ct.2.2.2.2.2; have a6 := (CT.out wv hB).2.1; clear ct; go_wp2_with fail
                refine postB_val ?_ (Below.refl _ _)
                simp only [List.getElem?_cons_succ, List.getElem?_cons_zero]
                rfl
              case s10 =>
                refine BStep.of [8] [(102, 8)] (opV _) (by kernel_rfl) (fun _ _ => by kernel_rfl) rfl ?_
                intro vs wv hB hA
                have h8 : vs 8 = _ := hA.1
                clear hA
                simp only [fillP, List.setIfInBounds_toArray, List.set_cons_zero, List.set_cons_succ, h8]
                have ct := (CT.out wv hB).1; have a0 := ct.1; have a1 := ct.2.1; have a2 := ct.2.2.1; have a3 := ct.2.2.2.1; have a4 := ct.2.2.2.2.1; have a5 := ct.2.2.2.2.2; have a6 := (CT.out wv hB).2.1; clear ct; go_wp2_with fail
                refine postB_val ?_ (Below.refl _ _)
                simp only [List.getElem?_cons_succ, List.getElem?_cons_zero]
                rfl
              case s11 =>
                refine BStep.of [8, 9, 10] [(102, 8), (103, 9), (104, 10)] (opV _) (by kernel_rfl) (fun _ _ => by kernel_rfl) rfl ?_
                intro vs wv hB hA
                have h8 : vs 8 = _ := hA.1
                have h9 : vs 9 = _ := hA.2.1
                have h10 : vs 10 = _ := hA.2.2.1
                clear hA
                simp only [fillP, List.setIfInBounds_toArray, List.set_cons_zero, List.set_cons_succ, h8, h9, h10]
                have ct := (CT.out wv hB).1; have a0 := ct.1; have a1 := ct.2.1; have a2 := ct.2.2.1; have a3 := ct.2.2.2.1; have a4 := ct.2.2.2.2.1; have a5 := ct.2.2.2.2.2; have a6 := (CT.out wv hB).2.1; clear ct; go_wp2_with fail
                refine postB_val ?_ (Below.refl _ _)
                simp only [List.getElem?_cons_succ, List.getElem?_cons_zero]
                rfl
              case s12 =>
                refine BStep.of [8, 11] [(102, 8), (105, 11)] (opV _) (by kernel_rfl) (fun _ _ => by kernel_rfl) rfl ?_
                intro vs wv hB hA
                have h8 : vs 8 = _ := hA.1
                have h11 : vs 11 = _ := hA.2.1
                clear hA
                simp only [fillP, List.setIfInBounds_toArray, List.set_cons_zero, List.set_cons_succ, h8, h11]
                have ct := (CT.out wv hB).1; have a0 := ct.1; have a1 := ct.2.1; have a2 := ct.2.2.1; have a3 := ct.2.2.2.1; have a4 := ct.2.2.2.2.1; have a5 := ct.2.2.2.2.2; have a6 := (CT.out wv hB).2.1; clear ct; go_wp2_with fail
                refine postB_val ?_ (Below.refl _ _)
                simp only [List.getElem?_cons_succ, List.getElem?_cons_zero]
                rfl
              case s13 =>
                refine BStep.of [8, 12] [(102, 8), (106, 12)] (opV _) (by kernel_rfl) (fun _ _ => by kernel_rfl) rfl ?_
                intro vs wv hB hA
                have h8 : vs 8 = _ := hA.1
                have h12 : vs 12 = _ := hA.2.1
                clear hA
                simp only [fillP, List.setIfInBounds_toArray, List.set_cons_zero, List.set_cons_succ, h8, h12]
                have ct := (CT.out wv hB).1; have a0 := ct.1; have a1 := ct.2.1; have a2 := ct.2.2.1; have a3 := ct.2.2.2.1; have a4 := ct.2.2.2.2.1; have a5 := ct.2.2.2.2.2; have a6 := (CT.out wv hB).2.1; clear ct; go_wp2_with fail
                refine postB_val ?_ (Below.refl _ _)
                simp only [List.getElem?_cons_succ, List.getElem?_cons_zero]
                rfl
              case s14 =>
                refine BStep.of [8] [(102, 8)] (opV _) (by kernel_rfl) (fun _ _ => by kernel_rfl) rfl ?_
                intro vs wv hB hA
                have h8 : vs 8 = _ := hA.1
                clear hA
                simp only [fillP, List.setIfInBounds_toArray, List.set_cons_zero, List.set_cons_succ, h8]
                have ct := (CT.out wv hB).1; have a0 := ct.1; have a1 := ct.2.1; have a2 := ct.2.2.1; have a3 := ct.2.2.2.1; have a4 := ct.2.2.2.2.1; have a5 := ct.2.2.2.2.2; have a6 := (CT.out wv hB).2.1; clear ct; go_wp2_with fail
                refine postB_val ?_ (Below.refl _ _)
                simp only [List.getElem?_cons_succ, List.getElem?_cons_zero]
                rfl
              case s15 =>
                refine BStep.of [8] [(102, 8)] (opV _) (by kernel_rfl) (fun _ _ => by kernel_rfl) rfl ?_
                intro vs wv hB hA
                have h8 : vs 8 = _ := hA.1
                clear hA
                simp only [fillP, List.setIfInBounds_toArray, List.set_cons_zero, List.set_cons_succ, h8]
                have ct := (CT.out wv hB).1; have a0 := ct.1; have a1 := ct.2.1; have a2 := ct.2.2.1; have a3 := ct.2.2.2.1; have a4 := ct.2.2.2.2.1; have a5 := ct.2.2.2.2.2; have a6 := (CT.out wv hB).2.1; clear ct; go_wp2_with fail
                refine postB_val ?_ (Below.refl _ _)
                simp only [List.getElem?_cons_succ, List.getElem?_cons_zero]
                rfl
              case s16 =>
                refine BStep.of [8, 14, 15] [(102, 8), (108, 14), (109, 15)] (opV _) (by kernel_rfl) (fun _ _ => by kernel_rfl) rfl ?_
                intro vs wv hB hA
                have h8 : vs 8 = _ := hA.1
                have h14 : vs 14 = _ := hA.2.1
                have h15 : vs 15 = _ := hA.2.2.1
                clear hA
                simp only [fillP, List.setIfInBounds_toArray, List.set_cons_zero, List.set_cons_succ, h8, h14, h15]
                have ct := (CT.out wv hB).1; have a0 := ct.1; have a1 := ct.2.1; have a2 := ct.2.2.1; have a3 := ct.2.2.2.1; have a4 := ct.2.2.2.2.1; have a5 := ct.2.2.2.2.2; have a6 := (CT.out wv hB).2.1; clear ct; go_wp2_with fail
                refine postB_val ?_ (Below.refl _ _)
                simp only [List.getElem?_cons_succ, List.getElem?_cons_zero]
                rfl
              case s17 =>
                refine BStep.of [8, 16] [(102, 8), (110, 16)] (opV _) (by kernel_rfl) (fun _ _ => by kernel_rfl) rfl ?_
                intro vs wv hB hA
                have h8 : vs 8 = _ := hA.1
                have h16 : vs 16 = _ := hA.2.1
                clear hA
                simp only [fillP, List.setIfInBounds_toArray, List.set_cons_zero, List.set_cons_succ, h8, h16]
                have ct := (CT.out wv hB).1; have a0 := ct.1; have a1 := ct.2.1; have a2 := ct.2.2.1; have a3 := ct.2.2.2.1; have a4 := ct.2.2.2.2.1; have a5 := ct.2.2.2.2.2; have a6 := (CT.out wv hB).2.1; clear ct; go_wp2_with fail
                refine postB_val ?_ (Below.refl _ _)
                simp only [List.getElem?_cons_succ, List.getElem?_cons_zero]
                rfl
              case s18 =>
                refine BStep.of [8, 13, 17] [(102, 8), (107, 13), (111, 17)] (opV _) (by kernel_rfl) (fun _ _ => by kernel_rfl) rfl ?_
                intro vs wv hB hA
                have h8 : vs 8 = _ := hA.1
                have h13 : vs 13 = _ := hA.2.1
                have h17 : vs 17 = _ := hA.2.2.1
                clear hA
                simp only [fillP, List.setIfInBounds_toArray, List.set_cons_zero, List.set_cons_succ, h8, h13, h17]
                have ct := (CT.out wv hB).1; have a0 := ct.1; have a1 := ct.2.1; have a2 := ct.2.2.1; have a3 := ct.2.2.2.1; have a4 := ct.2.2.2.2.1; have a5 := ct.2.2.2.2.2; have a6 := (CT.out wv hB).2.1; clear ct; go_wp2_with fail
                refine postB_val ?_ (Below.refl _ _)
                simp only [List.getElem?_cons_succ, List.getElem?_cons_zero]
                rfl
              case s19 =>
                refine BStep.of [8, 18] [(102, 8), (112, 18)] (opV (.bool true)) (by kernel_rfl) (fun _ _ => by kernel_rfl) rfl ?_
                intro vs wv hB hA
                have h8 : vs 8 = _ := hA.1
                have h18 : vs 18 = _ := hA.2.1
                clear hA
                simp only [fillP, List.setIfInBounds_toArray, List.set_cons_zero, List.set_cons_succ, h8, h18]
                have ct := (CT.out wv hB).1; have a0 := ct.1; have a1 := ct.2.1; have a2 := ct.2.2.1; have a3 := ct.2.2.2.1; have a4 := ct.2.2.2.2.1; have a5 := ct.2.2.2.2.2; have a6 := (CT.out wv hB).2.1; clear ct; go_wp2_with fail; refine postB_val ?_ (Below.refl _ _); simp only [List.getElem?_cons_succ, List.getElem?_cons_zero]
              case s20 =>
                refine BStep.of [0, 1, 2, 3, 4, 5, 6, 7, 8, 9, 10, 11, 12, 13, 14, 15, 16, 17, 18, 19] [(94, 0), (95, 1), (96, 2), (97, 3), (98, 4), (99, 5), (100, 6), (101, 7), (102, 8), (103, 9), (104, 10), (105, 11), (106, 12), (107, 13), (108, 14), (109, 15), (110, 16), (111, 17), (112, 18), (113, 19)] (opV _) (by kernel_rfl) (fun _ _ => by kernel_rfl) rfl ?_
                intro vs wv hB hA
                have h0 : vs 0 = _ := hA.1
                have h1 : vs 1 = _ := hA.2.1
                have h2 : vs 2 = _ := hA.2.2.1
                have h3 : vs 3 = _ := hA.2.2.2.1
                have h4 : vs 4 = _ := hA.2.2.2.2.1
                have h5 : vs 5 = _ := hA.2.2.2.2.2.1
                have h6 : vs 6 = _ := hA.2.2.2.2.2.2.1
                have h7 : vs 7 = _ := hA.2.2.2.2.2.2.2.1
                have h8 : vs 8 = _ := hA.2.2.2.2.2.2.2.2.1
                have h9 : vs 9 = _ := hA.2.2.2.2.2.2.2.2.2.1
                have h10 : vs 10 = _ := hA.2.2.2.2.2.2.2.2.2.2.1
                have h11 : vs 11 = _ := hA.2.2.2.2.2.2.2.2.2.2.2.1
                have h12 : vs 12 = _ := hA.2.2.2.2.2.2.2.2.2.2.2.2.1
                have h13 : vs 13 = _ := hA.2.2.2.2.2.2.2.2.2.2.2.2.2.1
                have h14 : vs 14 = _ := hA.2.2.2.2.2.2.2.2.2.2.2.2.2.2.1
                have h15 : vs 15 = _ := hA.2.2.2.2.2.2.2.2.2.2.2.2.2.2.2.1
                have h16 : vs 16 = _ := hA.2.2.2.2.2.2.2.2.2.2.2.2.2.2.2.2.1
                have h17 : vs 17 = _ := hA.2.2.2.2.2.2.2.2.2.2.2.2.2.2.2.2.2.1
                have h18 : vs 18 = _ := hA.2.2.2.2.2.2.2.2.2.2.2.2.2.2.2.2.2.2.1
                have h19 : vs 19 = _ := hA.2.2.2.2.2.2.2.2.2.2.2.2.2.2.2.2.2.2.2.1
                clear hA
                simp only [fillP, List.setIfInBounds_toArray, List.set_cons_zero, List.set_cons_succ, h0, h1, h2, h3, h4, h5, h6, h7, h8, h9, h10, h11, h12, h13, h14, h15, h16, h17, h18, h19]
                have ct := (CT.out wv hB).1; have a0 := ct.1; have a1 := ct.2.1; have a2 := ct.2.2.1; have a3 := ct.2.2.2.1; have a4 := ct.2.2.2.2.1; have a5 := ct.2.2.2.2.2; have a6 := (CT.out wv hB).2.1; clear ct; go_wp2_with fail
                refine postB_val ?_ (Below.refl _ _)
                simp only [List.getElem?_cons_succ, List.getElem?_cons_zero]
                rfl
              case fin =>
                refine last_of [0, 1, 2, 3, 4, 5, 6, 7, 8, 9, 10, 11, 12, 13, 14, 15, 16, 17, 18, 19, 20] [(94, 0), (95, 1), (96, 2), (97, 3), (98, 4), (99, 5), (100, 6), (101, 7), (102, 8), (103, 9), (104, 10), (105, 11), (106, 12), (107, 13), (108, 14), (109, 15), (110, 16), (111, 17), (112, 18), (113, 19), (114, 20)] (by kernel_rfl) (fun _ _ => by kernel_rfl) ?_
                intro vs wv hB hA
                have h0 : vs 0 = _ := hA.1
                have h1 : vs 1 = _ := hA.2.1
                have h2 : vs 2 = _ := hA.2.2.1
                have h3 : vs 3 = _ := hA.2.2.2.1
                have h4 : vs 4 = _ := hA.2.2.2.2.1
                have h5 : vs 5 = _ := hA.2.2.2.2.2.1
                have h6 : vs 6 = _ := hA.2.2.2.2.2.2.1
                have h7 : vs 7 = _ := hA.2.2.2.2.2.2.2.1
                have h8 : vs 8 = _ := hA.2.2.2.2.2.2.2.2.1
                have h9 : vs 9 = _ := hA.2.2.2.2.2.2.2.2.2.1
                have h10 : vs 10 = _ := hA.2.2.2.2.2.2.2.2.2.2.1
                have h11 : vs 11 = _ := hA.2.2.2.2.2.2.2.2.2.2.2.1
                have h12 : vs 12 = _ := hA.2.2.2.2.2.2.2.2.2.2.2.2.1
                have h13 : vs 13 = _ := hA.2.2.2.2.2.2.2.2.2.2.2.2.2.1
                have h14 : vs 14 = _ := hA.2.2.2.2.2.2.2.2.2.2.2.2.2.2.1
                have h15 : vs 15 = _ := hA.2.2.2.2.2.2.2.2.2.2.2.2.2.2.2.1
                have h16 : vs 16 = _ := hA.2.2.2.2.2.2.2.2.2.2.2.2.2.2.2.2.1
                have h17 : vs 17 = _ := hA.2.2.2.2.2.2.2.2.2.2.2.2.2.2.2.2.2.1
                have h18 : vs 18 = _ := hA.2.2.2.2.2.2.2.2.2.2.2.2.2.2.2.2.2.2.1
                have h19 : vs 19 = _ := hA.2.2.2.2.2.2.2.2.2.2.2.2.2.2.2.2.2.2.2.1
                have h20 : vs 20 = _ := hA.2.2.2.2.2.2.2.2.2.2.2.2.2.2.2.2.2.2.2.2.1
                clear hA
                simp only [fillP, List.setIfInBounds_toArray, List.set_cons_zero, List.set_cons_succ, h0, h1, h2, h3, h4, h5, h6, h7, h8, h9, h10, h11, h12, h13, h14, h15, h16, h17, h18, h19, h20]
                clear h0 h1 h2 h3 h4 h5 h6 h7 h8 h9 h10 h11 h12 h13 h14 h15 h16 h17 h18 h19 h20
                have CW := Lib.hid (CT.out wv hB).2.2
                have HSv := Lib.hid (HS.out.keep CW.out)
                have BTv := Lib.hid (HB.out.next HB6.out CW.out)
                have f1 := HSv.out.fro j hlt
                have w1 := HSv.out.cell j hlt
                have I1 : Hid (BoolsB (wv.setCell ⟨gS, j, none⟩ (.bool true)) gS k (sP l false (j + 1))) := Lib.hid ((HSv.out.set hlt (.bool true)).congr (fun i _ => PS.out true SE.out i))
                have B8 : Hid (But2 w.heap.size gS gS w2 (wv.setCell ⟨gS, j, none⟩ (.bool true))) := Lib.hid (BTv.out.cellA GS.out _ _)
                clear CT CW HSv BTv HS HB PS
                go_wp2_with fail
                go_roundg (k - (j + 1))
                case measure => omega
                case rel => exact ⟨j + 1, by go_num, by omega, Nat.le_refl _, I1, B8⟩
            · have d3 : ((x4 : Int) == 0) = false := by simp [h3]
              obtain ⟨sb, hsb⟩ : ∃ sb, decide (x0 < fi) = sb := ⟨_, rfl⟩
              have SE : Hid (set0 l false j = sb) := Lib.hid (by rw [S0.out, ← hsb]; exact decide_eq_decide.2 ⟨fun h => h.resolve_left h3, .inr⟩)
              clear S0 h3
              go_upto_region 23 with fail
              refine' wp_region_last [opV _, opV _, opV _, opV _, opV _, opV _, opV _, opV _, opV _, opV _, opV _, opV _, opV _, opV _, opV _, opV _, opV _, opV _, opV _, opV (.bool sb), opV _] 21 _ rfl (by kernel_rfl) rfl (by kernel_rfl) ⟨?s0, ?s1, ?s2, ?s3, ?s4, ?s5, ?s6, ?s7, ?s8, ?s9, ?s10, ?s11, ?s12, ?s13, ?s14, ?s15, ?s16, ?s17, ?s18, ?s19, ?s20, trivial⟩ rfl ?fin
              case s0 =>
                refine BStep.of [] [] (opV _) (by kernel_rfl) (fun _ _ => by kernel_rfl) rfl ?_
                intro vs wv hB hA
                clear hA
                simp only [fillP]
                have ct := (CT.out wv hB).1; have a0 := ct.1; have a1 := ct.2.1; have a2 := ct.2.2.1; have a3 := ct.2.2.2.1; have a4 := ct.2.2.2.2.1; have a5 := ct.2.2.2.2.2; have a6 := (CT.out wv hB).2.1; clear ct; go_wp2_with fail
                refine postB_val ?_ (Below.refl _ _)
                simp only [List.getElem?_cons_succ, List.getElem?_cons_zero]
                rfl
              case s1 =>
                refine BStep.of [] [] (opV _) (by kernel_rfl) (fun _ _ => by kernel_rfl) rfl ?_
                intro vs wv hB hA
                clear hA
                simp only [fillP]
                have ct := (CT.out wv hB).1; have a0 := ct.1; have a1 := ct.2.1; have a2 := ct.2.2.1; have a3 := ct.2.2.2.1; have a4 := ct.2.2.2.2.1; have a5 := ct.2.2.2.2.2; have a6 := (CT.out wv hB).2.1; clear ct; go_wp2_with fail
                refine postB_val ?_ (Below.refl _ _)
                simp only [List.getElem?_cons_succ, List.getElem?_cons_zero]
                rfl
              case s2 =>
                refine BStep.of [] [] (opV _) (by kernel_rfl) (fun _ _ => by kernel_rfl) rfl ?_
                intro vs wv hB hA
                clear hA
                simp only [fillP]
                have ct := (CT.out wv hB).1; have a0 := ct.1; have a1 := ct.2.1; have a2 := ct.2.2.1; have a3 := ct.2.2.2.1; have a4 := ct.2.2.2.2.1; have a5 := ct.2.2.2.2.2; have a6 := (CT.out wv hB).2.1; clear ct; go_wp2_with fail
                refine postB_val ?_ (Below.refl _ _)
                simp only [List.getElem?_cons_succ, List.getElem?_cons_zero]
                rfl
              case s3 =>
                refine BStep.of [] [] (opV _) (by kernel_rfl) (fun _ _ => by kernel_rfl) rfl ?_
                intro vs wv hB hA
                clear hA
                simp only [fillP]
                have ct := (CT.out wv hB).1; have a0 := ct.1; have a1 := ct.2.1; have a2 := ct.2.2.1; have a3 := ct.2.2.2.1; have a4 := ct.2.2.2.2.1; have a5 := ct.2.2.2.2.2; have a6 := (CT.out wv hB).2.1; clear ct; go_wp2_with fail
                refine postB_val ?_ (Below.refl _ _)
                simp only [List.getElem?_cons_succ, List.getElem?_cons_zero]
                rfl
              case s4 =>
                refine BStep.of [2, 3] [(96, 2), (97, 3)] (opV _) (by kernel_rfl) (fun _ _ => by kernel_rfl) rfl ?_
                intro vs wv hB hA
                have h2 : vs 2 = _ := hA.1
                have h3 : vs 3 = _ := hA.2.1
                clear hA
                simp only [fillP, List.setIfInBounds_toArray, List.set_cons_zero, List.set_cons_succ, h2, h3]
                have ct := (CT.out wv hB).1; have a0 := ct.1; have a1 := ct.2.1; have a2 := ct.2.2.1; have a3 := ct.2.2.2.1; have a4 := ct.2.2.2.2.1; have a5 := ct.2.2.2.2.2; have a6 := (CT.out wv hB).2.1; clear ct; go_wp2_with fail
                refine postB_val ?_ (Below.refl _ _)
                simp only [List.getElem?_cons_succ, List.getElem?_cons_zero]
                rfl
              case s5 =>
                refine BStep.of [4] [(98, 4)] (opV _) (by kernel_rfl) (fun _ _ => by kernel_rfl) rfl ?_
                intro vs wv hB hA
                have h4 : vs 4 = _ := hA.1
                clear hA
                simp only [fillP, List.setIfInBounds_toArray, List.set_cons_zero, List.set_cons_succ, h4]
                have ct := (CT.out wv hB).1; have a0 := ct.1; have a1 := ct.2.1; have a2 := ct.2.2.1; have a3 := ct.2.2.2.1; have a4 := ct.2.2.2.2.1; have a5 := ct.2.2.2.2.2; have a6 := (CT.out wv hB).2.1; clear ct; go_wp2_with fail
                refine postB_val ?_ (Below.refl _ _)
                simp only [List.getElem?_cons_succ, List.getElem?_cons_zero]
                rfl
              case s6 =>
                refine BStep.of [5] [(99, 5)] (opV _) (by kernel_rfl) (fun _ _ => by kernel_rfl) rfl ?_
                intro vs wv hB hA
                have h5 : vs 5 = _ := hA.1
                clear hA
                simp only [fillP, List.setIfInBounds_toArray, List.set_cons_zero, List.set_cons_succ, h5]
                have ct := (CT.out wv hB).1; have a0 := ct.1; have a1 := ct.2.1; have a2 := ct.2.2.1; have a3 := ct.2.2.2.1; have a4 := ct.2.2.2.2.1; have a5 := ct.2.2.2.2.2; have a6 := (CT.out wv hB).2.1; clear ct; go_wp2_with fail
                refine postB_val ?_ (Below.refl _ _)
                simp only [List.getElem?_cons_succ, List.getElem?_cons_zero]
                rfl
              case s7 =>
                refine BStep.of [6] [(100, 6)] (opV _) (by kernel_rfl) (fun _ _ => by kernel_rfl) rfl ?_
                intro vs wv hB hA
                have h6 : vs 6 = _ := hA.1
                clear hA
                simp only [fillP, List.setIfInBounds_toArray, List.set_cons_zero, List.set_cons_succ, h6]
                have ct := (CT.out wv hB).1; have a0 := ct.1; have a1 := ct.2.1; have a2 := ct.2.2.1; have a3 := ct.2.2.2.1; have a4 := ct.2.2.2.2.1; have a5 := ct.2.2.2.2.2; have a6 := (CT.out wv hB).2.1; clear ct; go_wp2_with fail
                refine postB_val ?_ (Below.refl _ _)
                simp only [List.getElem?_cons_succ, List.getElem?_cons_zero]
                rfl
              case s8 =>
                refine BStep.of [7] [(101, 7)] (opV _) (by kernel_rfl) (fun _ _ => by kernel_rfl) rfl ?_
                intro vs wv hB hA
                have h7 : vs 7 = _ := hA.1
                clear hA
                simp only [fillP, List.setIfInBounds_toArray, List.set_cons_zero, List.set_cons_succ, h7]
                have ct := (CT.out wv hB).1; have a0 := ct.1; have a1 := ct.2.1; have a2 := ct.2.2.1; have a3 := ct.2.2.2.1; have a4 := ct.2.2.2.2.1; have a5 := ct.2.2.2.2.2; have a6 := (CT.out wv hB).2.1; clear ct; go_wp2_with fail
                refine postB_val ?_ (Below.refl _ _)
                simp only [List.getElem?_cons_succ, List.getElem?_cons_zero]
                rfl
              case s9 =>
                refine BStep.of [8] [(102, 8)] (opV _) (by kernel_rfl) (fun _ _ => by kernel_rfl) rfl ?_
                intro vs wv hB hA
                have h8 : vs 8 = _ := hA.1
                clear hA
                simp only [fillP, List.setIfInBounds_toArray, List.set_cons_zero, List.set_cons_succ, h8]
                have ct := (CT.out wv hB).1; have a0 := ct.1; have a1 := ct.2.1; have a2 := ct.2.2.1; have a3 := ct.2.2.2.1; have a4 := ct.2.2.2.2.1; have a5 := ct.2.2.2.2.2; have a6 := (CT.out wv hB).2.1; clear ct; go_wp2_with fail
                refine postB_val ?_ (Below.refl _ _)
                simp only [List.getElem?_cons_succ, List.getElem?_cons_zero]
                rfl
              case s10 =>
                refine BStep.of [8] [(102, 8)] (opV _) (by kernel_rfl) (fun _ _ => by kernel_rfl) rfl ?_
                intro vs wv hB hA
                have h8 : vs 8 = _ := hA.1
                clear hA
                simp only [fillP, List.setIfInBounds_toArray, List.set_cons_zero, List.set_cons_succ, h8]
                have ct := (CT.out wv hB).1; have a0 := ct.1; have a1 := ct.2.1; have a2 := ct.2.2.1; have a3 := ct.2.2.2.1; have a4 := ct.2.2.2.2.1; have a5 := ct.2.2.2.2.2; have a6 := (CT.out wv hB).2.1; clear ct; go_wp2_with fail
                refine postB_val ?_ (Below.refl _ _)
                simp only [List.getElem?_cons_succ, List.getElem?_cons_zero]
                rfl
              case s11 =>
                refine BStep.of [8, 9, 10] [(102, 8), (103, 9), (104, 10)] (opV _) (by kernel_rfl) (fun _ _ => by kernel_rfl) rfl ?_
                intro vs wv hB hA
                have h8 : vs 8 = _ := hA.1
                have h9 : vs 9 = _ := hA.2.1
                have h10 : vs 10 = _ := hA.2.2.1
                clear hA
                simp only [fillP, List.setIfInBounds_toArray, List.set_cons_zero, List.set_cons_succ, h8, h9, h10]
                have ct := (CT.out wv hB).1; have a0 := ct.1; have a1 := ct.2.1; have a2 := ct.2.2.1; have a3 := ct.2.2.2.1; have a4 := ct.2.2.2.2.1; have a5 := ct.2.2.2.2.2; have a6 := (CT.out wv hB).2.1; clear ct; go_wp2_with fail
                refine postB_val ?_ (Below.refl _ _)
                simp only [List.getElem?_cons_succ, List.getElem?_cons_zero]
                rfl
              case s12 =>
                refine BStep.of [8, 11] [(102, 8), (105, 11)] (opV _) (by kernel_rfl) (fun _ _ => by kernel_rfl) rfl ?_
                intro vs wv hB hA
                have h8 : vs 8 = _ := hA.1
                have h11 : vs 11 = _ := hA.2.1
                clear hA
                simp only [fillP, List.setIfInBounds_toArray, List.set_cons_zero, List.set_cons_succ, h8, h11]
                have ct := (CT.out wv hB).1; have a0 := ct.1; have a1 := ct.2.1; have a2 := ct.2.2.1; have a3 := ct.2.2.2.1; have a4 := ct.2.2.2.2.1; have a5 := ct.2.2.2.2.2; have a6 := (CT.out wv hB).2.1; clear ct; go_wp2_with fail
                refine postB_val ?_ (Below.refl _ _)
                simp only [List.getElem?_cons_succ, List.getElem?_cons_zero]
                rfl
              case s13 =>
                refine BStep.of [8, 12] [(102, 8), (106, 12)] (opV _) (by kernel_rfl) (fun _ _ => by kernel_rfl) rfl ?_
                intro vs wv hB hA
                have h8 : vs 8 = _ := hA.1
                have h12 : vs 12 = _ := hA.2.1
                clear hA
                simp only [fillP, List.setIfInBounds_toArray, List.set_cons_zero, List.set_cons_succ, h8, h12]
                have ct := (CT.out wv hB).1; have a0 := ct.1; have a1 := ct.2.1; have a2 := ct.2.2.1; have a3 := ct.2.2.2.1; have a4 := ct.2.2.2.2.1; have a5 := ct.2.2.2.2.2; have a6 := (CT.out wv hB).2.1; clear ct; go_wp2_with fail
                refine postB_val ?_ (Below.refl _ _)
                simp only [List.getElem?_cons_succ, List.getElem?_cons_zero]
                rfl
              case s14 =>
                refine BStep.of [8] [(102, 8)] (opV _) (by kernel_rfl) (fun _ _ => by kernel_rfl) rfl ?_
                intro vs wv hB hA
                have h8 : vs 8 = _ := hA.1
                clear hA
                simp only [fillP, List.setIfInBounds_toArray, List.set_cons_zero, List.set_cons_succ, h8]
                have ct := (CT.out wv hB).1; have a0 := ct.1; have a1 := ct.2.1; have a2 := ct.2.2.1; have a3 := ct.2.2.2.1; have a4 := ct.2.2.2.2.1; have a5 := ct.2.2.2.2.2; have a6 := (CT.out wv hB).2.1; clear ct; go_wp2_with fail
                refine postB_val ?_ (Below.refl _ _)
                simp only [List.getElem?_cons_succ, List.getElem?_cons_zero]
                rfl
              case s15 =>
                refine BStep.of [8] [(102, 8)] (opV _) (by kernel_rfl) (fun _ _ => by kernel_rfl) rfl ?_
                intro vs wv hB hA
                have h8 : vs 8 = _ := hA.1
                clear hA
                simp only [fillP, List.setIfInBounds_toArray, List.set_cons_zero, List.set_cons_succ, h8]
                have ct := (CT.out wv hB).1; have a0 := ct.1; have a1 := ct.2.1; have a2 := ct.2.2.1; have a3 := ct.2.2.2.1; have a4 := ct.2.2.2.2.1; have a5 := ct.2.2.2.2.2; have a6 := (CT.out wv hB).2.1; clear ct; go_wp2_with fail
                refine postB_val ?_ (Below.refl _ _)
                simp only [List.getElem?_cons_succ, List.getElem?_cons_zero]
                rfl
              case s16 =>
                refine BStep.of [8, 14, 15] [(102, 8), (108, 14), (109, 15)] (opV _) (by kernel_rfl) (fun _ _ => by kernel_rfl) rfl ?_
                intro vs wv hB hA
                have h8 : vs 8 = _ := hA.1
                have h14 : vs 14 = _ := hA.2.1
                have h15 : vs 15 = _ := hA.2.2.1
                clear hA
                simp only [fillP, List.setIfInBounds_toArray, List.set_cons_zero, List.set_cons_succ, h8, h14, h15]
                have ct := (CT.out wv hB).1; have a0 := ct.1; have a1 := ct.2.1; have a2 := ct.2.2.1; have a3 := ct.2.2.2.1; have a4 := ct.2.2.2.2.1; have a5 := ct.2.2.2.2.2; have a6 := (CT.out wv hB).2.1; clear ct; go_wp2_with fail
                refine postB_val ?_ (Below.refl _ _)
                simp only [List.getElem?_cons_succ, List.getElem?_cons_zero]
                rfl
              case s17 =>
                refine BStep.of [8, 16] [(102, 8), (110, 16)] (opV _) (by kernel_rfl) (fun _ _ => by kernel_rfl) rfl ?_
                intro vs wv hB hA
                have h8 : vs 8 = _ := hA.1
                have h16 : vs 16 = _ := hA.2.1
                clear hA
                simp only [fillP, List.setIfInBounds_toArray, List.set_cons_zero, List.set_cons_succ, h8, h16]
                have ct := (CT.out wv hB).1; have a0 := ct.1; have a1 := ct.2.1; have a2 := ct.2.2.1; have a3 := ct.2.2.2.1; have a4 := ct.2.2.2.2.1; have a5 := ct.2.2.2.2.2; have a6 := (CT.out wv hB).2.1; clear ct; go_wp2_with fail
                refine postB_val ?_ (Below.refl _ _)
                simp only [List.getElem?_cons_succ, List.getElem?_cons_zero]
                rfl
              case s18 =>
                refine BStep.of [8, 13, 17] [(102, 8), (107, 13), (111, 17)] (opV _) (by kernel_rfl) (fun _ _ => by kernel_rfl) rfl ?_
                intro vs wv hB hA
                have h8 : vs 8 = _ := hA.1
                have h13 : vs 13 = _ := hA.2.1
                have h17 : vs 17 = _ := hA.2.2.1
                clear hA
                simp only [fillP, List.setIfInBounds_toArray, List.set_cons_zero, List.set_cons_succ, h8, h13, h17]
                have ct := (CT.out wv hB).1; have a0 := ct.1; have a1 := ct.2.1; have a2 := ct.2.2.1; have a3 := ct.2.2.2.1; have a4 := ct.2.2.2.2.1; have a5 := ct.2.2.2.2.2; have a6 := (CT.out wv hB).2.1; clear ct; go_wp2_with fail
                refine postB_val ?_ (Below.refl _ _)
                simp only [List.getElem?_cons_succ, List.getElem?_cons_zero]
                rfl
              case s19 =>
                refine BStep.of [8, 18] [(102, 8), (112, 18)] (opV (.bool sb)) (by kernel_rfl) (fun _ _ => by kernel_rfl) rfl ?_
                intro vs wv hB hA
                have h8 : vs 8 = _ := hA.1
                have h18 : vs 18 = _ := hA.2.1
                clear hA
                simp only [fillP, List.setIfInBounds_toArray, List.set_cons_zero, List.set_cons_succ, h8, h18]
                have ct := (CT.out wv hB).1; have a0 := ct.1; have a1 := ct.2.1; have a2 := ct.2.2.1; have a3 := ct.2.2.2.1; have a4 := ct.2.2.2.2.1; have a5 := ct.2.2.2.2.2; have a6 := (CT.out wv hB).2.1; clear ct; go_wp2_with fail; refine postB_val ?_ (Below.refl _ _); simp only [List.getElem?_cons_succ, List.getElem?_cons_zero]
              case s20 =>
                refine BStep.of [0, 1, 2, 3, 4, 5, 6, 7, 8, 9, 10, 11, 12, 13, 14, 15, 16, 17, 18, 19] [(94, 0), (95, 1), (96, 2), (97, 3), (98, 4), (99, 5), (100, 6), (101, 7), (102, 8), (103, 9), (104, 10), (105, 11), (106, 12), (107, 13), (108, 14), (109, 15), (110, 16), (111, 17), (112, 18), (113, 19)] (opV _) (by kernel_rfl) (fun _ _ => by kernel_rfl) rfl ?_
                intro vs wv hB hA
                have h0 : vs 0 = _ := hA.1
                have h1 : vs 1 = _ := hA.2.1
                have h2 : vs 2 = _ := hA.2.2.1
                have h3 : vs 3 = _ := hA.2.2.2.1
                have h4 : vs 4 = _ := hA.2.2.2.2.1
                have h5 : vs 5 = _ := hA.2.2.2.2.2.1
                have h6 : vs 6 = _ := hA.2.2.2.2.2.2.1
                have h7 : vs 7 = _ := hA.2.2.2.2.2.2.2.1
                have h8 : vs 8 = _ := hA.2.2.2.2.2.2.2.2.1
                have h9 : vs 9 = _ := hA.2.2.2.2.2.2.2.2.2.1
                have h10 : vs 10 = _ := hA.2.2.2.2.2.2.2.2.2.2.1
                have h11 : vs 11 = _ := hA.2.2.2.2.2.2.2.2.2.2.2.1
                have h12 : vs 12 = _ := hA.2.2.2.2.2.2.2.2.2.2.2.2.1
                have h13 : vs 13 = _ := hA.2.2.2.2.2.2.2.2.2.2.2.2.2.1
                have h14 : vs 14 = _ := hA.2.2.2.2.2.2.2.2.2.2.2.2.2.2.1
                have h15 : vs 15 = _ := hA.2.2.2.2.2.2.2.2.2.2.2.2.2.2.2.1
                have h16 : vs 16 = _ := hA.2.2.2.2.2.2.2.2.2.2.2.2.2.2.2.2.1
                have h17 : vs 17 = _ := hA.2.2.2.2.2.2.2.2.2.2.2.2.2.2.2.2.2.1
                have h18 : vs 18 = _ := hA.2.2.2.2.2.2.2.2.2.2.2.2.2.2.2.2.2.2.1
                have h19 : vs 19 = _ := hA.2.2.2.2.2.2.2.2.2.2.2.2.2.2.2.2.2.2.2.1
                clear hA
                simp only [fillP, List.setIfInBounds_toArray, List.set_cons_zero, List.set_cons_succ, h0, h1, h2, h3, h4, h5, h6, h7, h8, h9, h10, h11, h12, h13, h14, h15, h16, h17, h18, h19]
                have ct := (CT.out wv hB).1; have a0 := ct.1; have a1 := ct.2.1; have a2 := ct.2.2.1; have a3 := ct.2.2.2.1; have a4 := ct.2.2.2.2.1; have a5 := ct.2.2.2.2.2; have a6 := (CT.out wv hB).2.1; clear ct; go_wp2_with fail
                refine postB_val ?_ (Below.refl _ _)
                simp only [List.getElem?_cons_succ, List.getElem?_cons_zero]
                rfl
              case fin =>
                refine last_of [0, 1, 2, 3, 4, 5, 6, 7, 8, 9, 10, 11, 12, 13, 14, 15, 16, 17, 18, 19, 20] [(94, 0), (95, 1), (96, 2), (97, 3), (98, 4), (99, 5), (100, 6), (101, 7), (102, 8), (103, 9), (104, 10), (105, 11), (106, 12), (107, 13), (108, 14), (109, 15), (110, 16), (111, 17), (112, 18), (113, 19), (114, 20)] (by kernel_rfl) (fun _ _ => by kernel_rfl) ?_
                intro vs wv hB hA
                have h0 : vs 0 = _ := hA.1
                have h1 : vs 1 = _ := hA.2.1
                have h2 : vs 2 = _ := hA.2.2.1
                have h3 : vs 3 = _ := hA.2.2.2.1
                have h4 : vs 4 = _ := hA.2.2.2.2.1
                have h5 : vs 5 = _ := hA.2.2.2.2.2.1
                have h6 : vs 6 = _ := hA.2.2.2.2.2.2.1
                have h7 : vs 7 = _ := hA.2.2.2.2.2.2.2.1
                have h8 : vs 8 = _ := hA.2.2.2.2.2.2.2.2.1
                have h9 : vs 9 = _ := hA.2.2.2.2.2.2.2.2.2.1
                have h10 : vs 10 = _ := hA.2.2.2.2.2.2.2.2.2.2.1
                have h11 : vs 11 = _ := hA.2.2.2.2.2.2.2.2.2.2.2.1
                have h12 : vs 12 = _ := hA.2.2.2.2.2.2.2.2.2.2.2.2.1
                have h13 : vs 13 = _ := hA.2.2.2.2.2.2.2.2.2.2.2.2.2.1
                have h14 : vs 14 = _ := hA.2.2.2.2.2.2.2.2.2.2.2.2.2.2.1
                have h15 : vs 15 = _ := hA.2.2.2.2.2.2.2.2.2.2.2.2.2.2.2.1
                have h16 : vs 16 = _ := hA.2.2.2.2.2.2.2.2.2.2.2.2.2.2.2.2.1
                have h17 : vs 17 = _ := hA.2.2.2.2.2.2.2.2.2.2.2.2.2.2.2.2.2.1
                have h18 : vs 18 = _ := hA.2.2.2.2.2.2.2.2.2.2.2.2.2.2.2.2.2.2.1
                have h19 : vs 19 = _ := hA.2.2.2.2.2.2.2.2.2.2.2.2.2.2.2.2.2.2.2.1
                have h20 : vs 20 = _ := hA.2.2.2.2.2.2.2.2.2.2.2.2.2.2.2.2.2.2.2.2.1
                clear hA
                simp only [fillP, List.setIfInBounds_toArray, List.set_cons_zero, List.set_cons_succ, h0, h1, h2, h3, h4, h5, h6, h7, h8, h9, h10, h11, h12, h13, h14, h15, h16, h17, h18, h19, h20]
                clear h0 h1 h2 h3 h4 h5 h6 h7 h8 h9 h10 h11 h12 h13 h14 h15 h16 h17 h18 h19 h20
                have CW := Lib.hid (CT.out wv hB).2.2
                have HSv := Lib.hid (HS.out.keep CW.out)
                have BTv := Lib.hid (HB.out.next HB6.out CW.out)
                have f1 := HSv.out.fro j hlt
                have w1 := HSv.out.cell j hlt
                have I1 : Hid (BoolsB (wv.setCell ⟨gS, j, none⟩ (.bool sb)) gS k (sP l false (j + 1))) := Lib.hid ((HSv.out.set hlt (.bool sb)).congr (fun i _ => PS.out sb SE.out i))
                have B8 : Hid (But2 w.heap.size gS gS w2 (wv.setCell ⟨gS, j, none⟩ (.bool sb))) := Lib.hid (BTv.out.cellA GS.out _ _)
                clear CT CW HSv BTv HS HB PS
                go_wp2_with fail
                go_roundg (k - (j + 1))
                case measure => omega
                case rel => exact ⟨j + 1, by go_num, by omega, Nat.le_refl _, I1, B8⟩
        · obtain rfl : j = k := by omega
          have hz : ¬ (j : Int) < j := by omega
          have S3 : Hid (BoolsB wp gS j (set0 l g)) := Lib.hid (HS.out.congr (fun i hi => by unfold sP; rw [if_pos hi]))
          have O3 := Lib.hid (IO2.out.but2 HB.out (by have := HLTO.out; omega) (by have := HLTO.out; omega))
          have B3 := Lib.hid (BW2.out.trans HB.out.below)
          have GOS : Hid (gO ≠ gS) := Lib.hid (by have := HLTO.out; omega)
          clear HS HB IO2 BW2 B2
          go_wp2_with fail
          go_loopg [] (openN (set0 l g) j) (fun g1 wr => ∃ (out : Nat → Int) (S : Nat → Bool), openN S j ≤ g1 ∧ Hid (RS w wr l j g R gO gS out S))
          case atStart => exact ⟨out0 l, set0 l g, Nat.le_refl _, Lib.hid ⟨O3.out, S3.out, B3.out, fun _ h => h, fun i hi _ => OB.out i hi⟩⟩
          case round =>
            obtain ⟨out, S, hgm, HR⟩ := hrel
            obtain ⟨wq, hwq⟩ : ∃ wq, wq = wr := ⟨_, rfl⟩
            subst hwq
            clear S3 O3 B3
            obtain ⟨ev, hev⟩ : ∃ b, decide (∀ i, i < j → S i = true) = b := ⟨_, rfl⟩
            have KE := Lib.hid (refEvery16 gS j j S wq HR.out.s (by omega) ev (by rw [← hev]; exact decide_eq_true_iff))
            have HEV := Lib.hid hev
            clear hev
            cases ev with
            | true =>
              have AS := of_decide_eq_true HEV.out
              have RO := Lib.hid ((RR.out _).2 (HR.out.runs _ (.done out S AS)))
              have BD := Lib.hid (fun i (hi : i < j) => HR.out.bd i hi (AS i hi))
              have IO := Lib.hid (HR.out.o.ints (fun i hi => by have := BD.out i hi; omega))
              obtain ⟨fa, hfa⟩ : ∃ b, allFit out j = b := ⟨_, rfl⟩
              have KA := Lib.hid (all_any (some ⟨gO, 0, none⟩) j c9 out wq IO.out (by omega) fa hfa)
              have OK : Hid (fa = true) := Lib.hid (by rw [← hfa]; unfold allFit; exact decide_eq_true (fun i hi => by have := BD.out i hi; unfold Fit; omega))
              have SZ : Hid (SizesIs l gap room (listF out j) 0) := Lib.hid (by
                have h := SizesIs.ok out HE.out hr RO.out (fun i hi => by rw [HL.out] at hi; have := BD.out i hi; unfold Fit; omega)
                rwa [HL.out] at h)
              have RW := Lib.hid (cells_rowI (c := c9) HR.out.o (fun i hi => by have := BD.out i hi; omega))
              obtain rfl := OK.out
              have BF := Lib.hid HR.out.below
              clear AS hfa IO BD RO HV HI OB RR HR
              go_wp2_with (first
                | (go_at_call 19; (with_reducible refine KE.out.mono ?_); rintro e6 w6 ⟨rfl, hw'⟩; obtain rfl := hw')
                | (go_at_call 21; (with_reducible refine KA.out.mono ?_); rintro e6 w6 ⟨rfl, hw'⟩; obtain rfl := hw'))
              go_ret2
              exact ⟨_, _, 0, rfl, SZ.out, RW.out, BF.out⟩
            | false =>
              have EX : ∃ i, i < j ∧ S i = false := by
                have h := of_decide_eq_false HEV.out
                simp only [Classical.not_forall] at h
                obtain ⟨i, hi, h⟩ := h
                exact ⟨i, hi, by simpa using h⟩
              obtain ⟨fit, hfit⟩ : ∃ b, decide (Fit (left0 l j R out S)) = b := ⟨_, rfl⟩
              have KR := Lib.hid (refRound16 l A j c c9 j w.heap.size gO gS R g out S wq (fun W hW => HV.out.keep (HR.out.below.trans hW)) HL.out (by omega) HR.out.o HR.out.s GOS.out HBO.out GS.out RB (fun i hi => (HI.out i hi).1) HR.out.bd fit hfit)
              cases fit with
              | false =>
                have RO := Lib.hid ((RR.out _).2 (HR.out.runs _ (.far out S EX (of_decide_eq_false hfit))))
                have SZ : Hid (SizesIs l gap room [] 10) := Lib.hid (.far HE.out hr RO.out)
                have BQ := Lib.hid HR.out.below
                clear RO HV HI OB RR HR EX hfit
                go_wp2_with (first
                  | (go_at_call 19; (with_reducible refine KE.out.mono ?_); rintro e6 w6 ⟨rfl, hw'⟩; obtain rfl := hw')
                  | (go_at_call 20; (with_reducible refine KR.out.mono ?_); rintro e6 w6 ⟨rfl, hb, -⟩; have B6 := Lib.hid (BQ.out.trans hb); clear hb))
                go_ret2
                exact ⟨.slice none 0 0, [], 10, rfl, SZ.out, RowI.nil _, B6.out⟩
              | true =>
                have NEXT : Hid (∀ W', Below w.heap.size wq W' → Rounded l j g (left0 l j R out S) out S gO gS W' → ∃ (out' : Nat → Int) (S' : Nat → Bool), openN S' j < openN S j ∧ RS w W' l j g R gO gS out' S') := Lib.hid (by
                  rintro W' hb ⟨X, hX, ho, hs⟩
                  refine ⟨_, _, ?_, ho, hs, HR.out.below.trans hb, fun r hr => HR.out.runs r (.round out S X r EX (of_decide_eq_true hfit) hX hr), fun i hi h => ?_⟩
                  · obtain ⟨i, hi, h1, h2⟩ := setR_some (l := l) (X := X) EX
                    exact openN_lt h1 h2 hi (fun a ha => setR_keep a ha)
                  · unfold outR
                    split
                    · next e => exact HR.out.bd i hi e
                    · exact (HI.out i hi).1.c _)
                have KR2 := Lib.hid (KR.out.mono (R' := fun e w' => e = .returned (.bool true) ∧ Hid (∃ (out' : Nat → Int) (S' : Nat → Bool), openN S' j < openN S j ∧ RS w w' l j g R gO gS out' S')) (by
                  rintro e w' ⟨rfl, hb, hrd⟩
                  exact ⟨rfl, Lib.hid (NEXT.out w' hb (hrd rfl))⟩))
                clear HR EX hfit HV HI OB RR KR NEXT
                go_wp2_with (first
                  | (go_at_call 19; (with_reducible refine KE.out.mono ?_); rintro e6 w6 ⟨rfl, hw'⟩; obtain rfl := hw')
                  | (go_at_call 20; (with_reducible refine KR2.out.mono ?_); rintro e6 w6 ⟨rfl, NX⟩))
                obtain ⟨out', S', h1, h2⟩ := NX.out
                go_roundg (openN S' j)
                case measure => omega
                case rel => exact ⟨out', S', Nat.le_refl _, Lib.hid h2⟩
end Go.Proofs.Ytjlnaadpiohbnaa
