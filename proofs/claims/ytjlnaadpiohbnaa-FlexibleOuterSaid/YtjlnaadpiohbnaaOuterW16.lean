/-
  The law FlexibleOuter: of any Sizes that answers as is asked.
-/
import Derived.Test.YtjlnaadpiohbnaaLaws16
namespace Go.Proofs.Ytjlnaadpiohbnaa
open Go.RowKit

/-- boxes, around one of which there is more -/
def wideL (l : List It16) (j : Nat) (d : Int) : List It16 := l.set j ⟨(itA l j).base, (itA l j).least, (itA l j).most, (itA l j).grow, (itA l j).shrink, (itA l j).outer + d⟩
theorem wideL_len (l : List It16) (j : Nat) (d : Int) : (wideL l j d).length = l.length := by simp [wideL]
theorem wideL_at (l : List It16) {j : Nat} (d : Int) (hj : j < l.length) (i : Nat) : itA (wideL l j d) i = if i = j then ⟨(itA l j).base, (itA l j).least, (itA l j).most, (itA l j).grow, (itA l j).shrink, (itA l j).outer + d⟩ else itA l i := by
  unfold wideL
  by_cases e : i = j
  · subst e
    rw [if_pos rfl]
    have : ∀ y : It16, itA (l.set i y) i = y := fun y => by unfold itA; simp [hj]
    exact this _
  · rw [if_neg e]
    have : ∀ y : It16, itA (l.set j y) i = itA l i := fun y => by unfold itA; rw [List.getElem?_set_ne (fun h => e h.symm)]
    exact this _
theorem wideL_same (l : List It16) {j : Nat} (d : Int) (hj : j < l.length) (i : Nat) : SameI (itA l i) (itA (wideL l j d) i) := by
  rw [wideL_at l d hj]
  split
  · next e => subst e; exact ⟨rfl, rfl, rfl, rfl, rfl⟩
  · exact ⟨rfl, rfl, rfl, rfl, rfl⟩
theorem wideL_sum (l : List It16) {j : Nat} (d : Int) (hj : j < l.length) : ∀ n, sumB (fun i => (itA (wideL l j d) i).outer) n = sumB (fun i => (itA l i).outer) n + if j < n then d else 0
  | 0 => by simp [sumB]
  | n + 1 => by
    rw [sumB, sumB, wideL_sum l d hj n, wideL_at l d hj]
    by_cases e : n = j
    · subst e; rw [if_pos rfl, if_neg (Nat.lt_irrefl _), if_pos (Nat.lt_succ_self _)]; dsimp only; omega
    · rw [if_neg e]
      by_cases h : j < n
      · rw [if_pos h, if_pos (by omega)]; omega
      · rw [if_neg h, if_neg (by omega)]; omega
theorem wideL_runs {l : List It16} {j : Nat} {d room : Int} (hj : j < l.length) {r : Option (Nat → Int)} (h : RunsOf l 0 room r) : RunsOf (wideL l j d) 0 (room + d) r := by
  have hs := wideL_same l d hj
  have ea : aroundI (wideL l j d) 0 l.length = aroundI l 0 l.length + d := by
    unfold aroundI
    rw [wideL_sum l d hj, if_pos hj]
    omega
  have eg : growI (wideL l j d) l.length 0 (room + d) = growI l l.length 0 room := by
    unfold growI
    rw [ea]
    have : allI (wideL l j d) l.length = allI l l.length := by unfold allI; exact sumB_congr fun i _ => (hs i).c.2.1.symm
    rw [this]
    exact decide_eq_decide.2 (by omega)
  unfold RunsOf at h ⊢
  rw [wideL_len, eg, ea, ← out0_same hs, ← set0_same hs, show room + d - (aroundI l 0 l.length + d) = room - aroundI l 0 l.length by omega]
  exact Runs.same hs h
set_option maxRecDepth 100000 in
set_option maxHeartbeats 16000000 in
theorem outer16 (hS : SizesOK 11) (hA : AwakeOK16 15) (A : Option Addr) (n c : Nat) (l : List It16) (room which more : Int) (w : World) (hv : TmIn w (.slice A n c) l) (hl : l.length = n)
    (hbig : ∀ i, i < l.length → ∀ y ∈ [(itA l i).base, (itA l i).least, (itA l i).most, (itA l i).grow, (itA l i).shrink, (itA l i).outer], -9223372036854775808 ≤ y ∧ y ≤ 9223372036854775807) :
    Calls Try.prog 7 #[.slice A n c, .int .i64 room, .int .i64 which, .int .i64 more] w fun e w' => e = .returned (.bool true) ∧ Below w.heap.size w w' := by
  have KA := Lib.hid (fun W => hA W)
  have HV := Lib.hid hv
  have HL := Lib.hid hl
  obtain ⟨bg, hbg⟩ : ∃ b, decide (NearR l 0 room) = b := ⟨_, rfl⟩
  have KN := Lib.hid (fun W (hW : TmIn W (.slice A n c) l) => near16 A n c l 0 room W hW hl bg hbg)
  have HS0 := Lib.hid hS
  have KS0 := Lib.hid (fun W (hW : TmIn W (.slice A n c) l) (h : l.length ≤ 80000) => hS l (.slice A n c) 0 room W hW h hbig)
  clear hv hA hS hbig hl
  cases bg with
  | false =>
    clear KS0 HS0
    go_enter Try.func7, Try.ntmps7
    go_wp2_with (first
      | (go_at_call 15; (with_reducible refine (KA.out _).mono ?_); rintro e w1 ⟨rfl, hb⟩; have B1 := Lib.hid hb; clear hb)
      | (go_at_call 16; (with_reducible refine (KN.out _ (HV.out.keep B1.out)).mono ?_); rintro e w2 ⟨rfl, hb⟩; have B2 := Lib.hid (b_next16 B1.out hb); clear hb))
    go_ret
    exact ⟨rfl, B2.out⟩
  | true =>
  have NR : Hid (NearR l 0 room) := Lib.hid (of_decide_eq_true hbg)
  have hn1 : n ≤ 100 := by have := NR.out.hn; have := HL.out; omega
  clear hbg
  go_enter Try.func7, Try.ntmps7
  go_upto_region 3 with (go_at_call 15; (with_reducible refine (KA.out _).mono ?_); rintro e w1 ⟨rfl, hb⟩; have B1 := Lib.hid hb; clear hb)
  have KN1 := Lib.hid (KN.out _ (HV.out.keep B1.out))
  clear KN KA
  by_cases hr1 : room < 0
  · have dhr1 : decide (room < 0) = true := decide_eq_true hr1
    clear HS0 KS0 hr1
    go_wp2_with (go_at_call 16; (with_reducible refine KN1.out.mono ?_); rintro e w2 ⟨rfl, hb⟩; have B2 := Lib.hid (b_next16 B1.out hb); clear hb)
    go_ret
    exact ⟨rfl, B2.out⟩
  have dhr1 : decide (room < 0) = false := decide_eq_false hr1
  replace hr1 : 0 ≤ room := by omega
  by_cases hr2 : 34359738368 < room
  · have dhr2 : decide (34359738368 < room) = true := decide_eq_true hr2
    clear HS0 KS0 hr2
    go_wp2_with (go_at_call 16; (with_reducible refine KN1.out.mono ?_); rintro e w2 ⟨rfl, hb⟩; have B2 := Lib.hid (b_next16 B1.out hb); clear hb)
    go_ret
    exact ⟨rfl, B2.out⟩
  have dhr2 : decide (34359738368 < room) = false := decide_eq_false hr2
  replace hr2 : room ≤ 34359738368 := by omega
  by_cases hw1 : which < 0
  · have dhw1 : decide (which < 0) = true := decide_eq_true hw1
    clear HS0 KS0 hw1
    go_wp2_with (go_at_call 16; (with_reducible refine KN1.out.mono ?_); rintro e w2 ⟨rfl, hb⟩; have B2 := Lib.hid (b_next16 B1.out hb); clear hb)
    go_ret
    exact ⟨rfl, B2.out⟩
  have dhw1 : decide (which < 0) = false := decide_eq_false hw1
  replace hw1 : 0 ≤ which := by omega
  obtain ⟨j, rfl⟩ : ∃ j : Nat, which = j := ⟨which.toNat, by omega⟩
  by_cases hw2 : (n : Int) ≤ j
  · have dhw2 : decide ((n : Int) ≤ j) = true := decide_eq_true hw2
    have dhw3 : decide (n ≤ j) = true := decide_eq_true (by omega)
    clear HS0 KS0 hw2
    go_wp2_with (go_at_call 16; (with_reducible refine KN1.out.mono ?_); rintro e w2 ⟨rfl, hb⟩; have B2 := Lib.hid (b_next16 B1.out hb); clear hb)
    go_ret
    exact ⟨rfl, B2.out⟩
  have dhw2 : decide ((n : Int) ≤ j) = false := decide_eq_false hw2
  have dhw3 : decide (n ≤ j) = false := decide_eq_false (by omega)
  replace hw2 : j < (n : Int) := by omega
  by_cases hm1 : more < 0
  · have dhm1 : decide (more < 0) = true := decide_eq_true hm1
    clear HS0 KS0 hm1
    go_wp2_with (go_at_call 16; (with_reducible refine KN1.out.mono ?_); rintro e w2 ⟨rfl, hb⟩; have B2 := Lib.hid (b_next16 B1.out hb); clear hb)
    go_ret
    exact ⟨rfl, B2.out⟩
  have dhm1 : decide (more < 0) = false := decide_eq_false hm1
  replace hm1 : 0 ≤ more := by omega
  by_cases hm2 : 134217728 < more
  · have dhm2 : decide (134217728 < more) = true := decide_eq_true hm2
    clear HS0 KS0 hm2
    go_wp2_with (go_at_call 16; (with_reducible refine KN1.out.mono ?_); rintro e w2 ⟨rfl, hb⟩; have B2 := Lib.hid (b_next16 B1.out hb); clear hb)
    go_ret
    exact ⟨rfl, B2.out⟩
  have dhm2 : decide (134217728 < more) = false := decide_eq_false hm2
  replace hm2 : more ≤ 134217728 := by omega
  have hjn : j < n := by omega
  obtain ⟨bb, off, c1, e, -, -, -⟩ := HV.out.get (i := j) (by have := HL.out; omega)
  injection e with e1 e2 e3
  subst e1 e3
  clear e2
  have CT : Hid (∀ W, Below w.heap.size w W → TmAt W bb (off + j * 6) (itA l j)) := Lib.hid (fun W hW => HV.out.later (k := j) (by have := HL.out; omega) W hW)
  have NJ := (NR.out.hI j (by have := HL.out; omega)).1
  have jo1 := NJ.houter
  clear NJ
  by_cases ho : 134217728 < (itA l j).outer
  · have dho : decide (134217728 < (itA l j).outer) = true := decide_eq_true ho
    clear HS0 KS0 ho
    go_wp2_with (go_at_call 16; (with_reducible refine KN1.out.mono ?_); rintro e w2 ⟨rfl, hb⟩; have B2 := Lib.hid (b_next16 B1.out hb); obtain ⟨a0, a1, a2, a3, a4, a5⟩ := CT.out w2 B2.out; clear hb)
    go_ret
    exact ⟨rfl, B2.out⟩
  have dho : decide (134217728 < (itA l j).outer) = false := decide_eq_false ho
  replace ho : (itA l j).outer ≤ 134217728 := by omega
  go_upto_region 6 with (go_at_call 16; (with_reducible refine KN1.out.mono ?_); rintro e w2 ⟨rfl, hb⟩; have B2 := Lib.hid (b_next16 B1.out hb); obtain ⟨a0, a1, a2, a3, a4, a5⟩ := CT.out w2 B2.out; clear hb)
  clear dhr1 dhr2 dhw1 dhw2 dhw3 dhm1 dhm2 dho a0 a1 a2 a3 a4 a5 KN1 B1
  -- the copy
  have V2 := Lib.hid (HV.out.keep B2.out)
  go_upto_region 7 with ((with_reducible change wpList _ _ _ (Oper.mk (some 57) _ _ _ _ _ :: _) _ _); refine wpList_append_tms rfl _ _ rfl w2.heap.size _ [] rfl (ownsT.nil _ _) l _ rfl V2.out (by have := HL.out; simp; omega) (Nat.le_refl _) ?_; intro v3 w3 hO hB _; rw [List.nil_append] at hO; have O3 := Lib.hid hO; have B3 := Lib.hid (b_next16 B2.out hB); have V3 := Lib.hid (V2.out.keep hB); clear hO hB)
  obtain ⟨g, c3, ev, hc3, -, -, hgl, hgc, hgf⟩ := own_at O3.out (by have := HL.out; omega)
  subst ev
  have T3 : TmAt w3 g (j * 6) (itA l j) := TmAt.of fun i u hi hu => hgc _ _ (by
    have h := flat_get tmCells 6 tmCells_len (l := l) (j := j) (by have := HL.out; omega) hi
    rw [← itA_get (by have := HL.out; omega)] at h
    exact h.trans hu)
  obtain ⟨-, -, -, -, -, a5⟩ := T3
  have f5 := hgf (j * 6 + 5)
  obtain ⟨S1, S2⟩ := own_set O3.out (j * 6 + 5) (.int .i64 ((itA l j).outer + more))
  have O4 : Hid (ownsT (w3.setCell ⟨g, j * 6 + 5, none⟩ (.int .i64 ((itA l j).outer + more))) w2.heap.size (.slice (some ⟨g, 0, none⟩) l.length c3) (wideL l j more)) := Lib.hid (by
    unfold ownsT
    rw [wideL_len]
    have e : (cellsT l).set (j * 6 + 5) (.int .i64 ((itA l j).outer + more)) = cellsT (wideL l j more) := by
      refine flat_set tmCells 6 tmCells_len (l := l) (j := j) (by have := HL.out; omega) (i := 5) (by omega) _ _ ?_
      rw [← itA_get (by have := HL.out; omega)]
      rfl
    rw [← e]
    exact S1)
  have B4 : Hid (Below w.heap.size w (w3.setCell ⟨g, j * 6 + 5, none⟩ (.int .i64 ((itA l j).outer + more)))) := Lib.hid (B3.out.trans (S2.mono B2.out.size))
  rw [HL.out] at O4
  clear S1 S2 O3 hgc hgf V2
  have hz0 : (0 : Int) ≤ j := by omega
  have hzj : (j : Int) < n := by omega
  have wo1 : IntKind.i64.wrap ((itA l j).outer + more) = (itA l j).outer + more := IntWalk.i64_in _ (by omega)
  have wr1 : IntKind.i64.wrap (room + more) = room + more := IntWalk.i64_in _ (by omega)
  have eL : l.length = n := HL.out
  rw [eL] at hc3
  simp only [eL]
  go_upto_region 8 with fail
  clear a5 f5 wo1 eL
  generalize w3.setCell ⟨g, j * 6 + 5, none⟩ (.int .i64 ((itA l j).outer + more)) = w4 at O4 B4 ⊢
  have V4 := Lib.hid (HV.out.keep B4.out)
  -- both answers
  have NI : Hid (∀ i, i < l.length → NearI (itA l i)) := Lib.hid (fun i hi => (NR.out.hI i hi).1)
  have WI : Hid (∀ i, i < (wideL l j more).length → NearI (itA (wideL l j more) i)) := Lib.hid (fun i hi => by
    rw [wideL_len] at hi
    rw [wideL_at l more (by have := HL.out; omega)]
    split
    · have h := NI.out j (by have := HL.out; omega)
      exact ⟨h.hbase, h.hleast, h.hmost, h.hgrow, h.hshrink, by dsimp only; omega⟩
    · exact NI.out i hi)
  have WB : Hid (∀ i, i < (wideL l j more).length → ∀ y ∈ [(itA (wideL l j more) i).base, (itA (wideL l j more) i).least, (itA (wideL l j more) i).most, (itA (wideL l j more) i).grow, (itA (wideL l j more) i).shrink, (itA (wideL l j more) i).outer], -9223372036854775808 ≤ y ∧ y ≤ 9223372036854775807) := Lib.hid (fun i hi y hy => by
    have h := WI.out i hi
    have h1 := h.hbase; have h2 := h.hleast; have h3 := h.hmost; have h4 := h.hgrow; have h5 := h.hshrink; have h6 := h.houter
    simp only [List.mem_cons, List.not_mem_nil, or_false] at hy
    rcases hy with rfl | rfl | rfl | rfl | rfl | rfl <;> omega)
  have KS1 := Lib.hid ((KS0.out w4 V4.out (by have := HL.out; omega) (by decide) NR.out.ir).mono (R' := fun e w' => ∃ vO f, e = .returned (.tuple #[vO, .int .i64 0]) ∧ Hid (RunsOf l 0 room (some f)) ∧ Hid (ownsI16 w' w4.heap.size vO (listF f n)) ∧ Below w4.heap.size w4 w') (by
    rintro e w' ⟨vO, o, z, rfl, h1, h2, hb⟩
    obtain ⟨f, rfl, rfl, h3⟩ := near_sizes (by have := HL.out; omega) ⟨by omega, by omega⟩ ⟨by omega, by omega⟩ NI.out h1
    rw [HL.out] at h2
    exact ⟨vO, f, rfl, Lib.hid h3, Lib.hid h2, hb⟩))
  have KS2 := Lib.hid (fun f (hf : RunsOf l 0 room (some f)) W (hW : TmIn W (.slice (some ⟨g, 0, none⟩) n c3) (wideL l j more)) => (HS0.out (wideL l j more) _ 0 (room + more) W hW (by rw [wideL_len]; have := HL.out; omega) WB.out (by decide) ⟨by omega, by omega⟩).mono (R' := fun e w' => ∃ vO, e = .returned (.tuple #[vO, .int .i64 0]) ∧ Hid (ownsI16 w' W.heap.size vO (listF f n)) ∧ Below W.heap.size W w') (by
    rintro e w' ⟨vO, o, z, rfl, h1, h2, hb⟩
    obtain ⟨f2, rfl, rfl, h3⟩ := near_sizes (by rw [wideL_len]; have := HL.out; omega) ⟨by omega, by omega⟩ ⟨by omega, by omega⟩ WI.out h1
    have h4 := RunsOf.uniq h3 (wideL_runs (d := more) (by have := HL.out; omega) hf)
    cases h4
    rw [wideL_len, HL.out] at h2
    exact ⟨vO, rfl, Lib.hid h2, hb⟩))
  clear KS0 HS0 NI WI WB B2 B3 V3 NR CT
  go_upto_region 9 with (go_at_call 11; (with_reducible refine KS1.out.mono ?_); rintro e w5 ⟨vA, f, rfl, HX, O5, hb⟩; have B5 := Lib.hid (b_next16 B4.out hb); have T5 : Hid (TmIn w5 (.slice (some ⟨g, 0, none⟩) n c3) (wideL l j more)) := Lib.hid (by have h := O4.out.tms; exact h.keep hb); clear hb)
  obtain ⟨A1, k1, e1⟩ := own_row16 O5.out
  subst e1
  have KS3 := Lib.hid (KS2.out f HX.out w5 T5.out)
  go_upto_region 10 with (go_at_call 11; (with_reducible refine KS3.out.mono ?_); rintro e w6 ⟨vB, rfl, O6, hb⟩; have B6 := Lib.hid (b_next16 B5.out hb); have O5' := Lib.hid (show ownsI16 w6 w4.heap.size _ (listF f n) from own_keep O5.out hb); clear hb)
  obtain ⟨A2, k2, e2⟩ := own_row16 O6.out
  subst e2
  clear KS1 KS2 KS3 HX O5 T5 O4 V4 B4 B5
  go_wp2_with fail
  go_loopg [14] n (fun g1 vi wr => ∃ k : Nat, vi = .int .i64 k ∧ k ≤ n ∧ n - k ≤ g1 ∧ Hid (Below w6.heap.size w6 wr))
  case atStart => exact ⟨0, rfl, by omega, by omega, Lib.hid (Below.refl _ _)⟩
  case round =>
    obtain ⟨k, rfl, hk, hg1, HB⟩ := hrel
    obtain ⟨wo, hwo⟩ : ∃ wo, wo = wr := ⟨_, rfl⟩
    subst hwo
    by_cases hlt : k < n
    · have hz : (k : Int) < n := by omega
      have hzk : (0 : Int) ≤ k := by omega
      have wi : IntKind.i64.wrap ((k : Int) + 1) = (k : Int) + 1 := IntWalk.i64_in _ (by omega)
      obtain ⟨q1, c5, e, -, hq1, hc1⟩ := own_at16 O5'.out hlt
      injection e with e1 e2 e3
      subst e1 e3
      clear e2
      obtain ⟨q2, c6, e, -, hq2, hc2⟩ := own_at16 O6.out hlt
      injection e with e1 e2 e3
      subst e1 e3
      clear e2
      have m1 := (HB.out.cell (p := ⟨q1, k, none⟩) hq1).trans hc1
      have m2 := (HB.out.cell (p := ⟨q2, k, none⟩) hq2).trans hc2
      clear hc1 hc2 hq1 hq2
      generalize f k = y at m1 m2
      have yy : ((y : Int) != y) = (!true) := by simp
      go_upto_region 15 with fail
      go_quiet (fail)
      go_wp2_with fail
      go_roundg (n - (k + 1))
      case measure => omega
      case rel => exact ⟨k + 1, by go_num, by omega, Nat.le_refl _, Lib.hid (b_next16 HB.out (drewN_below _ _ _))⟩
    · obtain rfl : k = n := by omega
      have hz : ¬ (k : Int) < k := by omega
      go_wp2_with fail
      go_ret
      exact ⟨rfl, b_next16 B6.out HB.out⟩
end Go.Proofs.Ytjlnaadpiohbnaa
