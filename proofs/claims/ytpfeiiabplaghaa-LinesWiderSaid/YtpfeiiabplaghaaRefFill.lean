/-
  The document's Fill.
-/
import Derived.Test.YtpfeiiabplaghaaRefLines
import Derived.Test.YtpfeiiabplaghaaFit10
namespace Go.Proofs.Ytpfeiiabplaghaa
open Go.RowKit

/-- what a line's cells in a variable of its own say -/
structure XAt (w0 w : World) (a b n : Int) : Prop where
  below : Below w0.heap.size w0 w
  at_ : w.heap[w0.heap.size]? = some (.cells #[.int .i64 a, .int .i64 b, .int .i64 n] 34)
theorem XAt.c0 {w0 w : World} {a b n : Int} (h : XAt w0 w a b n) : w.cell? ⟨w0.heap.size, 0, none⟩ = some (.int .i64 a) := by simp [World.cell?, h.at_]
theorem XAt.c1 {w0 w : World} {a b n : Int} (h : XAt w0 w a b n) : w.cell? ⟨w0.heap.size, 1, none⟩ = some (.int .i64 b) := by simp [World.cell?, h.at_]
theorem XAt.c2 {w0 w : World} {a b n : Int} (h : XAt w0 w a b n) : w.cell? ⟨w0.heap.size, 2, none⟩ = some (.int .i64 n) := by simp [World.cell?, h.at_]
theorem XAt.fro {w0 w : World} {a b n : Int} (h : XAt w0 w a b n) (j : Nat) : w.frozen? ⟨w0.heap.size, j, none⟩ = false := by simp [World.frozen?, h.at_]
theorem XAt.lt {w0 w : World} {a b n : Int} (h : XAt w0 w a b n) : w0.heap.size < w.heap.size := by
  by_cases e : w0.heap.size < w.heap.size
  · exact e
  · have := h.at_
    rw [Array.getElem?_eq_none (by omega)] at this; cases this
theorem XAt.new (w : World) (a b n : Int) : XAt w (w.alloc (.cells #[.int .i64 a, .int .i64 b, .int .i64 n] 34)) a b n :=
  ⟨(Below.refl _ _).alloc (Nat.le_refl _) _, heap_alloc_new w _⟩
theorem XAt.set1 {w0 w : World} {a b n : Int} (h : XAt w0 w a b n) (c : Int) : XAt w0 (w.setCell ⟨w0.heap.size, 1, none⟩ (.int .i64 c)) a c n := by
  refine ⟨h.below.trans ⟨rfl, rfl, rfl, by simp [World.setCell], fun j hj => ?_⟩, ?_⟩
  · simp [World.setCell, Array.getElem?_modify, show w0.heap.size ≠ j by omega]
  · simp [World.setCell, Array.getElem?_modify, h.at_]
theorem XAt.set2 {w0 w : World} {a b n : Int} (h : XAt w0 w a b n) (c : Int) : XAt w0 (w.setCell ⟨w0.heap.size, 2, none⟩ (.int .i64 c)) a b c := by
  refine ⟨h.below.trans ⟨rfl, rfl, rfl, by simp [World.setCell], fun j hj => ?_⟩, ?_⟩
  · simp [World.setCell, Array.getElem?_modify, show w0.heap.size ≠ j by omega]
  · simp [World.setCell, Array.getElem?_modify, h.at_]
theorem fill_len {l : List It} (w : Int) (a : Nat) : (fillT l w a).length ≤ l.length - a := by
  by_cases h : a < l.length ∧ a < nextT l (toT l w a)
  · rw [fill_go h, List.length_cons]
    have := fill_len (l := l) w (nextT l (toT l w a))
    omega
  · rw [fill_no h]
    simp
termination_by l.length - a
decreasing_by omega
/-- what Fill answers -/
def fillA (l : List It) (w : Int) : List Ln × Nat :=
  if 2048 < l.length ∨ w < 0 then ([], 2) else if ∃ i, i < l.length ∧ 3 < kd l i then ([], 2)
  else if ¬ Fit w ∨ ∃ i, i < l.length ∧ ¬ Fit (wd l i) then ([], 10) else if ∃ x ∈ linesT l w, ¬ Fit x.2.2 then ([], 10) else (linesT l w, 0)
/-- how the document's Fill ends -/
def FillEnd (l : List It) (x : Int) (w : World) (e : Ending) (w' : World) : Prop := ∃ v, e = .returned (.tuple #[v, .int .i64 ((fillA l x).2 : Nat)]) ∧ ownsL w' w.heap.size v (fillA l x).1 ∧ Below w.heap.size w w'
set_option maxRecDepth 100000 in
set_option maxHeartbeats 8000000 in
theorem refFill_any (l : List It) (v : Value) (x : Int) (w : World) (hv : ItIn w v l) (hn : l.length ≤ 1000000) :
    Calls Try.prog 10 #[v, .int .i64 x] w (FillEnd l x w) := by
  have HV := Lib.hid hv
  obtain ⟨A, c, rfl, -, -⟩ := hv
  by_cases h1 : 2048 < l.length ∨ x < 0
  · have R : Hid (fillA l x = ([], 2)) := Lib.hid (by unfold fillA; rw [if_pos h1])
    obtain ⟨n, en⟩ : ∃ n, l.length = n := ⟨_, rfl⟩
    rw [en] at h1 hn HV ⊢
    have NO : Hid (FillEnd l x w (.returned (.tuple #[.slice none 0 0, .int .i64 2])) w) := Lib.hid ⟨_, by rw [R.out]; rfl, by rw [R.out]; exact ownsL.nil _ _, Below.refl _ _⟩
    clear en
    go_enter Try.func10, Try.ntmps10
    by_cases h2 : 2048 < n
    · have hz : (2048 : Int) < n := by omega
      clear h1
      go_wp2_with fail
      go_ret2
      exact NO.out
    · have hz : ¬ (2048 : Int) < n := by omega
      have hx : x < 0 := by omega
      clear h1
      go_wp2_with fail
      go_ret2
      exact NO.out
  · have KB := Lib.hid (fun W (hW : ItIn W (.slice A l.length c) l) i hi => refBehind_any l _ W hW hn i hi)
    have KC := Lib.hid (fun W (hW : ItIn W (.slice A l.length c) l) i hi => refCluster_any l _ W hW hn i hi)
    have KS := Lib.hid (fun W (hW : ItIn W (.slice A l.length c) l) (hF : Within l 1099511627776) a b hab hb => refSum_any l _ W hW hn hF a b hab hb)
    have F0 := Lib.hid h1
    obtain ⟨n, en⟩ : ∃ n, l.length = n := ⟨_, rfl⟩
    rw [en] at hn HV KB KC KS h1 ⊢
    have HN := Lib.hid en
    have hz : ¬ (2048 : Int) < n := by omega
    have hx : ¬ x < 0 := by omega
    have hn2 : n ≤ 2048 := by omega
    have KF := Lib.hid (fun y W b hb => refFits_any y W b hb)
    obtain ⟨b0, hb0⟩ : ∃ b, decide (Fit x) = b := ⟨_, rfl⟩
    have B0 := Lib.hid hb0
    clear h1 en hb0
    go_enter Try.func10, Try.ntmps10
    go_wp2_with (go_at_call 19; (with_reducible refine (KF.out x _ b0 B0.out).mono ?_); rintro e w' ⟨rfl, rfl⟩)
    go_loopg [6, 7] n (fun g1 vo vi wr => ∃ (k : Nat) (o : Bool), vi = .int .i64 k ∧ vo = .bool o ∧ k ≤ n ∧ n - k ≤ g1 ∧ Hid (o = true ↔ ¬ Fit x ∨ ∃ j, j < k ∧ ¬ Fit (wd l j)) ∧ Hid (∀ j, j < k → kd l j ≤ 3) ∧ w = wr)
    case atStart => exact ⟨0, !b0, rfl, rfl, by omega, by omega, Lib.hid (by
      rw [← B0.out]
      simp), Lib.hid (fun j hj => absurd hj (by omega)), rfl⟩
    case round =>
      obtain ⟨k, o, rfl, rfl, hk, hg1, hO, hK, rfl⟩ := hrel
      clear B0
      by_cases hlt : k < n
      · have hz : (k : Int) < n := by omega
        have hz0 : (0 : Int) ≤ k := by omega
        have wi : IntKind.i64.wrap ((k : Int) + 1) = (k : Int) + 1 := IntWalk.i64_in _ (by omega)
        obtain ⟨b, off, c', e, c0, c1⟩ := HV.out.get (i := k) (by have := HN.out; omega)
        injection e with e1 e2 e3
        subst e1 e3
        clear e2
        by_cases h3 : 3 < kd l k
        · have hx3 : (3 : Int) < (kd l k : Nat) := by omega
          have R : Hid (fillA l x = ([], 2)) := Lib.hid (by unfold fillA; rw [if_neg F0.out, if_pos ⟨k, by have := HN.out; omega, h3⟩])
          have NO : Hid (FillEnd l x w (.returned (.tuple #[.slice none 0 0, .int .i64 2])) w) := Lib.hid ⟨_, by rw [R.out]; rfl, by rw [R.out]; exact ownsL.nil _ _, Below.refl _ _⟩
          generalize ((kd l k : Nat) : Int) = y at c0 hx3
          clear h3 KB KC KS
          go_wp2_with fail
          go_ret2
          exact NO.out
        · have hx3 : ¬ (3 : Int) < (kd l k : Nat) := by omega
          have HK2 : Hid (∀ j, j < k + 1 → kd l j ≤ 3) := Lib.hid (fun j hj => by
            by_cases e : j = k
            · rw [e]; omega
            · exact hK.out j (by omega))
          obtain ⟨b1, hb1⟩ : ∃ b, decide (Fit (wd l k)) = b := ⟨_, rfl⟩
          have B1 := Lib.hid hb1
          have HO2 : Hid ((o || !b1) = true ↔ ¬ Fit x ∨ ∃ j, j < k + 1 ∧ ¬ Fit (wd l j)) := Lib.hid (by
            rw [Bool.or_eq_true, hO.out, ← hb1]
            constructor
            · rintro ((h | ⟨j, hj, h⟩) | h)
              · exact .inl h
              · exact .inr ⟨j, by omega, h⟩
              · exact .inr ⟨k, by omega, by simpa using h⟩
            · rintro (h | ⟨j, hj, h⟩)
              · exact .inl (.inl h)
              · by_cases e : j = k
                · subst e
                  exact .inr (by simpa using h)
                · exact .inl (.inr ⟨j, by omega, h⟩))
          generalize ((kd l k : Nat) : Int) = y at c0 hx3
          generalize wd l k = z at c1 B1
          clear hb1 h3 hO hK KB KC KS
          cases o with
          | true =>
            go_wp2_with fail
            go_roundg (n - (k + 1))
            case measure => omega
            case rel => exact ⟨k + 1, true, by go_num, rfl, by omega, Nat.le_refl _, HO2, HK2, rfl⟩
          | false =>
            go_wp2_with (go_at_call 19; (with_reducible refine (KF.out z _ b1 B1.out).mono ?_); rintro e w' ⟨rfl, rfl⟩)
            go_roundg (n - (k + 1))
            case measure => omega
            case rel => exact ⟨k + 1, !b1, by go_num, rfl, by omega, Nat.le_refl _, HO2, HK2, rfl⟩
      · obtain rfl : k = n := by omega
        have hz : ¬ (k : Int) < k := by omega
        have KG := Lib.hid (show ¬ (∃ i, i < l.length ∧ 3 < kd l i) from fun ⟨i, hi, h⟩ => by have := hK.out i (by have := HN.out; omega); omega)
        cases o with
        | true =>
          have R : Hid (fillA l x = ([], 10)) := Lib.hid (by
            unfold fillA
            rw [if_neg F0.out, if_neg KG.out, if_pos (by rw [HN.out]; exact hO.out.1 rfl)])
          have NO : Hid (FillEnd l x w (.returned (.tuple #[.slice none 0 0, .int .i64 10])) w) := Lib.hid ⟨_, by rw [R.out]; rfl, by rw [R.out]; exact ownsL.nil _ _, Below.refl _ _⟩
          clear KB KC KS
          go_wp2_with fail
          go_ret2
          exact NO.out
        | false =>
          have F1 : Hid (¬ (¬ Fit x ∨ ∃ i, i < l.length ∧ ¬ Fit (wd l i))) := Lib.hid (fun h => by
            rw [HN.out] at h
            exact absurd (hO.out.2 h) (by decide))
          have HG : Hid (Good l) := Lib.hid (fun i hi => hK.out i (by have := HN.out; omega))
          have HW : Hid (Within l 1099511627776) := Lib.hid (fun i hi => by
            refine Classical.byContradiction (fun c => F1.out (.inr ⟨i, hi, fun f => c ?_⟩))
            unfold Fit at f
            omega)
          have HF0 : Hid (fillA l x = if ∃ y ∈ linesT l x, ¬ Fit y.2.2 then ([], 10) else (linesT l x, 0)) := Lib.hid (by
            unfold fillA
            rw [if_neg F0.out, if_neg KG.out, if_neg F1.out])
          have K0 := Lib.hid (KB.out w HV.out 0 (Nat.zero_le _))
          rw [show ((0 : Nat) : Int) = 0 from rfl] at K0
          clear hO hK KG F0 F1
          go_wp2_with (go_at_call 20; (with_reducible refine (K0.out).mono ?_); rintro e w ⟨rfl, rfl⟩)
          obtain ⟨H, hH⟩ : ∃ H, w.heap.size = H := ⟨_, rfl⟩
          go_loopg [8, 9] k (fun g1 vo va wr => ∃ (a : Nat) (done : List Ln) (u : Value), u = vo ∧ va = .int .i64 a ∧ a ≤ k ∧ k - a ≤ g1 ∧ Hid (St l a) ∧ Hid (ownsL wr H vo done) ∧ Hid (Below H w wr) ∧ Hid (done ++ fillT l x a = linesT l x) ∧ Hid (∀ y ∈ done, Fit y.2.2))
          case atStart =>
            exact ⟨behind l 0, [], _, rfl, rfl, by rw [← HN.out]; exact behind_len l (Nat.zero_le _), Nat.sub_le _ _, Lib.hid (st_first l), Lib.hid (ownsL.nil _ _), Lib.hid (Below.refl _ _), Lib.hid rfl, Lib.hid (fun y hy => absurd hy (by simp))⟩
          case round =>
            obtain ⟨a, done, u, rfl, rfl, ha, hg1, hS, hO, hB, hD, hF⟩ := hrel
            obtain ⟨wo, hwo⟩ : ∃ wo, wo = wr := ⟨_, rfl⟩
            subst hwo
            have HS : Hid (H ≤ wo.heap.size) := Lib.hid (by have := hB.out.size; omega)
            by_cases hlt : a < k
            · have hz : (a : Int) < k := by omega
              have hz0 : (0 : Int) ≤ a := by omega
              have HVr := Lib.hid (HV.out.keep (by rw [hH]; exact hB.out))
              have FC := Lib.hid (fill_cons HG.out x hS.out.no (show a < l.length by have := HN.out; omega))
              have HE := Lib.hid (ends_T HG.out x hS.out.no (show a < l.length by have := HN.out; omega))
              have HX0 := Lib.hid (XAt.new wo a a 0)
              have HVx := Lib.hid (HVr.out.keep HX0.out.below)
              obtain ⟨b, off, c', e, c0, -⟩ := HVx.out.get (i := a) (by have := HN.out; omega)
              injection e with e1 e2 e3
              subst e1 e3
              clear e2
              by_cases h2 : kd l a = 2
              · have HT : Hid (toT l x a = a) := Lib.hid (by unfold toT; rw [if_pos h2])
                have LT : Hid (lineT l x a = (a, a, 0)) := Lib.hid (by unfold lineT; rw [HT.out, sum_self])
                have FT : Hid (Fit 0) := Lib.hid (by unfold Fit; omega)
                have KF0 := Lib.hid (fun W => KF.out 0 W true (by simpa using FT.out))
                rw [h2] at c0
                have c2 := HX0.out.c2
                clear h2
                obtain ⟨p, hp⟩ : ∃ p, behind l (a) = p := ⟨_, rfl⟩
                have OL : Hid (u.ownBlock ≠ some wo.heap.size) := Lib.hid (fun e => absurd (World.ownsRow.lt hO.out _ e).2 (Nat.lt_irrefl _))
                have HP := Lib.hid hp
                have HPL : p ≤ k := by have := behind_len l HE.out.hi; rw [HT.out, hp] at this; have := HN.out; omega
                have DL : Hid (done.length ≤ 2048) := Lib.hid (by
                  have h1 := fill_len (l := l) x (behind l 0)
                  have h2 := congrArg List.length hD.out
                  unfold linesT at h2
                  rw [List.length_append] at h2
                  have := HN.out
                  omega)
                have NF := Lib.hid (next_facts HE.out)
                rw [HT.out] at NF
                have D2 : Hid (done ++ [(a, a, 0)] ++ fillT l x (nextT l (a)) = linesT l x) := Lib.hid (by rw [List.append_assoc, ← hD.out, FC.out, LT.out, HT.out]; rfl)
                have F2 : Hid (∀ y ∈ done ++ [((a, a, 0) : Ln)], Fit y.2.2) := Lib.hid (fun y hy => by
                  rcases List.mem_append.1 hy with h | h
                  · exact hF.out y h
                  · obtain rfl : y = (a, a, 0) := by simpa using h
                    exact FT.out)
                clear hp
                by_cases h5 : kd l p = 2
                · have hpl : p < k := by have := kd_lt (l := l) (i := p) (by omega); have := HN.out; omega
                  have hz5 : (p : Int) < k := by omega
                  have hz50 : (0 : Int) ≤ p := by omega
                  have wp : IntKind.i64.wrap ((p : Int) + 1) = (p : Int) + 1 := IntWalk.i64_in _ (by omega)
                  have NX : Hid (nextT l (a) = behind l (p + 1)) := Lib.hid (by unfold nextT; rw [HP.out, if_pos h5])
                  obtain ⟨q, hq⟩ : ∃ q, behind l (p + 1) = q := ⟨_, rfl⟩
                  rw [hq] at NX
                  have HQ := Lib.hid hq
                  have C5 : Hid (∀ W, ItIn W (.slice (some ⟨b, off, none⟩) k c) l → W.cell? ⟨b, off + p * 2, none⟩ = some (.int .u8 2)) := Lib.hid (fun W hW => by
                    obtain ⟨b', off', c', e, h, -⟩ := hW.get (i := p) (by have := HN.out; omega)
                    injection e with e1
                    injection e1 with e1
                    injection e1 with e1 e2
                    subst e1 e2
                    rw [h, h5]
                    rfl)
                  clear hq
                  go_wp2_with (first | (go_at_call 19; (with_reducible refine (KF0.out _).mono ?_); rintro e wy ⟨rfl, hwy⟩; (have HX : Hid (XAt wo wy a a 0) := Lib.hid (by rw [← hwy]; exact HX0.out)); (have OY : Hid (ownsL wy H u done) := Lib.hid (hO.out.keep HX.out.below)); (have BY : Hid (Below H w wy) := Lib.hid (hB.out.trans (HX.out.below.mono HS.out))); (have SY : Hid (H ≤ wy.heap.size) := Lib.hid (by have := HX.out.lt; have := HS.out; omega)); (have hc0 := HX.out.c0); (have hc1 := HX.out.c1); (have hc2 := HX.out.c2); clear hwy c0 c2) | ((with_reducible change wpList _ _ _ (Oper.mk (some 99) _ _ _ _ _ :: _) _ _); refine wpList_append_ln rfl _ _ rfl H _ _ rfl OY.out (a, a, 0) _ rfl (by have := DL.out; omega) SY.out ?_; intro v1 w1 hv1 hb1 hk1; have OW1 := Lib.hid hv1; have BW1 := Lib.hid (BY.out.trans hb1); have HV1 := Lib.hid (HV.out.keep (by rw [hH]; exact BW1.out)); have hx1 := (World.cell?_of_block (a := ⟨wo.heap.size, 1, none⟩) (hk1 _ HX.out.lt (fun e => OL.out e.symm))).trans HX.out.c1; clear hv1 hb1 hk1); (have c5 := C5.out w1 HV1.out); (have K5 := Lib.hid (KB.out w1 HV1.out (a) (by have := HE.out.hi; rw [HT.out] at this; have := HN.out; omega))); (rw [HP.out] at K5); (have K6 := Lib.hid (KB.out w1 HV1.out (p + 1) (by omega))); (rw [HQ.out, show ((p + 1 : Nat) : Int) = (p : Int) + 1 by omega] at K6) | (go_at_call 20; (with_reducible refine (K5.out).mono ?_); rintro e w1 ⟨rfl, rfl⟩) | (go_at_call 20; (with_reducible refine (K6.out).mono ?_); rintro e w1 ⟨rfl, rfl⟩))
                  have NQ : Hid (a < q ∧ q ≤ k ∧ St l q) := Lib.hid (by have h := NF.out; rw [NX.out] at h; exact ⟨h.1, by have := h.2.2.1; have := HN.out; omega, h.2.2.2.1⟩)
                  rw [NX.out] at D2
                  go_roundg (k - q)
                  case measure => have := NQ.out; omega
                  case rel => exact ⟨q, _, _, rfl, rfl, NQ.out.2.1, Nat.le_refl _, Lib.hid NQ.out.2.2, OW1, BW1, D2, F2⟩
                · have NX : Hid (nextT l (a) = p) := Lib.hid (by unfold nextT; rw [HP.out, if_neg h5])
                  have HQ : Hid (behind l p = p) := Lib.hid (behind_self (by rw [← HP.out]; exact (behind_facts l _).2.2))
                  by_cases hpl : p < k
                  · have hz5 : (p : Int) < k := by omega
                    have hz50 : (0 : Int) ≤ p := by omega
                    have hx5 : ¬ ((kd l p : Nat) : Int) = 2 := by omega
                    have C5 : Hid (∀ W, ItIn W (.slice (some ⟨b, off, none⟩) k c) l → W.cell? ⟨b, off + p * 2, none⟩ = some (.int .u8 (kd l p : Nat))) := Lib.hid (fun W hW => by
                      obtain ⟨b', off', c', e, h, -⟩ := hW.get (i := p) (by have := HN.out; omega)
                      injection e with e1
                      injection e1 with e1
                      injection e1 with e1 e2
                      subst e1 e2
                      exact h)
                    generalize ((kd l p : Nat) : Int) = y at C5 hx5
                    clear h5
                    go_wp2_with (first | (go_at_call 19; (with_reducible refine (KF0.out _).mono ?_); rintro e wy ⟨rfl, hwy⟩; (have HX : Hid (XAt wo wy a a 0) := Lib.hid (by rw [← hwy]; exact HX0.out)); (have OY : Hid (ownsL wy H u done) := Lib.hid (hO.out.keep HX.out.below)); (have BY : Hid (Below H w wy) := Lib.hid (hB.out.trans (HX.out.below.mono HS.out))); (have SY : Hid (H ≤ wy.heap.size) := Lib.hid (by have := HX.out.lt; have := HS.out; omega)); (have hc0 := HX.out.c0); (have hc1 := HX.out.c1); (have hc2 := HX.out.c2); clear hwy c0 c2) | ((with_reducible change wpList _ _ _ (Oper.mk (some 99) _ _ _ _ _ :: _) _ _); refine wpList_append_ln rfl _ _ rfl H _ _ rfl OY.out (a, a, 0) _ rfl (by have := DL.out; omega) SY.out ?_; intro v1 w1 hv1 hb1 hk1; have OW1 := Lib.hid hv1; have BW1 := Lib.hid (BY.out.trans hb1); have HV1 := Lib.hid (HV.out.keep (by rw [hH]; exact BW1.out)); have hx1 := (World.cell?_of_block (a := ⟨wo.heap.size, 1, none⟩) (hk1 _ HX.out.lt (fun e => OL.out e.symm))).trans HX.out.c1; clear hv1 hb1 hk1); (have c5 := C5.out w1 HV1.out); (have K5 := Lib.hid (KB.out w1 HV1.out (a) (by have := HE.out.hi; rw [HT.out] at this; have := HN.out; omega))); (rw [HP.out] at K5); (have K6 := Lib.hid (KB.out w1 HV1.out p HPL)); (rw [HQ.out] at K6) | (go_at_call 20; (with_reducible refine (K5.out).mono ?_); rintro e w1 ⟨rfl, rfl⟩) | (go_at_call 20; (with_reducible refine (K6.out).mono ?_); rintro e w1 ⟨rfl, rfl⟩))
                    have NQ : Hid (a < p ∧ p ≤ k ∧ St l p) := Lib.hid (by have h := NF.out; rw [NX.out] at h; exact ⟨h.1, by have := h.2.2.1; have := HN.out; omega, h.2.2.2.1⟩)
                    rw [NX.out] at D2
                    go_roundg (k - p)
                    case measure => have := NQ.out; omega
                    case rel => exact ⟨p, _, _, rfl, rfl, NQ.out.2.1, Nat.le_refl _, Lib.hid NQ.out.2.2, OW1, BW1, D2, F2⟩
                  · have hz5 : ¬ (p : Int) < k := by omega
                    clear h5
                    go_wp2_with (first | (go_at_call 19; (with_reducible refine (KF0.out _).mono ?_); rintro e wy ⟨rfl, hwy⟩; (have HX : Hid (XAt wo wy a a 0) := Lib.hid (by rw [← hwy]; exact HX0.out)); (have OY : Hid (ownsL wy H u done) := Lib.hid (hO.out.keep HX.out.below)); (have BY : Hid (Below H w wy) := Lib.hid (hB.out.trans (HX.out.below.mono HS.out))); (have SY : Hid (H ≤ wy.heap.size) := Lib.hid (by have := HX.out.lt; have := HS.out; omega)); (have hc0 := HX.out.c0); (have hc1 := HX.out.c1); (have hc2 := HX.out.c2); clear hwy c0 c2) | ((with_reducible change wpList _ _ _ (Oper.mk (some 99) _ _ _ _ _ :: _) _ _); refine wpList_append_ln rfl _ _ rfl H _ _ rfl OY.out (a, a, 0) _ rfl (by have := DL.out; omega) SY.out ?_; intro v1 w1 hv1 hb1 hk1; have OW1 := Lib.hid hv1; have BW1 := Lib.hid (BY.out.trans hb1); have HV1 := Lib.hid (HV.out.keep (by rw [hH]; exact BW1.out)); have hx1 := (World.cell?_of_block (a := ⟨wo.heap.size, 1, none⟩) (hk1 _ HX.out.lt (fun e => OL.out e.symm))).trans HX.out.c1; clear hv1 hb1 hk1); (have K5 := Lib.hid (KB.out w1 HV1.out (a) (by have := HE.out.hi; rw [HT.out] at this; have := HN.out; omega))); (rw [HP.out] at K5); (have K6 := Lib.hid (KB.out w1 HV1.out p HPL)); (rw [HQ.out] at K6) | (go_at_call 20; (with_reducible refine (K5.out).mono ?_); rintro e w1 ⟨rfl, rfl⟩) | (go_at_call 20; (with_reducible refine (K6.out).mono ?_); rintro e w1 ⟨rfl, rfl⟩))
                    have NQ : Hid (a < p ∧ p ≤ k ∧ St l p) := Lib.hid (by have h := NF.out; rw [NX.out] at h; exact ⟨h.1, by have := h.2.2.1; have := HN.out; omega, h.2.2.2.1⟩)
                    rw [NX.out] at D2
                    go_roundg (k - p)
                    case measure => have := NQ.out; omega
                    case rel => exact ⟨p, _, _, rfl, rfl, NQ.out.2.1, Nat.le_refl _, Lib.hid NQ.out.2.2, OW1, BW1, D2, F2⟩
              · have hx2 : ¬ ((kd l a : Nat) : Int) = 2 := by omega
                have SOL : Hid (Solid l a) := Lib.hid (by
                  have := HG.out a (by have := HN.out; omega)
                  have := hS.out.no
                  unfold Solid
                  omega)
                have HT0 : Hid (toT l x a = extT l x a (clusterT l a)) := Lib.hid (by unfold toT; rw [if_neg h2])
                generalize ((kd l a : Nat) : Int) = y at c0 hx2
                have K1 := Lib.hid (KC.out _ HVx.out a (by omega))
                obtain ⟨t0, ht0⟩ : ∃ t0, clusterT l a = t0 := ⟨_, rfl⟩
                rw [ht0] at K1 HT0
                have C0 : Hid (a < t0 ∧ t0 ≤ k) := Lib.hid (by have := cluster_facts SOL.out; rw [ht0] at this; have := HN.out; omega)
                clear h2 ht0
                go_wp2_with (go_at_call 21; (with_reducible refine (K1.out).mono ?_); rintro e wx ⟨rfl, hwx⟩; (have HX1 : Hid (XAt wo wx a a 0) := Lib.hid (by rw [hwx]; exact HX0.out)); (have hc1 := HX1.out.c1); (have hf1 := HX1.out.fro 1); clear hwx c0)
                have HX2 := Lib.hid (HX1.out.set1 t0)
                clear hc1 hf1
                go_loopg [11] k (fun g2 vf wr => ∃ (t : Nat) (vg : Value), vg = vf ∧ t ≤ k ∧ a < t ∧ k - t ≤ g2 ∧ Hid (extT l x a t = toT l x a) ∧ Hid (XAt wo wr a t 0))
                case atStart => exact ⟨t0, _, rfl, C0.out.2, C0.out.1, Nat.sub_le _ _, Lib.hid HT0.out.symm, HX2⟩
                case round =>
                  obtain ⟨t, vg, rfl, ht, hat, hg2, hE, hX⟩ := hrel
                  clear HX2 HX1 HX0 HVx K1
                  have HVz := Lib.hid (HVr.out.keep hX.out.below)
                  have hc1 := hX.out.c1
                  obtain ⟨f, hf⟩ : ∃ f, behind l t = f := ⟨_, rfl⟩
                  obtain ⟨v, hv⟩ : ∃ v, clusterT l f = v := ⟨_, rfl⟩
                  have HPf := Lib.hid hf
                  have HPu := Lib.hid hv
                  have hfk : t ≤ f ∧ f ≤ k := by
                    have h1 := (behind_facts l t).1
                    have h2 := behind_len l (i := t) (by have := HN.out; omega)
                    have := HN.out
                    omega
                  have hvk : f ≤ v ∧ v ≤ k := by
                    by_cases s : Solid l f
                    · have := cluster_facts s
                      have := HN.out
                      omega
                    · have := cluster_no s
                      omega
                  have Kb := Lib.hid (KB.out wr HVz.out t ht)
                  rw [hf] at Kb
                  have Kc := Lib.hid (KC.out wr HVz.out f hfk.2)
                  rw [hv] at Kc
                  obtain ⟨s1, hs1⟩ : ∃ s1, sumI l a v = s1 := ⟨_, rfl⟩
                  have HPs := Lib.hid hs1
                  have Ks1 := Lib.hid (KS.out wr HVz.out HW.out a v (by omega) hvk.2)
                  rw [hs1] at Ks1
                  have Ks2 := Lib.hid (KS.out wr HVz.out HW.out a t (by omega) ht)
                  clear hf hs1
                  by_cases hqe : v = f
                  · rw [hqe] at Kc
                    have HT : Hid (toT l x a = t) := Lib.hid (by
                      rw [← hE.out]
                      refine ext_no (fun h => ?_)
                      rw [HPf.out, HPu.out] at h
                      exact h.1 hqe)
                    obtain ⟨s, hs⟩ : ∃ s, sumI l a t = s := ⟨_, rfl⟩
                    have LT : Hid (lineT l x a = (a, t, s)) := Lib.hid (by unfold lineT; rw [HT.out, hs])
                    rw [hs] at Ks2
                    clear hs
                    have HX3 := Lib.hid (hX.out.set2 s)
                    have hc0 := hX.out.c0
                    have hc2 := hX.out.c2
                    have hf2 := hX.out.fro 2
                    have hc3 := HX3.out.c2
                    cases hfit : decide (Fit s)
                    · have KFs := Lib.hid (fun W => KF.out s W false hfit)
                      have NO : Hid (∀ wy, XAt wo wy a t s → FillEnd l x w (.returned (.tuple #[.slice none 0 0, .int .i64 10])) wy) := Lib.hid (fun wy hwy => by
                        have R : fillA l x = ([], 10) := by
                          rw [HF0.out, if_pos ⟨lineT l x a, by rw [← hD.out, FC.out]; simp, by rw [LT.out]; simpa using hfit⟩]
                        exact ⟨_, by rw [R]; rfl, by rw [R]; exact ownsL.nil _ _, by rw [hH]; exact hB.out.trans (hwy.below.mono HS.out)⟩)
                      clear hfit
                      go_wp2_with (first | (go_at_call 20; (with_reducible refine (Kb.out).mono ?_); rintro e wr ⟨rfl, rfl⟩) | (go_at_call 21; (with_reducible refine (Kc.out).mono ?_); rintro e wr ⟨rfl, rfl⟩) | (go_at_call 22; (first | (with_reducible refine (Ks2.out).mono ?_) | (with_reducible refine (Ks1.out).mono ?_)); rintro e wr ⟨rfl, rfl⟩) | (go_at_call 19; (with_reducible refine (KFs.out _).mono ?_); rintro e wy ⟨rfl, hwy⟩; (have HX : Hid (XAt wo wy a t s) := Lib.hid (by rw [← hwy]; exact HX3.out)); (have OY : Hid (ownsL wy H u done) := Lib.hid (hO.out.keep HX.out.below)); (have BY : Hid (Below H w wy) := Lib.hid (hB.out.trans (HX.out.below.mono HS.out))); (have SY : Hid (H ≤ wy.heap.size) := Lib.hid (by have := HX.out.lt; have := HS.out; omega)); (have hd0 := HX.out.c0); (have hd1 := HX.out.c1); (have hd2 := HX.out.c2); clear hwy hc0 hc1 hc2 hf2 hc3))
                      go_ret2
                      exact NO.out _ HX.out
                    · have KFs := Lib.hid (fun W => KF.out s W true hfit)
                      have FT : Hid (Fit s) := Lib.hid (by simpa using hfit)
                      clear hfit
                      obtain ⟨p, hp⟩ : ∃ p, behind l (t) = p := ⟨_, rfl⟩
                      have OL : Hid (u.ownBlock ≠ some wo.heap.size) := Lib.hid (fun e => absurd (World.ownsRow.lt hO.out _ e).2 (Nat.lt_irrefl _))
                      have HP := Lib.hid hp
                      have HPL : p ≤ k := by have := behind_len l HE.out.hi; rw [HT.out, hp] at this; have := HN.out; omega
                      have DL : Hid (done.length ≤ 2048) := Lib.hid (by
                        have h1 := fill_len (l := l) x (behind l 0)
                        have h2 := congrArg List.length hD.out
                        unfold linesT at h2
                        rw [List.length_append] at h2
                        have := HN.out
                        omega)
                      have NF := Lib.hid (next_facts HE.out)
                      rw [HT.out] at NF
                      have D2 : Hid (done ++ [(a, t, s)] ++ fillT l x (nextT l (t)) = linesT l x) := Lib.hid (by rw [List.append_assoc, ← hD.out, FC.out, LT.out, HT.out]; rfl)
                      have F2 : Hid (∀ y ∈ done ++ [((a, t, s) : Ln)], Fit y.2.2) := Lib.hid (fun y hy => by
                        rcases List.mem_append.1 hy with h | h
                        · exact hF.out y h
                        · obtain rfl : y = (a, t, s) := by simpa using h
                          exact FT.out)
                      clear hp
                      by_cases h5 : kd l p = 2
                      · have hpl : p < k := by have := kd_lt (l := l) (i := p) (by omega); have := HN.out; omega
                        have hz5 : (p : Int) < k := by omega
                        have hz50 : (0 : Int) ≤ p := by omega
                        have wp : IntKind.i64.wrap ((p : Int) + 1) = (p : Int) + 1 := IntWalk.i64_in _ (by omega)
                        have NX : Hid (nextT l (t) = behind l (p + 1)) := Lib.hid (by unfold nextT; rw [HP.out, if_pos h5])
                        obtain ⟨q, hq⟩ : ∃ q, behind l (p + 1) = q := ⟨_, rfl⟩
                        rw [hq] at NX
                        have HQ := Lib.hid hq
                        have C5 : Hid (∀ W, ItIn W (.slice (some ⟨b, off, none⟩) k c) l → W.cell? ⟨b, off + p * 2, none⟩ = some (.int .u8 2)) := Lib.hid (fun W hW => by
                          obtain ⟨b', off', c', e, h, -⟩ := hW.get (i := p) (by have := HN.out; omega)
                          injection e with e1
                          injection e1 with e1
                          injection e1 with e1 e2
                          subst e1 e2
                          rw [h, h5]
                          rfl)
                        clear hq
                        go_wp2_with (first | (go_at_call 20; (with_reducible refine (Kb.out).mono ?_); rintro e wr ⟨rfl, rfl⟩) | (go_at_call 21; (with_reducible refine (Kc.out).mono ?_); rintro e wr ⟨rfl, rfl⟩) | (go_at_call 22; (first | (with_reducible refine (Ks2.out).mono ?_) | (with_reducible refine (Ks1.out).mono ?_)); rintro e wr ⟨rfl, rfl⟩) | (go_at_call 19; (with_reducible refine (KFs.out _).mono ?_); rintro e wy ⟨rfl, hwy⟩; (have HX : Hid (XAt wo wy a t s) := Lib.hid (by rw [← hwy]; exact HX3.out)); (have OY : Hid (ownsL wy H u done) := Lib.hid (hO.out.keep HX.out.below)); (have BY : Hid (Below H w wy) := Lib.hid (hB.out.trans (HX.out.below.mono HS.out))); (have SY : Hid (H ≤ wy.heap.size) := Lib.hid (by have := HX.out.lt; have := HS.out; omega)); (have hd0 := HX.out.c0); (have hd1 := HX.out.c1); (have hd2 := HX.out.c2); clear hwy hc0 hc1 hc2 hf2 hc3) | ((with_reducible change wpList _ _ _ (Oper.mk (some 99) _ _ _ _ _ :: _) _ _); refine wpList_append_ln rfl _ _ rfl H _ _ rfl OY.out (a, t, s) _ rfl (by have := DL.out; omega) SY.out ?_; intro v1 w1 hv1 hb1 hk1; have OW1 := Lib.hid hv1; have BW1 := Lib.hid (BY.out.trans hb1); have HV1 := Lib.hid (HV.out.keep (by rw [hH]; exact BW1.out)); have hx1 := (World.cell?_of_block (a := ⟨wo.heap.size, 1, none⟩) (hk1 _ HX.out.lt (fun e => OL.out e.symm))).trans HX.out.c1; clear hv1 hb1 hk1); (have c5 := C5.out w1 HV1.out); (have K5 := Lib.hid (KB.out w1 HV1.out (t) (by have := HE.out.hi; rw [HT.out] at this; have := HN.out; omega))); (rw [HP.out] at K5); (have K6 := Lib.hid (KB.out w1 HV1.out (p + 1) (by omega))); (rw [HQ.out, show ((p + 1 : Nat) : Int) = (p : Int) + 1 by omega] at K6) | (go_at_call 20; (with_reducible refine (K5.out).mono ?_); rintro e w1 ⟨rfl, rfl⟩) | (go_at_call 20; (with_reducible refine (K6.out).mono ?_); rintro e w1 ⟨rfl, rfl⟩))
                        have NQ : Hid (a < q ∧ q ≤ k ∧ St l q) := Lib.hid (by have h := NF.out; rw [NX.out] at h; exact ⟨h.1, by have := h.2.2.1; have := HN.out; omega, h.2.2.2.1⟩)
                        rw [NX.out] at D2
                        go_roundg (k - q)
                        case measure => have := NQ.out; omega
                        case rel => exact ⟨q, _, _, rfl, rfl, NQ.out.2.1, Nat.le_refl _, Lib.hid NQ.out.2.2, OW1, BW1, D2, F2⟩
                      · have NX : Hid (nextT l (t) = p) := Lib.hid (by unfold nextT; rw [HP.out, if_neg h5])
                        have HQ : Hid (behind l p = p) := Lib.hid (behind_self (by rw [← HP.out]; exact (behind_facts l _).2.2))
                        by_cases hpl : p < k
                        · have hz5 : (p : Int) < k := by omega
                          have hz50 : (0 : Int) ≤ p := by omega
                          have hx5 : ¬ ((kd l p : Nat) : Int) = 2 := by omega
                          have C5 : Hid (∀ W, ItIn W (.slice (some ⟨b, off, none⟩) k c) l → W.cell? ⟨b, off + p * 2, none⟩ = some (.int .u8 (kd l p : Nat))) := Lib.hid (fun W hW => by
                            obtain ⟨b', off', c', e, h, -⟩ := hW.get (i := p) (by have := HN.out; omega)
                            injection e with e1
                            injection e1 with e1
                            injection e1 with e1 e2
                            subst e1 e2
                            exact h)
                          generalize ((kd l p : Nat) : Int) = y at C5 hx5
                          clear h5
                          go_wp2_with (first | (go_at_call 20; (with_reducible refine (Kb.out).mono ?_); rintro e wr ⟨rfl, rfl⟩) | (go_at_call 21; (with_reducible refine (Kc.out).mono ?_); rintro e wr ⟨rfl, rfl⟩) | (go_at_call 22; (first | (with_reducible refine (Ks2.out).mono ?_) | (with_reducible refine (Ks1.out).mono ?_)); rintro e wr ⟨rfl, rfl⟩) | (go_at_call 19; (with_reducible refine (KFs.out _).mono ?_); rintro e wy ⟨rfl, hwy⟩; (have HX : Hid (XAt wo wy a t s) := Lib.hid (by rw [← hwy]; exact HX3.out)); (have OY : Hid (ownsL wy H u done) := Lib.hid (hO.out.keep HX.out.below)); (have BY : Hid (Below H w wy) := Lib.hid (hB.out.trans (HX.out.below.mono HS.out))); (have SY : Hid (H ≤ wy.heap.size) := Lib.hid (by have := HX.out.lt; have := HS.out; omega)); (have hd0 := HX.out.c0); (have hd1 := HX.out.c1); (have hd2 := HX.out.c2); clear hwy hc0 hc1 hc2 hf2 hc3) | ((with_reducible change wpList _ _ _ (Oper.mk (some 99) _ _ _ _ _ :: _) _ _); refine wpList_append_ln rfl _ _ rfl H _ _ rfl OY.out (a, t, s) _ rfl (by have := DL.out; omega) SY.out ?_; intro v1 w1 hv1 hb1 hk1; have OW1 := Lib.hid hv1; have BW1 := Lib.hid (BY.out.trans hb1); have HV1 := Lib.hid (HV.out.keep (by rw [hH]; exact BW1.out)); have hx1 := (World.cell?_of_block (a := ⟨wo.heap.size, 1, none⟩) (hk1 _ HX.out.lt (fun e => OL.out e.symm))).trans HX.out.c1; clear hv1 hb1 hk1); (have c5 := C5.out w1 HV1.out); (have K5 := Lib.hid (KB.out w1 HV1.out (t) (by have := HE.out.hi; rw [HT.out] at this; have := HN.out; omega))); (rw [HP.out] at K5); (have K6 := Lib.hid (KB.out w1 HV1.out p HPL)); (rw [HQ.out] at K6) | (go_at_call 20; (with_reducible refine (K5.out).mono ?_); rintro e w1 ⟨rfl, rfl⟩) | (go_at_call 20; (with_reducible refine (K6.out).mono ?_); rintro e w1 ⟨rfl, rfl⟩))
                          have NQ : Hid (a < p ∧ p ≤ k ∧ St l p) := Lib.hid (by have h := NF.out; rw [NX.out] at h; exact ⟨h.1, by have := h.2.2.1; have := HN.out; omega, h.2.2.2.1⟩)
                          rw [NX.out] at D2
                          go_roundg (k - p)
                          case measure => have := NQ.out; omega
                          case rel => exact ⟨p, _, _, rfl, rfl, NQ.out.2.1, Nat.le_refl _, Lib.hid NQ.out.2.2, OW1, BW1, D2, F2⟩
                        · have hz5 : ¬ (p : Int) < k := by omega
                          clear h5
                          go_wp2_with (first | (go_at_call 20; (with_reducible refine (Kb.out).mono ?_); rintro e wr ⟨rfl, rfl⟩) | (go_at_call 21; (with_reducible refine (Kc.out).mono ?_); rintro e wr ⟨rfl, rfl⟩) | (go_at_call 22; (first | (with_reducible refine (Ks2.out).mono ?_) | (with_reducible refine (Ks1.out).mono ?_)); rintro e wr ⟨rfl, rfl⟩) | (go_at_call 19; (with_reducible refine (KFs.out _).mono ?_); rintro e wy ⟨rfl, hwy⟩; (have HX : Hid (XAt wo wy a t s) := Lib.hid (by rw [← hwy]; exact HX3.out)); (have OY : Hid (ownsL wy H u done) := Lib.hid (hO.out.keep HX.out.below)); (have BY : Hid (Below H w wy) := Lib.hid (hB.out.trans (HX.out.below.mono HS.out))); (have SY : Hid (H ≤ wy.heap.size) := Lib.hid (by have := HX.out.lt; have := HS.out; omega)); (have hd0 := HX.out.c0); (have hd1 := HX.out.c1); (have hd2 := HX.out.c2); clear hwy hc0 hc1 hc2 hf2 hc3) | ((with_reducible change wpList _ _ _ (Oper.mk (some 99) _ _ _ _ _ :: _) _ _); refine wpList_append_ln rfl _ _ rfl H _ _ rfl OY.out (a, t, s) _ rfl (by have := DL.out; omega) SY.out ?_; intro v1 w1 hv1 hb1 hk1; have OW1 := Lib.hid hv1; have BW1 := Lib.hid (BY.out.trans hb1); have HV1 := Lib.hid (HV.out.keep (by rw [hH]; exact BW1.out)); have hx1 := (World.cell?_of_block (a := ⟨wo.heap.size, 1, none⟩) (hk1 _ HX.out.lt (fun e => OL.out e.symm))).trans HX.out.c1; clear hv1 hb1 hk1); (have K5 := Lib.hid (KB.out w1 HV1.out (t) (by have := HE.out.hi; rw [HT.out] at this; have := HN.out; omega))); (rw [HP.out] at K5); (have K6 := Lib.hid (KB.out w1 HV1.out p HPL)); (rw [HQ.out] at K6) | (go_at_call 20; (with_reducible refine (K5.out).mono ?_); rintro e w1 ⟨rfl, rfl⟩) | (go_at_call 20; (with_reducible refine (K6.out).mono ?_); rintro e w1 ⟨rfl, rfl⟩))
                          have NQ : Hid (a < p ∧ p ≤ k ∧ St l p) := Lib.hid (by have h := NF.out; rw [NX.out] at h; exact ⟨h.1, by have := h.2.2.1; have := HN.out; omega, h.2.2.2.1⟩)
                          rw [NX.out] at D2
                          go_roundg (k - p)
                          case measure => have := NQ.out; omega
                          case rel => exact ⟨p, _, _, rfl, rfl, NQ.out.2.1, Nat.le_refl _, Lib.hid NQ.out.2.2, OW1, BW1, D2, F2⟩
                  · have hqi : ((v : Int) == (f : Int)) = false := beq_eq_false_iff_ne.2 (by omega)
                    clear hv
                    by_cases hgt : x < s1
                    · have HT : Hid (toT l x a = t) := Lib.hid (by
                        rw [← hE.out]
                        refine ext_no (fun h => ?_)
                        rw [HPf.out, HPu.out] at h
                        have := HPs.out; omega)
                      obtain ⟨s, hs⟩ : ∃ s, sumI l a t = s := ⟨_, rfl⟩
                      have LT : Hid (lineT l x a = (a, t, s)) := Lib.hid (by unfold lineT; rw [HT.out, hs])
                      rw [hs] at Ks2
                      clear hs
                      have HX3 := Lib.hid (hX.out.set2 s)
                      have hc0 := hX.out.c0
                      have hc2 := hX.out.c2
                      have hf2 := hX.out.fro 2
                      have hc3 := HX3.out.c2
                      cases hfit : decide (Fit s)
                      · have KFs := Lib.hid (fun W => KF.out s W false hfit)
                        have NO : Hid (∀ wy, XAt wo wy a t s → FillEnd l x w (.returned (.tuple #[.slice none 0 0, .int .i64 10])) wy) := Lib.hid (fun wy hwy => by
                          have R : fillA l x = ([], 10) := by
                            rw [HF0.out, if_pos ⟨lineT l x a, by rw [← hD.out, FC.out]; simp, by rw [LT.out]; simpa using hfit⟩]
                          exact ⟨_, by rw [R]; rfl, by rw [R]; exact ownsL.nil _ _, by rw [hH]; exact hB.out.trans (hwy.below.mono HS.out)⟩)
                        clear hfit
                        go_wp2_with (first | (go_at_call 20; (with_reducible refine (Kb.out).mono ?_); rintro e wr ⟨rfl, rfl⟩) | (go_at_call 21; (with_reducible refine (Kc.out).mono ?_); rintro e wr ⟨rfl, rfl⟩) | (go_at_call 22; (first | (with_reducible refine (Ks2.out).mono ?_) | (with_reducible refine (Ks1.out).mono ?_)); rintro e wr ⟨rfl, rfl⟩) | (go_at_call 19; (with_reducible refine (KFs.out _).mono ?_); rintro e wy ⟨rfl, hwy⟩; (have HX : Hid (XAt wo wy a t s) := Lib.hid (by rw [← hwy]; exact HX3.out)); (have OY : Hid (ownsL wy H u done) := Lib.hid (hO.out.keep HX.out.below)); (have BY : Hid (Below H w wy) := Lib.hid (hB.out.trans (HX.out.below.mono HS.out))); (have SY : Hid (H ≤ wy.heap.size) := Lib.hid (by have := HX.out.lt; have := HS.out; omega)); (have hd0 := HX.out.c0); (have hd1 := HX.out.c1); (have hd2 := HX.out.c2); clear hwy hc0 hc1 hc2 hf2 hc3))
                        go_ret2
                        exact NO.out _ HX.out
                      · have KFs := Lib.hid (fun W => KF.out s W true hfit)
                        have FT : Hid (Fit s) := Lib.hid (by simpa using hfit)
                        clear hfit
                        obtain ⟨p, hp⟩ : ∃ p, behind l (t) = p := ⟨_, rfl⟩
                        have OL : Hid (u.ownBlock ≠ some wo.heap.size) := Lib.hid (fun e => absurd (World.ownsRow.lt hO.out _ e).2 (Nat.lt_irrefl _))
                        have HP := Lib.hid hp
                        have HPL : p ≤ k := by have := behind_len l HE.out.hi; rw [HT.out, hp] at this; have := HN.out; omega
                        have DL : Hid (done.length ≤ 2048) := Lib.hid (by
                          have h1 := fill_len (l := l) x (behind l 0)
                          have h2 := congrArg List.length hD.out
                          unfold linesT at h2
                          rw [List.length_append] at h2
                          have := HN.out
                          omega)
                        have NF := Lib.hid (next_facts HE.out)
                        rw [HT.out] at NF
                        have D2 : Hid (done ++ [(a, t, s)] ++ fillT l x (nextT l (t)) = linesT l x) := Lib.hid (by rw [List.append_assoc, ← hD.out, FC.out, LT.out, HT.out]; rfl)
                        have F2 : Hid (∀ y ∈ done ++ [((a, t, s) : Ln)], Fit y.2.2) := Lib.hid (fun y hy => by
                          rcases List.mem_append.1 hy with h | h
                          · exact hF.out y h
                          · obtain rfl : y = (a, t, s) := by simpa using h
                            exact FT.out)
                        clear hp
                        by_cases h5 : kd l p = 2
                        · have hpl : p < k := by have := kd_lt (l := l) (i := p) (by omega); have := HN.out; omega
                          have hz5 : (p : Int) < k := by omega
                          have hz50 : (0 : Int) ≤ p := by omega
                          have wp : IntKind.i64.wrap ((p : Int) + 1) = (p : Int) + 1 := IntWalk.i64_in _ (by omega)
                          have NX : Hid (nextT l (t) = behind l (p + 1)) := Lib.hid (by unfold nextT; rw [HP.out, if_pos h5])
                          obtain ⟨q, hq⟩ : ∃ q, behind l (p + 1) = q := ⟨_, rfl⟩
                          rw [hq] at NX
                          have HQ := Lib.hid hq
                          have C5 : Hid (∀ W, ItIn W (.slice (some ⟨b, off, none⟩) k c) l → W.cell? ⟨b, off + p * 2, none⟩ = some (.int .u8 2)) := Lib.hid (fun W hW => by
                            obtain ⟨b', off', c', e, h, -⟩ := hW.get (i := p) (by have := HN.out; omega)
                            injection e with e1
                            injection e1 with e1
                            injection e1 with e1 e2
                            subst e1 e2
                            rw [h, h5]
                            rfl)
                          clear hq
                          go_wp2_with (first | (go_at_call 20; (with_reducible refine (Kb.out).mono ?_); rintro e wr ⟨rfl, rfl⟩) | (go_at_call 21; (with_reducible refine (Kc.out).mono ?_); rintro e wr ⟨rfl, rfl⟩) | (go_at_call 22; (first | (with_reducible refine (Ks2.out).mono ?_) | (with_reducible refine (Ks1.out).mono ?_)); rintro e wr ⟨rfl, rfl⟩) | (go_at_call 19; (with_reducible refine (KFs.out _).mono ?_); rintro e wy ⟨rfl, hwy⟩; (have HX : Hid (XAt wo wy a t s) := Lib.hid (by rw [← hwy]; exact HX3.out)); (have OY : Hid (ownsL wy H u done) := Lib.hid (hO.out.keep HX.out.below)); (have BY : Hid (Below H w wy) := Lib.hid (hB.out.trans (HX.out.below.mono HS.out))); (have SY : Hid (H ≤ wy.heap.size) := Lib.hid (by have := HX.out.lt; have := HS.out; omega)); (have hd0 := HX.out.c0); (have hd1 := HX.out.c1); (have hd2 := HX.out.c2); clear hwy hc0 hc1 hc2 hf2 hc3) | ((with_reducible change wpList _ _ _ (Oper.mk (some 99) _ _ _ _ _ :: _) _ _); refine wpList_append_ln rfl _ _ rfl H _ _ rfl OY.out (a, t, s) _ rfl (by have := DL.out; omega) SY.out ?_; intro v1 w1 hv1 hb1 hk1; have OW1 := Lib.hid hv1; have BW1 := Lib.hid (BY.out.trans hb1); have HV1 := Lib.hid (HV.out.keep (by rw [hH]; exact BW1.out)); have hx1 := (World.cell?_of_block (a := ⟨wo.heap.size, 1, none⟩) (hk1 _ HX.out.lt (fun e => OL.out e.symm))).trans HX.out.c1; clear hv1 hb1 hk1); (have c5 := C5.out w1 HV1.out); (have K5 := Lib.hid (KB.out w1 HV1.out (t) (by have := HE.out.hi; rw [HT.out] at this; have := HN.out; omega))); (rw [HP.out] at K5); (have K6 := Lib.hid (KB.out w1 HV1.out (p + 1) (by omega))); (rw [HQ.out, show ((p + 1 : Nat) : Int) = (p : Int) + 1 by omega] at K6) | (go_at_call 20; (with_reducible refine (K5.out).mono ?_); rintro e w1 ⟨rfl, rfl⟩) | (go_at_call 20; (with_reducible refine (K6.out).mono ?_); rintro e w1 ⟨rfl, rfl⟩))
                          have NQ : Hid (a < q ∧ q ≤ k ∧ St l q) := Lib.hid (by have h := NF.out; rw [NX.out] at h; exact ⟨h.1, by have := h.2.2.1; have := HN.out; omega, h.2.2.2.1⟩)
                          rw [NX.out] at D2
                          go_roundg (k - q)
                          case measure => have := NQ.out; omega
                          case rel => exact ⟨q, _, _, rfl, rfl, NQ.out.2.1, Nat.le_refl _, Lib.hid NQ.out.2.2, OW1, BW1, D2, F2⟩
                        · have NX : Hid (nextT l (t) = p) := Lib.hid (by unfold nextT; rw [HP.out, if_neg h5])
                          have HQ : Hid (behind l p = p) := Lib.hid (behind_self (by rw [← HP.out]; exact (behind_facts l _).2.2))
                          by_cases hpl : p < k
                          · have hz5 : (p : Int) < k := by omega
                            have hz50 : (0 : Int) ≤ p := by omega
                            have hx5 : ¬ ((kd l p : Nat) : Int) = 2 := by omega
                            have C5 : Hid (∀ W, ItIn W (.slice (some ⟨b, off, none⟩) k c) l → W.cell? ⟨b, off + p * 2, none⟩ = some (.int .u8 (kd l p : Nat))) := Lib.hid (fun W hW => by
                              obtain ⟨b', off', c', e, h, -⟩ := hW.get (i := p) (by have := HN.out; omega)
                              injection e with e1
                              injection e1 with e1
                              injection e1 with e1 e2
                              subst e1 e2
                              exact h)
                            generalize ((kd l p : Nat) : Int) = y at C5 hx5
                            clear h5
                            go_wp2_with (first | (go_at_call 20; (with_reducible refine (Kb.out).mono ?_); rintro e wr ⟨rfl, rfl⟩) | (go_at_call 21; (with_reducible refine (Kc.out).mono ?_); rintro e wr ⟨rfl, rfl⟩) | (go_at_call 22; (first | (with_reducible refine (Ks2.out).mono ?_) | (with_reducible refine (Ks1.out).mono ?_)); rintro e wr ⟨rfl, rfl⟩) | (go_at_call 19; (with_reducible refine (KFs.out _).mono ?_); rintro e wy ⟨rfl, hwy⟩; (have HX : Hid (XAt wo wy a t s) := Lib.hid (by rw [← hwy]; exact HX3.out)); (have OY : Hid (ownsL wy H u done) := Lib.hid (hO.out.keep HX.out.below)); (have BY : Hid (Below H w wy) := Lib.hid (hB.out.trans (HX.out.below.mono HS.out))); (have SY : Hid (H ≤ wy.heap.size) := Lib.hid (by have := HX.out.lt; have := HS.out; omega)); (have hd0 := HX.out.c0); (have hd1 := HX.out.c1); (have hd2 := HX.out.c2); clear hwy hc0 hc1 hc2 hf2 hc3) | ((with_reducible change wpList _ _ _ (Oper.mk (some 99) _ _ _ _ _ :: _) _ _); refine wpList_append_ln rfl _ _ rfl H _ _ rfl OY.out (a, t, s) _ rfl (by have := DL.out; omega) SY.out ?_; intro v1 w1 hv1 hb1 hk1; have OW1 := Lib.hid hv1; have BW1 := Lib.hid (BY.out.trans hb1); have HV1 := Lib.hid (HV.out.keep (by rw [hH]; exact BW1.out)); have hx1 := (World.cell?_of_block (a := ⟨wo.heap.size, 1, none⟩) (hk1 _ HX.out.lt (fun e => OL.out e.symm))).trans HX.out.c1; clear hv1 hb1 hk1); (have c5 := C5.out w1 HV1.out); (have K5 := Lib.hid (KB.out w1 HV1.out (t) (by have := HE.out.hi; rw [HT.out] at this; have := HN.out; omega))); (rw [HP.out] at K5); (have K6 := Lib.hid (KB.out w1 HV1.out p HPL)); (rw [HQ.out] at K6) | (go_at_call 20; (with_reducible refine (K5.out).mono ?_); rintro e w1 ⟨rfl, rfl⟩) | (go_at_call 20; (with_reducible refine (K6.out).mono ?_); rintro e w1 ⟨rfl, rfl⟩))
                            have NQ : Hid (a < p ∧ p ≤ k ∧ St l p) := Lib.hid (by have h := NF.out; rw [NX.out] at h; exact ⟨h.1, by have := h.2.2.1; have := HN.out; omega, h.2.2.2.1⟩)
                            rw [NX.out] at D2
                            go_roundg (k - p)
                            case measure => have := NQ.out; omega
                            case rel => exact ⟨p, _, _, rfl, rfl, NQ.out.2.1, Nat.le_refl _, Lib.hid NQ.out.2.2, OW1, BW1, D2, F2⟩
                          · have hz5 : ¬ (p : Int) < k := by omega
                            clear h5
                            go_wp2_with (first | (go_at_call 20; (with_reducible refine (Kb.out).mono ?_); rintro e wr ⟨rfl, rfl⟩) | (go_at_call 21; (with_reducible refine (Kc.out).mono ?_); rintro e wr ⟨rfl, rfl⟩) | (go_at_call 22; (first | (with_reducible refine (Ks2.out).mono ?_) | (with_reducible refine (Ks1.out).mono ?_)); rintro e wr ⟨rfl, rfl⟩) | (go_at_call 19; (with_reducible refine (KFs.out _).mono ?_); rintro e wy ⟨rfl, hwy⟩; (have HX : Hid (XAt wo wy a t s) := Lib.hid (by rw [← hwy]; exact HX3.out)); (have OY : Hid (ownsL wy H u done) := Lib.hid (hO.out.keep HX.out.below)); (have BY : Hid (Below H w wy) := Lib.hid (hB.out.trans (HX.out.below.mono HS.out))); (have SY : Hid (H ≤ wy.heap.size) := Lib.hid (by have := HX.out.lt; have := HS.out; omega)); (have hd0 := HX.out.c0); (have hd1 := HX.out.c1); (have hd2 := HX.out.c2); clear hwy hc0 hc1 hc2 hf2 hc3) | ((with_reducible change wpList _ _ _ (Oper.mk (some 99) _ _ _ _ _ :: _) _ _); refine wpList_append_ln rfl _ _ rfl H _ _ rfl OY.out (a, t, s) _ rfl (by have := DL.out; omega) SY.out ?_; intro v1 w1 hv1 hb1 hk1; have OW1 := Lib.hid hv1; have BW1 := Lib.hid (BY.out.trans hb1); have HV1 := Lib.hid (HV.out.keep (by rw [hH]; exact BW1.out)); have hx1 := (World.cell?_of_block (a := ⟨wo.heap.size, 1, none⟩) (hk1 _ HX.out.lt (fun e => OL.out e.symm))).trans HX.out.c1; clear hv1 hb1 hk1); (have K5 := Lib.hid (KB.out w1 HV1.out (t) (by have := HE.out.hi; rw [HT.out] at this; have := HN.out; omega))); (rw [HP.out] at K5); (have K6 := Lib.hid (KB.out w1 HV1.out p HPL)); (rw [HQ.out] at K6) | (go_at_call 20; (with_reducible refine (K5.out).mono ?_); rintro e w1 ⟨rfl, rfl⟩) | (go_at_call 20; (with_reducible refine (K6.out).mono ?_); rintro e w1 ⟨rfl, rfl⟩))
                            have NQ : Hid (a < p ∧ p ≤ k ∧ St l p) := Lib.hid (by have h := NF.out; rw [NX.out] at h; exact ⟨h.1, by have := h.2.2.1; have := HN.out; omega, h.2.2.2.1⟩)
                            rw [NX.out] at D2
                            go_roundg (k - p)
                            case measure => have := NQ.out; omega
                            case rel => exact ⟨p, _, _, rfl, rfl, NQ.out.2.1, Nat.le_refl _, Lib.hid NQ.out.2.2, OW1, BW1, D2, F2⟩
                    · have HE2 : Hid (extT l x a v = toT l x a) := Lib.hid (by
                        rw [← hE.out, ext_go (t := t) (by rw [HPf.out, HPu.out, HPs.out]; exact ⟨hqe, by omega⟩), HPf.out, HPu.out])
                      have HX4 := Lib.hid (hX.out.set1 v)
                      have hf1 := hX.out.fro 1
                      go_wp2_with (first | (go_at_call 20; (with_reducible refine (Kb.out).mono ?_); rintro e wr ⟨rfl, rfl⟩) | (go_at_call 21; (with_reducible refine (Kc.out).mono ?_); rintro e wr ⟨rfl, rfl⟩) | (go_at_call 22; (with_reducible refine (Ks1.out).mono ?_); rintro e wr ⟨rfl, rfl⟩))
                      go_roundg (k - v)
                      case measure => omega
                      case rel => exact ⟨v, _, rfl, hvk.2, by omega, Nat.le_refl _, HE2, HX4⟩
            · obtain rfl : a = k := by omega
              have hz : ¬ (a : Int) < a := by omega
              have NO : Hid (FillEnd l x w (.returned (.tuple #[u, .int .i64 0])) wo) := Lib.hid (by
                have e0 : done = linesT l x := by rw [← hD.out, fill_end (by have := HN.out; omega), List.append_nil]
                have R : fillA l x = (linesT l x, 0) := by
                  rw [HF0.out, if_neg]
                  rintro ⟨y, hy, h⟩
                  rw [← e0] at hy
                  exact h (hF.out y hy)
                refine ⟨_, by rw [R]; rfl, ?_, ?_⟩
                · rw [R, ← e0, hH]; exact hO.out
                · rw [hH]; exact hB.out)
              go_wp2_with fail
              go_ret2
              exact NO.out
end Go.Proofs.Ytpfeiiabplaghaa
