/-
  The law WordsRow: a row of words is told as the numbers, and the place of each one is that of all ahead; cut off within one it is none.
-/
import Derived.Test.YtjbkjpkelbigmaaAwakeW
import Derived.Test.YtjbkjpkelbigmaaWordsStand
import Derived.Test.YtjbkjpkelbigmaaWordsApart
import Derived.Deep.RegionHeld3
import Derived.Deep.DrawnRows
import Derived.IntWalk
namespace Go.Proofs.Ytjbkjpkelbigmaa
open Go.RowKit
attribute [local go_sem ↓] Go.wp_at_zero Go.wp_at_succ

theorem seg_behind (a b : List Nat) : seg (pick (a ++ b)) a.length b.length = b := by
  have h := pick_seg (a ++ b)
  rw [List.length_append, seg_add, Nat.zero_add] at h
  exact (List.append_inj h (by rw [seg_len])).2
theorem seg_ahead (a b : List Nat) : seg (pick (a ++ b)) 0 a.length = a := by
  have h := pick_seg (a ++ b)
  rw [List.length_append, seg_add, Nat.zero_add] at h
  exact (List.append_inj h (by rw [seg_len])).1
theorem flat_split (f : Nat → Nat) {k len : Nat} (h : k ≤ len) : ∃ r, flat f len = flat f k ++ r := by
  obtain ⟨m, rfl⟩ : ∃ m, len = k + m := ⟨len - k, by omega⟩
  exact ⟨(seg f (0 + k) m).flatMap word, by unfold flat; rw [seg_add, List.flatMap_append]⟩
theorem flat_at (f : Nat → Nat) {k len : Nat} (h : k < len) (hb : f k < 18446744073709551616) : Got (seg (pick (flat f len)) (flat f k).length ((flat f len).length - (flat f k).length)) (some (f k, (word (f k)).length)) := by
  obtain ⟨r, hr⟩ := flat_split f (show k + 1 ≤ len from h)
  rw [flat_succ, List.append_assoc] at hr
  have e : (flat f len).length - (flat f k).length = (word (f k) ++ r).length := by rw [hr, List.length_append]; omega
  rw [e, hr, seg_behind]
  exact Got.word (f k) r hb
theorem take_seg (f : Nat → Nat) {j len : Nat} (h : j ≤ len) : (seg f 0 len).take j = seg f 0 j := by
  obtain ⟨m, rfl⟩ : ∃ m, len = j + m := ⟨len - j, by omega⟩
  rw [seg_add, List.take_left' (seg_len f 0 j)]
theorem flat_head : ∀ {ns ms : List Nat} {r : List Nat}, ns.flatMap word ++ r = ms.flatMap word → ∃ j, j ≤ ms.length ∧ ns = ms.take j
  | [], ms, _, _ => ⟨0, Nat.zero_le _, by simp⟩
  | n :: ns, [], r, h => by have := word_pos n; have := congrArg List.length h; simp only [List.flatMap_nil, List.flatMap_cons, List.length_append, List.length_nil] at this; omega
  | n :: ns, m :: ms, r, h => by
    simp only [List.flatMap_cons, List.append_assoc] at h
    obtain rfl := word_inj h
    obtain ⟨j, hj, e⟩ := flat_head (List.append_cancel_left h)
    exact ⟨j + 1, by simp; omega, by rw [List.take_succ_cons, ← e]⟩
theorem cut_some (f : Nat → Nat) {len k : Nat} (hb : ∀ i, i < len → f i < 18446744073709551616) (hk : k ≤ (flat f len).length) {r : Option (List Nat)} (hr : Parsed (seg (pick (flat f len)) 0 k) r) :
    r.isSome = true ↔ ∃ j, j ≤ len ∧ k = (flat f j).length := by
  constructor
  · intro h
    rcases r with _ | ns
    · cases h
    · obtain ⟨rr, e1, -⟩ := seg_whole (flat f len) hk
      rw [hr.2] at e1
      obtain ⟨j, hj, e⟩ := flat_head (ns := ns) (r := rr) (ms := seg f 0 len) e1.symm
      rw [seg_len] at hj
      refine ⟨j, hj, ?_⟩
      rw [take_seg f hj] at e
      have := congrArg List.length hr.2
      rw [seg_len, e] at this
      exact this
  · rintro ⟨j, hj, rfl⟩
    obtain ⟨rr, e⟩ := flat_split f hj
    have hp : Parsed (seg (pick (flat f len)) 0 (flat f j).length) (some (seg f 0 j)) := ⟨fun x hx => by
      obtain ⟨i, hi, rfl⟩ := seg_mem hx; rw [Nat.zero_add]; exact hb i (by omega), by rw [e, seg_ahead]; rfl⟩
    rw [hr.uniq hp]; rfl
theorem rows_seg {w w' : World} {f : Nat → Nat} {len : Nat} {e : Ending} (h : RowsMade w (some (seg f 0 len)) e w') :
    ∃ A c, e = .returned (.tuple #[.slice A len c, .bool true]) ∧ Longs w' A len f ∧ Below w.heap.size w w' := by
  obtain ⟨A, c, rfl, -, -, hl, hb⟩ := h
  rw [seg_len] at hl
  rw [seg_len]
  exact ⟨A, c, rfl, hl.congr (fun i hi => by have := seg_get f 0 len i hi; simp [pick, this]), hb⟩

set_option maxRecDepth 100000 in
set_option maxHeartbeats 1000000 in
theorem stands_yes (A : Option Addr) (len c : Nat) (f : Nat → Nat) (p n k : Nat) (w : World) (h : Bytes w A len f) (hlen : len ≤ 4611686018427387904) (hc : len ≤ c) (hp : p < len) (hr : Got (seg f p (len - p)) (some (n, k))) :
    Calls Try.prog 25 #[.slice A len c, .int .i64 (p : Nat), .int .u64 (n : Nat), .int .i64 (k : Nat)] w fun e w' => e = .returned (.bool true) ∧ w = w' := by
  have H := Lib.hid h; have R := Lib.hid hr
  clear h hr
  go_enter Try.func25, Try.ntmps25
  go_wp2_with fail
  refine (get_in A len c f p w H.out hlen hc hp _ R.out).mono ?_
  rintro e w1 ⟨rfl, rfl⟩
  simp only [encGot]
  go_wp2
  go_ret
  exact ⟨rfl, rfl⟩

theorem made_form {w w' : World} {l : List Nat} {e : Ending} (h : Made w l e w') :
    ∃ A c, e = .returned (.slice A l.length c) ∧ l.length ≤ c ∧ c ≤ 9223372036854775807 ∧ ((A = none ∧ l.length = 0 ∧ c = 0) ∨ ∃ g, A = some ⟨g, 0, none⟩) ∧ Bytes w' A l.length (pick l) ∧ Below w.heap.size w w' := by
  obtain ⟨A, c, rfl, h1, h2, h3, hb, ho, hbel⟩ := h
  refine ⟨A, c, rfl, h1, by unfold maxLen at h2; omega, ?_, hb, hbel⟩
  rcases ho.2 with ⟨e, h0⟩ | ⟨g, cap, cur, e, _⟩
  · injection e with e1 e2 e3
    exact .inl ⟨e1, h0, e3⟩
  · injection e with e1 e2 e3
    exact .inr ⟨g, e1⟩

set_option maxRecDepth 100000 in
set_option maxHeartbeats 1000000 in
theorem row_walk (A : Option Addr) (len c : Nat) (f : Nat → Nat) (cut : Int) (w : World) (h : Longs w A len f) (h0 : -9223372036854775808 ≤ cut) (h1 : cut ≤ 9223372036854775807) :
    Calls Try.prog 8 #[.slice A len c, .int .i64 cut] w fun e w' => e = .returned (.bool true) ∧ Below w.heap.size w w' := by
  have H := Lib.hid h
  clear h
  by_cases hlen : len ≤ 60
  · have FB := Lib.hid (fun i (hi : i < len) => H.out.bd hi)
    have FL := Lib.hid (flat_bd f len (fun i hi => H.out.bd hi))
    have hlen' : ¬ (60 : Int) < len := by omega
    go_enter Try.func8, Try.ntmps8
    go_wp2_with fail
    refine (awake_any _).mono ?_
    rintro e w1 ⟨rfl, hb⟩
    have K := Lib.hid hb; have J := Lib.hid (H.out.below hb); clear hb
    go_wp2_with fail
    refine (row_any A len c f w1 J.out (by omega)).mono ?_
    intro e w2 hm
    obtain ⟨B, cB, rfl, q1, q2, q3, hb, hbel⟩ := made_form hm
    have J2 := Lib.hid (J.out.below hbel); have K2 := Lib.hid (K.out.trans (hbel.mono K.out.size)); have B2 := Lib.hid hb; have Q3 := Lib.hid q3
    clear hm hb hbel q3 J K
    have hFL : (flat f len).length ≤ 600 := by have := FL.out len (Nat.le_refl _); omega
    have LAST : Hid (Parsed (seg (pick (flat f len)) 0 (flat f len).length) (some (seg f 0 len))) := Lib.hid ⟨fun x hx => by obtain ⟨i, hi, rfl⟩ := seg_mem hx; rw [Nat.zero_add]; exact FB.out i hi, pick_seg _⟩
    go_wp2_with fail
    refine (rows_any B (flat f len).length cB (pick (flat f len)) w2 B2.out (by omega) q1 _ LAST.out).mono ?_
    intro e w3 hm
    obtain ⟨M, cM, rfl, hl, hbel⟩ := rows_seg hm
    have J3 := Lib.hid (J2.out.below hbel); have K3 := Lib.hid (K2.out.trans (hbel.mono K2.out.size)); have B3 := Lib.hid (B2.out.below hbel); have M3 := Lib.hid hl
    clear hm hl hbel J2 K2 B2 LAST
    go_wp2
    go_loopw [8, 9, 10] (fun a t i wr => ∃ (k : Nat) (wh : Bool), k ≤ len ∧ (wh = true ↔ ∃ j, j ≤ k ∧ cut = ((flat f j).length : Nat)) ∧ a = .int .i64 ((flat f k).length : Nat) ∧ t = .bool wh ∧ i = .int .i64 (k : Nat) ∧ Below w3.heap.size w3 wr) (fun _ _ i _ => len - (intOf i).toNat)
    case atStart =>
      refine ⟨0, _, Nat.zero_le _, ?_, rfl, rfl, rfl, Below.refl _ _⟩
      simp only [beq_iff_eq]
      constructor
      · intro e; exact ⟨0, Nat.le_refl _, e⟩
      · rintro ⟨j, hj, e⟩
        obtain rfl : j = 0 := by omega
        exact e
    case round =>
      obtain ⟨k, wh, hk, hwh, rfl, rfl, rfl, hB⟩ := hrel
      have WH := Lib.hid hwh; have BB := Lib.hid hB
      have J4 := Lib.hid (J3.out.below hB); have B4 := Lib.hid (B3.out.below hB); have M4 := Lib.hid (M3.out.below hB)
      clear hwh hB
      by_cases hlt : k < len
      · have G := Lib.hid (flat_at f hlt (FB.out k hlt))
        have hP : (flat f k).length < (flat f len).length := by
          obtain ⟨r, hr⟩ := flat_split f (show k + 1 ≤ len from hlt)
          have := congrArg List.length hr
          rw [flat_succ] at this
          simp only [List.length_append] at this
          have := word_pos (f k)
          omega
        have hS : (flat f (k + 1)).length = (flat f k).length + (word (f k)).length := by rw [flat_succ, List.length_append]
        have HT := Lib.hid (word_ten (FB.out k hlt))
        have FX := Lib.hid (FB.out k hlt)
        obtain ⟨b1, o1, rfl, hb1, hc1⟩ := J4.out.at_ hlt
        obtain ⟨b2, o2, rfl, hb2, hc2⟩ := M4.out.at_ hlt
        have HS := Lib.hid hS; clear hS
        have HP := Lib.hid hP; clear hP
        have L1 : Hid ((flat f len).length ≤ 4611686018427387904) := Lib.hid (by omega)
        have Q1 := Lib.hid q1
        have hP10 : (flat f k).length ≤ 600 := by have := HP.out; omega
        have hW10 : (word (f k)).length ≤ 10 := HT.out
        have B0 : Hid (Below wr.heap.size wr wr.drew) := Lib.hid (Below.refl _ wr).drew
        have hlt' : (k : Int) < len := by omega
        have hk0 : (0 : Int) ≤ k := by omega
        generalize hx : f k = x at *
        have HX := Lib.hid hx; clear hx
        have hxx : ((x : Int) != (x : Int)) = false := by simp
        have HC1 := Lib.hid hc1; have HC2 := Lib.hid hc2
        go_wp2_with fail
        go_region_held3 (fun W' => W'.cell? ⟨b1, o1 + k, none⟩ = some (.int .u64 (x : Nat)) ∧ W'.cell? ⟨b2, o2 + k, none⟩ = some (.int .u64 (x : Nat)) ∧ Below wr.heap.size wr W')
          (first | exact ⟨HC1.out, HC2.out, B0.out⟩ | exact ⟨c1, c2, KB.out⟩)
          (first
          | (go_at_call 12; (with_reducible refine (size_any x FX.out _).mono ?_); rintro e w5 ⟨rfl, hb⟩; have KB : Hid (Below wr.heap.size wr w5) := Lib.hid (Below.trans (by assumption) (hb.mono (Below.size (by assumption)))); have c1 := (KB.out.cell (p := ⟨b1, o1 + k, none⟩) hb1).trans HC1.out; have c2 := (KB.out.cell (p := ⟨b2, o2 + k, none⟩) hb2).trans HC2.out; have B5 : Hid (Bytes w5 B (flat f len).length (pick (flat f len))) := Lib.hid (B4.out.below KB.out); clear hb)
          | (go_at_call 25; (with_reducible refine (stands_yes B (flat f len).length cB (pick (flat f len)) (flat f k).length x (word x).length _ B5.out L1.out Q1.out HP.out G.out).mono ?_); rintro e w6 ⟨rfl, rfl⟩))
        go_wp2_with fail
        refine (size_any x FX.out _).mono ?_
        rintro e w7 ⟨rfl, hb⟩
        have K7 : Hid (Below w3.heap.size w3 w7) := Lib.hid (BB.out.trans ((KB.out.trans (hb.mono KB.out.size)).mono BB.out.size))
        clear hb
        have HS2 : Hid ((flat f (k + 1)).length = (flat f k).length + (word x).length) := Lib.hid (by rw [HS.out])
        have STEP : Hid (∀ t : Bool, (t = true ↔ wh = true ∨ cut = (((flat f k).length + (word x).length : Nat) : Int)) → (t = true ↔ ∃ j, j ≤ k + 1 ∧ cut = ((flat f j).length : Nat))) := Lib.hid (by
          intro t ht
          rw [ht, WH.out]
          constructor
          · rintro (⟨j, hj, e⟩ | e)
            · exact ⟨j, by omega, e⟩
            · exact ⟨k + 1, Nat.le_refl _, by rw [HS2.out]; exact e⟩
          · rintro ⟨j, hj, e⟩
            rcases Nat.lt_or_ge j (k + 1) with h | h
            · exact .inl ⟨j, by omega, e⟩
            · obtain rfl : j = k + 1 := by omega
              rw [HS2.out] at e; exact .inr e)
        cases wh
        · by_cases hcut : cut = (((flat f k).length + (word x).length : Nat) : Int)
          · have S := Lib.hid (STEP.out true (by simp [hcut]))
            have hce : (cut == ((flat f k).length : Int) + ((word x).length : Int)) = true := by simp; omega
            clear hcut
            go_wp2
            go_roundw
            case rel => exact ⟨k + 1, true, by omega, by simpa using S.out, by rw [HS2.out]; go_num, rfl, by go_num, K7.out⟩
            case measure => simp [intOf]; omega
          · have S := Lib.hid (STEP.out false (by simpa using hcut))
            have hce : (cut == ((flat f k).length : Int) + ((word x).length : Int)) = false := by simp; omega
            clear hcut
            go_wp2
            go_roundw
            case rel => exact ⟨k + 1, false, by omega, by simpa using S.out, by rw [HS2.out]; go_num, rfl, by go_num, K7.out⟩
            case measure => simp [intOf]; omega
        · have S := Lib.hid (STEP.out true (by simp))
          go_wp2
          go_roundw
          case rel => exact ⟨k + 1, true, by omega, by simpa using S.out, by rw [HS2.out]; go_num, rfl, by go_num, K7.out⟩
          case measure => simp [intOf]; omega
      · obtain rfl : k = len := by omega
        have K8 : Hid (Below w.heap.size w wr) := Lib.hid (K3.out.trans (BB.out.mono K3.out.size))
        have hfl : (((flat f k).length : Int) == ((flat f k).length : Int)) = true := by simp
        by_cases hneg : cut < 0
        · have d1 : decide (cut < 0) = true := by simpa using hneg
          go_wp2
          go_ret
          exact ⟨rfl, K8.out⟩
        · have d1 : decide (cut < 0) = false := by simpa using hneg
          by_cases hbig : ((flat f k).length : Int) < cut
          · have d2 : decide (((flat f k).length : Int) < cut) = true := by simpa using hbig
            go_wp2
            go_ret
            exact ⟨rfl, K8.out⟩
          · have d2 : decide (((flat f k).length : Int) < cut) = false := by simpa using hbig
            obtain ⟨p, rfl⟩ : ∃ p : Nat, cut = (p : Nat) := ⟨cut.toNat, by omega⟩
            have hpF : p ≤ (flat f k).length := by omega
            obtain ⟨r, hr⟩ := parsed_ex (seg (pick (flat f k)) 0 p)
            have hw : r.isSome = wh := by
              rw [Bool.eq_iff_iff, cut_some f (fun i hi => FB.out i hi) hpF hr, WH.out]
              constructor
              · rintro ⟨j, hj, e⟩; exact ⟨j, hj, by rw [e]⟩
              · rintro ⟨j, hj, e⟩; exact ⟨j, hj, by omega⟩
            have W2 := Lib.hid hw; have R2 := Lib.hid hr; have BP := Lib.hid (B4.out.less hpF)
            have hpc : (p : Int) ≤ cB := by omega
            have hp0 : (0 : Int) ≤ p := by omega
            clear hw hr
            rcases Q3.out with ⟨rfl, e1, rfl⟩ | ⟨g, rfl⟩
            · obtain rfl : p = 0 := by omega
              clear e1
              go_wp2_with fail
              refine (rows_any none 0 0 (pick (flat f k)) wr BP.out (by omega) (by omega) r R2.out).mono ?_
              intro e w9 hm
              obtain ⟨L, d, rfl, -, hbel⟩ := rows_as hm
              have K9 := Lib.hid (K8.out.trans (hbel.mono K8.out.size))
              clear hm hbel
              rw [W2.out]
              cases wh <;> (go_wp2; go_ret; exact ⟨by first | rfl | (simp [*]; done), K9.out⟩)
            · go_wp2_with fail
              refine (rows_any (some ⟨g, 0, none⟩) p cB (pick (flat f k)) wr BP.out (by omega) (by omega) r R2.out).mono ?_
              intro e w9 hm
              obtain ⟨L, d, rfl, -, hbel⟩ := rows_as hm
              have K9 := Lib.hid (K8.out.trans (hbel.mono K8.out.size))
              clear hm hbel
              rw [W2.out]
              cases wh <;> (go_wp2; go_ret; exact ⟨by first | rfl | (simp [*]; done), K9.out⟩)
  · have hlen' : (60 : Int) < len := by omega
    go_enter Try.func8, Try.ntmps8
    go_wp2_with fail
    refine (awake_any _).mono ?_
    rintro e w1 ⟨rfl, hb⟩
    have K := Lib.hid hb; clear hb
    go_wp2
    go_ret
    exact ⟨rfl, K.out⟩

theorem walkWordsRow (a0 : Option Addr) (len0 cap0 : Nat) (z0 : List Int) (a1 : Int) (w : World) (w0 : RowIn .u64 w a0 len0 cap0 z0) (w1 : (Lit.int .i64 a1).wf = true) :
    Calls Try.prog 8 #[.slice a0 len0 cap0, .int .i64 a1] w fun e w' => e = .returned (.bool true) ∧ Below w.heap.size w w' :=
  row_walk a0 len0 cap0 _ a1 w w0.longs (wf_i64 w1).1 (wf_i64 w1).2
end Go.Proofs.Ytjbkjpkelbigmaa
