/-
  The law WordsApart: of two numbers' words none is a beginning of the other one, but of the same number; a greater number never has a shorter word.
-/
import Derived.Test.YtjbkjpkelbigmaaAwakeW
import Derived.Test.YtjbkjpkelbigmaaWordsNumbers
namespace Go.Proofs.Ytjbkjpkelbigmaa
open Go.RowKit

theorem seg_whole (l : List Nat) {k : Nat} (h : k ≤ l.length) : ∃ r, l = seg (pick l) 0 k ++ r ∧ (k = l.length → r = []) := by
  refine ⟨seg (pick l) (0 + k) (l.length - k), ?_, fun e => ?_⟩
  · rw [← seg_add, show k + (l.length - k) = l.length by omega, pick_seg]
  · rw [e, Nat.sub_self]; rfl
theorem word_apart {n m k : Nat} (hk : k = min (word n).length (word m).length) : seg (pick (word n)) 0 k = seg (pick (word m)) 0 k ↔ n = m := by
  constructor
  · intro h
    obtain ⟨r, h1, e1⟩ := seg_whole (word n) (k := k) (by omega)
    obtain ⟨s, h2, e2⟩ := seg_whole (word m) (k := k) (by omega)
    rw [← h] at h2
    by_cases hle : (word n).length ≤ (word m).length
    · rw [e1 (by omega), List.append_nil] at h1
      refine word_inj (r := s) (s := []) ?_
      rw [List.append_nil, h2, ← h1]
    · rw [e2 (by omega), List.append_nil] at h2
      refine (word_inj (r := r) (s := []) ?_).symm
      rw [List.append_nil, h1, ← h2]
  · rintro rfl; rfl

set_option maxRecDepth 100000 in
set_option maxHeartbeats 2000000 in
theorem apart_walk (n m : Nat) (hn : n < 18446744073709551616) (hm : m < 18446744073709551616) (w : World) :
    Calls Try.prog 6 #[.int .u64 (n : Nat), .int .u64 (m : Nat)] w fun e w' => e = .returned (.bool true) ∧ Below w.heap.size w w' := by
  have hl1 := word_ten hn
  have hl2 := word_ten hm
  have HN := Lib.hid hn; have HM := Lib.hid hm
  have MON := Lib.hid (fun (h : n ≤ m) => word_mono h)
  have AP := Lib.hid (word_apart (n := n) (m := m) rfl)
  clear hn hm
  go_enter Try.func6, Try.ntmps6
  go_wp2_with fail
  refine (awake_any _).mono ?_
  rintro e w1 ⟨rfl, hb⟩
  have K := Lib.hid hb; clear hb
  go_wp2_with fail
  refine (put_any n HN.out _).mono ?_
  rintro e w2 ⟨A, c, rfl, -, -, -, hb, -, hbel⟩
  have J := Lib.hid hb; have K2 := Lib.hid (K.out.trans (hbel.mono K.out.size))
  clear hb hbel K
  go_wp2_with fail
  refine (put_any m HM.out _).mono ?_
  rintro e w3 ⟨B, d, rfl, -, -, -, hb, -, hbel⟩
  have J2 := Lib.hid hb; have J1 := Lib.hid (J.out.below hbel); have K3 := Lib.hid (K2.out.trans (hbel.mono K2.out.size))
  clear hb hbel J K2
  generalize hga : word n = la at *
  generalize hgb : word m = lb at *
  clear hga hgb
  go_wp2
  go_loopw [7, 8] (fun s i wr => ∃ (k : Nat) (t : Bool), k ≤ la.length ∧ k ≤ lb.length ∧ (t = true ↔ seg (pick la) 0 k = seg (pick lb) 0 k) ∧ s = .bool t ∧ i = .int .i64 (k : Nat) ∧ Drawn w3 wr) (fun _ i _ => la.length - (intOf i).toNat)
  case atStart => exact ⟨0, true, Nat.zero_le _, Nat.zero_le _, by simp [seg_zero], rfl, rfl, 0, rfl⟩
  case round =>
    obtain ⟨k, t, hka, hkb, ht, rfl, rfl, hd⟩ := hrel
    have T := Lib.hid ht; have D := Lib.hid hd
    clear ht
    by_cases hgo : k < la.length ∧ k < lb.length
    · obtain ⟨h1, h2⟩ := hgo
      obtain ⟨q, rfl⟩ := hd
      obtain ⟨b, off, rfl, -, hc⟩ := J1.out.at_ h1
      obtain ⟨b', off', rfl, -, hc'⟩ := J2.out.at_ h2
      have STEP : Hid (∀ t' : Bool, (t' = true ↔ t = true ∧ pick la k = pick lb k) → (t' = true ↔ seg (pick la) 0 (k + 1) = seg (pick lb) 0 (k + 1))) := Lib.hid (by
        intro t' h
        rw [h, T.out, seg_succ, seg_succ, Nat.zero_add]
        constructor
        · rintro ⟨e1, e2⟩; rw [e1, e2]
        · intro e
          have := List.append_inj e (by rw [seg_len, seg_len])
          exact ⟨this.1, by simpa using this.2⟩)
      generalize pick la k = x at hc STEP
      generalize pick lb k = y at hc' STEP
      have h1' : (k : Int) < la.length := by omega
      have h2' : (k : Int) < lb.length := by omega
      have hk0 : (0 : Int) ≤ k := by omega
      cases t
      · have S := Lib.hid (STEP.out false (by simp))
        go_wp2_with fail
        go_quiet (fail)
        go_wp2
        go_roundw
        case rel => exact ⟨k + 1, false, by omega, by omega, S.out, rfl, by go_num, _, rfl⟩
        case measure => simp [intOf]; omega
      · by_cases hxy : x = y
        · subst hxy
          have S := Lib.hid (STEP.out true (by simp))
          go_wp2_with fail
          go_quiet (fail)
          go_wp2
          go_roundw
          case rel => exact ⟨k + 1, true, by omega, by omega, by simpa using S.out, by simp, by go_num, _, rfl⟩
          case measure => simp [intOf]; omega
        · have S := Lib.hid (STEP.out false (by simp [hxy]))
          have he : ((x : Int) == (y : Int)) = false := by simp; omega
          have he2 : (x == y) = false := by simpa using hxy
          go_wp2_with fail
          go_quiet (fail)
          go_wp2
          go_roundw
          case rel => exact ⟨k + 1, false, by omega, by omega, S.out, by simp, by go_num, _, rfl⟩
          case measure => simp [intOf]; omega
    · have hmin : k = min la.length lb.length := by omega
      have hnm : t = true ↔ n = m := by rw [T.out, hmin]; exact AP.out
      have KE := Lib.hid (K3.out.trans (D.out.below.mono K3.out.size))
      clear hmin hd
      have MON2 := MON.out
      have t1 : (((n : Int) == (m : Int)) = t) := by
        cases t
        · simp only [beq_eq_false_iff_ne, ne_eq]; intro e; have := hnm.2 (by omega); cases this
        · simp only [beq_iff_eq]; have := hnm.1 rfl; omega
      have t1' : ((n == m) = t) := by
        rw [← t1, Bool.eq_iff_iff]; simp only [beq_iff_eq]; omega
      have t2 : (decide ((m : Int) < n) = true ∧ decide (m < n) = true) ∨ (decide ((m : Int) < n) = false ∧ decide (m < n) = false ∧ decide (la.length ≤ lb.length) = true ∧ decide ((la.length : Int) ≤ lb.length) = true) := by
        by_cases h : n ≤ m
        · have := MON2 h
          exact .inr ⟨by simp; omega, by simp; omega, by simpa using this, by simp; omega⟩
        · exact .inl ⟨by simp; omega, by simp; omega⟩
      have t3 : (decide ((k : Int) < la.length) = false ∧ decide (k < la.length) = false) ∨ (decide ((k : Int) < la.length) = true ∧ decide (k < la.length) = true ∧ decide ((k : Int) < lb.length) = false ∧ decide (k < lb.length) = false) := by
        by_cases h : k < la.length
        · exact .inr ⟨by simp; omega, by simp; omega, by simp; omega, by simp; omega⟩
        · exact .inl ⟨by simp; omega, by simp; omega⟩
      clear hgo MON2 hnm
      rcases t3 with ⟨h3, h3'⟩ | ⟨h3, h3', h3a, h3b⟩ <;> rcases t2 with ⟨h2, h2'⟩ | ⟨h2, h2', h2a, h2b⟩ <;> cases t
      all_goals
        go_wp2
        go_ret
        exact ⟨by first | rfl | (simp [*]; done), KE.out⟩

theorem walkWordsApart (a0 : Int) (a1 : Int) (w0 : (Lit.int .u64 a0).wf = true) (w1 : (Lit.int .u64 a1).wf = true) (w : World) :
    Calls Try.prog 6 #[.int .u64 a0, .int .u64 a1] w fun e w' => e = .returned (.bool true) ∧ Below w.heap.size w w' := by
  obtain ⟨n, rfl, hn⟩ := wf_u64 w0
  obtain ⟨m, rfl, hm⟩ := wf_u64 w1
  exact apart_walk n m hn hm w
end Go.Proofs.Ytjbkjpkelbigmaa
