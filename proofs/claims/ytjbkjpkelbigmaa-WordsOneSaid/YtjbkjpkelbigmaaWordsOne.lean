/-
  The law WordsOne: a number's word is told as it, with as many bytes, wherever it stands; without its last byte it is none; of any bytes what is told is put as those.
-/
import Derived.Test.YtjbkjpkelbigmaaWordsRow
namespace Go.Proofs.Ytjbkjpkelbigmaa
open Go.RowKit

/-- 'append(b, x...)' where b is a row of bytes of the call's own, x whatever bytes, nil too. -/
theorem wpList_append_bytes {w : World} {ops : Array Oper} {rest : List Oper} {o : Oper} {a : Act} {Q : Exit → Act → World → Prop} (hgd : o.guard = none) (s x : Operand)
    (ho : o.op = .call { callee := .builtin .append, args := #[s, x], argTypes := #[23, 23] })
    (base : Nat) (v : Value) (l : List Nat) (hs : a.eval s = v) (hown : owns w base 5 .u8 v l) (A : Option Addr) (n c : Nat) (f : Nat → Nat) (hx : a.eval x = .slice A n c) (hA : A = none → n = 0 ∧ c = 0) (hN : Bytes w A n f)
    (hb : l.length + n ≤ 100000) (hbase : base ≤ w.heap.size)
    (h : ∀ A' c' w', owns w' base 5 .u8 (.slice A' (l.length + n) c') (l ++ seg f 0 n) → l.length + n ≤ c' → c' ≤ 9223372036854775807 → Below base w w' → wpList Try.prog ops Q rest (a.put o.dst (.slice A' (l.length + n) c')) w') :
    wpList Try.prog ops Q (o :: rest) a w := by
  obtain ⟨i0, hi, hz0, hz1, hz2⟩ := info_parts Try.info5
  cases A with
  | none =>
    obtain ⟨rfl, rfl⟩ := hA rfl
    refine wpList_append_own_none hgd s x 23 ho base 5 i0 1 Try.underlying23 hi v l.length _ hs hown hx ?_
    obtain ⟨A', c', rfl, h1, h2, h3⟩ := hown.form
    unfold maxLen at h2
    have := h A' c' w (by simpa [seg_zero] using hown) (by omega) (by omega) (Below.refl _ _)
    simpa using this
  | some ad =>
    refine wpList_append_own _ hgd s x 23 ho base 5 i0 (.int .u8 0) 1 1 Try.underlying23 hi hz0 hz1 hz2 rfl (by decide) v l.length _ hs hown ad n c ((seg f 0 n).map fun (x : Nat) => Value.int .u8 (x : Nat)) hx (by simp [seg_len]) (Nums.cells hN) (one_cells .u8 _) (by unfold maxLen; omega) (by omega) hbase ?_
    intro v' w' hown' hgrow _
    have ho2 : owns w' base 5 .u8 v' (l ++ seg f 0 n) := by unfold owns; simpa [seg_len] using hown'
    obtain ⟨A', c', rfl, h1, h2, h3⟩ := ho2.form
    rw [List.length_append, seg_len] at ho2 h1 ⊢
    unfold maxLen at h2
    exact h A' c' w' ho2 h1 (by omega) ((Below.refl _ _).grown hgrow hbase (fun k e => (hown.lt k e).1))

theorem owns.some_ {w : World} {base n c : Nat} {A : Option Addr} {l : List Nat} (h : owns w base 5 .u8 (.slice A n c) l) (hl : 0 < l.length) : ∃ g, A = some ⟨g, 0, none⟩ ∧ n = l.length := by
  rcases h.2 with ⟨_, h0⟩ | ⟨g, cap, cur, e, _⟩
  · omega
  · injection e with e1 e2 e3
    exact ⟨g, e1, e2⟩
/-- Without its last byte a word is none. -/
theorem torn_none (P : List Nat) (n : Nat) : At (pick (P ++ word n)) (P.length + (word n).length - 1) (P.length : Nat) none := by
  refine ⟨fun _ => rfl, fun p e hp => ?_⟩
  obtain rfl : P.length = p := by omega
  obtain ⟨a, c, hw, ha, hc, -⟩ := word_last n
  have h := seg_behind P (word n)
  have hl : (word n).length = a.length + 1 := by rw [hw]; simp
  rw [hl, seg_succ] at h
  rw [hw] at h ⊢
  have := (List.append_inj' h rfl).1
  rw [show P.length + (a ++ [c]).length - 1 - P.length = a.length by simp, this]
  exact got_no_short (fun x hx => (ha x hx).1)
theorem stands_there (P R : List Nat) (n : Nat) (hn : n < 18446744073709551616) : Got (seg (pick (P ++ word n ++ R)) P.length (P.length + (word n).length + R.length - P.length)) (some (n, (word n).length)) := by
  rw [List.append_assoc, show P.length + (word n).length + R.length - P.length = (word n ++ R).length by simp; omega, seg_behind]
  exact Got.word n R hn

theorem made_700 (W : World) : ∃ W', (Instr.makeSlice 23 (.int .i64 0) (.int .i64 700)).run Try.prog W = .ok (.slice (some ⟨W.heap.size, 0, none⟩) 0 700) W' ∧ owns W' W.heap.size 5 .u8 (.slice (some ⟨W.heap.size, 0, none⟩) 0 700) [] ∧ Below W.heap.size W W' := by
  obtain ⟨i0, hi, hz0, hz1, hz2⟩ := info_parts Try.info5
  obtain ⟨w', h1, h2, h3⟩ := run_makeSlice_owned (P := Try.prog) W W.heap.size 23 5 i0 (.int .u8 0) 1 Try.underlying23 hi hz0 hz1 .i64 .i64 700 (by omega) (by rw [hz2]; omega) (by unfold maxLen; omega) (Nat.le_refl _)
  exact ⟨w', h1, h2, (Below.refl _ _).grown h3 (Nat.le_refl _) (fun k e => by cases e)⟩

set_option maxRecDepth 100000 in
set_option maxHeartbeats 2000000 in
theorem one_walk (n : Nat) (hn : n < 18446744073709551616) (A : Option Addr) (la ca : Nat) (fa : Nat → Nat) (B : Option Addr) (lb cb : Nat) (fb : Nat → Nat) (w : World)
    (hA : Bytes w A la fa) (hA0 : A = none → la = 0 ∧ ca = 0) (hB : Bytes w B lb fb) (hB0 : B = none → lb = 0 ∧ cb = 0) (hcb : lb ≤ cb) :
    Calls Try.prog 5 #[.int .u64 (n : Nat), .slice A la ca, .slice B lb cb] w fun e w' => e = .returned (.bool true) ∧ Below w.heap.size w w' := by
  have HN := Lib.hid hn; have JA := Lib.hid hA; have JB := Lib.hid hB; have A0 := Lib.hid hA0; have B0 := Lib.hid hB0; have HT := Lib.hid (word_ten hn)
  clear hn hA hB hA0 hB0
  by_cases hbig : la ≤ 300 ∧ lb ≤ 300
  · obtain ⟨hla, hlb⟩ := hbig
    have d1 : ¬ (300 : Int) < la := by omega
    have d2 : ¬ (300 : Int) < lb := by omega
    have d3 : decide ((300 : Int) < la) = false := by simpa using d1
    have d4 : decide ((300 : Int) < lb) = false := by simpa using d2
    go_enter Try.func5, Try.ntmps5
    go_wp2_with fail
    refine (awake_any _).mono ?_
    rintro e w1 ⟨rfl, hb⟩
    have K := Lib.hid hb; have JA1 := Lib.hid (JA.out.below hb); have JB1 := Lib.hid (JB.out.below hb); clear hb
    go_wp2_with fail
    refine (put_any n HN.out w1).mono ?_
    intro e w2 hm
    obtain ⟨X, cX, rfl, q1, q2, q3, hb, hbel⟩ := made_form hm
    have hX0 : X = none → (word n).length = 0 ∧ cX = 0 := by
      rcases q3 with ⟨_, h, h'⟩ | ⟨g, e⟩
      · exact fun _ => ⟨h, h'⟩
      · intro e'; rw [e] at e'; cases e'
    have X0 := Lib.hid hX0; clear hX0 q3
    have K2 := Lib.hid (K.out.trans (hbel.mono K.out.size)); have JA2 := Lib.hid (JA1.out.below hbel); have JB2 := Lib.hid (JB1.out.below hbel); have JX2 := Lib.hid hb
    clear hm hb hbel K JA1 JB1
    obtain ⟨w3, hmk, hown, hbel⟩ := made_700 w2
    have K3 := Lib.hid (K2.out.trans (hbel.mono K2.out.size)); have JA3 := Lib.hid (JA2.out.below hbel); have O3 := Lib.hid hown
    have BS3 : Hid (w2.heap.size ≤ w3.heap.size) := Lib.hid hbel.size
    have K2s := Lib.hid K2.out.size; have KB := Lib.hid hbel
    clear hown hbel K2 JA2
    go_wp2_with (at_builtin; refine wpList_append_bytes rfl _ _ rfl w2.heap.size _ [] rfl O3.out A la ca fa rfl A0.out JA3.out (by simp; omega) BS3.out ?_)
    intro G4 c4 w4 hown hc4 hc4' hbel
    have BS4 : Hid (w2.heap.size ≤ w4.heap.size) := Lib.hid (Nat.le_trans BS3.out hbel.size)
    have K4 : Hid (Below w.heap.size w w4) := Lib.hid (K3.out.trans (hbel.mono K2s.out))
    have JB4 := Lib.hid (JB2.out.below (KB.out.trans hbel)); have JX4 := Lib.hid (JX2.out.below (KB.out.trans hbel)); have KB4 := Lib.hid (KB.out.trans hbel)
    have O4 : Hid (owns w4 w2.heap.size 5 .u8 (.slice G4 la c4) (seg fa 0 la)) := Lib.hid hown
    clear hown hbel
    go_wp2_with (at_builtin; refine wpList_append_bytes rfl _ _ rfl w2.heap.size _ (seg fa 0 la) rfl O4.out X (word n).length cX (pick (word n)) rfl X0.out JX4.out (by rw [seg_len]; have := HT.out; omega) BS4.out ?_)
    intro G5 c5 w5 hown hc5 hc5' hbel
    rw [pick_seg, seg_len] at hown
    rw [seg_len] at hc5 ⊢
    have BS5 : Hid (w2.heap.size ≤ w5.heap.size) := Lib.hid (Nat.le_trans BS4.out hbel.size)
    have K5 : Hid (Below w.heap.size w w5) := Lib.hid (K4.out.trans (hbel.mono K2s.out))
    have KB5 := Lib.hid (KB4.out.trans hbel); have JB5 := Lib.hid (JB2.out.below KB5.out)
    have hwp := word_pos n
    obtain ⟨g, rfl, -⟩ := hown.some_ (by rw [List.length_append, seg_len]; omega)
    have O5 := Lib.hid hown
    have BY5 : Hid (Bytes w5 (some ⟨g, 0, none⟩) (la + (word n).length) (pick (seg fa 0 la ++ word n))) := Lib.hid (by
      have h := O5.out
      rw [show la + (word n).length = (seg fa 0 la ++ word n).length by rw [List.length_append, seg_len]] at h ⊢
      exact h.nums (fun x hx => by
        rcases List.mem_append.1 hx with hx | hx
        · obtain ⟨i, hi, rfl⟩ := seg_mem hx; rw [Nat.zero_add]; exact JA.out.bd hi
        · exact word_byte n x hx))
    clear hown hbel
    have TN : Hid (At (pick (seg fa 0 la ++ word n)) (la + (word n).length - 1) (la : Nat) none) := Lib.hid (by have := torn_none (seg fa 0 la) n; rwa [seg_len] at this)
    have ST : Hid (Got (seg (pick (seg fa 0 la ++ word n ++ seg fb 0 lb)) la (la + (word n).length + lb - la)) (some (n, (word n).length))) := Lib.hid (by have := stands_there (seg fa 0 la) (seg fb 0 lb) n HN.out; rwa [seg_len, seg_len] at this)
    have WB := Lib.hid (word_byte n)
    have hten := HT.out
    generalize hW : word n = W at *
    have HW := Lib.hid hW; clear hW
    go_wp2_with fail
    refine (get_any (some ⟨g, 0, none⟩) (la + W.length - 1) c5 (pick (seg fa 0 la ++ W)) (la : Nat) w5 (BY5.out.less (by omega)) (by omega) (by omega) (by omega) (by omega) none TN.out).mono ?_
    rintro e w6 ⟨rfl, rfl⟩
    simp only [encGot]
    have d5 : ¬ (W.length : Int) < 1 := by omega
    have d6 : decide ((W.length : Int) < 1) = false := by simpa using d5
    have d7 : decide (W.length < 1) = false := by rw [decide_eq_false_iff_not]; omega
    go_wp2_with (at_builtin; refine wpList_append_bytes rfl _ _ rfl w2.heap.size _ (seg fa 0 la ++ W) rfl (by have := O5.out; exact this) B lb cb fb rfl B0.out JB5.out (by rw [List.length_append, seg_len]; omega) BS5.out ?_)
    intro G7 c7 w7 hown hc7 hc7' hbel
    rw [seg_len, ← List.append_assoc] at hown
    rw [seg_len] at hc7 ⊢
    have K7 : Hid (Below w.heap.size w w7) := Lib.hid (K5.out.trans (hbel.mono K2s.out))
    have KB7 := Lib.hid (KB5.out.trans hbel); have JB7 := Lib.hid (JB2.out.below KB7.out)
    have BY7 : Hid (Bytes w7 G7 (la + W.length + lb) (pick (seg fa 0 la ++ W ++ seg fb 0 lb))) := Lib.hid (by
      rw [show la + W.length + lb = (seg fa 0 la ++ W ++ seg fb 0 lb).length by rw [List.length_append, List.length_append, seg_len, seg_len]] at hown ⊢
      exact hown.nums (fun x hx => by
        rcases List.mem_append.1 hx with hx | hx
        · rcases List.mem_append.1 hx with hx | hx
          · obtain ⟨i, hi, rfl⟩ := seg_mem hx; rw [Nat.zero_add]; exact JA.out.bd hi
          · exact WB.out x hx
        · obtain ⟨i, hi, rfl⟩ := seg_mem hx; rw [Nat.zero_add]; exact JB.out.bd hi))
    clear hown hbel
    go_wp2_with fail
    refine (stands_yes G7 (la + W.length + lb) c7 (pick (seg fa 0 la ++ W ++ seg fb 0 lb)) la n W.length w7 BY7.out (by omega) hc7 (by omega) ST.out).mono ?_
    rintro e w8 ⟨rfl, rfl⟩
    go_wp2_with fail
    refine (size_any n HN.out w7).mono ?_
    rintro e w8 ⟨rfl, hbel⟩
    have K8 : Hid (Below w.heap.size w w8) := Lib.hid (K7.out.trans (hbel.mono K7.out.size))
    have JB8 := Lib.hid (JB7.out.below hbel)
    clear hbel
    rw [HW.out]
    obtain ⟨r, hr⟩ := at_ex fb lb 0
    have R := Lib.hid hr; clear hr
    go_wp2_with fail
    refine (get_any B lb cb fb 0 w8 JB8.out (by omega) hcb (by omega) (by omega) r R.out).mono ?_
    rintro e w9 ⟨rfl, rfl⟩
    rcases r with _ | ⟨m, k⟩
    · simp only [encGot]
      go_wp2
      go_ret
      exact ⟨rfl, K8.out⟩
    · have hl0 : 0 < lb := by
        rcases Nat.eq_zero_or_pos lb with h | h
        · have := R.out.1 (.inr (by omega)); cases this
        · exact h
      have hg := R.out.2 0 rfl hl0
      obtain ⟨hm, hk0, hkl, hsk⟩ := got_seg hg
      have HM := Lib.hid hm; have SK := Lib.hid hsk
      have hkw : k = (word m).length := by rw [← hsk, seg_len]
      clear hg hm hsk R
      simp only [encGot]
      go_wp2_with fail
      refine (put_any m HM.out w8).mono ?_
      intro e w10 hmm
      obtain ⟨Y, cY, rfl, -, -, -, hb, hbel⟩ := made_form hmm
      have K10 := Lib.hid (K8.out.trans (hbel.mono K8.out.size)); have JB10 := Lib.hid (JB8.out.below hbel)
      rw [← hkw] at hb ⊢
      have Y10 := Lib.hid hb
      clear hmm hb hbel hkw
      have EQ : Hid (∀ j, j < k → pick (word m) j = fb j) := Lib.hid (by
        intro j hj
        have h1 := seg_get fb 0 k j hj
        rw [SK.out, Nat.zero_add] at h1
        simp [pick, h1])
      have d8 : ¬ (lb : Int) < k := by omega
      have d9 : decide ((lb : Int) < k) = false := by simpa using d8
      have d10 : decide (lb < k) = false := by simp; omega
      go_wp2
      go_loopw [17] (fun i wr => ∃ j : Nat, j ≤ k ∧ i = .int .i64 (j : Nat) ∧ Drawn w10 wr) (fun i _ => k - (intOf i).toNat)
      case atStart => exact ⟨0, Nat.zero_le _, rfl, 0, rfl⟩
      case round =>
        obtain ⟨j, hj, rfl, hd⟩ := hrel
        by_cases hlt : j < k
        · obtain ⟨q, rfl⟩ := hd
          obtain ⟨b1, o1, rfl, -, hc1⟩ := Y10.out.at_ hlt
          obtain ⟨b2, o2, rfl, -, hc2⟩ := JB10.out.at_ (show j < lb by omega)
          rw [EQ.out j hlt] at hc1
          generalize fb j = x at hc1 hc2
          have hxx : ((x : Int) != (x : Int)) = false := by simp
          have hlt' : (j : Int) < k := by omega
          have hlt2 : (j : Int) < lb := by omega
          have hj0 : (0 : Int) ≤ j := by omega
          go_wp2_with fail
          go_quiet (fail)
          go_wp2
          go_roundw
          case rel => exact ⟨j + 1, by omega, by go_num, _, rfl⟩
          case measure => simp [intOf]; omega
        · have K11 := Lib.hid (K10.out.trans (hd.below.mono K10.out.size))
          clear hd
          have hlt' : ¬ (j : Int) < k := by omega
          go_wp2
          go_ret
          exact ⟨rfl, K11.out⟩
  · by_cases hla : la ≤ 300
    · have d2 : (300 : Int) < lb := by omega
      have d1 : ¬ (300 : Int) < la := by omega
      have d3 : decide ((300 : Int) < la) = false := by simpa using d1
      have d4 : decide ((300 : Int) < lb) = true := by simpa using d2
      go_enter Try.func5, Try.ntmps5
      go_wp2_with fail
      refine (awake_any _).mono ?_
      rintro e w1 ⟨rfl, hb⟩
      have K := Lib.hid hb; clear hb
      go_wp2
      go_ret
      exact ⟨rfl, K.out⟩
    · have d1 : (300 : Int) < la := by omega
      have d3 : decide ((300 : Int) < la) = true := by simpa using d1
      go_enter Try.func5, Try.ntmps5
      go_wp2_with fail
      refine (awake_any _).mono ?_
      rintro e w1 ⟨rfl, hb⟩
      have K := Lib.hid hb; clear hb
      go_wp2
      go_ret
      exact ⟨rfl, K.out⟩

theorem walkWordsOne (a0 : Int) (a1 : Option Addr) (len1 cap1 : Nat) (z1 : List Int) (a2 : Option Addr) (len2 cap2 : Nat) (z2 : List Int) (w : World) (w0 : (Lit.int .u64 a0).wf = true) (w1 : RowIn .u8 w a1 len1 cap1 z1) (w2 : RowIn .u8 w a2 len2 cap2 z2) :
    Calls Try.prog 5 #[.int .u64 a0, .slice a1 len1 cap1, .slice a2 len2 cap2] w fun e w' => e = .returned (.bool true) ∧ Below w.heap.size w w' := by
  obtain ⟨n, rfl, hn⟩ := wf_u64 w0
  exact one_walk n hn a1 len1 cap1 _ a2 len2 cap2 _ w w1.bytes w1.nil w2.bytes w2.nil w2.bd.1
end Go.Proofs.Ytjbkjpkelbigmaa
