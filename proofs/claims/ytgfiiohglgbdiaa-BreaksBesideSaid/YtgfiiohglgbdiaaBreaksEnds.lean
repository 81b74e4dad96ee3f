/-
  The law BreaksEnds: of any Cut that answers as is asked.
-/
import Derived.Test.YtgfiiohglgbdiaaBreaksBeside
namespace Go.Proofs.Ytgfiiohglgbdiaa
open Go.RowKit

/-- pieces of WsKeep: ends, and words apart -/
inductive Ends9 : List Pc → Prop
  | nil : Ends9 []
  | hard (ps : List Pc) : Ends9 ps → Ends9 ((2, []) :: ps)
  | word (t : List UInt8) (ps : List Pc) : t ≠ [] → (∀ b ∈ t, b ≠ 10) → Ends9 ps → (∀ u r, ps ≠ (0, u) :: r) → Ends9 ((0, t) :: ps)
theorem ends_K (s : List UInt8) : Ends9 (cutK s) := by
  induction s with
  | nil => exact .nil
  | cons b s ih =>
    rw [cutK_cons]
    unfold consK
    split
    · exact .hard _ ih
    · rename_i hb
      have hb' : b ≠ 10 := by simpa using hb
      split
      · rename_i t r h
        rw [h] at ih
        cases ih with
        | word _ _ h1 h2 h3 h4 =>
          exact .word _ _ (by simp) (fun c hc => by
            rcases List.mem_cons.1 hc with rfl | hc
            · exact hb'
            · exact h2 c hc) h3 h4
      · rename_i h
        exact .word _ _ (by simp) (fun c hc => by
          obtain rfl : c = b := by simpa using hc
          exact hb') ih (fun u r e => h u r e)
theorem ends_at {ps : List Pc} (T : Ends9 ps) : ∀ {i : Nat} {p : Pc}, ps[i]? = some p → p = (2, []) ∨ (p.1 = 0 ∧ p.2 ≠ [] ∧ ∀ b ∈ p.2, b ≠ 10) := by
  induction T with
  | nil => intro i p h; simp at h
  | hard ps _ ih =>
    intro i p h
    cases i with
    | zero =>
      obtain rfl : (2, []) = p := by simpa using h
      exact .inl rfl
    | succ i => exact ih (by simpa using h)
  | word t ps h1 h2 _ _ ih =>
    intro i p h
    cases i with
    | zero =>
      obtain rfl : (0, t) = p := by simpa using h
      exact .inr ⟨rfl, h1, h2⟩
    | succ i => exact ih (by simpa using h)
theorem ends_next {ps : List Pc} (T : Ends9 ps) : ∀ {i : Nat} {p q : Pc}, ps[i]? = some p → ps[i + 1]? = some q → q.1 = 0 → p.1 ≠ 0 := by
  induction T with
  | nil => intro i p q h; simp at h
  | hard ps T ih =>
    intro i p q h h' e
    cases i with
    | zero =>
      obtain rfl : (2, []) = p := by simpa using h
      intro e; cases e
    | succ i => exact ih (by simpa using h) (by simpa using h') e
  | word t ps h1 h2 T h4 ih =>
    intro i p q h h' e
    cases i with
    | zero =>
      have hq : ps[0]? = some q := by simpa using h'
      cases ps with
      | nil => simp at hq
      | cons x r =>
        obtain rfl : x = q := by simpa using hq
        exact absurd (by rw [show (0, x.2) = x from Prod.ext e.symm rfl]) (h4 x.2 r)
    | succ i => exact ih (by simpa using h) (by simpa using h') e
def hardN : List Pc → Nat
  | [] => 0
  | p :: r => (if p.1 = 2 then 1 else 0) + hardN r
def allL : List Pc → Nat
  | [] => 0
  | p :: r => p.2.length + allL r
def tens (s : List UInt8) : Nat := (s.filter (fun b => b == 10)).length
theorem hardN_append (a b : List Pc) : hardN (a ++ b) = hardN a + hardN b := by
  induction a with
  | nil => simp [hardN]
  | cons p a ih => simp only [List.cons_append, hardN, ih]; omega
theorem allL_append (a b : List Pc) : allL (a ++ b) = allL a + allL b := by
  induction a with
  | nil => simp [allL]
  | cons p a ih => simp only [List.cons_append, allL, ih]; omega
theorem hardN_le (ps : List Pc) : hardN ps ≤ ps.length := by
  induction ps with
  | nil => simp [hardN]
  | cons p a ih => simp only [hardN, List.length_cons]; split <;> omega
theorem show_sum (ps : List Pc) : (showP ps).length = hardN ps + allL ps := by
  induction ps with
  | nil => rfl
  | cons p ps ih =>
    obtain ⟨k, t⟩ := p
    rw [show_cons, List.length_append, List.length_append, ih]
    simp only [hardN, allL]
    split <;> simp <;> omega
theorem tens_append (a b : List UInt8) : tens (a ++ b) = tens a + tens b := by simp [tens]
theorem tens_none {t : List UInt8} (h : ∀ b ∈ t, b ≠ 10) : tens t = 0 := by
  unfold tens
  rw [List.filter_eq_nil_iff.2 (fun b hb => by simpa using h b hb)]
  rfl
theorem tens_show {ps : List Pc} (T : Ends9 ps) : tens (showP ps) = hardN ps := by
  induction T with
  | nil => rfl
  | hard ps _ ih =>
    rw [show2, List.nil_append]
    show tens ([10] ++ showP ps) = _
    rw [tens_append, ih]
    rfl
  | word t ps _ h2 _ _ ih =>
    rw [show0, tens_append, ih, tens_none h2]
    simp [hardN]
theorem tens_K (s : List UInt8) : tens s = hardN (cutK s) := by
  have := tens_show (ends_K s)
  rwa [shown_K] at this
theorem sum_K (s : List UInt8) : s.length = hardN (cutK s) + allL (cutK s) := by
  have := show_sum (cutK s)
  rwa [shown_K] at this
set_option maxRecDepth 100000 in
set_option maxHeartbeats 4000000 in
theorem ends9 (hC : CutOK 9) (hW : AwakeOK9 13) (s : ByteArray) (w : World) (_h1 : s.size ≤ maxLen) :
    Calls Try.prog 6 #[.string s] w fun e w' => e = .returned (.bool true) ∧ Below w.heap.size w w' := by
  unfold maxLen at _h1
  have KA := Lib.hid (fun W => hW W)
  have B := Lib.hid (Below.refl w.heap.size w)
  by_cases g1 : 3000 < s.size
  · have z1 : (3000 : Int) < s.size := by omega
    clear _h1 g1
    go_enter Try.func6, Try.ntmps6
    go_wp2_with (go_at_call 13; (with_reducible refine (KA.out _).mono ?_); rintro e w' ⟨rfl, hb⟩; replace B := Lib.hid (B.out.trans (hb.mono B.out.size)); clear hb)
    go_ret
    exact ⟨rfl, B.out⟩
  · have z1 : ¬ (3000 : Int) < s.size := by omega
    have K1 := Lib.hid (fun W => hC s 2 W (by omega) (by omega))
    have e2 : cutP 2 s.data.toList = cutK s.data.toList := by simp [cutP]
    have TN := Lib.hid (ends_K s.data.toList)
    have TE := Lib.hid (tens_K s.data.toList)
    have SM := Lib.hid (sum_K s.data.toList)
    have SZ : s.data.toList.length = s.size := by simp
    have HL := Lib.hid (hardN_le (cutK s.data.toList))
    have CL := Lib.hid (show (cutK s.data.toList).length ≤ 3000 by have := cutK_len s.data.toList; omega)
    rw [e2] at K1
    rw [SZ] at SM
    have sz3 : s.size ≤ 3000 := by omega
    generalize cutK s.data.toList = ps at K1 TN TE SM HL CL
    clear _h1 g1 e2
    go_enter Try.func6, Try.ntmps6
    go_wp2_with (go_at_call 13; (with_reducible refine (KA.out _).mono ?_); rintro e w' ⟨rfl, hb⟩; replace B := Lib.hid (B.out.trans (hb.mono B.out.size)); clear hb)
    (with_reducible refine (K1.out _).mono ?_)
    rintro e w1 ⟨v, rfl, hO, hb⟩
    have P := Lib.hid hO.pcs
    replace B := Lib.hid (B.out.trans (hb.mono B.out.size))
    clear hO hb KA K1
    obtain ⟨n, hn⟩ : ∃ n, ps.length = n := ⟨_, rfl⟩
    have HN := Lib.hid hn
    obtain ⟨A, c, rfl, h⟩ := P.out
    rw [hn] at P ⊢
    clear h hn
    go_wp2_with fail
    go_loopg [4, 6] s.size (fun g1 vn vi wr => ∃ (i : Nat), vi = .int .i64 i ∧ vn = .int .i64 (tens (s.data.toList.take i) : Nat) ∧ i ≤ s.size ∧ s.size - i ≤ g1 ∧ Hid (w1 = wr))
    case atStart => exact ⟨0, rfl, rfl, by omega, by omega, Lib.hid rfl⟩
    case round =>
      obtain ⟨i, rfl, rfl, hi, hg1, hR⟩ := hrel
      obtain rfl := hR.out
      clear hR
      by_cases hlt : i < s.size
      · have hz : (i : Int) < s.size := by omega
        have wi : IntKind.i64.wrap ((i : Int) + 1) = (i : Int) + 1 := IntWalk.i64_in _ (by omega)
        have hbi : i < s.data.toList.length := by rw [SZ]; exact hlt
        obtain ⟨b, hb⟩ : ∃ b, s.data.toList[i] = b := ⟨_, rfl⟩
        have ix := index_byte s i hlt
        rw [hb] at ix
        have TK : s.data.toList.take (i + 1) = s.data.toList.take i ++ [b] := by rw [List.take_add_one, List.getElem?_eq_getElem hbi, hb]; rfl
        have NX := Lib.hid (show tens (s.data.toList.take (i + 1)) = tens (s.data.toList.take i) + (if b = 10 then 1 else 0) by
          rw [TK, tens_append]
          by_cases h : b = 10 <;> simp [tens, h])
        have LT : tens (s.data.toList.take i) ≤ 3000 := by
          unfold tens
          have h1 := List.length_filter_le (fun b => b == 10) (s.data.toList.take i)
          rw [List.length_take] at h1
          omega
        clear hb TK hbi
        by_cases h : b = 10
        · rw [if_pos h] at NX
          have e1 : ((b.toNat : Int) == 10) = true := by rw [h]; rfl
          have wt : IntKind.i64.wrap ((tens (s.data.toList.take i) : Int) + 1) = ((tens (s.data.toList.take i) + 1 : Nat) : Int) := by rw [IntWalk.i64_in _ (by omega)]; omega
          generalize tens (s.data.toList.take i) = m at NX wt
          generalize (b.toNat : Int) = x at ix e1
          clear h LT
          go_wp2_with fail
          go_roundg (s.size - (i + 1))
          case measure => omega
          case rel => exact ⟨i + 1, by go_num, by rw [NX.out]; try go_num, by omega, Nat.le_refl _, Lib.hid rfl⟩
        · rw [if_neg h] at NX
          have e1 : ((b.toNat : Int) == 10) = false := by
            have : ¬ (b.toNat : Int) = 10 := fun e => h (UInt8.toNat_inj.1 (by show b.toNat = 10; omega))
            rw [beq_eq_false_iff_ne.2 this]
          generalize tens (s.data.toList.take i) = m at NX
          generalize (b.toNat : Int) = x at ix e1
          clear h LT
          go_wp2_with fail
          go_roundg (s.size - (i + 1))
          case measure => omega
          case rel => exact ⟨i + 1, by go_num, by rw [NX.out]; rfl, by omega, Nat.le_refl _, Lib.hid rfl⟩
      · obtain rfl : i = s.size := by omega
        have hz : ¬ (s.size : Int) < s.size := by omega
        have te : tens (s.data.toList.take s.size) = hardN ps := by rw [← SZ, List.take_length]; exact TE.out
        rw [te]
        clear te
        obtain ⟨N, hN⟩ : ∃ N, hardN ps = N := ⟨_, rfl⟩
        rw [hN] at HL SM ⊢
        have HNN := Lib.hid hN
        clear hN
        go_wp2_with fail
        go_loopg [4, 5, 7] n (fun g1 vn va vi wr => ∃ (i m a : Nat), vi = .int .i64 i ∧ vn = .int .i64 m ∧ va = .int .i64 a ∧ i ≤ n ∧ n - i ≤ g1 ∧ m + hardN (ps.take i) = N ∧ a = allL (ps.take i) ∧ Hid (w1 = wr))
        case atStart => exact ⟨0, N, 0, rfl, rfl, rfl, by omega, by omega, rfl, rfl, Lib.hid rfl⟩
        case round =>
          obtain ⟨j, m, a, rfl, rfl, rfl, hj, hg2, hm, ha, hR⟩ := hrel
          obtain rfl := hR.out
          clear hR
          have HM := Lib.hid hm
          have HA := Lib.hid ha
          have nl : n ≤ 3000 := by have := CL.out; have := HN.out; omega
          by_cases hjl : j < n
          · have hz1 : (j : Int) < n := by omega
            have hz0 : (0 : Int) ≤ j := by omega
            have wj : IntKind.i64.wrap ((j : Int) + 1) = (j : Int) + 1 := IntWalk.i64_in _ (by omega)
            have hjp : j < ps.length := by rw [HN.out]; exact hjl
            obtain ⟨p, hp⟩ : ∃ p, ps[j]? = some p := ⟨_, List.getElem?_eq_getElem hjp⟩
            obtain ⟨g, c', e, glt, d0, d1⟩ := P.out.at_ hp
            obtain ⟨rfl, -, rfl⟩ := slice_inj e
            clear e
            have TK : ps.take (j + 1) = ps.take j ++ [p] := by rw [List.take_add_one, hp]; rfl
            have HS := Lib.hid (show hardN (ps.take (j + 1)) = hardN (ps.take j) + (if p.1 = 2 then 1 else 0) by rw [TK, hardN_append]; simp [hardN])
            have AS := Lib.hid (show allL (ps.take (j + 1)) = allL (ps.take j) + p.2.length by rw [TK, allL_append]; simp [allL])
            have hrest : hardN (ps.take (j + 1)) ≤ N ∧ allL (ps.take (j + 1)) + N ≤ s.size := by
              have e := List.take_append_drop (j + 1) ps
              have h1 := congrArg hardN e
              have h2 := congrArg allL e
              rw [hardN_append] at h1
              rw [allL_append] at h2
              have := HNN.out
              have := SM.out
              omega
            have HR := Lib.hid hrest
            have nx := ends_at TN.out hp
            clear TK hrest hm ha
            rcases nx with rfl | ⟨k0, tne, tb⟩
            · have hs1 : hardN (ps.take (j + 1)) = hardN (ps.take j) + 1 := HS.out
              have as1 : allL (ps.take (j + 1)) = allL (ps.take j) + 0 := AS.out
              have h1 : 1 ≤ m := by have := HR.out.1; have := HM.out; omega
              have wm : IntKind.i64.wrap ((m : Int) - 1) = ((m - 1 : Nat) : Int) := by rw [IntWalk.i64_in _ (by have := HL.out; have := HN.out; have := HM.out; omega)]; omega
              obtain ⟨m1, hm1⟩ : ∃ m1, m - 1 = m1 := ⟨_, rfl⟩
              rw [hm1] at wm
              replace d0 : w1.cell? ⟨g, j * 2, none⟩ = some (.int .u8 2) := d0
              replace d1 : w1.cell? ⟨g, j * 2 + 1, none⟩ = some (.string ⟨#[]⟩) := d1
              have M1 := Lib.hid (show m1 + hardN (ps.take (j + 1)) = N by have h2 := HM.out; omega)
              have A1 := Lib.hid (show a = allL (ps.take (j + 1)) by have h2 := HA.out; omega)
              clear h1 hm1 hp hs1 as1
              go_wp2_with fail
              go_roundg (n - (j + 1))
              case measure => omega
              case rel => exact ⟨j + 1, m1, a, by go_num, rfl, rfl, by omega, Nat.le_refl _, M1.out, A1.out, Lib.hid rfl⟩
            · obtain ⟨k, t⟩ := p
              simp only at k0 tne tb
              subst k0
              have hs1 : hardN (ps.take (j + 1)) = hardN (ps.take j) + 0 := HS.out
              have as1 : allL (ps.take (j + 1)) = allL (ps.take j) + t.length := AS.out
              have M1 := Lib.hid (show m + hardN (ps.take (j + 1)) = N by have h2 := HM.out; omega)
              have A1 := Lib.hid (show a + t.length = allL (ps.take (j + 1)) by have h2 := HA.out; omega)
              have al : a + t.length ≤ 3000 := by have h2 := HA.out; have h3 := HR.out.2; omega
              have tz : (⟨t.toArray⟩ : ByteArray).size = t.length := by rw [Lib.size_eq, List.toList_toArray]
              have wa : IntKind.i64.wrap ((a : Int) + t.length) = ((a + t.length : Nat) : Int) := by rw [IntWalk.i64_in _ (by omega)]; omega
              have IX : Hid (∀ (i : Nat), i < t.length → ∃ x : Int, (x == 10) = false ∧ ∀ W, (Instr.index 9 (.string ⟨t.toArray⟩) (.int .i64 (i : Nat))).run Try.prog W = .ok (.int .u8 x) W) := Lib.hid (fun i hi => by
                refine ⟨(t[i].toNat : Nat), ?_, fun W => ?_⟩
                · have hb := tb t[i] (List.getElem_mem hi)
                  have : ¬ (t[i].toNat : Int) = 10 := fun e => hb (UInt8.toNat_inj.1 (by show t[i].toNat = 10; omega))
                  exact beq_eq_false_iff_ne.2 this
                · exact index_byte ⟨t.toArray⟩ i (by rw [tz]; exact hi) W)
              have te : (⟨t.toArray⟩ : ByteArray).toList.isEmpty = false := by
                rw [ByteArray.toList_mk]
                cases t with
                | nil => exact absurd rfl tne
                | cons x r => rfl
              have te2 : ¬ (⟨t.toArray⟩ : ByteArray).toList = [] := by rw [ByteArray.toList_mk]; exact tne
              obtain ⟨pz, hpz⟩ : ∃ pz : Nat, pz = j - 1 := ⟨_, rfl⟩
              have prev : j = 0 ∨ (0 < j ∧ w1.cell? ⟨g, pz * 2, none⟩ = some (.int .u8 2) ∧ IntKind.i64.wrap ((j : Int) - 1) = (pz : Int) ∧ (pz : Int) < n) := by
                by_cases e0 : j = 0
                · exact .inl e0
                · obtain ⟨q, hq⟩ : ∃ q, ps[j - 1]? = some q := ⟨_, List.getElem?_eq_getElem (by rw [HN.out]; omega)⟩
                  obtain ⟨g', c'', e, -, e0', -⟩ := P.out.at_ hq
                  obtain ⟨e1, -, -⟩ := slice_inj e
                  injection e1 with e1
                  injection e1 with e1
                  subst e1
                  have qk : q.1 = 2 := by
                    have hne := ends_next TN.out hq (by rw [show j - 1 + 1 = j by omega]; exact hp) rfl
                    rcases ends_at TN.out hq with h | ⟨h, -, -⟩
                    · rw [h]
                    · exact absurd h hne
                  rw [qk] at e0'
                  refine .inr ⟨by omega, by rw [hpz]; exact e0', by rw [IntWalk.i64_in _ (by omega)]; omega, by omega⟩
              obtain ⟨L, hL⟩ : ∃ L, t.length = L := ⟨_, rfl⟩
              rw [hL] at A1 al tz wa IX
              have HLL := Lib.hid hL
              generalize (⟨t.toArray⟩ : ByteArray) = X at d1 te te2 tz IX
              replace d0 : w1.cell? ⟨g, j * 2, none⟩ = some (.int .u8 0) := d0
              replace d1 : w1.cell? ⟨g, j * 2 + 1, none⟩ = some (.string X) := d1
              have tzz : (X.size : Int) = L := by omega
              clear hp tne tb hs1 as1 hL hpz
              rcases prev with e0 | ⟨e0, q3, q4, q5⟩
              · have t1 : decide (0 < j) = false := decide_eq_false (by omega)
                have t3 : decide ((0 : Int) < j) = false := decide_eq_false (by omega)
                clear e0
                go_wp2_with fail
                go_loopg [8] L (fun g3 vk wr => ∃ k : Nat, vk = .int .i64 k ∧ k ≤ L ∧ L - k ≤ g3 ∧ Hid (w1 = wr))
                case atStart => exact ⟨0, rfl, by omega, by omega, Lib.hid rfl⟩
                case round =>
                  obtain ⟨k, rfl, hk, hg3, hR⟩ := hrel
                  obtain rfl := hR.out
                  clear hR
                  by_cases hkl : k < L
                  · have hk1 : (k : Int) < X.size := by omega
                    have wk : IntKind.i64.wrap ((k : Int) + 1) = (k : Int) + 1 := IntWalk.i64_in _ (by omega)
                    obtain ⟨x, hx, ix⟩ := IX.out k hkl
                    go_wp2_with fail
                    go_roundg (L - (k + 1))
                    case measure => omega
                    case rel => exact ⟨k + 1, by go_num, by omega, Nat.le_refl _, Lib.hid rfl⟩
                  · have hk1 : ¬ (k : Int) < X.size := by omega
                    have wa2 : IntKind.i64.wrap ((a : Int) + (X.size : Int)) = ((a + L : Nat) : Int) := by rw [tzz]; exact wa
                    go_wp2_with fail
                    go_roundg (n - (j + 1))
                    case measure => omega
                    case rel => exact ⟨j + 1, m, a + L, by go_num, rfl, by try go_num, by omega, Nat.le_refl _, M1.out, A1.out, Lib.hid rfl⟩
              · have t1 : decide (0 < j) = true := decide_eq_true (by omega)
                have t3 : decide ((0 : Int) < j) = true := decide_eq_true (by omega)
                have pz0 : (0 : Int) ≤ pz := by omega
                clear e0
                go_wp2_with fail
                go_loopg [8] L (fun g3 vk wr => ∃ k : Nat, vk = .int .i64 k ∧ k ≤ L ∧ L - k ≤ g3 ∧ Hid (w1 = wr))
                case atStart => exact ⟨0, rfl, by omega, by omega, Lib.hid rfl⟩
                case round =>
                  obtain ⟨k, rfl, hk, hg3, hR⟩ := hrel
                  obtain rfl := hR.out
                  clear hR
                  by_cases hkl : k < L
                  · have hk1 : (k : Int) < X.size := by omega
                    have wk : IntKind.i64.wrap ((k : Int) + 1) = (k : Int) + 1 := IntWalk.i64_in _ (by omega)
                    obtain ⟨x, hx, ix⟩ := IX.out k hkl
                    go_wp2_with fail
                    go_roundg (L - (k + 1))
                    case measure => omega
                    case rel => exact ⟨k + 1, by go_num, by omega, Nat.le_refl _, Lib.hid rfl⟩
                  · have hk1 : ¬ (k : Int) < X.size := by omega
                    have wa2 : IntKind.i64.wrap ((a : Int) + (X.size : Int)) = ((a + L : Nat) : Int) := by rw [tzz]; exact wa
                    go_wp2_with fail
                    go_roundg (n - (j + 1))
                    case measure => omega
                    case rel => exact ⟨j + 1, m, a + L, by go_num, rfl, by try go_num, by omega, Nat.le_refl _, M1.out, A1.out, Lib.hid rfl⟩
          · obtain rfl : j = n := by omega
            have hz1 : ¬ (j : Int) < j := by omega
            have tk : ps.take j = ps := List.take_of_length_le (by have := HN.out; omega)
            have m0 : m = 0 := by have := HM.out; rw [tk, HNN.out] at this; omega
            have aa : a = allL ps := by rw [HA.out, tk]
            have q1 : (a : Int) ≤ s.size := by have := SM.out; omega
            have q2 : (s.size : Int) ≤ a + j := by have := SM.out; have := HL.out; have := HN.out; omega
            have wa : IntKind.i64.wrap ((a : Int) + j) = (a : Int) + j := IntWalk.i64_in _ (by have := SM.out; omega)
            subst m0
            clear hm ha aa tk
            go_wp2_with fail
            go_ret
            exact ⟨by simp, B.out⟩
end Go.Proofs.Ytgfiiohglgbdiaa
