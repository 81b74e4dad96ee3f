/-
  The law BreaksTurns: of any Cut that answers as is asked.
-/
import Derived.Test.YtgfiiohglgbdiaaBreaksBeside
namespace Go.Proofs.Ytgfiiohglgbdiaa
open Go.RowKit

theorem turns_at {ps : List Pc} (T : Turns ps) : ∀ {i : Nat} {p : Pc}, ps[i]? = some p → (p.1 = 0 ∧ p.2 ≠ [] ∧ ∀ b ∈ p.2, isB b = false) ∨ p = (1, [32]) := by
  induction T with
  | nil => intro i p h; simp at h
  | word t ps h1 h2 _ _ ih =>
    intro i p h
    cases i with
    | zero =>
      obtain rfl : (0, t) = p := by simpa using h
      exact .inl ⟨rfl, h1, h2⟩
    | succ i => exact ih (by simpa using h)
  | blank ps _ _ ih =>
    intro i p h
    cases i with
    | zero =>
      obtain rfl : (1, [32]) = p := by simpa using h
      exact .inr rfl
    | succ i => exact ih (by simpa using h)
theorem turns_next {ps : List Pc} (T : Turns ps) : ∀ {i : Nat} {p q : Pc}, ps[i]? = some p → ps[i + 1]? = some q → p.1 ≠ q.1 := by
  induction T with
  | nil => intro i p q h; simp at h
  | word t ps h1 h2 T h4 ih =>
    intro i p q h h'
    cases i with
    | zero =>
      obtain rfl : (0, t) = p := by simpa using h
      intro e
      have hq : ps[0]? = some q := by simpa using h'
      cases ps with
      | nil => simp at hq
      | cons x r =>
        obtain rfl : x = q := by simpa using hq
        exact h4 x.2 r (by rw [show (0, x.2) = x from Prod.ext e rfl])
    | succ i => exact ih (by simpa using h) (by simpa using h')
  | blank ps T h4 ih =>
    intro i p q h h'
    cases i with
    | zero =>
      obtain rfl : (1, [32]) = p := by simpa using h
      intro e
      have hq : ps[0]? = some q := by simpa using h'
      cases ps with
      | nil => simp at hq
      | cons x r =>
        obtain rfl : x = q := by simpa using hq
        exact h4 x.2 r (by rw [show (1, x.2) = x from Prod.ext e rfl])
    | succ i => exact ih (by simpa using h) (by simpa using h')
theorem bare_word {t : List UInt8} (h : ∀ b ∈ t, isB b = false) : bareP t = t := by
  unfold bareP
  exact List.filter_eq_self.2 fun b hb => by rw [h b hb]; rfl
theorem PcIn.alloc {w : World} {v : Value} {ps : List Pc} (h : PcIn w v ps) (o : Obj) : PcIn (w.alloc o) v ps := h.keep ((Below.refl _ _).alloc (Nat.le_refl _) _)
theorem toList_ne {t : List UInt8} (h : t ≠ []) : ¬ (⟨t.toArray⟩ : ByteArray).toList = [] := by rw [ByteArray.toList_mk]; exact h
set_option maxRecDepth 100000 in
set_option maxHeartbeats 4000000 in
theorem turns9 (hC : CutOK 9) (hW : AwakeOK9 13) (s : ByteArray) (w : World) (_h1 : s.size ≤ maxLen) :
    Calls Try.prog 5 #[.string s] w fun e w' => e = .returned (.bool true) ∧ Below w.heap.size w w' := by
  unfold maxLen at _h1
  have KA := Lib.hid (fun W => hW W)
  have B := Lib.hid (Below.refl w.heap.size w)
  by_cases g1 : 3000 < s.size
  · have z1 : (3000 : Int) < s.size := by omega
    clear _h1 g1
    go_enter Try.func5, Try.ntmps5
    go_wp2_with (go_at_call 13; (with_reducible refine (KA.out _).mono ?_); rintro e w' ⟨rfl, hb⟩; replace B := Lib.hid (B.out.trans (hb.mono B.out.size)); clear hb)
    go_ret
    exact ⟨rfl, B.out⟩
  · have z1 : ¬ (3000 : Int) < s.size := by omega
    have K1 := Lib.hid (fun W => hC s 0 W (by omega) (by omega))
    have TN := Lib.hid (turns_N s.data.toList)
    have CL := Lib.hid (show (cutN s.data.toList).length ≤ 3000 by have := cutN_len s.data.toList; rw [← Lib.size_eq] at this; omega)
    have PL : Hid (∀ p, p ∈ cutN s.data.toList → p.2.length ≤ 8192) := Lib.hid (fun p hp => by have := piece_len (ws := 0) (s := s.data.toList) (p := p) (by rw [show cutP 0 s.data.toList = cutN s.data.toList from if_pos rfl]; exact hp); rw [← Lib.size_eq] at this; omega)
    have EM : Hid ((cutN s.data.toList = []) ↔ s.toList = []) := Lib.hid (by
      rw [ByteArray.toList_eq]
      constructor
      · intro h
        cases e : s.data.toList with
        | nil => rfl
        | cons b r =>
          obtain ⟨u, ps, h'⟩ := (head_N s.data.toList).1 b r e
          rw [h] at h'
          cases h'
      · intro h
        rw [h]
        rfl)
    rw [show cutP 0 s.data.toList = cutN s.data.toList from if_pos rfl] at K1
    generalize cutN s.data.toList = ps at K1 TN CL PL EM
    clear _h1 g1
    go_enter Try.func5, Try.ntmps5
    go_wp2_with (go_at_call 13; (with_reducible refine (KA.out _).mono ?_); rintro e w' ⟨rfl, hb⟩; replace B := Lib.hid (B.out.trans (hb.mono B.out.size)); clear hb)
    (with_reducible refine (K1.out _).mono ?_)
    rintro e w1 ⟨v, rfl, hO, hb⟩
    have P := Lib.hid hO.pcs
    replace B := Lib.hid (B.out.trans (hb.mono B.out.size))
    clear hO hb KA K1
    obtain ⟨n, hn⟩ : ∃ n, ps.length = n := ⟨_, rfl⟩
    have HN := Lib.hid hn
    obtain ⟨A, c, rfl, h⟩ := P.out
    rw [hn] at P ⊢
    clear h hn
    go_wp2_with fail
    go_loopg [4] n (fun g1 vi wr => ∃ (i : Nat), vi = .int .i64 i ∧ i ≤ n ∧ n - i ≤ g1 ∧ Hid (PcIn wr (.slice A n c) ps) ∧ Hid (Below w.heap.size w wr))
    case atStart => exact ⟨0, rfl, by omega, by omega, P, B⟩
    case round =>
      obtain ⟨i, rfl, hi, hg1, hP, hB⟩ := hrel
      clear P B
      by_cases hlt : i < n
      · have hz : (i : Int) < n := by omega
        have hz0 : (0 : Int) ≤ i := by omega
        have nl : n ≤ 3000 := by have := CL.out; have := HN.out; omega
        have wi : IntKind.i64.wrap ((i : Int) + 1) = (i : Int) + 1 := IntWalk.i64_in _ (by have := CL.out; have := HN.out; omega)
        obtain ⟨p, hp⟩ : ∃ p, ps[i]? = some p := ⟨_, List.getElem?_eq_getElem (by rw [HN.out]; exact hlt)⟩
        obtain ⟨g, c', e, glt, d0, d1⟩ := hP.out.at_ hp
        obtain ⟨rfl, -, rfl⟩ := slice_inj e
        have tl := PL.out p (List.mem_of_getElem? hp)
        have ta := turns_at TN.out hp
        clear e
        obtain ⟨pz, hpz⟩ : ∃ pz : Nat, pz = i - 1 := ⟨_, rfl⟩
        have prev : i = 0 ∨ (0 < i ∧ ∃ q : Pc, q.1 ≠ p.1 ∧ (q.1 = 0 ∨ q.1 = 1) ∧ wr.cell? ⟨g, pz * 2, none⟩ = some (.int .u8 (q.1 : Nat)) ∧ IntKind.i64.wrap ((i : Int) - 1) = (pz : Int) ∧ (pz : Int) < n) := by
          by_cases e0 : i = 0
          · exact .inl e0
          · obtain ⟨q, hq⟩ : ∃ q, ps[i - 1]? = some q := ⟨_, List.getElem?_eq_getElem (by rw [HN.out]; omega)⟩
            obtain ⟨g', c'', e, -, e0', -⟩ := hP.out.at_ hq
            obtain ⟨e1, -, -⟩ := slice_inj e
            injection e1 with e1
            injection e1 with e1
            subst e1
            refine .inr ⟨by omega, q, turns_next TN.out hq (by rw [show i - 1 + 1 = i by omega]; exact hp), ?_, by rw [hpz]; exact e0', by rw [IntWalk.i64_in _ (by omega)]; omega, by omega⟩
            rcases turns_at TN.out hq with ⟨h, -, -⟩ | h
            · exact .inl h
            · exact .inr (by rw [h])
        rcases ta with ⟨k0, tne, tb⟩ | hb
        · obtain ⟨k, t⟩ := p
          simp only at k0 tne tb tl d0 d1 prev
          subst k0
          have KB := Lib.hid (fun W => bare_any9 ⟨t.toArray⟩ W (by rw [Lib.size_eq, List.toList_toArray]; exact tl))
          rw [List.toList_toArray, bare_word tb] at KB
          have te : (⟨t.toArray⟩ : ByteArray).toList.isEmpty = false := by
            rw [ByteArray.toList_mk]
            cases t with
            | nil => exact absurd rfl tne
            | cons x r => rfl
          have te2 : ¬ (⟨t.toArray⟩ : ByteArray).toList = [] := toList_ne tne
          generalize (⟨t.toArray⟩ : ByteArray) = X at d1 KB te te2
          clear tb tne tl hp hpz
          have hW2 : Below wr.heap.size wr (wr.alloc (.cells #[.int .u8 0, .string X] 26)) := (Below.refl _ _).alloc (Nat.le_refl _) _
          have b0 : (wr.alloc (.cells #[.int .u8 0, .string X] 26)).cell? ⟨wr.heap.size, 0, none⟩ = some (.int .u8 0) := by rw [World.cell?_alloc_new]; rfl
          have b1 : (wr.alloc (.cells #[.int .u8 0, .string X] 26)).cell? ⟨wr.heap.size, 1, none⟩ = some (.string X) := by rw [World.cell?_alloc_new]; rfl
          have PN : Hid (∀ q, PcIn ((wr.alloc (.cells #[.int .u8 0, .string X] 26)).drewN q) (.slice (some ⟨g, 0, none⟩) n c) ps) := Lib.hid (fun q => (hP.out.keep hW2).keep ⟨rfl, rfl, rfl, Nat.le_refl _, fun _ _ => rfl⟩)
          have BN : Hid (∀ q, Below w.heap.size w ((wr.alloc (.cells #[.int .u8 0, .string X] 26)).drewN q)) := Lib.hid (fun q => ⟨hB.out.os, hB.out.tape, hB.out.output, Nat.le_trans hB.out.size hW2.size, fun k hk => (hW2.block k (Nat.lt_of_lt_of_le hk hB.out.size)).trans (hB.out.block k hk)⟩)
          rcases prev with e0 | ⟨e0, q, q1, q2, q3, q4, q5⟩
          · have t1 : decide (0 < i) = false := decide_eq_false (by omega)
            have t3 : decide ((0 : Int) < i) = false := decide_eq_false (by omega)
            clear hW2 e0
            go_wp2_with fail
            go_quiet ((go_at_call 14; exact Calls.quiet_of_same (KB.out _)))
            go_wp2_with fail
            go_roundg (n - (i + 1))
            case measure => omega
            case rel => exact ⟨i + 1, by go_num, by omega, Nat.le_refl _, Lib.hid (PN.out _), Lib.hid (BN.out _)⟩
          · have t1 : decide (0 < i) = true := decide_eq_true (by omega)
            have t3 : decide ((0 : Int) < i) = true := decide_eq_true (by omega)
            have qk : q.1 = 1 := by omega
            rw [qk] at q3
            have pr := (hW2.cell (p := ⟨g, pz * 2, none⟩) glt).trans q3
            have pz0 : (0 : Int) ≤ pz := by omega
            clear hW2 e0 q1 q2 q3 qk
            go_wp2_with fail
            go_quiet ((go_at_call 14; exact Calls.quiet_of_same (KB.out _)))
            go_wp2_with fail
            go_roundg (n - (i + 1))
            case measure => omega
            case rel => exact ⟨i + 1, by go_num, by omega, Nat.le_refl _, Lib.hid (PN.out _), Lib.hid (BN.out _)⟩
        · subst hb
          have KB := Lib.hid (fun W => bare_any9 ⟨#[]⟩ W (by decide))
          simp only at d0 d1 prev
          replace d1 : wr.cell? ⟨g, i * 2 + 1, none⟩ = some (.string ⟨#[32]⟩) := d1
          clear tl hp hpz
          have hW2 : Below wr.heap.size wr (wr.alloc (.cells #[.int .u8 1, .string ⟨#[32]⟩] 26)) := (Below.refl _ _).alloc (Nat.le_refl _) _
          have b0 : (wr.alloc (.cells #[.int .u8 1, .string ⟨#[32]⟩] 26)).cell? ⟨wr.heap.size, 0, none⟩ = some (.int .u8 1) := by rw [World.cell?_alloc_new]; rfl
          have b1 : (wr.alloc (.cells #[.int .u8 1, .string ⟨#[32]⟩] 26)).cell? ⟨wr.heap.size, 1, none⟩ = some (.string ⟨#[32]⟩) := by rw [World.cell?_alloc_new]; rfl
          have PN : Hid (∀ q, PcIn ((wr.alloc (.cells #[.int .u8 1, .string ⟨#[32]⟩] 26)).drewN q) (.slice (some ⟨g, 0, none⟩) n c) ps) := Lib.hid (fun q => (hP.out.keep hW2).keep ⟨rfl, rfl, rfl, Nat.le_refl _, fun _ _ => rfl⟩)
          have BN : Hid (∀ q, Below w.heap.size w ((wr.alloc (.cells #[.int .u8 1, .string ⟨#[32]⟩] 26)).drewN q)) := Lib.hid (fun q => ⟨hB.out.os, hB.out.tape, hB.out.output, Nat.le_trans hB.out.size hW2.size, fun k hk => (hW2.block k (Nat.lt_of_lt_of_le hk hB.out.size)).trans (hB.out.block k hk)⟩)
          rcases prev with e0 | ⟨e0, q, q1, q2, q3, q4, q5⟩
          · have t1 : decide (0 < i) = false := decide_eq_false (by omega)
            have t3 : decide ((0 : Int) < i) = false := decide_eq_false (by omega)
            clear hW2 e0
            go_wp2_with fail
            go_quiet ((go_at_call 14; exact Calls.quiet_of_same (KB.out _)))
            go_wp2_with fail
            go_roundg (n - (i + 1))
            case measure => omega
            case rel => exact ⟨i + 1, by go_num, by omega, Nat.le_refl _, Lib.hid (PN.out _), Lib.hid (BN.out _)⟩
          · have t1 : decide (0 < i) = true := decide_eq_true (by omega)
            have t3 : decide ((0 : Int) < i) = true := decide_eq_true (by omega)
            have qk : q.1 = 0 := by omega
            rw [qk] at q3
            have pr := (hW2.cell (p := ⟨g, pz * 2, none⟩) glt).trans q3
            have pz0 : (0 : Int) ≤ pz := by omega
            clear hW2 e0 q1 q2 q3 qk
            go_wp2_with fail
            go_quiet ((go_at_call 14; exact Calls.quiet_of_same (KB.out _)))
            go_wp2_with fail
            go_roundg (n - (i + 1))
            case measure => omega
            case rel => exact ⟨i + 1, by go_num, by omega, Nat.le_refl _, Lib.hid (PN.out _), Lib.hid (BN.out _)⟩
      · obtain rfl : i = n := by omega
        have hz : ¬ (i : Int) < i := by omega
        obtain ⟨b, hb⟩ : ∃ b, decide (i = 0) = b := ⟨_, rfl⟩
        have e1 : ((i : Int) == 0) = b := by rw [← hb]; by_cases h : i = 0 <;> simp [h]
        have e2 : s.toList.isEmpty = b := by
          rw [← hb]
          have h1 := HN.out
          have h2 := EM.out
          cases hs : s.toList with
          | nil =>
            have := h2.2 hs
            rw [this] at h1
            rw [← h1]
            rfl
          | cons x r =>
            have : i ≠ 0 := fun e => by
              rw [e] at h1
              have := h2.1 (List.length_eq_zero_iff.1 h1)
              rw [hs] at this
              cases this
            simp [this]
        clear hb
        go_wp2_with fail
        go_ret
        exact ⟨by simp, hB.out⟩
end Go.Proofs.Ytgfiiohglgbdiaa
