/-
  The law BreaksShown: of any Cut and Shown that answer as is asked.
-/
import Derived.Test.YtgfiiohglgbdiaaBreaksBeside
namespace Go.Proofs.Ytgfiiohglgbdiaa
open Go.RowKit

theorem calm_at {t : List UInt8} (h : Calm t) : ∀ {i : Nat} {a b : UInt8}, t[i]? = some a → t[i + 1]? = some b → a ≠ 10 ∧ b ≠ 10 ∧ ¬ (a = 32 ∧ b = 32) := by
  induction t with
  | nil => intro i a b h; simp at h
  | cons x t ih =>
    intro i a b h1 h2
    obtain ⟨c1, c2, c3⟩ := h
    cases i with
    | zero =>
      obtain rfl : x = a := by simpa using h1
      have hb : t[0]? = some b := by simpa using h2
      cases t with
      | nil => simp at hb
      | cons y r =>
        obtain rfl : y = b := by simpa using hb
        refine ⟨c1, c3.1, fun ⟨e1, e2⟩ => c2 e1 r (by rw [e2])⟩
    | succ i => exact ih c3 (by simpa using h1) (by simpa using h2)
theorem byte_ne {b c : UInt8} {n : Int} (hn : n = (c.toNat : Int)) (h : b ≠ c) : ((b.toNat : Int) == n) = false := by
  have : ¬ (b.toNat : Int) = n := fun e => h (UInt8.toNat_inj.1 (by omega))
  rw [beq_eq_false_iff_ne.2 this]
set_option maxRecDepth 100000 in
set_option maxHeartbeats 4000000 in
theorem shown9 (hC : CutOK 9) (hS : ShownOK 11) (hW : AwakeOK9 13) (s : ByteArray) (ws : Int) (w : World) (hw : 0 ≤ ws ∧ ws < 256) (_h1 : s.size ≤ maxLen) :
    Calls Try.prog 4 #[.string s, .int .u8 ws] w fun e w' => e = .returned (.bool true) ∧ Below w.heap.size w w' := by
  unfold maxLen at _h1
  have KA := Lib.hid (fun W => hW W)
  have B := Lib.hid (Below.refl w.heap.size w)
  by_cases g1 : 3000 < s.size
  · have z1 : (3000 : Int) < s.size := by omega
    clear _h1 g1
    go_enter Try.func4, Try.ntmps4
    go_wp2_with (go_at_call 13; (with_reducible refine (KA.out _).mono ?_); rintro e w' ⟨rfl, hb⟩; replace B := Lib.hid (B.out.trans (hb.mono B.out.size)); clear hb)
    go_ret
    exact ⟨rfl, B.out⟩
  · have z1 : ¬ (3000 : Int) < s.size := by omega
    have KS := Lib.hid (fun W => hS s ws W (by omega) hw)
    by_cases g2 : 2 < ws
    · have KC := Lib.hid (fun W => hC s ws W (by omega) hw)
      have e0 : shownP ws s.data.toList = [] := by rw [shown_any, if_neg (by omega), if_neg (by omega)]
      have e1 : cutP ws s.data.toList = [] := by unfold cutP; rw [if_neg (by omega), if_neg (by omega), if_neg (by omega)]
      rw [e0] at KS
      rw [e1] at KC
      clear e0 e1 _h1 g1
      go_enter Try.func4, Try.ntmps4
      go_wp2_with (first
        | (go_at_call 13; (with_reducible refine (KA.out _).mono ?_); rintro e w' ⟨rfl, hb⟩; replace B := Lib.hid (B.out.trans (hb.mono B.out.size)); clear hb)
        | (go_at_call 11; (with_reducible refine (KS.out _).mono ?_); rintro e w' ⟨rfl, hb⟩; replace B := Lib.hid (B.out.trans (hb.mono B.out.size)); clear hb)
        | (go_at_call 9; (with_reducible refine (KC.out _).mono ?_); rintro e w' ⟨v, rfl, hO, hb⟩; obtain ⟨A, c, rfl, -⟩ := hO.pcs; replace B := Lib.hid (B.out.trans (hb.mono B.out.size)); clear hb hO))
      go_ret
      exact ⟨by simp, B.out⟩
    · have z2 : ¬ (2 : Int) < ws := g2
      obtain ⟨t, ht⟩ : ∃ t, shownP ws s.data.toList = t := ⟨_, rfl⟩
      have tl : t.length ≤ 3000 := by have := shown_len ws s.data.toList; rw [ht, ← Lib.size_eq] at this; omega
      have twice : shownP ws t = t := by
        have h := ht
        rw [shown_any] at h ⊢
        by_cases h01 : ws = 0 ∨ ws = 1
        · rw [if_pos h01] at h ⊢
          rw [← h]
          exact sq_twice _
        · rw [if_neg h01, if_pos (by omega)] at h ⊢
      have bare : bareP t = bareP s.data.toList := by
        have h := ht
        rw [shown_any] at h
        by_cases h01 : ws = 0 ∨ ws = 1
        · rw [if_pos h01] at h
          rw [← h]
          exact bare_sq _
        · rw [if_neg h01, if_pos (by omega)] at h
          rw [h]
      have keep : ws = 2 → t = s.data.toList := fun e => by
        rw [← ht, shown_any, if_neg (by omega), if_pos e]
      have calm : ws ≠ 2 → Calm t := fun e => by
        rw [← ht, shown_any, if_pos (by omega)]
        exact calm_sq _
      have ts : (⟨t.toArray⟩ : ByteArray).data.toList = t := List.toList_toArray
      have tz : (⟨t.toArray⟩ : ByteArray).size = t.length := by rw [Lib.size_eq, ts]
      have K2 := Lib.hid (fun W => hS ⟨t.toArray⟩ ws W (by omega) hw)
      have K3 := Lib.hid (fun W => bare_any9 ⟨t.toArray⟩ W (by omega))
      have K4 := Lib.hid (fun W => bare_any9 s W (by omega))
      have K5 := Lib.hid (fun W => hS s 0 W (by omega) (by omega))
      have K6 := Lib.hid (fun W => hS s 1 W (by omega) (by omega))
      have e0 : shownP 0 s.data.toList = squeeze s.data.toList := by rw [shown_any, if_pos (.inl rfl)]
      have e1 : shownP 1 s.data.toList = squeeze s.data.toList := by rw [shown_any, if_pos (.inr rfl)]
      rw [ts, twice] at K2
      rw [ts, bare] at K3
      rw [ht] at KS
      rw [e0] at K5
      rw [e1] at K6
      generalize (⟨(bareP s.data.toList).toArray⟩ : ByteArray) = X at K3 K4
      generalize (⟨(squeeze s.data.toList).toArray⟩ : ByteArray) = Y at K5 K6
      have TL := Lib.hid tl
      have IX : Hid (∀ (i : Nat) (z : Int) (a : UInt8), z = (i : Int) → t[i]? = some a → ∀ W, (Instr.index 9 (.string ⟨t.toArray⟩) (.int .i64 z)).run Try.prog W = .ok (.int .u8 (a.toNat : Nat)) W) := Lib.hid (fun i z a hz h W => by
        have hi := (List.getElem?_eq_some_iff.1 h).1
        have := index_byte ⟨t.toArray⟩ i (by rw [tz]; exact hi) W
        rw [hz, this]
        congr 3
        have e := (List.getElem?_eq_some_iff.1 h).2
        rw [← e])
      have KEEP : Hid (ws = 2 → (⟨t.toArray⟩ : ByteArray) = s) := Lib.hid (fun e => by
        rw [keep e])
      have CALM := Lib.hid calm
      obtain ⟨n, hn⟩ : ∃ n, t.length = n := ⟨_, rfl⟩
      obtain ⟨T, hT⟩ : ∃ T : ByteArray, (⟨t.toArray⟩ : ByteArray) = T := ⟨_, rfl⟩
      rw [hT] at tz
      rw [hn] at tz
      have HT := Lib.hid hT
      have HN := Lib.hid hn
      rw [hT] at KS K2 K3 KEEP IX
      have nl : n ≤ 3000 := by omega
      clear ht tl twice bare keep calm ts hT hn e0 e1 _h1 g1
      by_cases w2 : ws = 2
      · subst w2
        obtain rfl := KEEP.out rfl
        go_enter Try.func4, Try.ntmps4
        go_wp2_with (first
          | (go_at_call 13; (with_reducible refine (KA.out _).mono ?_); rintro e w' ⟨rfl, hb⟩; replace B := Lib.hid (B.out.trans (hb.mono B.out.size)); clear hb)
          | (go_at_call 11; (first | with_reducible refine (KS.out _).mono ?_ | with_reducible refine (K2.out _).mono ?_ | with_reducible refine (K5.out _).mono ?_ | with_reducible refine (K6.out _).mono ?_); rintro e w' ⟨rfl, hb⟩; replace B := Lib.hid (B.out.trans (hb.mono B.out.size)); clear hb)
          | (go_at_call 14; (first | with_reducible refine (K3.out _).mono ?_ | with_reducible refine (K4.out _).mono ?_); rintro e w' ⟨rfl, rfl⟩))
        by_cases h1 : 1 < n
        · have t1 : (1 : Int) < T.size := by omega
          refine wp_loop_rounds 2 ?_
          rw [rounds_succ]
          go_wp2_with fail
          go_ret
          exact ⟨rfl, B.out⟩
        · have t1 : ¬ (1 : Int) < T.size := by omega
          refine wp_loop_rounds 2 ?_
          rw [rounds_succ]
          go_wp2_with fail
          go_ret
          exact ⟨rfl, B.out⟩
      · have w2b : (ws == 2) = false := by simp [w2]
        have w2c : (ws != 2) = true := by simp [w2]
        go_enter Try.func4, Try.ntmps4
        go_wp2_with (first
          | (go_at_call 13; (with_reducible refine (KA.out _).mono ?_); rintro e w' ⟨rfl, hb⟩; replace B := Lib.hid (B.out.trans (hb.mono B.out.size)); clear hb)
          | (go_at_call 11; (first | with_reducible refine (KS.out _).mono ?_ | with_reducible refine (K2.out _).mono ?_ | with_reducible refine (K5.out _).mono ?_ | with_reducible refine (K6.out _).mono ?_); rintro e w' ⟨rfl, hb⟩; replace B := Lib.hid (B.out.trans (hb.mono B.out.size)); clear hb)
          | (go_at_call 14; (first | with_reducible refine (K3.out _).mono ?_ | with_reducible refine (K4.out _).mono ?_); rintro e w' ⟨rfl, rfl⟩))
        have CM := Lib.hid (CALM.out w2)
        have hzn : (T.size : Int) = n := by omega
        go_loopg [6] n (fun g1 vi wr => ∃ (i : Nat), vi = .int .i64 i ∧ n - i ≤ g1 ∧ i ≤ n ∧ Hid (Below w.heap.size w wr))
        case atStart => exact ⟨0, rfl, by omega, by omega, B⟩
        case round =>
          obtain ⟨i, rfl, hg1, hi, hB⟩ := hrel
          clear B
          have wi : IntKind.i64.wrap ((i : Int) + 1) = (i : Int) + 1 := IntWalk.i64_in _ (by omega)
          by_cases hlt : i + 1 < n
          · have hz : (i : Int) + 1 < T.size := by omega
            obtain ⟨a, ha⟩ : ∃ a, t[i]? = some a := ⟨_, List.getElem?_eq_getElem (by rw [HN.out]; omega)⟩
            obtain ⟨b, hb⟩ : ∃ b, t[i + 1]? = some b := ⟨_, List.getElem?_eq_getElem (by rw [HN.out]; omega)⟩
            obtain ⟨c1, c2, c3⟩ := calm_at CM.out ha hb
            have ix := IX.out i (i : Int) a rfl ha
            have ix2 := IX.out (i + 1) ((i : Int) + 1) b (by omega) hb
            have e1 : ((a.toNat : Int) == 10) = false := byte_ne rfl c1
            have e2 : ((b.toNat : Int) == 10) = false := byte_ne rfl c2
            clear ha hb
            by_cases h32 : a = 32
            · have e3 : ((a.toNat : Int) == 32) = true := by rw [h32]; rfl
              have e4 : ((b.toNat : Int) == 32) = false := byte_ne rfl (fun h => c3 ⟨h32, h⟩)
              clear h32 c1 c2 c3
              generalize (a.toNat : Int) = x at ix e1 e3
              generalize (b.toNat : Int) = y at ix2 e2 e4
              go_wp2_with fail
              go_roundg (n - (i + 1))
              case measure => omega
              case rel => exact ⟨i + 1, by go_num, Nat.le_refl _, by omega, hB⟩
            · have e3 : ((a.toNat : Int) == 32) = false := byte_ne rfl h32
              clear h32 c1 c2 c3
              generalize (a.toNat : Int) = x at ix e1 e3
              generalize (b.toNat : Int) = y at ix2 e2
              go_wp2_with fail
              go_roundg (n - (i + 1))
              case measure => omega
              case rel => exact ⟨i + 1, by go_num, Nat.le_refl _, by omega, hB⟩
          · have hz : ¬ (i : Int) + 1 < T.size := by omega
            go_wp2_with fail
            go_ret
            exact ⟨rfl, hB.out⟩
end Go.Proofs.Ytgfiiohglgbdiaa
