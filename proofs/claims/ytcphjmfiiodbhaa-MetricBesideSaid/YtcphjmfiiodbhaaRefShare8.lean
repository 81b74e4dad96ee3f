/-
  The document's has and Share: a character's share.
-/
import Derived.Test.YtcphjmfiiodbhaaRunes
import Derived.WalkKit
import Derived.ProofKit
import Derived.Lib.Hide
import Derived.Deep.LoopGhost
namespace Go.Proofs.Ytcphjmfiiodbhaa
open Go.RowKit

/-- a text's bytes, as numbers -/
def bytesZ (s : ByteArray) : List Int := s.data.toList.map (fun b => (b.toNat : Int))
theorem bytesZ_len (s : ByteArray) : (bytesZ s).length = s.size := by simp [bytesZ]
theorem bytesZ_get (s : ByteArray) {k : Nat} (h : k < s.size) : (bytesZ s)[k]? = some (s[k].toNat : Int) := by
  simp only [bytesZ, List.getElem?_map]
  rw [show s.data.toList[k]? = some s.data[k] by simp]
  rfl
theorem bytesZ_take (s : ByteArray) {k : Nat} (h : k < s.size) : (bytesZ s).take (k + 1) = (bytesZ s).take k ++ [(s[k].toNat : Int)] := by
  rw [List.take_add_one, bytesZ_get s h]
  rfl
set_option maxRecDepth 100000 in
set_option maxHeartbeats 4000000 in
theorem has_any (s : ByteArray) (r : Int) (w : World) (hs : s.size ≤ 4611686018427387904) (b : Bool) (hb : decide (r ∈ bytesZ s) = b) :
    Calls Try.prog 22 #[.string s, .int .i32 r] w fun e w' => e = .returned (.bool b) ∧ w' = w := by
  have HB := Lib.hid hb
  clear hb
  go_enter Try.func22, Try.ntmps22
  go_wp2
  go_loopg [5] s.size (fun g1 vi wr => ∃ k : Nat, vi = .int .i64 k ∧ k ≤ s.size ∧ s.size - k ≤ g1 ∧ ¬ r ∈ (bytesZ s).take k ∧ Hid (w = wr))
  case atStart => exact ⟨0, rfl, by omega, by omega, by simp, Lib.hid rfl⟩
  case round =>
    obtain ⟨k, rfl, hk, hg1, hl, D⟩ := hrel
    obtain rfl := D.out
    have HL := Lib.hid hl
    clear D hl
    by_cases hlt : k < s.size
    · have hkz : (k : Int) < s.size := by omega
      have hk0 : (0 : Int) ≤ k := by omega
      have T := Lib.hid (bytesZ_take s hlt)
      have M := Lib.hid (List.mem_of_getElem? (bytesZ_get s hlt))
      obtain ⟨x, hx⟩ : ∃ x, s[k].toNat = x := ⟨_, rfl⟩
      have x256 : x < 256 := by rw [← hx]; exact (s[k]).toNat_lt
      have wx : IntKind.i32.wrap (x : Int) = (x : Int) := by unfold IntKind.wrap; simp [IntKind.bits, IntKind.signed]; omega
      rw [hx] at T M
      by_cases hL : (x : Int) = r
      · have R : Hid (b = true) := Lib.hid (by rw [← HB.out, ← hL]; exact decide_eq_true M.out)
        have q : ((x : Int) == r) = true := by simp [hL]
        clear hL M T
        go_wp2_with fail
        go_ret
        exact ⟨by rw [R.out]; rfl, rfl⟩
      · have HL2 : Hid (¬ r ∈ (bytesZ s).take (k + 1)) := Lib.hid (by
          rw [T.out, List.mem_append]
          rintro (h | h)
          · exact HL.out h
          · exact hL (List.mem_singleton.1 h).symm)
        have q : ((x : Int) == r) = false := by simp [hL]
        clear hL M T
        go_wp2_with fail
        go_roundg (s.size - (k + 1))
        case measure => omega
        case rel => exact ⟨k + 1, by go_num, by omega, Nat.le_refl _, HL2.out, Lib.hid rfl⟩
    · have R : Hid (b = false) := Lib.hid (by
        have := HL.out
        rw [List.take_of_length_le (by rw [bytesZ_len]; omega)] at this
        rw [← HB.out]
        exact decide_eq_false this)
      go_wp2
      go_ret
      exact ⟨by rw [R.out]; rfl, rfl⟩
def narrowB : ByteArray := ⟨#[33, 39, 40, 41, 44, 46, 58, 59, 91, 93, 102, 105, 106, 108, 116, 124]⟩
def broadB : ByteArray := ⟨#[37, 64, 77, 87, 109, 119]⟩
theorem narrowB_mem (r : Int) (h : 32 < r) : r ∈ bytesZ narrowB ↔ r ∈ narrowL := by
  have e : bytesZ narrowB = [33, 39, 40, 41, 44, 46, 58, 59, 91, 93, 102, 105, 106, 108, 116, 124] := by decide
  rw [e]
  unfold narrowL
  simp only [List.mem_cons, List.not_mem_nil, or_false]
  omega
theorem broadB_mem : bytesZ broadB = broadL := by decide
theorem narrow_bd {r : Int} (h : r ∈ narrowL) : r = 10 ∨ r = 32 ∨ (32 < r ∧ r < 128) := by
  unfold narrowL at h
  simp only [List.mem_cons, List.not_mem_nil, or_false] at h
  omega
theorem broad_bd {r : Int} (h : r ∈ broadL) : 32 < r ∧ r < 128 := by
  unfold broadL at h
  simp only [List.mem_cons, List.not_mem_nil, or_false] at h
  omega
set_option maxRecDepth 100000 in
set_option maxHeartbeats 4000000 in
theorem refShare8_any (r : Int) (w : World) :
    Calls Try.prog 14 #[.int .i32 r] w fun e w' => e = .returned (.int .i64 (shareR r)) ∧ w' = w := by
  obtain ⟨n, hn⟩ : ∃ n, shareR r = n := ⟨_, rfl⟩
  rw [hn]
  obtain ⟨b1, hb1⟩ : ∃ b, decide (r ∈ bytesZ narrowB) = b := ⟨_, rfl⟩
  obtain ⟨b2, hb2⟩ : ∃ b, decide (r ∈ bytesZ broadB) = b := ⟨_, rfl⟩
  have K1 := Lib.hid (fun W => has_any narrowB r W (by decide) b1 hb1)
  have K2 := Lib.hid (fun W => has_any broadB r W (by decide) b2 hb2)
  unfold narrowB at K1
  unfold broadB at K2
  unfold shareR at hn
  by_cases c1 : 768 ≤ r ∧ r ≤ 879
  · rw [if_neg (by omega), if_pos c1] at hn
    subst hn
    obtain ⟨h1, h2⟩ := c1
    clear hb1 hb2
    go_enter Try.func14, Try.ntmps14
    go_wp2_with fail
    go_ret
    exact ⟨rfl, rfl⟩
  · rw [if_neg c1] at hn
    by_cases c2 : r = 10
    · subst c2
      obtain rfl : 16 = n := by rw [← hn]; decide
      clear hb1 hb2 c1
      go_enter Try.func14, Try.ntmps14
      go_wp2_with fail
      go_ret
      exact ⟨rfl, rfl⟩
    · by_cases c3 : r = 32
      · subst c3
        obtain rfl : 16 = n := by rw [← hn]; decide
        clear hb1 hb2 c1 c2
        go_enter Try.func14, Try.ntmps14
        go_wp2_with fail
        go_ret
        exact ⟨rfl, rfl⟩
      · have e2 : (r == 10) = false := by simp [c2]
        have e3 : (r == 32) = false := by simp [c3]
        by_cases c4 : r < 32
        · have : ¬ r ∈ narrowL := fun h => by have := narrow_bd h; omega
          rw [if_neg (by omega), if_neg this, if_pos c4] at hn
          subst hn
          have h1 : ¬ 768 ≤ r := by omega
          have h2 : ¬ 32 < r := by omega
          clear hb1 hb2 c1 c2 c3 this
          go_enter Try.func14, Try.ntmps14
          go_wp2_with fail
          go_ret
          exact ⟨rfl, rfl⟩
        · have c5 : 32 < r := by omega
          by_cases c6 : r < 128
          · have h1 : ¬ 768 ≤ r := by omega
            rw [if_neg (by omega)] at hn
            cases b1 with
            | true =>
              have m : r ∈ narrowL := (narrowB_mem r c5).1 (of_decide_eq_true hb1)
              rw [if_pos m] at hn
              subst hn
              clear hb1 hb2 c1 c2 c3 m
              go_enter Try.func14, Try.ntmps14
              go_wp2_with (go_at_call 22; refine (K1.out _).mono ?_; rintro e w' ⟨rfl, hw⟩; rw [hw])
              go_ret
              exact ⟨rfl, rfl⟩
            | false =>
              have m : ¬ r ∈ narrowL := fun h => of_decide_eq_false hb1 ((narrowB_mem r c5).2 h)
              rw [if_neg m, if_neg c4] at hn
              cases b2 with
              | true =>
                have m2 : r ∈ broadL := by rw [← broadB_mem]; exact of_decide_eq_true hb2
                rw [if_pos m2] at hn
                subst hn
                clear hb1 hb2 c1 c2 c3 m m2
                go_enter Try.func14, Try.ntmps14
                go_wp2_with (go_at_call 22; (first | with_reducible refine (K1.out _).mono ?_ | with_reducible refine (K2.out _).mono ?_); rintro e w' ⟨rfl, hw⟩; rw [hw])
                go_ret
                exact ⟨rfl, rfl⟩
              | false =>
                have m2 : ¬ r ∈ broadL := by rw [← broadB_mem]; exact of_decide_eq_false hb2
                rw [if_neg m2] at hn
                have h5 : ¬ 4352 ≤ r := by omega
                by_cases c7 : 65 ≤ r ∧ r ≤ 90
                · rw [if_pos c7] at hn
                  obtain ⟨h3, h4⟩ := c7
                  subst hn
                  clear hb1 hb2 c1 c2 c3 m m2
                  go_enter Try.func14, Try.ntmps14
                  go_wp2_with (go_at_call 22; (first | with_reducible refine (K1.out _).mono ?_ | with_reducible refine (K2.out _).mono ?_); rintro e w' ⟨rfl, hw⟩; rw [hw])
                  go_ret
                  exact ⟨rfl, rfl⟩
                · rw [if_neg c7] at hn
                  subst hn
                  by_cases c8 : 65 ≤ r
                  · have c9 : ¬ r ≤ 90 := by omega
                    clear hb1 hb2 c1 c2 c3 m m2 c7
                    go_enter Try.func14, Try.ntmps14
                    go_wp2_with (go_at_call 22; (first | with_reducible refine (K1.out _).mono ?_ | with_reducible refine (K2.out _).mono ?_); rintro e w' ⟨rfl, hw⟩; rw [hw])
                    go_ret
                    exact ⟨rfl, rfl⟩
                  · clear hb1 hb2 c1 c2 c3 m m2 c7
                    go_enter Try.func14, Try.ntmps14
                    go_wp2_with (go_at_call 22; (first | with_reducible refine (K1.out _).mono ?_ | with_reducible refine (K2.out _).mono ?_); rintro e w' ⟨rfl, hw⟩; rw [hw])
                    go_ret
                    exact ⟨rfl, rfl⟩
          · have m : ¬ r ∈ narrowL := fun h => by have := narrow_bd h; omega
            have m2 : ¬ r ∈ broadL := fun h => by have := broad_bd h; omega
            rw [if_neg m, if_neg c4, if_neg m2, if_neg (show ¬ (65 ≤ r ∧ r ≤ 90) by omega)] at hn
            have h3 : 65 ≤ r := by omega
            have h4 : ¬ r ≤ 90 := by omega
            by_cases c8 : 4352 ≤ r
            · rw [if_pos c8] at hn
              subst hn
              have h1 : 768 ≤ r := by omega
              have h2 : ¬ r ≤ 879 := by omega
              clear hb1 hb2 c1 c2 c3 m m2
              go_enter Try.func14, Try.ntmps14
              go_wp2_with fail
              go_ret
              exact ⟨rfl, rfl⟩
            · rw [if_neg c8] at hn
              subst hn
              by_cases h1 : 768 ≤ r
              · have h2 : ¬ r ≤ 879 := by omega
                clear hb1 hb2 c1 c2 c3 m m2
                go_enter Try.func14, Try.ntmps14
                go_wp2_with fail
                go_ret
                exact ⟨rfl, rfl⟩
              · clear hb1 hb2 c1 c2 c3 m m2
                go_enter Try.func14, Try.ntmps14
                go_wp2_with fail
                go_ret
                exact ⟨rfl, rfl⟩
end Go.Proofs.Ytcphjmfiiodbhaa
