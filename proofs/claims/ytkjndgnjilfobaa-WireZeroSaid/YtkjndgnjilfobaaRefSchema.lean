/-
  The document's Schema: is a text one?
-/
import Derived.Test.YtkjndgnjilfobaaGreat
namespace Go.Proofs.Ytkjndgnjilfobaa
open Go.RowKit

/-- the letters of a text -/
def letters (s : ByteArray) : List Nat := s.data.toList.map UInt8.toNat
theorem letters_len (s : ByteArray) : (letters s).length = s.size := by simp [letters]

theorem letters_get (s : ByteArray) {k : Nat} (h : k < s.size) : (letters s)[k]? = some s[k].toNat := by
  simp only [letters, List.getElem?_map]
  rw [show s.data.toList[k]? = some s.data[k] by simp]
  rfl
theorem letters_take (s : ByteArray) {k : Nat} (h : k < s.size) : (letters s).take (k + 1) = (letters s).take k ++ [s[k].toNat] := by
  rw [List.take_add_one, letters_get s h]
  rfl
theorem letters_mem (s : ByteArray) {k : Nat} (h : k < s.size) : s[k].toNat ∈ letters s := List.mem_of_getElem? (letters_get s h)

set_option maxRecDepth 100000 in
set_option maxHeartbeats 4000000 in
theorem refSchema_any (s : ByteArray) (w : World) (hs : s.size ≤ 9223372036854775807) :
    Calls Try.prog 29 #[.string s] w fun e w' => e = .returned (.bool (decide (Schema (letters s)))) ∧ w' = w := by
  go_enter Try.func29, Try.ntmps29
  go_wp2
  go_loopg [3] s.size (fun g1 vi wr => ∃ k : Nat, vi = .int .i64 k ∧ k ≤ s.size ∧ s.size - k ≤ g1 ∧ (∀ c ∈ (letters s).take k, Letter c) ∧ Hid (w = wr))
  case atStart => exact ⟨0, rfl, by omega, by omega, by simp, Lib.hid rfl⟩
  case round =>
    obtain ⟨k, rfl, hk, hg1, hl, D⟩ := hrel
    obtain rfl := D.out
    have HL := Lib.hid hl
    clear D hl
    by_cases hlt : k < s.size
    · have hkz : (k : Int) < s.size := by omega
      have hk0 : (0 : Int) ≤ k := by omega
      have T := Lib.hid (letters_take s hlt)
      have M := Lib.hid (letters_mem s hlt)
      obtain ⟨x, hx⟩ : ∃ x, s[k].toNat = x := ⟨_, rfl⟩
      rw [hx] at T M
      by_cases hL : Letter x
      · have HL2 : Hid (∀ c ∈ (letters s).take (k + 1), Letter c) := Lib.hid (fun c hc => by
          rw [T.out, List.mem_append] at hc
          rcases hc with hc | hc
          · exact HL.out c hc
          · obtain rfl : c = x := by simpa using hc
            exact hL)
        clear HL T M
        rcases hL with rfl | rfl | rfl | rfl | rfl <;>
        · go_wp2_with fail
          go_roundg (s.size - (k + 1))
          case measure => omega
          case rel => exact ⟨k + 1, by go_num, by omega, Nat.le_refl _, HL2.out, Lib.hid rfl⟩
      · have NS : Hid (decide (Schema (letters s)) = false) := Lib.hid (by simp only [decide_eq_false_iff_not]; exact fun h => hL (h.1 x M.out))
        have q1 : ((x : Int) != 110) = true := bne_iff_ne.2 fun e => hL (by unfold Letter; omega)
        have q2 : ((x : Int) != 105) = true := bne_iff_ne.2 fun e => hL (by unfold Letter; omega)
        have q3 : ((x : Int) != 102) = true := bne_iff_ne.2 fun e => hL (by unfold Letter; omega)
        have q4 : ((x : Int) != 98) = true := bne_iff_ne.2 fun e => hL (by unfold Letter; omega)
        have q5 : ((x : Int) != 108) = true := bne_iff_ne.2 fun e => hL (by unfold Letter; omega)
        clear HL T M hL
        go_wp2_with fail
        go_ret
        exact ⟨by rw [NS.out]; rfl, rfl⟩
    · obtain rfl : k = s.size := by omega
      have SS : Hid (decide (Schema (letters s)) = decide ((s.size : Int) ≤ 64)) := Lib.hid (by
        rw [List.take_of_length_le (by rw [letters_len]; omega)] at HL
        have : Schema (letters s) ↔ (s.size : Int) ≤ 64 := by
          unfold Schema
          rw [letters_len]
          exact ⟨fun h => by have := h.2; omega, fun h => ⟨HL.out, by omega⟩⟩
        simp only [this])
      go_wp2
      go_ret
      exact ⟨by rw [SS.out]; rfl, rfl⟩
end Go.Proofs.Ytkjndgnjilfobaa
