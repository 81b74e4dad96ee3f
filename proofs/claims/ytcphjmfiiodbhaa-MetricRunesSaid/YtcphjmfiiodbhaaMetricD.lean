/-
  The law MetricRunes.
-/
import Derived.Test.YtcphjmfiiodbhaaMetricB
import Derived.Laws.BytesString
import Derived.Laws.IdiomStrings
import Derived.Laws.BitsAllLaws
namespace Go.Proofs.Ytcphjmfiiodbhaa
open Go.RowKit Go.Lib

theorem runes_one {s : ByteArray} {c k : Nat} (hs : s.size = k) (hk : 0 < k) (hd : Utf8.decode s 0 = (c, k)) : runesOf s = [c] := by
  show rnsAt s 0 = [c]
  rw [rnsAt_next s 0 (by omega), hd, rnsAt_end s _ (by simp only; omega)]
theorem byte_nat {n m : Nat} (h : n = m) (hm : m < 256) : (UInt8.ofNat n).toNat = m := by
  subst h
  simp
  omega
set_option maxRecDepth 100000 in
theorem runes_char (c : Nat) (h1 : c ≤ 1114111) (h2 : ¬ (55296 ≤ c ∧ c ≤ 57343)) (s : ByteArray)
    (hs : s = (if c < 0x80 then ⟨#[UInt8.ofNat c]⟩ else if c < 0x800 then ⟨#[UInt8.ofNat (0xC0 + c / 64), UInt8.ofNat (0x80 + c % 64)]⟩
      else if c < 0x10000 then ⟨#[UInt8.ofNat (0xE0 + c / 4096), UInt8.ofNat (0x80 + c / 64 % 64), UInt8.ofNat (0x80 + c % 64)]⟩
      else ⟨#[UInt8.ofNat (0xF0 + c / 262144), UInt8.ofNat (0x80 + c / 4096 % 64), UInt8.ofNat (0x80 + c / 64 % 64), UInt8.ofNat (0x80 + c % 64)]⟩)) : runesOf s = [c] := by
  by_cases a1 : c < 0x80
  · rw [if_pos a1] at hs
    subst hs
    refine runes_one (k := 1) rfl (by omega) ?_
    rw [decode_at]
    have e0 : ((⟨#[UInt8.ofNat c]⟩ : ByteArray).get! 0).toNat = c := byte_nat (n := c) rfl (by omega)
    rw [e0]
    unfold decodeN
    rw [if_pos a1]
  · rw [if_neg a1] at hs
    by_cases a2 : c < 0x800
    · rw [if_pos a2] at hs
      have e0 : (s.get! 0).toNat = 192 + c / 64 := by rw [hs]; exact byte_nat (n := 0xC0 + c / 64) rfl (by omega)
      have e1 : (s.get! (0 + 1)).toNat = 128 + c % 64 := by rw [hs]; exact byte_nat (n := 0x80 + c % 64) rfl (by omega)
      have es : s.size = 2 := by rw [hs]; rfl
      refine runes_one (k := 2) es (by omega) ?_
      rw [decode_at, e0, e1, es]
      unfold decodeN
      rw [if_neg (by omega), if_pos (by omega), if_pos (by omega)]
      congr 1
      omega
    · rw [if_neg a2] at hs
      by_cases a3 : c < 0x10000
      · rw [if_pos a3] at hs
        have e0 : (s.get! 0).toNat = 224 + c / 4096 := by rw [hs]; exact byte_nat (n := 0xE0 + c / 4096) rfl (by omega)
        have e1 : (s.get! (0 + 1)).toNat = 128 + c / 64 % 64 := by rw [hs]; exact byte_nat (n := 0x80 + c / 64 % 64) rfl (by omega)
        have e2 : (s.get! (0 + 2)).toNat = 128 + c % 64 := by rw [hs]; exact byte_nat (n := 0x80 + c % 64) rfl (by omega)
        have es : s.size = 3 := by rw [hs]; rfl
        refine runes_one (k := 3) es (by omega) ?_
        rw [decode_at, e0, e1, e2, es]
        have ev : (224 + c / 4096) % 16 * 4096 + (128 + c / 64 % 64) % 64 * 64 + (128 + c % 64) % 64 = c := by omega
        unfold decodeN
        rw [if_neg (by omega), if_neg (by omega), if_pos (by omega), ev, if_pos (by omega)]
      · rw [if_neg a3] at hs
        have e0 : (s.get! 0).toNat = 240 + c / 262144 := by rw [hs]; exact byte_nat (n := 0xF0 + c / 262144) rfl (by omega)
        have e1 : (s.get! (0 + 1)).toNat = 128 + c / 4096 % 64 := by rw [hs]; exact byte_nat (n := 0x80 + c / 4096 % 64) rfl (by omega)
        have e2 : (s.get! (0 + 2)).toNat = 128 + c / 64 % 64 := by rw [hs]; exact byte_nat (n := 0x80 + c / 64 % 64) rfl (by omega)
        have e3 : (s.get! (0 + 3)).toNat = 128 + c % 64 := by rw [hs]; exact byte_nat (n := 0x80 + c % 64) rfl (by omega)
        have es : s.size = 4 := by rw [hs]; rfl
        refine runes_one (k := 4) es (by omega) ?_
        rw [decode_at, e0, e1, e2, e3, es]
        have ev : (240 + c / 262144) % 8 * 262144 + (128 + c / 4096 % 64) % 64 * 4096 + (128 + c / 64 % 64) % 64 * 64 + (128 + c % 64) % 64 = c := by omega
        unfold decodeN
        rw [if_neg (by omega), if_neg (by omega), if_neg (by omega), if_pos (by omega), ev, if_pos (by omega)]
/-- a character's text has it, and nothing else; what is no character's number stands for U+FFFD -/
theorem runes_encode (r : Int) (c : Nat) (hc : (if Utf8.valid r then r.toNat else 65533) = c) : runesOf (Utf8.encode r) = [c] := by
  have hv := validRune_eq r
  have hb : c ≤ 1114111 ∧ ¬ (55296 ≤ c ∧ c ≤ 57343) := by
    by_cases h : Utf8.valid r = true
    · rw [if_pos h] at hc
      rw [hv] at h
      have := of_decide_eq_true h
      omega
    · rw [if_neg h] at hc
      omega
  refine runes_char c hb.1 hb.2 _ ?_
  subst hc
  rfl
/-- a byte from 128 on, alone or twice, is no character -/
theorem runes_high (x : UInt8) (h : 128 ≤ x.toNat) : runesOf ⟨#[x]⟩ = [65533] := by
  refine runes_one (k := 1) rfl (by omega) ?_
  rw [decode_at]
  have e0 : ((⟨#[x]⟩ : ByteArray).get! 0) = x := rfl
  have es : (⟨#[x]⟩ : ByteArray).size = 1 := rfl
  rw [e0, es]
  unfold decodeN
  rw [if_neg (by omega), if_neg (by omega), if_neg (by omega), if_neg (by omega)]
theorem runes_high2 (x : UInt8) (h : 128 ≤ x.toNat) : runesOf ⟨#[x, x]⟩ = [65533, 65533] := by
  have e0 : ((⟨#[x, x]⟩ : ByteArray).get! 0) = x := rfl
  have e1 : ((⟨#[x, x]⟩ : ByteArray).get! (0 + 1)) = x := rfl
  have e2 : ((⟨#[x, x]⟩ : ByteArray).get! 1) = x := rfl
  have es : (⟨#[x, x]⟩ : ByteArray).size = 2 := rfl
  have d0 : Utf8.decode ⟨#[x, x]⟩ 0 = (65533, 1) := by
    rw [decode_at, e0, e1, es]
    unfold decodeN
    rw [if_neg (by omega), if_neg (by omega), if_neg (by omega), if_neg (by omega)]
  have d1 : Utf8.decode ⟨#[x, x]⟩ 1 = (65533, 1) := by
    rw [decode_at, e2, es]
    unfold decodeN
    rw [if_neg (by omega), if_neg (by omega), if_neg (by omega), if_neg (by omega)]
  show rnsAt _ 0 = _
  rw [rnsAt_next _ 0 (by rw [es]; omega), d0]
  simp only
  rw [rnsAt_next _ (0 + 1) (by rw [es]; omega), d1, rnsAt_end _ _ (by rw [es]; simp only; omega)]
set_option maxRecDepth 100000 in
set_option maxHeartbeats 4000000 in
theorem walkMetricRunes (a0 : Int) (a1 : Int) (a2 : Int) (w0 : (Lit.int .i32 a0).wf = true) (w1 : (Lit.int .u8 a1).wf = true) (_w2 : (Lit.int .i64 a2).wf = true) (w : World) :
    Calls Try.prog 7 #[.int .i32 a0, .int .u8 a1, .int .i64 a2] w fun e w' => e = .returned (.bool true) ∧ Below w.heap.size w w' := by
  have KA := Lib.hid (fun W => awake_any8 W)
  have B := Lib.hid (Below.refl w.heap.size w)
  by_cases hf : 1 ≤ a2 ∧ a2 ≤ 1000
  · have z1 : ¬ a2 < 1 := by omega
    have z2 : ¬ 1000 < a2 := by omega
    have u8 := u8_in8 w1
    have i32 := i32_in8 w0
    obtain ⟨c, hc⟩ : ∃ c, (if Utf8.valid a0 then a0.toNat else 65533) = c := ⟨_, rfl⟩
    have re := runes_encode a0 c hc
    have en : (Utf8.encode a0).size ≤ 4 := by
      unfold Utf8.encode
      generalize (if Utf8.valid a0 = true then a0.toNat else Utf8.runeError) = k
      dsimp only
      by_cases q1 : k < 0x80
      · rw [if_pos q1]; exact (by decide : (1 : Nat) ≤ 4)
      · rw [if_neg q1]
        by_cases q2 : k < 0x800
        · rw [if_pos q2]; exact (by decide : (2 : Nat) ≤ 4)
        · rw [if_neg q2]
          by_cases q3 : k < 0x10000
          · rw [if_pos q3]; exact (by decide : (3 : Nat) ≤ 4)
          · rw [if_neg q3]; exact (by decide : (4 : Nat) ≤ 4)
    have cv : ∀ W, (convert 21 9 (.int .i32 a0)).run Try.prog W = .ok (.string (Utf8.encode a0)) W := fun W => by rw [run_convert_int_string W _ _ _ _ (by rw [Try.underlying21]; rfl) Try.underlying9]
    generalize Utf8.encode a0 = e at cv re en
    obtain ⟨x, hx⟩ : ∃ x, a1.toNat ||| 128 = x := ⟨_, rfl⟩
    have x1 : 128 ≤ x := by rw [← hx]; exact Nat.right_le_or
    have x2 : x < 256 := by rw [← hx]; exact Nat.or_lt_two_pow (n := 8) (by omega) (by omega)
    have ho : bits .or .u8 a1 128 = (x : Int) := by rw [u8_or a1 128 u8.1 u8.2 (by omega) (by omega), ← hx]; rfl
    obtain ⟨xb, hxb⟩ : ∃ xb : UInt8, xb.toNat = x := ⟨UInt8.ofNat x, byte_nat rfl x2⟩
    have cb1 : ∀ (W : World) (t : TypeId), (convert 36 9 (.slice (some ⟨W.heap.size, 0, none⟩) 1 1)).run Try.prog (W.alloc (.cells #[.int .u8 x] t)) = .ok (.string ⟨#[xb]⟩) (W.alloc (.cells #[.int .u8 x] t)) := fun W t => by
      refine run_convert_bytes_back (W.alloc (.cells #[.int .u8 x] t)) 36 9 5 ⟨W.heap.size, 0, none⟩ 1 [xb] Try.underlying36 Try.underlying5 Try.underlying9 (fun j hj => ?_)
      obtain rfl : j = 0 := by simp at hj; omega
      show (W.alloc (.cells #[.int .u8 x] t)).cell? ⟨W.heap.size, 0 + 0, none⟩ = some (.int .u8 (xb.toNat : Int))
      rw [World.cell?_alloc_new, hxb]
      rfl
    have cb2 : ∀ (W : World) (t : TypeId), (convert 36 9 (.slice (some ⟨W.heap.size, 0, none⟩) 2 2)).run Try.prog (W.alloc (.cells #[.int .u8 x, .int .u8 x] t)) = .ok (.string ⟨#[xb, xb]⟩) (W.alloc (.cells #[.int .u8 x, .int .u8 x] t)) := fun W t => by
      refine run_convert_bytes_back (W.alloc (.cells #[.int .u8 x, .int .u8 x] t)) 36 9 5 ⟨W.heap.size, 0, none⟩ 2 [xb, xb] Try.underlying36 Try.underlying5 Try.underlying9 (fun j hj => ?_)
      have hj2 : j = 0 ∨ j = 1 := by simp at hj; omega
      rcases hj2 with rfl | rfl
      · show (W.alloc (.cells #[.int .u8 x, .int .u8 x] t)).cell? ⟨W.heap.size, 0 + 0, none⟩ = some (.int .u8 (xb.toNat : Int))
        rw [World.cell?_alloc_new, hxb]
        rfl
      · show (W.alloc (.cells #[.int .u8 x, .int .u8 x] t)).cell? ⟨W.heap.size, 0 + 1, none⟩ = some (.int .u8 (xb.toNat : Int))
        rw [World.cell?_alloc_new, hxb]
        rfl
    have h1 := runes_high xb (by omega)
    have h2 := runes_high2 xb (by omega)
    have s65 : shareR 65533 = 64 := by decide
    have K1 := Lib.hid (fun W => width_any8 e a2 W (by omega) _ _ (widthA_in hf))
    have K2 := Lib.hid (fun W => width_any8 ⟨#[xb]⟩ a2 W (by show 1 ≤ _; omega) _ _ (widthA_in hf))
    have C1 := Lib.hid (fun W => count_any e W (by omega))
    have C2 := Lib.hid (fun W => count_any ⟨#[xb, xb]⟩ W (by show 2 ≤ _; omega))
    have C3 := Lib.hid (fun W => count_any (Utf8.encode 65533) W (by decide))
    rw [runes_encode 65533 65533 (by decide)] at C3
    rw [re] at K1 C1
    rw [h1] at K2
    rw [h2] at C2
    have k1 : wideR [c] * a2 = shareR c * a2 := by simp [wideR]
    have k2 : wideR [65533] * a2 = 64 * a2 := by rw [show wideR [65533] = 64 from by decide]
    rw [k1] at K1
    rw [k2] at K2
    have sb := shareR_bd (c : Int)
    have mb := mul_bd (a := shareR c) (f := a2) (k := 1) ⟨sb.1, by omega⟩ hf
    have wm : IntKind.i64.wrap (shareR c * a2) = shareR c * a2 := IntWalk.i64_in _ (by omega)
    have w64 : IntKind.i64.wrap (64 * a2) = 64 * a2 := IntWalk.i64_in _ (by omega)
    have cb : c ≤ 2147483647 := by
      rw [← hc]
      split <;> omega
    have S1 := Lib.hid (fun W => mshare_any (c : Int) W (by omega) _ rfl)
    have ev := validRune_eq a0
    have cs : (a0 < 0 ∧ (c : Int) = 65533) ∨ (¬ a0 < 0 ∧ 1114111 < a0 ∧ (c : Int) = 65533) ∨ (¬ a0 < 0 ∧ ¬ 1114111 < a0 ∧ 55296 ≤ a0 ∧ a0 ≤ 57343 ∧ (c : Int) = 65533) ∨ (¬ a0 < 0 ∧ ¬ 1114111 < a0 ∧ ¬ 55296 ≤ a0 ∧ (c : Int) = a0) ∨ (¬ a0 < 0 ∧ ¬ 1114111 < a0 ∧ 55296 ≤ a0 ∧ ¬ a0 ≤ 57343 ∧ (c : Int) = a0) := by
      by_cases v : Utf8.valid a0 = true
      · rw [if_pos v] at hc
        rw [ev] at v
        have := of_decide_eq_true v
        omega
      · rw [if_neg v] at hc
        rw [ev] at v
        have : ¬ ((0 ≤ a0 ∧ a0 < 55296) ∨ (57343 < a0 ∧ a0 ≤ 1114111)) := fun h => v (decide_eq_true h)
        omega
    obtain ⟨m, hm⟩ : ∃ m, shareR c * a2 = m := ⟨_, rfl⟩
    obtain ⟨m64, hm64⟩ : ∃ m, 64 * a2 = m := ⟨_, rfl⟩
    rw [hm] at K1
    rw [hm64] at K2
    replace wm := wm.trans hm
    replace w64 := w64.trans hm64
    generalize shareR c = sc at S1 wm
    generalize (c : Int) = cz at S1 cs
    clear hf u8 i32 hc re en hx x1 x2 h1 h2 s65 k1 k2 sb mb cb ev hm hm64 hxb w0 w1
    rcases cs with ⟨g1, rfl⟩ | ⟨g1, g2, rfl⟩ | ⟨g1, g2, g3, g4, rfl⟩ | ⟨g1, g2, g3, rfl⟩ | ⟨g1, g2, g3, g4, rfl⟩
    all_goals
      go_enter Try.func7, Try.ntmps7
      go_wp2_with (first
      | (go_at_call 19; (with_reducible refine (KA.out _).mono ?_); rintro e w' ⟨rfl, hb⟩; (first | replace B := Lib.hid (B.out.trans (hb.mono B.out.size)) | replace B := Lib.hid ((B.out.alloc B.out.size _).trans (hb.mono (Nat.le_trans B.out.size (by simp))))); clear hb)
      | (go_at_call 15; (first | with_reducible refine (K1.out _).mono ?_ | with_reducible refine (K2.out _).mono ?_); rintro e w' ⟨rfl, hb⟩; (first | replace B := Lib.hid (B.out.trans (hb.mono B.out.size)) | replace B := Lib.hid ((B.out.alloc B.out.size _).trans (hb.mono (Nat.le_trans B.out.size (by simp))))); clear hb)
      | (go_at_call 17; (first | with_reducible refine (C1.out _).mono ?_ | with_reducible refine (C2.out _).mono ?_ | with_reducible refine (C3.out _).mono ?_); rintro e w' ⟨rfl, hb⟩; (first | replace B := Lib.hid (B.out.trans (hb.mono B.out.size)) | replace B := Lib.hid ((B.out.alloc B.out.size _).trans (hb.mono (Nat.le_trans B.out.size (by simp))))); clear hb)
      | (go_at_call 13; (with_reducible refine (S1.out _).mono ?_); rintro e w' ⟨rfl, hb⟩; (first | replace B := Lib.hid (B.out.trans (hb.mono B.out.size)) | replace B := Lib.hid ((B.out.alloc B.out.size _).trans (hb.mono (Nat.le_trans B.out.size (by simp))))); clear hb))
      go_ret
      exact ⟨rfl, B.out⟩
  · have hw : widthA ⟨#[97]⟩ a2 = (0, 2) := if_neg hf
    have K1 := Lib.hid (fun W => width_any8 ⟨#[97]⟩ a2 W (by decide) _ _ hw)
    have cs : a2 < 1 ∨ (¬ a2 < 1 ∧ 1000 < a2) := by omega
    clear hf hw
    rcases cs with h1 | ⟨h1, h2⟩
    all_goals
      go_enter Try.func7, Try.ntmps7
      go_wp2_with (first
        | (go_at_call 19; (with_reducible refine (KA.out _).mono ?_); rintro e w' ⟨rfl, hb⟩; replace B := Lib.hid (B.out.trans (hb.mono B.out.size)); clear hb)
        | (go_at_call 15; (with_reducible refine (K1.out _).mono ?_); rintro e w' ⟨rfl, hb⟩; replace B := Lib.hid (B.out.trans (hb.mono B.out.size)); clear hb))
      go_ret
      exact ⟨rfl, B.out⟩
end Go.Proofs.Ytcphjmfiiodbhaa
