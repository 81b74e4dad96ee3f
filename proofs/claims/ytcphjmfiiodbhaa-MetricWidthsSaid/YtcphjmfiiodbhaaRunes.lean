/-
  A text's characters, as the model decodes them: of a text behind one that ends with a byte below 128 they are those of both.
-/
import Derived.Lib.RuneCountTail
import Derived.Lib.DecodeN
import Derived.Test.YtcphjmfiiodbhaaProg
namespace Go.Proofs.Ytcphjmfiiodbhaa
open Go.Lib

theorem dec_n (n b0 b1 b2 b3 : Nat) (k : Nat) (h1 : 1 ≤ k) (hk : k < (decodeN n b0 b1 b2 b3).2) : k < n ∧ (k = 1 → b1 / 64 = 2) ∧ (k = 2 → b2 / 64 = 2) ∧ (k = 3 → b3 / 64 = 2) ∧ k ≤ 3 := by
  unfold decodeN at hk
  repeat' split at hk
  all_goals simp only at hk
  all_goals first | (exfalso; omega) | skip
  all_goals refine ⟨?_, ?_, ?_, ?_, ?_⟩
  all_goals omega
/-- bytes within a character are such as continue one -/
theorem dec_in (s : ByteArray) (i k : Nat) (hi : i < s.size) (h1 : 1 ≤ k) (hk : k < (Utf8.decode s i).2) : i + k < s.size ∧ (s.get! (i + k)).toNat / 64 = 2 := by
  rw [decode_at] at hk
  obtain ⟨a, b, c, d, e⟩ := dec_n _ _ _ _ _ k h1 hk
  refine ⟨by omega, ?_⟩
  rcases (show k = 1 ∨ k = 2 ∨ k = 3 by omega) with rfl | rfl | rfl
  · exact b rfl
  · exact c rfl
  · exact d rfl
theorem dec_size (s : ByteArray) (i : Nat) (hi : i < s.size) : i + (Utf8.decode s i).2 ≤ s.size := by
  by_cases h : (Utf8.decode s i).2 ≤ 1
  · omega
  · have := (dec_in s i ((Utf8.decode s i).2 - 1) hi (by omega) (by omega)).1
    omega
theorem dec_le (s : ByteArray) (i : Nat) : (Utf8.decode s i).2 ≤ 4 := by
  rw [decode_at]
  unfold decodeN
  repeat' split
  all_goals (simp only; omega)
theorem dec_rune (s : ByteArray) (i : Nat) : (Utf8.decode s i).1 ≤ 1114111 := by
  have hb : ∀ k, (s.get! k).toNat < 256 := fun k => (s.get! k).toNat_lt
  have h0 := hb i; have h1 := hb (i + 1); have h2 := hb (i + 2); have h3 := hb (i + 3)
  rw [decode_at]
  unfold decodeN
  repeat' split
  all_goals (simp only; omega)
/-- a character does not reach over a byte below 128 -/
theorem dec_stop (s : ByteArray) (i n : Nat) (hi : i < n) (hn : n < s.size) (ha : (s.get! n).toNat < 128) : i + (Utf8.decode s i).2 ≤ n := by
  by_cases h : i + (Utf8.decode s i).2 ≤ n
  · exact h
  · have := (dec_in s i (n - i) (by omega) (by omega) (by omega)).2
    rw [show i + (n - i) = n by omega] at this
    omega

/-- the characters from a place on -/
def rns (s : ByteArray) : Nat → Nat → List Nat
  | 0, _ => []
  | f + 1, pos => if pos < s.size then (Utf8.decode s pos).1 :: rns s f (pos + (Utf8.decode s pos).2) else []
/-- a text's characters -/
def runesOf (s : ByteArray) : List Nat := rns s s.size 0
theorem rns_end (s : ByteArray) (f pos : Nat) (h : ¬ pos < s.size) : rns s f pos = [] := by cases f <;> simp [rns, h]
theorem rns_fuel (s : ByteArray) : ∀ f g pos, s.size - pos ≤ f → s.size - pos ≤ g → rns s f pos = rns s g pos
  | 0, g, pos, hf, _ => by rw [rns_end s g pos (by omega)]; rfl
  | f + 1, 0, pos, _, hg => by rw [rns_end s (f + 1) pos (by omega)]; rfl
  | f + 1, g + 1, pos, hf, hg => by
    unfold rns
    by_cases h : pos < s.size
    · have hw := decode_width_pos s pos h
      rw [if_pos h, if_pos h, rns_fuel s f g _ (by omega) (by omega)]
    · rw [if_neg h, if_neg h]
/-- the characters from a place on, however many -/
def rnsAt (s : ByteArray) (pos : Nat) : List Nat := rns s s.size pos
theorem rnsAt_end (s : ByteArray) (pos : Nat) (h : ¬ pos < s.size) : rnsAt s pos = [] := rns_end s _ pos h
theorem rnsAt_next (s : ByteArray) (pos : Nat) (h : pos < s.size) : rnsAt s pos = (Utf8.decode s pos).1 :: rnsAt s (pos + (Utf8.decode s pos).2) := by
  have hw := decode_width_pos s pos h
  unfold rnsAt
  rw [rns_fuel s s.size (s.size + 1) pos (by omega) (by omega)]
  conv => lhs; unfold rns
  rw [if_pos h]
theorem rnsAt_len (s : ByteArray) : ∀ k pos, s.size - pos ≤ k → (rnsAt s pos).length ≤ s.size - pos
  | 0, pos, h => by rw [rnsAt_end s pos (by omega)]; simp
  | k + 1, pos, h => by
    by_cases hp : pos < s.size
    · have hw := decode_width_pos s pos hp
      have hz := dec_size s pos hp
      rw [rnsAt_next s pos hp, List.length_cons]
      have := rnsAt_len s k (pos + (Utf8.decode s pos).2) (by omega)
      omega
    · rw [rnsAt_end s pos hp]; simp
theorem runes_len (s : ByteArray) : (runesOf s).length ≤ s.size := by have := rnsAt_len s s.size 0 (by omega); exact this
theorem runes_pos (s : ByteArray) : 0 < (runesOf s).length ↔ s.size ≠ 0 := by
  constructor
  · intro h
    have := runes_len s
    omega
  · intro h
    show 0 < (rnsAt s 0).length
    rw [rnsAt_next s 0 (by omega)]
    simp
/-- a character in a text with more behind it -/
theorem dec_append (u t : ByteArray) (n i : Nat) (hu : u.size = n + 1) (ha : (u.get! n).toNat < 128) (hi : i ≤ n) (hg : ∀ k, k ≤ n → (u ++ t).get! k = u.get! k) : Utf8.decode (u ++ t) i = Utf8.decode u i := by
  have hz : (u ++ t).size = u.size + t.size := by simp
  have c : ∀ k, (i + k < (u ++ t).size ∧ ((u ++ t).get! (i + k)).toNat / 64 = 2) → i + k ≤ n → (i + k < u.size ∧ (u.get! (i + k)).toNat / 64 = 2) := fun k h hk => by
    rw [hg _ hk] at h
    exact ⟨by omega, h.2⟩
  have A := decode_at (u ++ t) i
  have B := decode_at u i
  rw [A, B, hg i hi]
  by_cases e0 : i = n
  · have : (u.get! i).toNat < 128 := by rw [e0]; exact ha
    unfold decodeN
    rw [if_pos this, if_pos this]
  · rw [hg (i + 1) (by omega)]
    by_cases e1 : i + 1 = n
    · rw [← e1] at ha
      have q : ¬ (u.get! (i + 1)).toNat / 64 = 2 := by omega
      unfold decodeN
      simp only [q, and_false, false_and, if_false]
    · rw [hg (i + 2) (by omega)]
      by_cases e2 : i + 2 = n
      · rw [← e2] at ha
        have q : ¬ (u.get! (i + 2)).toNat / 64 = 2 := by omega
        have c1 : (1 < (u ++ t).size - i) = (1 < u.size - i) := propext ⟨fun h => by omega, fun h => by omega⟩
        unfold decodeN
        simp only [q, and_false, false_and, if_false, c1]
      · rw [hg (i + 3) (by omega)]
        have c1 : (1 < (u ++ t).size - i) = (1 < u.size - i) := propext ⟨fun h => by omega, fun h => by omega⟩
        have c2 : (2 < (u ++ t).size - i) = (2 < u.size - i) := propext ⟨fun h => by omega, fun h => by omega⟩
        have c3 : (3 < (u ++ t).size - i) = (3 < u.size - i) := propext ⟨fun h => by omega, fun h => by omega⟩
        unfold decodeN
        simp only [c1, c2, c3]
theorem get_left (u t : ByteArray) (k : Nat) (h : k < u.size) : (u ++ t).get! k = u.get! k := by
  rw [← getD_get!', ← getD_get!']
  have e : (u ++ t).data.toList = u.data.toList ++ t.data.toList := by simp [ByteArray.data_append]
  rw [e]
  have hl : k < u.data.toList.length := by rw [← size_eq]; exact h
  simp only [List.getD, List.getElem?_append_left hl]
theorem append_tail (u t : ByteArray) : (u ++ t).extract u.size (u ++ t).size = t := by
  apply ByteArray.ext
  apply Array.ext'
  rw [extract_data, ByteArray.data_append, Array.toList_append, List.drop_left' (size_eq u).symm]
  apply List.take_of_length_le
  have h1 := size_eq t
  have h2 : (u ++ t).size = u.size + t.size := by simp
  omega
theorem dec_tail (u t : ByteArray) (p : Nat) : Utf8.decode (u ++ t) (u.size + p) = Utf8.decode t p := by
  have := tail_decode (u ++ t) u.size p
  rw [append_tail] at this
  exact this.symm
theorem rns_tail (u t : ByteArray) : ∀ f p, rns (u ++ t) f (u.size + p) = rns t f p
  | 0, _ => rfl
  | f + 1, p => by
    have hz : (u ++ t).size = u.size + t.size := by simp
    unfold rns
    by_cases h : p < t.size
    · rw [if_pos (by omega), if_pos h, dec_tail, Nat.add_assoc, rns_tail u t f]
    · rw [if_neg (by omega), if_neg h]
theorem rnsAt_tail (u t : ByteArray) (p : Nat) : rnsAt (u ++ t) (u.size + p) = rnsAt t p := by
  have hz : (u ++ t).size = u.size + t.size := by simp
  unfold rnsAt
  rw [rns_tail]
  exact rns_fuel t _ _ p (by omega) (by omega)
/-- two texts, of which the first one ends with a byte below 128 -/
theorem rnsAt_append (u t : ByteArray) (n : Nat) (hu : u.size = n + 1) (ha : (u.get! n).toNat < 128) : ∀ k i, u.size - i ≤ k → i ≤ u.size → rnsAt (u ++ t) i = rnsAt u i ++ runesOf t
  | k, i, hk, hi => by
    by_cases e : i = u.size
    · have := rnsAt_tail u t 0
      rw [Nat.add_zero] at this
      rw [e, this, rnsAt_end u u.size (by omega)]
      rfl
    · match k with
      | 0 => exact absurd hk (by omega)
      | k + 1 =>
        have hz : (u ++ t).size = u.size + t.size := by simp
        have hw := decode_width_pos u i (by omega)
        have hs := dec_size u i (by omega)
        rw [rnsAt_next u i (by omega), rnsAt_next (u ++ t) i (by omega), dec_append u t n i hu ha (by omega) (fun j hj => get_left u t j (by omega)), rnsAt_append u t n hu ha k _ (by omega) hs]
        rfl
theorem runes_append (u t : ByteArray) (n : Nat) (hu : u.size = n + 1) (ha : (u.get! n).toNat < 128) : runesOf (u ++ t) = runesOf u ++ runesOf t := rnsAt_append u t n hu ha u.size 0 (by omega) (by omega)
/-- a text that ends with a byte below 128 ends with that character -/
theorem rnsAt_last (u : ByteArray) (n : Nat) (hu : u.size = n + 1) (c : Nat) (hc : (u.get! n).toNat = c) (ha : c < 128) : ∀ k i, n - i ≤ k → i ≤ n → ∃ L, rnsAt u i = L ++ [c]
  | k, i, hk, hi => by
    by_cases e : i = n
    · subst e
      have d : Utf8.decode u i = (c, 1) := by
        rw [decode_at]
        unfold decodeN
        rw [if_pos (by omega), hc]
      refine ⟨[], ?_⟩
      rw [rnsAt_next u i (by omega), d, rnsAt_end u _ (by show ¬ i + 1 < u.size; omega)]
      rfl
    · match k with
      | 0 => exact absurd hk (by omega)
      | k + 1 =>
        have hw := decode_width_pos u i (by omega)
        have hs := dec_stop u i n (by omega) (by omega) (by omega)
        obtain ⟨L, hL⟩ := rnsAt_last u n hu c hc ha k (i + (Utf8.decode u i).2) (by omega) hs
        exact ⟨(Utf8.decode u i).1 :: L, by rw [rnsAt_next u i (by omega), hL]; rfl⟩
theorem runes_last (u : ByteArray) (n : Nat) (hu : u.size = n + 1) (c : Nat) (hc : (u.get! n).toNat = c) (ha : c < 128) : ∃ L, runesOf u = L ++ [c] := rnsAt_last u n hu c hc ha n 0 (by omega) (by omega)

/-- the bytes that narrow characters, and broad ones, are -/
def narrowL : List Int := [10, 32, 33, 39, 40, 41, 44, 46, 58, 59, 91, 93, 102, 105, 106, 108, 116, 124]
def broadL : List Int := [37, 64, 77, 87, 109, 119]
/-- a character's share -/
def shareR (r : Int) : Int :=
  if 4352 ≤ r then 64 else if 768 ≤ r ∧ r ≤ 879 then 0 else if r ∈ narrowL then 16 else if r < 32 then 0 else if r ∈ broadL then 48 else if 65 ≤ r ∧ r ≤ 90 then 40 else 32
theorem shareR_bd (r : Int) : 0 ≤ shareR r ∧ shareR r ≤ 64 := by
  unfold shareR
  repeat' split
  all_goals omega
/-- how wide characters are together, in 64ths of a font's size -/
def wideR : List Nat → Int
  | [] => 0
  | r :: l => shareR r + wideR l
theorem wideR_append (a b : List Nat) : wideR (a ++ b) = wideR a + wideR b := by
  induction a with
  | nil => simp [wideR]
  | cons x a ih => simp only [List.cons_append, wideR, ih]; omega
theorem wideR_bd (l : List Nat) : 0 ≤ wideR l ∧ wideR l ≤ 64 * l.length := by
  induction l with
  | nil => simp [wideR]
  | cons x a ih =>
    have := shareR_bd x
    simp only [wideR, List.length_cons]
    omega
end Go.Proofs.Ytcphjmfiiodbhaa
