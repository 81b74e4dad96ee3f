/-
  The document's With and Without: bytes with their sum behind them; bytes whose sum stands behind them, without it.
-/
import Derived.Test.YtfdjedhbbbdeiaaRefCrc
namespace Go.Proofs.Ytfdjedhbbbdeiaa
open Go.RowKit

theorem withSum_head (f : Nat → Nat) (n : Nat) : seg f 0 n = seg (withSum f n) 0 n := seg_congr fun i hi => by
  rw [Nat.zero_add]; unfold withSum; rw [if_pos hi]
theorem withSum_next (f : Nat → Nat) (n k : Nat) : seg (withSum f n) 0 (n + k) ++ [sumOf f n / 256 ^ k % 256] = seg (withSum f n) 0 (n + (k + 1)) := by
  rw [← Nat.add_assoc, seg_succ, Nat.zero_add]
  congr 2
  unfold withSum
  rw [if_neg (by omega), show n + k - n = k by omega]
theorem withSum_bytes {f : Nat → Nat} {n : Nat} (h : ∀ i, i < n → f i < 256) (k : Nat) : ∀ x ∈ seg (withSum f n) 0 k, x < 256 := by
  intro x hx
  obtain ⟨i, _, rfl⟩ := seg_mem hx
  exact withSum_lt h _

set_option maxRecDepth 100000 in
set_option maxHeartbeats 2000000 in
theorem refWith_any (A : Option Addr) (n c : Nat) (f : Nat → Nat) (w : World) (h : Bytes w A n f) (hn : n ≤ 1000000) (hA : A = none → n = 0 ∧ c = 0) :
    Calls Try.prog 15 #[.slice A n c] w (Made w (seg (withSum f n) 0 (n + 4))) := by
  obtain ⟨i0, hi, hz0, hz1, hz2⟩ := info_parts Try.info5
  have H := Lib.hid h
  have HA := Lib.hid hA
  have WB := Lib.hid (withSum_bytes (f := f) (n := n) (fun i hi => h.bd hi) (n + 4))
  clear h hA
  go_enter Try.func15, Try.ntmps15
  go_wp2_with fail
  refine (refSum_any A n c f w H.out (by omega)).mono ?_
  rintro e w1 ⟨rfl, hb⟩
  have B1 := Lib.hid hb
  have H1 := Lib.hid (H.out.below hb)
  clear hb
  go_wp2_with fail
  refine (copy_any A n c f w1 H1.out (by omega) HA.out).mono ?_
  rintro e w2 ⟨A2, c2, rfl, h1, h2, h3, hB, ho, hbel⟩
  rw [seg_len] at *
  have OW : Hid (owns w2 w1.heap.size 5 .u8 (.slice A2 n c2) (seg (withSum f n) 0 (n + 0))) := Lib.hid (by rw [Nat.add_zero, ← withSum_head]; exact ho)
  have B2 : Hid (Below w1.heap.size w1 w2) := Lib.hid hbel
  clear h1 h2 h3 hB ho hbel H H1 HA
  have SL := Lib.hid (sumOf_lt f n)
  go_wp2
  go_loopg [3, 4, 5] 4 (fun g1 vs vo vi wr => ∃ k : Nat, vi = .int .i64 k ∧ vs = .int .u32 ((sumOf f n / 256 ^ k : Nat) : Int) ∧ k ≤ 4 ∧ 4 - k ≤ g1 ∧ Hid (owns wr w1.heap.size 5 .u8 vo (seg (withSum f n) 0 (n + k))) ∧ Hid (Below w1.heap.size w1 wr))
  case atStart => exact ⟨0, rfl, by rw [Nat.pow_zero, Nat.div_one], by omega, by omega, OW, B2⟩
  case round =>
    clear OW B2
    obtain ⟨k, rfl, rfl, hk, hg1, OW, B2⟩ := hrel
    by_cases hlt : k < 4
    · have hkz : (k : Int) < 4 := by omega
      have S1 := Lib.hid (withSum_next f n k)
      have S2 : Hid (sumOf f n / 256 ^ (k + 1) = sumOf f n / 256 ^ k / 256) := Lib.hid (by rw [Nat.pow_succ, Nat.div_div_eq_div_mul])
      have hs : sumOf f n / 256 ^ k < 4294967296 := Nat.lt_of_le_of_lt (Nat.div_le_self _ _) SL.out
      generalize sumOf f n / 256 ^ k = s at S1 S2 hs ⊢
      have L1 : Hid ((seg (withSum f n) 0 (n + k)).length = n + k) := Lib.hid (seg_len _ _ _)
      have OA : Hid (owns (wr.alloc (.cells #[.int .u8 ((s : Int) % 256)] 5)) w1.heap.size 5 .u8 u4 (seg (withSum f n) 0 (n + k))) := Lib.hid (OW.out.keep ((Below.refl _ _).alloc (Nat.le_refl _) _))
      have C1 : Hid (∀ j u, ([Value.int .u8 ((s : Int) % 256)])[j]? = some u → (wr.alloc (.cells #[.int .u8 ((s : Int) % 256)] 5)).cell? (Addr.add ⟨wr.heap.size, 0, none⟩ j) = some u) := Lib.hid (fun j u hj => by
        match j, hj with
        | 0, hj => simp at hj; subst hj; simp [Addr.add, World.cell?_alloc_at])
      have C2 : Hid (∀ u ∈ [Value.int .u8 ((s : Int) % 256)], u.oneCell' = true) := Lib.hid (fun u hu => by simp at hu; subst hu; rfl)
      have sz := B2.out.size
      go_wp2_with (at_builtin; refine wpList_append_own _ rfl _ _ 22 rfl w1.heap.size 5 i0 (.int .u8 0) 1 1 Try.underlying22 hi hz0 hz1 hz2 rfl (by decide) _ (seg (withSum f n) 0 (n + k)).length _ rfl OA.out ⟨wr.heap.size, 0, none⟩ 1 1 [.int .u8 ((s : Int) % 256)] rfl rfl C1.out C2.out (by rw [L1.out]; unfold maxLen; omega) (by rw [L1.out]; omega) (by simp; omega) ?_)
      intro v' w3 hown hgrow _
      have O2 : Hid (owns w3 w1.heap.size 5 .u8 v' (seg (withSum f n) 0 (n + (k + 1)))) := Lib.hid (by
        rw [← S1.out]; unfold owns
        rw [List.length_append, List.map_append]
        simpa using hown)
      have B3 : Hid (Below w1.heap.size w1 w3) := Lib.hid ((B2.out.alloc sz _).grown hgrow (by simp; omega) (fun g e => (OA.out.lt g e).1))
      clear hown hgrow OA OW C1 C2 B2 S1
      go_wp2
      go_roundg (4 - (k + 1))
      case measure => omega
      case rel => exact ⟨k + 1, by go_num, by rw [S2.out]; rfl, by omega, Nat.le_refl _, O2, B3⟩
    · obtain rfl : k = 4 := by omega
      have M : Hid (Made w (seg (withSum f n) 0 (n + 4)) (.returned u4) wr) := Lib.hid (made_of WB.out OW.out B1.out.size (B1.out.trans (B2.out.mono B1.out.size)))
      clear OW B2
      go_wp2
      go_ret
      exact M.out
end Go.Proofs.Ytfdjedhbbbdeiaa
