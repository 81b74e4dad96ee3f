/-
  crc.With tells a datagram with its sum, in a row of bytes of the call's own.
-/
import Derived.Test.YtfdjedhbbbdeiaaSum
import Derived.Test.YtfdjedhbbbdeiaaRefWith
import Derived.Test.YtfdjedhbbbdeiaaAppendB
import Derived.Laws.MakeOwn
namespace Go.Proofs.Ytfdjedhbbbdeiaa
open Go.RowKit

theorem made_room (W : World) (n : Nat) (hn : n ≤ 1048576) : ∃ W', (Instr.makeSlice 22 (.int .i64 0) (.int .i64 ((n : Int) + 4))).run Try.prog W = .ok (.slice (some ⟨W.heap.size, 0, none⟩) 0 (n + 4)) W' ∧ owns W' W.heap.size 5 .u8 (.slice (some ⟨W.heap.size, 0, none⟩) 0 (n + 4)) [] ∧ Below W.heap.size W W' := by
  obtain ⟨i0, hi, hz0, hz1, hz2⟩ := info_parts Try.info5
  obtain ⟨w', h1, h2, h3⟩ := run_make_own (P := Try.prog) W W.heap.size 22 5 i0 (.int .u8 0) 1 Try.underlying22 hi hz0 hz1 .i64 .i64 (n + 4) (by rw [hz2]; omega) (by unfold maxLen; omega) (Nat.le_refl _)
  exact ⟨w', h1, h2, (Below.refl _ W).grown h3 (Nat.le_refl _) (fun k e => by cases e)⟩

theorem byte_num (s k : Nat) : (s : Int) / 2 ^ (8 * k) % 256 = ((s / 256 ^ k % 256 : Nat) : Int) := by
  rw [show ((2 : Int) ^ (8 * k)) = ((2 ^ (8 * k) : Nat) : Int) by rw [Int.natCast_pow]; rfl, ← Int.natCast_ediv, show 2 ^ (8 * k) = 256 ^ k by rw [Nat.pow_mul]]
  omega

set_option maxRecDepth 100000 in
set_option maxHeartbeats 4000000 in
theorem with_any (A : Option Addr) (n c : Nat) (f : Nat → Nat) (w : World) (h : Bytes w A n f) (hn : n ≤ 1000000) (hA : A = none → n = 0 ∧ c = 0) :
    Calls Try.prog 11 #[.slice A n c] w (Made w (seg (withSum f n) 0 (n + 4))) := by
  obtain ⟨i0, hi, hz0, hz1, hz2⟩ := info_parts Try.info5
  have WB := Lib.hid (withSum_bytes (f := f) (n := n) (fun i hi => h.bd hi) (n + 4))
  obtain ⟨w1, hmk, ho, hb⟩ := made_room w n (by omega)
  have H := Lib.hid h
  have H1 := Lib.hid (h.below hb)
  have O1 := Lib.hid ho
  have B1 := Lib.hid hb
  have HA := Lib.hid hA
  clear h hA ho hb
  go_enter Try.func11, Try.ntmps11
  have B1s := Lib.hid (B1.out.size)
  go_wp2_with (at_builtin; refine wpList_append_more rfl _ _ rfl w.heap.size _ [] rfl O1.out A n c f rfl HA.out H1.out (by simp; omega) B1s.out ?_)
  intro A2 c2 w2 hown hc1 hc2 hbel
  have O2 : Hid (owns w2 w.heap.size 5 .u8 (.slice A2 n c2) (seg (withSum f n) 0 (n + 0))) := Lib.hid (by
    rw [Nat.add_zero, ← withSum_head]; simpa using hown)
  have B2 := Lib.hid (B1.out.trans hbel)
  have H2 := Lib.hid (H.out.below B2.out)
  clear hown hbel H1 O1 B1
  go_wp2_with fail
  refine (sum_any A n c f w2 H2.out (by omega)).mono ?_
  rintro e w3 ⟨rfl, hb⟩
  have O3 := Lib.hid (O2.out.keep hb)
  have B3 := Lib.hid (B2.out.trans (hb.mono B2.out.size))
  clear hb O2 B2 H H2 HA B1s
  have SL := Lib.hid (sumOf_lt f n)
  go_wp2
  go_loopg [3, 14] 4 (fun g1 vo vi wr => ∃ k : Nat, vi = .int .i64 k ∧ k ≤ 4 ∧ 4 - k ≤ g1 ∧ Hid (owns wr w.heap.size 5 .u8 vo (seg (withSum f n) 0 (n + k))) ∧ Hid (Below w.heap.size w wr))
  case atStart => exact ⟨0, rfl, by omega, by omega, O3, B3⟩
  case round =>
    clear O3 B3
    obtain ⟨k, rfl, hk, hg1, O3, B3⟩ := hrel
    by_cases hlt : k < 4
    · have hkz : (k : Int) < 4 := by omega
      have hk8 : IntKind.i64.wrap ((k : Int) * 8) = ((8 * k : Nat) : Int) := by rw [show (k : Int) * 8 = ((8 * k : Nat) : Int) by omega]; exact IntWalk.i64_in _ (by omega)
      have S1 := Lib.hid (withSum_next f n k)
      have e1 : ((sumOf f n : Nat) : Int) / 2 ^ (8 * k) % 256 = ((sumOf f n / 256 ^ k % 256 : Nat) : Int) := byte_num _ k
      have hy : sumOf f n / 256 ^ k % 256 < 256 := Nat.mod_lt _ (by omega)
      generalize sumOf f n / 256 ^ k % 256 = y at e1 S1 hy
      have OA : Hid (owns (wr.alloc (.cells #[.int .u8 (y : Nat)] 5)) w.heap.size 5 .u8 u3 (seg (withSum f n) 0 (n + k))) := Lib.hid (O3.out.keep ((Below.refl _ _).alloc (Nat.le_refl _) _))
      have BA : Hid (Bytes (wr.alloc (.cells #[.int .u8 (y : Nat)] 5)) (some ⟨wr.heap.size, 0, none⟩) 1 (fun _ => y)) := Lib.hid ⟨fun i hi => hy, fun _ => ⟨wr.heap.size, 0, rfl, by rw [World.size_alloc]; omega, fun i hi => by
        obtain rfl : i = 0 := by omega
        simp [World.cell?_alloc_at]⟩⟩
      have L1 : Hid ((seg (withSum f n) 0 (n + k)).length = n + k) := Lib.hid (seg_len _ _ _)
      have sz : Hid (w.heap.size ≤ (wr.alloc (.cells #[.int .u8 (y : Nat)] 5)).heap.size) := Lib.hid (by rw [World.size_alloc]; have := B3.out.size; omega)
      go_wp2_with (at_builtin; refine wpList_append_more rfl _ _ rfl w.heap.size _ (seg (withSum f n) 0 (n + k)) rfl OA.out (some ⟨wr.heap.size, 0, none⟩) 1 1 (fun _ => y) rfl (fun e => by cases e) BA.out (by rw [L1.out]; omega) sz.out ?_)
      intro A5 c5 w5 hown hc3 hc4 hbel
      have O5 : Hid (owns w5 w.heap.size 5 .u8 (.slice A5 (n + k + 1) c5) (seg (withSum f n) 0 (n + (k + 1)))) := Lib.hid (by
        rw [← S1.out]; rw [L1.out] at hown; simpa [seg] using hown)
      have B5 : Hid (Below w.heap.size w w5) := Lib.hid ((B3.out.alloc B3.out.size _).trans hbel)
      rw [L1.out]
      clear hown hbel OA BA O3 B3 S1
      go_wp2
      go_roundg (4 - (k + 1))
      case measure => omega
      case rel => exact ⟨k + 1, by go_num, by omega, Nat.le_refl _, O5, B5⟩
    · obtain rfl : k = 4 := by omega
      have M : Hid (Made w (seg (withSum f n) 0 (n + 4)) (.returned u3) wr) := Lib.hid (made_of WB.out O3.out (Nat.le_refl _) B3.out)
      clear O3 B3
      go_wp2
      go_ret
      exact M.out
end Go.Proofs.Ytfdjedhbbbdeiaa
