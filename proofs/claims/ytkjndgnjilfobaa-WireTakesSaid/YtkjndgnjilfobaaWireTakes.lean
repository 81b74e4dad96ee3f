/-
  The law WireTakes: of any bytes, by any schema, the values are taken that the document tells, or none.
-/
import Derived.Test.YtkjndgnjilfobaaTakesFacts
namespace Go.Proofs.Ytkjndgnjilfobaa
open Go.RowKit

set_option maxRecDepth 100000 in
set_option maxHeartbeats 8000000 in
theorem takes_walk (s : ByteArray) (A : Option Addr) (n c : Nat) (f : Nat → Nat) (w : World) (hs : s.size ≤ 9223372036854775807) (hB : Bytes w A n f) (hA : A = none → n = 0 ∧ c = 0) (hnc : n ≤ c) (hcc : c ≤ 9223372036854775807) :
    Calls Try.prog 4 #[.string s, .slice A n c] w fun e w' => e = .returned (.bool true) ∧ Below w.heap.size w w' := by
  have H := Lib.hid hB
  have HA := Lib.hid hA
  clear hB hA
  by_cases h1 : 100 < s.size
  · have z1 : (100 : Int) < s.size := by omega
    go_enter Try.func4, Try.ntmps4
    go_wp2
    go_ret
    exact ⟨rfl, Below.refl _ _⟩
  · have z1 : ¬ (100 : Int) < s.size := by omega
    by_cases h2 : 2000 < n
    · have z2 : (2000 : Int) < n := by omega
      have z3 : decide ((2000 : Int) < n) = true := by simpa using z2
      go_enter Try.func4, Try.ntmps4
      go_wp2
      go_ret
      exact ⟨rfl, Below.refl _ _⟩
    · have z2 : ¬ (2000 : Int) < n := by omega
      have z3 : decide ((2000 : Int) < n) = false := by simpa using z2
      have BL := Lib.hid (bytes_lt H.out)
      have hn2 : n ≤ 1048576 := by omega
      have C := Lib.hid (copy_any A n c f w H.out hn2 HA.out)
      obtain ⟨bl, hbl⟩ : ∃ bl, seg f 0 n = bl := ⟨_, rfl⟩
      have HBL := Lib.hid hbl
      have hll : bl.length = n := by rw [← hbl, seg_len]
      have HLL := Lib.hid hll
      rw [hbl] at C BL
      clear hbl hll
      go_enter Try.func4, Try.ntmps4
      go_wp2_with (first | (go_at_call 17; refine C.out.mono ?_))
      rintro e w1 ⟨A1, c1, rfl, q1, q2, q3, hB1, -, hb1⟩
      rw [HLL.out] at q1 q3 hB1 ⊢
      unfold maxLen at q2
      have hb1n := Lib.hid hB1
      have B1 := Lib.hid hb1
      have Q3 := Lib.hid q3
      have PK : Hid (seg (pick bl) 0 n = bl) := Lib.hid (by rw [← HLL.out]; exact pick_seg bl)
      clear hB1 hb1 q3
      have T1 := Lib.hid (takeW2_any s A1 n c1 (pick bl) w1 hs hb1n.out Q3.out q1 (by omega) (by omega))
      rw [PK.out] at T1
      go_wp2_with (first | (go_at_call 18; refine T1.out.mono ?_))
      intro e w2 ht
      obtain ⟨code, u, m, B, d, V, rfl, hb2, tf, vf⟩ := take2_facts ht
      clear ht
      have B2 := Lib.hid hb2
      have TF := Lib.hid tf
      have VF := Lib.hid vf
      clear hb2 tf vf
      have T2 := Lib.hid (refTakes_any s A n c f w2 hs (H.out.below (B1.out.trans (B2.out.mono B1.out.size))) HA.out hnc hcc (by omega))
      rw [HBL.out] at T2
      go_wp2_with (first | (go_at_call 19; refine T2.out.mono ?_))
      intro e w3 ht
      obtain ⟨code', u', m', B', d', V', rfl, hb3, tf⟩ := take_facts ht
      clear ht
      have TF' := Lib.hid tf
      have B3 := Lib.hid hb3
      clear tf hb3
      obtain ⟨e1, e2, e3⟩ := facts_uniq TF.out TF'.out
      subst e1 e2
      have hc1 : (code != code) = false := by simp
      have hu1 : ((u : Int) != (u : Int)) = false := by simp
      have VI3 : Hid (ValsIn w3 B m d V) := Lib.hid ⟨TF.out.1.1.1.below B3.out, TF.out.1.1.2⟩
      have SA := Lib.hid (refSame4_any B B' m m' d d' V V' w3 VI3.out TF'.out.1.1)
      have hdec : decide (means V m = means V' m') = true := by simp [e3]
      rw [hdec] at SA
      clear hdec e3
      go_wp2_with (first | (go_at_call 15; refine SA.out.mono ?_))
      rintro e w4 ⟨rfl, hb4⟩
      have B4 : Hid (Below w1.heap.size w1 w4) := Lib.hid (B2.out.trans ((B3.out.trans (hb4.mono B3.out.size)).mono B2.out.size))
      have BK : Hid (Below w2.heap.size w2 w4) := Lib.hid (B3.out.trans (hb4.mono B3.out.size))
      obtain ⟨g, hgB, hW⟩ : ∃ g, (0 < m → B = some ⟨g, 0, none⟩) ∧ Writes w1.heap.size g w2 m V := by
        rcases writes_of VF.out TF.out.1.1 with h0 | ⟨g, e, h⟩
        · exact ⟨0, fun h => by omega, fun j hj => by omega, fun j hj => by omega⟩
        · exact ⟨g, fun _ => e, h⟩
      have W4 := Lib.hid (hW.keep BK.out)
      have HG := Lib.hid hgB
      have hm64 := TF.out.1.2
      have BNB : Hid (∀ j, j < m → (V j).bn ≤ 140737488351232) := Lib.hid (fun j hj => (TF.out.1.1.1.1 j hj).2.2.1.2.2.1)
      clear hb4 hgB hW BK VI3 SA T2 TF' B3 VF TF B2 T1 C
      go_wp2_with fail
      go_loopg [12] m (fun g1 vi wr => ∃ i : Nat, vi = .int .i64 i ∧ i ≤ m ∧ m - i ≤ g1 ∧ Hid (Writes w1.heap.size g wr m V) ∧ Hid (Below w1.heap.size w1 wr))
      case atStart => exact ⟨0, rfl, by omega, by omega, W4, B4⟩
      case round =>
        clear W4 B4
        rename World => W
        obtain ⟨i, rfl, hi, hg1, WR, BW⟩ := hrel
        by_cases hlt : i < m
        · have hiz : (i : Int) < m := by omega
          have hi0 : (0 : Int) ≤ i := by omega
          obtain rfl := HG.out (by omega)
          have bnb := BNB.out i hlt
          go_wp2_with fail
          go_loopg [13] (V i).bn (fun g2 vk wr2 => ∃ k : Nat, vk = .int .i64 k ∧ k ≤ (V i).bn ∧ (V i).bn - k ≤ g2 ∧ Hid (Writes w1.heap.size g wr2 m V) ∧ Hid (Below w1.heap.size w1 wr2))
          case atStart => exact ⟨0, rfl, by omega, by omega, WR, BW⟩
          case round =>
            clear WR BW
            rename World => W2
            obtain ⟨k, rfl, hk, hg2, WR, BW⟩ := hrel
            have HH := WR.out.1 i hlt
            rw [Nat.zero_add] at HH
            by_cases hlk : k < (V i).bn
            · have hkz : (k : Int) < ((V i).bn : Nat) := by omega
              have hk0 : (0 : Int) ≤ k := by omega
              obtain ⟨b, off, x, e, hb, hg, hx, hc, hf⟩ := WR.out.2 i hlt k hlk
              rw [e] at HH
              have WS : Hid (Writes w1.heap.size g (W2.setCell ⟨b, off + k, none⟩ (.int .u8 (((x : Int) + 1) % 256))) m V) := Lib.hid (by
                have := WR.out.set (o := off + k) hg (show (x + 1) % 256 < 256 by omega)
                rwa [show (((x + 1) % 256 : Nat) : Int) = ((x : Int) + 1) % 256 by omega] at this)
              have BS : Hid (Below w1.heap.size w1 (W2.setCell ⟨b, off + k, none⟩ (.int .u8 (((x : Int) + 1) % 256)))) := Lib.hid (BW.out.setCell hb _)
              clear WR BW
              go_wp2_with fail
              go_roundg ((V i).bn - (k + 1))
              case measure => omega
              case rel => exact ⟨k + 1, by go_num, by omega, Nat.le_refl _, WS, BS⟩
            · obtain rfl : k = (V i).bn := by omega
              go_wp2_with fail
              go_roundg (m - (i + 1))
              case measure => omega
              case rel => exact ⟨i + 1, by go_num, by omega, Nat.le_refl _, WR, BW⟩
        · obtain rfl : i = m := by omega
          have W1B := Lib.hid (Lib.hid (B1.out.trans (BW.out.mono B1.out.size)))
          have H5 := Lib.hid (hb1n.out.below BW.out)
          have T5 := Lib.hid (wholeW_any s A1 n c1 (pick bl) W hs H5.out Q3.out q1 (by omega) (by omega))
          rw [PK.out] at T5
          go_wp2_with (first | (go_at_call 20; refine T5.out.mono ?_))
          intro e w5 ht
          obtain ⟨code5, m5, B5, d5, V5, rfl, hb5, wf⟩ := whole_facts ht
          clear ht
          have F5 := Lib.hid wf
          have BB5 := Lib.hid (W1B.out.out.trans (hb5.mono W1B.out.out.size))
          have BC5 := Lib.hid (BW.out.trans (hb5.mono BW.out.size))
          clear wf hb5
          have T6 := Lib.hid (refWhole4_any s A n c f w5 hs (H.out.below BB5.out) HA.out hnc hcc (by omega))
          rw [HBL.out] at T6
          go_wp2_with (first | (go_at_call 21; refine T6.out.mono ?_))
          intro e w6 ht
          obtain ⟨code6, m6, B6, d6, V6, rfl, hb6, wf⟩ := whole_facts ht
          clear ht
          have F6 := Lib.hid wf
          have BB6 := Lib.hid (BB5.out.trans (hb6.mono BB5.out.size))
          have BC6 := Lib.hid (BC5.out.trans (hb6.mono BC5.out.size))
          have VI6 : Hid (ValsIn w6 B5 m5 d5 V5) := Lib.hid ⟨F5.out.1.1.below hb6, F5.out.1.2⟩
          clear wf hb6
          obtain ⟨e1, e3⟩ := wfacts_uniq F5.out F6.out
          subst e1
          have hc5 : (code5 == code5) = true := by simp
          have SA := Lib.hid (refSame4_any B5 B6 m5 m6 d5 d6 V5 V6 w6 VI6.out F6.out.1)
          have hdec : decide (means V5 m5 = means V6 m6) = true := by simp [e3]
          rw [hdec] at SA
          clear hdec e3
          go_wp2_with (first | (go_at_call 15; refine SA.out.mono ?_))
          rintro e w7 ⟨rfl, hb7⟩
          have BB7 := Lib.hid (BB6.out.trans (hb7.mono BB6.out.size))
          have BC7 := Lib.hid (BC6.out.trans (hb7.mono BC6.out.size))
          clear hb7
          have SB := Lib.hid (same_any A1 A n n c1 c (pick bl) f w7 (hb1n.out.below BC7.out) (H.out.below BB7.out) (by omega) (by omega) true (by rw [PK.out, HBL.out]; simp))
          clear SA VI6 F5 F6 T5 T6 H5
          go_wp2_with (first | (go_at_call 14; refine SB.out.mono ?_))
          rintro e w8 ⟨rfl, hd⟩
          have BB8 := Lib.hid (BB7.out.trans (hd.below.mono BB7.out.size))
          clear hd
          go_wp2_with fail
          go_ret
          exact ⟨rfl, BB8.out⟩

theorem walkWireTakes (a0 : ByteArray) (a1 : Option Addr) (len1 cap1 : Nat) (z1 : List Int) (w : World) (w0 : a0.size ≤ maxLen) (w1 : RowIn .u8 w a1 len1 cap1 z1) :
    Calls Try.prog 4 #[.string a0, .slice a1 len1 cap1] w fun e w' => e = .returned (.bool true) ∧ Below w.heap.size w w' :=
  takes_walk a0 a1 len1 cap1 _ w (by unfold maxLen at w0; omega) w1.bytes w1.nil w1.bd.1 w1.bd.2
end Go.Proofs.Ytkjndgnjilfobaa
