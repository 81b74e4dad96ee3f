/-
  The law CrcSums: any datagram has the sum that the document says, and stands so with it; it stays, and what is told is the caller's own.
-/
import Derived.Test.YtfdjedhbbbdeiaaWhole
namespace Go.Proofs.Ytfdjedhbbbdeiaa
open Go.RowKit

set_option maxRecDepth 100000 in
set_option maxHeartbeats 8000000 in
theorem sums_walk (A : Option Addr) (n c : Nat) (f : Nat → Nat) (w : World) (h : Bytes w A n f) (hA : A = none → n = 0 ∧ c = 0) :
    Calls Try.prog 3 #[.slice A n c] w fun e w' => e = .returned (.bool true) ∧ Below w.heap.size w w' := by
  have H := Lib.hid h
  have HA := Lib.hid hA
  clear h hA
  by_cases hbig : 2000 < n
  · go_enter Try.func3, Try.ntmps3
    go_wp2_with fail
    go_ret
    exact ⟨rfl, Below.refl _ _⟩
  · go_enter Try.func3, Try.ntmps3
    go_wp2_with fail
    refine (copy_any A n c f w H.out (by omega) HA.out).mono ?_
    rintro e w1 ⟨B, d, rfl, h1, h2, h3, hB, -, hbel⟩
    have J := Lib.hid (made_bytes hB)
    have K := Lib.hid hbel
    have I1 := Lib.hid (H.out.below hbel)
    rw [seg_len] at *
    have HB := Lib.hid h3
    clear hB hbel H h3
    go_wp2
    go_loopg [4] 2 (fun g1 vi wr => ∃ k : Nat, vi = .int .i64 k ∧ k ≤ 2 ∧ 2 - k ≤ g1 ∧ Hid (Bytes wr B n f) ∧ Hid (Bytes wr A n f) ∧ Hid (Below w.heap.size w wr))
    case atStart => exact ⟨0, rfl, by omega, by omega, J, I1, K⟩
    case round =>
      clear J I1 K
      rename World => W
      obtain ⟨k, rfl, hk, hg1, J, I, K⟩ := hrel
      by_cases hlt : k < 2
      · have hkz : (k : Int) < 2 := by omega
        go_wp2_with fail
        refine (with_any B n d f W J.out (by omega) HB.out).mono ?_
        rintro e w2 ⟨C, c2, rfl, _, _, _, hC, hO, hbel⟩
        have E2 := Lib.hid (made_bytes hC)
        rw [seg_len] at *
        have O2 : Hid (OwnB w2 W.heap.size C (n + 4) (withSum f n)) := Lib.hid (ownB_of hO rfl (fun i hi => E2.out.bd hi))
        have J2 := Lib.hid (J.out.below hbel)
        have I2 := Lib.hid (I.out.below hbel)
        have KB := Lib.hid hbel
        have sR := Lib.hid K.out.size
        clear hC hO hbel E2
        go_wp2_with fail
        refine (sum_any B n d f w2 J2.out (by omega)).mono ?_
        rintro e w3 ⟨rfl, hb⟩
        have J3 := Lib.hid (J2.out.below hb)
        have I3 := Lib.hid (I2.out.below hb)
        have O3 := Lib.hid (O2.out.below hb)
        have KB3 := Lib.hid (KB.out.trans (hb.mono KB.out.size))
        clear hb J2 I2 O2 KB
        go_wp2_with fail
        refine (refSum_any A n c f w3 I3.out (by omega)).mono ?_
        rintro e w4 ⟨rfl, hb⟩
        have J4 := Lib.hid (J3.out.below hb)
        have I4 := Lib.hid (I3.out.below hb)
        have O4 := Lib.hid (O3.out.below hb)
        have KB4 := Lib.hid (KB3.out.trans (hb.mono KB3.out.size))
        clear hb J3 I3 O3 KB3
        have e1 : (((sumOf f n : Nat) : Int) != ((sumOf f n : Nat) : Int)) = false := by simp
        generalize sumOf f n = s at e1
        go_wp2_with fail
        refine (refWith_any A n c f w4 I4.out (by omega) HA.out).mono ?_
        rintro e w5 ⟨D, c5, rfl, _, _, _, hD, -, hb⟩
        have E5 := Lib.hid (made_bytes hD)
        rw [seg_len] at *
        have J5 := Lib.hid (J4.out.below hb)
        have I5 := Lib.hid (I4.out.below hb)
        have O5 := Lib.hid (O4.out.below hb)
        have KB5 := Lib.hid (KB4.out.trans (hb.mono KB4.out.size))
        clear hb hD J4 I4 O4 KB4
        go_wp2_with fail
        refine (same_any C D (n + 4) (n + 4) c2 c5 (withSum f n) (withSum f n) w5 O5.out.bytes E5.out (by omega) (by omega) true ⟨fun _ => rfl, fun _ => rfl⟩).mono ?_
        rintro e w6 ⟨rfl, hd⟩
        have J6 := Lib.hid (J5.out.below hd.below)
        have I6 := Lib.hid (I5.out.below hd.below)
        have O6 := Lib.hid (O5.out.below hd.below)
        have KB6 := Lib.hid (KB5.out.trans (hd.below.mono KB5.out.size))
        clear hd J5 I5 O5 KB5 E5
        go_wp2_with fail
        refine (same_any B A n n d c f f w6 J6.out I6.out (by omega) (by omega) true ⟨fun _ => rfl, fun _ => rfl⟩).mono ?_
        rintro e w7 ⟨rfl, hd⟩
        have O7 := Lib.hid (O6.out.below hd.below)
        have KB7 := Lib.hid (KB6.out.trans (hd.below.mono KB6.out.size))
        clear hd J6 I6 O6 KB6
        go_wp2
        go_loopg [6] (n + 4) (fun g2 vi wq => ∃ i : Nat, vi = .int .i64 i ∧ i ≤ n + 4 ∧ n + 4 - i ≤ g2 ∧ Hid (∃ f', OwnB wq W.heap.size C (n + 4) f') ∧ Hid (Below W.heap.size W wq))
        case atStart => exact ⟨0, rfl, by omega, by omega, Lib.hid ⟨_, O7.out⟩, KB7⟩
        case round =>
          clear O7 KB7
          obtain ⟨i, rfl, hi, hg2, O, KB⟩ := hrel
          by_cases hli : i < n + 4
          · have hiz : (i : Int) < n + 4 := by omega
            obtain ⟨f', hf'⟩ := O.out
            obtain ⟨g, rfl, hg, q1, q2, hlt2, hset⟩ := hf'.at_ hli
            have S1 := Lib.hid (hset ((f' i + 1) % 256) (Nat.mod_lt _ (by omega)))
            have S2 : Hid (∀ u, Below W.heap.size W (wr.setCell ⟨g, i, none⟩ u)) := Lib.hid (fun u => KB.out.setCell (p := ⟨g, i, none⟩) hg u)
            have e2 : Hid ((((f' i + 1) % 256 : Nat) : Int) = ((f' i : Nat) : Int).add 1 % 256) := Lib.hid (by show _ = (((f' i : Nat) : Int) + 1) % 256; omega)
            rw [e2.out] at S1
            have S3 : Hid (∃ f2, OwnB (wr.setCell ⟨g, i, none⟩ (.int .u8 ((((f' i : Nat) : Int) + 1) % 256))) W.heap.size (some ⟨g, 0, none⟩) (n + 4) f2) := Lib.hid ⟨_, S1.out⟩
            clear O KB hf' hset S1 e2 hg
            generalize f' i = x at q1 hlt2 S3
            go_wp2
            go_roundg (n + 4 - (i + 1))
            case measure => omega
            case rel => exact ⟨i + 1, by go_num, by omega, Nat.le_refl _, S3, Lib.hid (S2.out _)⟩
          · obtain rfl : i = n + 4 := by omega
            have J8 := Lib.hid (J.out.below KB.out)
            have I8 := Lib.hid (I.out.below KB.out)
            have K8 := Lib.hid (K.out.trans (KB.out.mono K.out.size))
            clear O KB
            go_wp2
            go_roundg (2 - (k + 1))
            case measure => omega
            case rel => exact ⟨k + 1, by go_num, by omega, Nat.le_refl _, J8, I8, K8⟩
      · obtain rfl : k = 2 := by omega
        go_wp2
        go_ret
        exact ⟨rfl, K.out⟩

theorem walkCrcSums (a0 : Option Addr) (len0 cap0 : Nat) (z0 : List Int) (w : World) (w0 : RowIn .u8 w a0 len0 cap0 z0) :
    Calls Try.prog 3 #[.slice a0 len0 cap0] w fun e w' => e = .returned (.bool true) ∧ Below w.heap.size w w' :=
  sums_walk a0 len0 cap0 _ w w0.bytes w0.nil
end Go.Proofs.Ytfdjedhbbbdeiaa
