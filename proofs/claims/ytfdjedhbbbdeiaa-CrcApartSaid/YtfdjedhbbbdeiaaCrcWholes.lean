/-
  The law CrcWholes: any bytes are some with their sum behind them, or none, as the document says; they stay, and what is told is the caller's own. (Of any program whose Without and Whole answer as 'WithoutOK' and 'WholeOK' say.)
-/
import Derived.Test.YtfdjedhbbbdeiaaRefWithout
import Derived.Test.YtfdjedhbbbdeiaaOwnB
namespace Go.Proofs.Ytfdjedhbbbdeiaa
open Go.RowKit

/-- what is asked of crc.Without -/
def WithoutOK : Prop := ∀ (A : Option Addr) (n c : Nat) (f : Nat → Nat) (W : World), Bytes W A n f → n ≤ 1000000 → n ≤ c → c ≤ maxLen → Calls Try.prog 16 #[.slice A n c] W fun e w' =>
  Below W.heap.size W w' ∧ ((¬ Stands f n ∧ e = .returned (.tuple #[.slice none 0 0, .bool false])) ∨ (Stands f n ∧ ∃ A' c', e = .returned (.tuple #[.slice A' (n - 4) c', .bool true]) ∧ n - 4 ≤ c' ∧ c' ≤ maxLen ∧ OwnB w' W.heap.size A' (n - 4) f))
/-- what is asked of crc.Whole -/
def WholeOK : Prop := ∀ (A : Option Addr) (n c : Nat) (f : Nat → Nat) (W : World), Bytes W A n f → n ≤ 1000000 → n ≤ c → c ≤ maxLen → ∀ r : Bool, (r = true ↔ Stands f n) → Calls Try.prog 18 #[.slice A n c] W fun e w' => e = .returned (.bool r) ∧ Below W.heap.size W w'

set_option maxRecDepth 100000 in
set_option maxHeartbeats 2000000 in
theorem wholesOf (hO : WithoutOK) (hW : WholeOK) (A : Option Addr) (n c : Nat) (z : List Int) (w : World) (h : RowIn .u8 w A n c z) :
    Calls Try.prog 4 #[.slice A n c] w fun e w' => e = .returned (.bool true) ∧ Below w.heap.size w w' := by
  have hb := h.bd
  have HN := Lib.hid h.nil
  have HI := Lib.hid h.bytes
  have HO := Lib.hid hO
  have HW := Lib.hid hW
  generalize (fun i => (z.getD i 0).toNat) = f at HI
  have hcm : Hid (n ≤ c) := Lib.hid hb.1
  clear h hO hW
  by_cases hbig : 2000 < n
  · go_enter Try.func4, Try.ntmps4
    go_wp2_with fail
    go_ret
    exact ⟨rfl, Below.refl _ _⟩
  · go_enter Try.func4, Try.ntmps4
    go_wp2_with fail
    refine (copy_any A n c f w HI.out (by omega) HN.out).mono ?_
    rintro e w1 ⟨B, d, rfl, h1, h2, _, hB, -, hbel⟩
    have J := Lib.hid (made_bytes hB)
    have K := Lib.hid hbel
    have I1 := Lib.hid (HI.out.below hbel)
    rw [seg_len] at *
    clear hB hbel HI HN
    go_wp2_with fail
    refine (HO.out B n d f w1 J.out (by omega) h1 h2).mono ?_
    rintro e w2 ⟨hbel, ho⟩
    have J2 := Lib.hid (J.out.below hbel)
    have I2 := Lib.hid (I1.out.below hbel)
    have K2 := Lib.hid (K.out.trans (hbel.mono K.out.size))
    have B2 := Lib.hid hbel
    clear hbel
    rcases ho with ⟨hs, rfl⟩ | ⟨hs, D, dc, rfl, hd1, hd2, hD⟩
    · go_wp2_with fail
      refine (refWithout_any A n c f w2 I2.out (by omega) hcm.out).mono ?_
      rintro e w3 ⟨hbel, he⟩
      rcases he with ⟨_, rfl⟩ | ⟨hs', _⟩
      · have J3 := Lib.hid (J2.out.below hbel)
        have I3 := Lib.hid (I2.out.below hbel)
        have K3 := Lib.hid (K2.out.trans (hbel.mono K2.out.size))
        have HS := Lib.hid hs
        clear hbel I2 J2 hs
        go_wp2_with fail
        refine (HW.out B n d f w3 J3.out (by omega) h1 h2 false ⟨(fun e => by cases e), fun e => absurd e HS.out⟩).mono ?_
        rintro e w4 ⟨rfl, hbel⟩
        have J4 := Lib.hid (J3.out.below hbel)
        have I4 := Lib.hid (I3.out.below hbel)
        have K4 := Lib.hid (K3.out.trans (hbel.mono K3.out.size))
        clear hbel I3 J3
        go_wp2_with fail
        refine (same_any none none 0 0 0 0 f f w4 (Nums.zero _ _) (Nums.zero _ _) (by omega) (by omega) true ⟨fun _ => rfl, fun _ => rfl⟩).mono ?_
        rintro e w5 ⟨rfl, hd⟩
        have J5 := Lib.hid (J4.out.below hd.below)
        have I5 := Lib.hid (I4.out.below hd.below)
        have K5 := Lib.hid (K4.out.trans (hd.below.mono K4.out.size))
        clear hd J4 I4
        go_wp2
        refine wp_loop_rounds 1 ?_
        rw [rounds_succ]
        go_wp2_with fail
        refine (same_any B A n n d c f f w5 J5.out I5.out (by omega) (by omega) true ⟨fun _ => rfl, fun _ => rfl⟩).mono ?_
        rintro e w6 ⟨rfl, hd⟩
        have K6 := Lib.hid (K5.out.trans (hd.below.mono K5.out.size))
        clear hd
        go_wp2
        go_ret
        exact ⟨rfl, K6.out⟩
      · exact absurd hs' hs
    · have D2 := Lib.hid hD
      clear hD
      obtain ⟨m, hm⟩ : ∃ m, n - 4 = m := ⟨_, rfl⟩
      rw [hm] at D2 hd1
      have HM := Lib.hid hm
      rw [hm]
      have hm2 : m ≤ n := by omega
      clear hm
      go_wp2_with fail
      refine (refWithout_any A n c f w2 I2.out (by omega) hcm.out).mono ?_
      rintro e w3 ⟨hbel, he⟩
      rcases he with ⟨hs', _⟩ | ⟨_, E, ec, rfl, hE⟩
      · exact absurd hs hs'
      · rw [HM.out] at hE ⊢
        have J3 := Lib.hid (J2.out.below hbel)
        have I3 := Lib.hid (I2.out.below hbel)
        have B3 := Lib.hid (B2.out.trans (hbel.mono B2.out.size))
        have D3 := Lib.hid (D2.out.below hbel)
        have E3 := Lib.hid hE
        have HS := Lib.hid hs
        clear hbel I2 J2 hs hE D2 B2
        go_wp2_with fail
        refine (HW.out B n d f w3 J3.out (by omega) h1 h2 true ⟨fun _ => HS.out, fun _ => rfl⟩).mono ?_
        rintro e w4 ⟨rfl, hbel⟩
        have B4 := Lib.hid (B3.out.trans (hbel.mono B3.out.size))
        have D4 := Lib.hid (D3.out.below hbel)
        have E4 := Lib.hid (E3.out.below hbel)
        clear hbel I3 J3 B3 D3 E3
        go_wp2_with fail
        refine (same_any D E m m dc ec f f w4 D4.out.bytes E4.out (by omega) (by omega) true ⟨fun _ => rfl, fun _ => rfl⟩).mono ?_
        rintro e w5 ⟨rfl, hd⟩
        have B5 := Lib.hid (B4.out.trans (hd.below.mono B4.out.size))
        have D5 := Lib.hid (D4.out.below hd.below)
        clear hd B4 D4 E4
        go_wp2
        go_loopg [8] m (fun g1 vi wr => ∃ k : Nat, vi = .int .i64 k ∧ k ≤ m ∧ m - k ≤ g1 ∧ Hid (∃ f', OwnB wr w1.heap.size D m f') ∧ Hid (Below w1.heap.size w1 wr))
        case atStart => exact ⟨0, rfl, by omega, by omega, Lib.hid ⟨f, D5.out⟩, B5⟩
        case round =>
          clear D5 B5
          obtain ⟨k, rfl, hk, hg1, D5, B5⟩ := hrel
          by_cases hlt : k < m
          · have hkz : (k : Int) < m := by omega
            obtain ⟨f', hf'⟩ := D5.out
            obtain ⟨g, rfl, hg, c1, f1, hlt2, hset⟩ := hf'.at_ hlt
            have S1 := Lib.hid (hset ((f' k + 1) % 256) (Nat.mod_lt _ (by omega)))
            have S2 : Hid (∀ u, Below w1.heap.size w1 (wr.setCell ⟨g, k, none⟩ u)) := Lib.hid (fun u => B5.out.setCell (p := ⟨g, k, none⟩) hg u)
            have e1 : Hid ((((f' k + 1) % 256 : Nat) : Int) = ((f' k : Nat) : Int).add 1 % 256) := Lib.hid (by show _ = (((f' k : Nat) : Int) + 1) % 256; omega)
            rw [e1.out] at S1
            have S3 : Hid (∃ f2, OwnB (wr.setCell ⟨g, k, none⟩ (.int .u8 ((((f' k : Nat) : Int) + 1) % 256))) w1.heap.size (some ⟨g, 0, none⟩) m f2) := Lib.hid ⟨_, S1.out⟩
            clear D5 B5 hf' hset S1 e1 hg
            generalize f' k = x at c1 hlt2 S3
            go_wp2
            go_roundg (m - (k + 1))
            case measure => omega
            case rel => exact ⟨k + 1, by go_num, by omega, Nat.le_refl _, S3, Lib.hid (S2.out _)⟩
          · obtain rfl : m = k := by omega
            have J6 := Lib.hid (J.out.below B5.out)
            have I6 := Lib.hid (I1.out.below B5.out)
            have K6 := Lib.hid (K.out.trans (B5.out.mono K.out.size))
            clear D5 B5
            go_wp2_with fail
            refine (same_any B A n n d c f f wr J6.out I6.out (by omega) (by omega) true ⟨fun _ => rfl, fun _ => rfl⟩).mono ?_
            rintro e w6 ⟨rfl, hd⟩
            have K7 := Lib.hid (K6.out.trans (hd.below.mono K6.out.size))
            clear hd
            go_wp2
            go_ret
            exact ⟨rfl, K7.out⟩
end Go.Proofs.Ytfdjedhbbbdeiaa
