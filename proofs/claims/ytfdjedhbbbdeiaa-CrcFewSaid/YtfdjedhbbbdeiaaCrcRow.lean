/-
  The law CrcRow: a datagram with its sum, of which bits within 32, one behind the other, are turned about, is none.
-/
import Derived.Test.YtfdjedhbbbdeiaaAwakeC
import Derived.Test.YtfdjedhbbbdeiaaFlip
import Derived.Test.YtfdjedhbbbdeiaaCrcNoughts
namespace Go.Proofs.Ytfdjedhbbbdeiaa
open Go.RowKit

theorem wf_u32 {a : Int} (h : (Lit.int .u32 a).wf = true) : 0 ≤ a ∧ a ≤ 4294967295 := by
  have h1 : IntKind.u32.min = 0 := by decide
  have h2 : IntKind.u32.max = 4294967295 := by decide
  simpa only [Lit.wf, h1, h2, Bool.and_eq_true, decide_eq_true_eq] using h

theorem bitOf_in {k m : Nat} (h : k < 8 * m) (hm : m ≤ 100000) : bitOf (k : Int) m = k := by
  unfold bitOf
  rw [show ((k : Int) % 18446744073709551616).toNat = k by omega, Nat.mod_eq_of_lt h]

theorem bit_plain (x k : Nat) : ((x : Int) / 2 ^ k).tmod 2 = ((x / 2 ^ k % 2 : Nat) : Int) := by
  rw [show ((2 : Int) ^ k) = ((2 ^ k : Nat) : Int) by rw [Int.natCast_pow]; rfl, ← Int.natCast_ediv]
  rfl

/-- what flip does to a bit within the row -/
theorem flip_in (base : Nat) (A : Option Addr) (m c : Nat) (f : Nat → Nat) (k : Nat) (w : World) (h : OwnB w base A m f) (hk : k < 8 * m) (hm2 : m ≤ 100000) :
    Calls Try.prog 22 #[.slice A m c, .int .i64 (k : Nat)] w fun e w' => e = .returned (.tuple #[]) ∧ OwnB w' base A m (flipped f k) ∧ Below base w w' := by
  have := flip_any base A m c f (k : Int) w h (by omega) hm2
  rwa [bitOf_in hk hm2] at this

set_option maxRecDepth 100000 in
set_option maxHeartbeats 8000000 in
theorem row_walk (A : Option Addr) (n c : Nat) (f : Nat → Nat) (first : Int) (x : Nat) (w : World) (h : Bytes w A n f) (hA : A = none → n = 0 ∧ c = 0) (hx : x < 4294967296) :
    Calls Try.prog 8 #[.slice A n c, .int .i64 first, .int .u32 (x : Nat)] w fun e w' => e = .returned (.bool true) ∧ Below w.heap.size w w' := by
  have H := Lib.hid h
  have HA := Lib.hid hA
  have HF : Hid (∀ i, i < n → f i < 256) := Lib.hid (fun i hi => h.bd hi)
  clear h hA
  by_cases hbig : 2000 < n
  · have d1 : (2000 : Int) < n := by omega
    go_enter Try.func8, Try.ntmps8
    go_wp2_with fail
    refine (awake_any w).mono ?_
    rintro e w1 ⟨rfl, hb⟩
    go_wp2
    go_ret
    exact ⟨rfl, hb⟩
  · have d1 : ¬ (2000 : Int) < n := by omega
    obtain ⟨p, hp, hpe⟩ : ∃ p : Nat, p + 32 ≤ 8 * (n + 4) ∧ (IntKind.u64.wrap first).tmod (8 * ((n : Int) + 4) - 31) = (p : Int) := by
      rw [show IntKind.u64.wrap first = first % 18446744073709551616 from rfl, Int.tmod_eq_emod_of_nonneg (by omega)]
      have q1 := Int.emod_nonneg (first % 18446744073709551616) (b := 8 * ((n : Int) + 4) - 31) (by omega)
      have q2 := Int.emod_lt_of_pos (first % 18446744073709551616) (b := 8 * ((n : Int) + 4) - 31) (by omega)
      exact ⟨((first % 18446744073709551616) % (8 * ((n : Int) + 4) - 31)).toNat, by omega, by omega⟩
    go_enter Try.func8, Try.ntmps8
    go_wp2_with fail
    refine (awake_any w).mono ?_
    rintro e w1 ⟨rfl, hb⟩
    have K1 := Lib.hid hb
    have H1 := Lib.hid (H.out.below hb)
    clear hb H
    go_wp2_with fail
    refine (with_any A n c f w1 H1.out (by omega) HA.out).mono ?_
    rintro e w2 ⟨C, c2, rfl, hc1, hc2, _, hC, hO, hbel⟩
    have E2 := Lib.hid (made_bytes hC)
    rw [seg_len] at *
    have O2 : Hid (OwnB w2 w1.heap.size C (n + 4) (withSum f n)) := Lib.hid (ownB_of hO rfl (fun i hi => E2.out.bd hi))
    have K2 := Lib.hid (K1.out.trans (hbel.mono K1.out.size))
    have sz := Lib.hid K1.out.size
    clear hC hO hbel E2 H1 K1
    go_wp2
    go_loopg [9] 32 (fun g1 vi wr => ∃ k : Nat, vi = .int .i64 k ∧ k ≤ 32 ∧ 32 - k ≤ g1 ∧ Hid (OwnB wr w1.heap.size C (n + 4) (rowed (withSum f n) p x k)) ∧ Hid (Below w.heap.size w wr))
    case atStart => exact ⟨0, rfl, by omega, by omega, O2, K2⟩
    case round =>
      clear O2 K2
      obtain ⟨k, rfl, hk, hg1, O, K⟩ := hrel
      by_cases hlt : k < 32
      · have hkz : (k : Int) < 32 := by omega
        have hpk : ((p + k : Nat) : Int) = (p : Int) + k := by omega
        by_cases hbit : x / 2 ^ k % 2 = 1
        · have S : Hid (rowed (withSum f n) p x (k + 1) = flipped (rowed (withSum f n) p x k) (p + k)) := Lib.hid (if_pos hbit)
          have e1 : ((x : Int) / 2 ^ k).tmod 2 = 1 := by rw [bit_plain, hbit]; rfl
          clear hbit
          have FL := Lib.hid (flip_in w1.heap.size C (n + 4) c2 (rowed (withSum f n) p x k) (p + k) wr O.out (by omega) (by omega))
          rw [← S.out, hpk] at FL
          go_wp2_with fail
          refine FL.out.mono ?_
          rintro e w3 ⟨rfl, hO, hb⟩
          have O3 := Lib.hid hO
          have K3 : Hid (Below w.heap.size w w3) := Lib.hid (K.out.trans (hb.mono sz.out))
          clear hO hb O K FL S
          go_wp2
          go_roundg (32 - (k + 1))
          case measure => omega
          case rel => exact ⟨k + 1, by go_num, by omega, Nat.le_refl _, O3, K3⟩
        · have S : Hid (rowed (withSum f n) p x (k + 1) = rowed (withSum f n) p x k) := Lib.hid (if_neg hbit)
          have e1 : ((x : Int) / 2 ^ k).tmod 2 = 0 := by rw [bit_plain, show x / 2 ^ k % 2 = 0 by omega]; rfl
          clear hbit
          rw [← S.out] at O
          clear S
          go_wp2
          go_roundg (32 - (k + 1))
          case measure => omega
          case rel => exact ⟨k + 1, by go_num, by omega, Nat.le_refl _, O, K⟩
      · obtain rfl : k = 32 := by omega
        have e5 : (((x : Nat) : Int) == 0) = decide (x = 0) := by
          by_cases h : x = 0
          · subst h; rfl
          · rw [decide_eq_false h]; simp; omega
        have WH := Lib.hid (whole_any C (n + 4) c2 (rowed (withSum f n) p x 32) wr O.out.bytes (by omega) hc1 hc2 (decide (x = 0)) (by
          rw [decide_eq_true_eq]
          unfold Stands
          rw [Nat.add_sub_cancel, row_law HF.out hp hx]
          exact ⟨fun h => ⟨by omega, h⟩, fun h => h.2⟩))
        generalize decide (x = 0) = q at e5 WH
        go_wp2_with fail
        refine WH.out.mono ?_
        rintro e w3 ⟨rfl, hb⟩
        have K3 : Hid (Below w.heap.size w w3) := Lib.hid (K.out.trans (hb.mono K.out.size))
        go_wp2
        go_ret
        exact ⟨rfl, K3.out⟩

theorem walkCrcRow (a0 : Option Addr) (len0 cap0 : Nat) (z0 : List Int) (a1 : Int) (a2 : Int) (w : World) (w0 : RowIn .u8 w a0 len0 cap0 z0) (_w1 : (Lit.int .i64 a1).wf = true) (w2 : (Lit.int .u32 a2).wf = true) :
    Calls Try.prog 8 #[.slice a0 len0 cap0, .int .i64 a1, .int .u32 a2] w fun e w' => e = .returned (.bool true) ∧ Below w.heap.size w w' := by
  obtain ⟨h1, h2⟩ := wf_u32 w2
  obtain ⟨x, rfl⟩ : ∃ x : Nat, a2 = x := ⟨a2.toNat, by omega⟩
  exact row_walk a0 len0 cap0 _ a1 x w w0.bytes w0.nil (by omega)
end Go.Proofs.Ytfdjedhbbbdeiaa
