/-
  The document's Get: the number whose word stands at a place.
-/
import Derived.Test.YtkjndgnjilfobaaFirst2
import Derived.WalkLawsBesides
import Derived.Deep.RegionWith
import Derived.Deep.DrawnRows
import Derived.IntWalk
namespace Go.Proofs.Ytkjndgnjilfobaa
open Go.RowKit
attribute [local go_sem ↓] Go.wp_at_zero Go.wp_at_succ

/-- By definition: is what stands there, up to a byte below 128, the word of the number that its digits are? -/
theorem got_cases {a rest : List Nat} {c : Nat} (ha : ∀ x ∈ a, 128 ≤ x ∧ x < 256) (hc : c < 128) :
    Got (a ++ c :: rest) (if word (val (a ++ [c]) % 18446744073709551616) = a ++ [c] then some (val (a ++ [c]) % 18446744073709551616, a.length + 1) else none) := by
  by_cases h : word (val (a ++ [c]) % 18446744073709551616) = a ++ [c]
  · rw [if_pos h]
    exact ⟨Nat.mod_lt _ (by omega), by rw [h]; simp, rest, by rw [h]; simp⟩
  · rw [if_neg h]
    intro n s hn e
    obtain ⟨b, d, hw, hb, hd, h0⟩ := word_last n
    have hw' := hw
    rw [hw, List.append_assoc] at e
    obtain ⟨h1, h2, -⟩ := split_uniq (fun x hx => (ha x hx).1) (fun x hx => (hb x hx).1) hc hd e
    subst h1; subst h2
    have := val_word n
    rw [hw'] at this
    rw [this, Nat.mod_eq_of_lt hn] at h
    exact h hw'

theorem mod_step1 (x u : Nat) : IntKind.u64.wrap ((x : Int) % 128 * (u : Nat)) = ((x % 128 * u % 18446744073709551616 : Nat) : Int) := by
  rw [← wrap_u64]; simp
theorem mod_step2 (v y : Nat) : IntKind.u64.wrap ((v : Int) + (y : Nat)) = (((v + y) % 18446744073709551616 : Nat) : Int) := by
  rw [← wrap_u64]; simp
theorem mod_step3 (u : Nat) : IntKind.u64.wrap ((u : Int) * 128) = ((u * 128 % 18446744073709551616 : Nat) : Int) := by
  rw [← wrap_u64]; simp
theorem val_from (f : Nat → Nat) (p k : Nat) : val (seg f p (k + 1)) = val (seg f p k) + 128 ^ k * (f (p + k) % 128) := by
  rw [seg_succ, val_append, seg_len]; simp [val]
theorem mod_val (f : Nat → Nat) (p k : Nat) : (val (seg f p k) % 18446744073709551616 + f (p + k) % 128 * (128 ^ k % 18446744073709551616) % 18446744073709551616) % 18446744073709551616 = val (seg f p (k + 1)) % 18446744073709551616 := by
  rw [val_from, Nat.mul_mod_mod, ← Nat.add_mod, Nat.mul_comm (f (p + k) % 128)]
theorem mod_unit (k : Nat) : 128 ^ k % 18446744073709551616 * 128 % 18446744073709551616 = 128 ^ (k + 1) % 18446744073709551616 := by
  rw [Nat.mod_mul_mod, Nat.pow_succ]
theorem seg_part (f : Nat → Nat) {p k len : Nat} (h : p + k < len) : seg f p (len - p) = seg f p k ++ f (p + k) :: seg f (p + (k + 1)) (len - (p + (k + 1))) := by
  obtain ⟨m, rfl⟩ : ∃ m, len = p + (k + (m + 1)) := ⟨len - p - k - 1, by omega⟩
  rw [show p + (k + (m + 1)) - p = k + (m + 1) by omega, seg_add, seg_cons, show p + (k + (m + 1)) - (p + (k + 1)) = m by omega]
  rfl
theorem seg_fullp {f : Nat → Nat} {p k : Nat} (h1 : ∀ j, j < k → 128 ≤ f (p + j)) (h2 : ∀ j, j < k → f (p + j) < 256) : ∀ x ∈ seg f p k, 128 ≤ x ∧ x < 256 := by
  intro x hx
  obtain ⟨i, hi, rfl⟩ := seg_mem hx
  exact ⟨h1 i hi, h2 i hi⟩

set_option maxRecDepth 100000 in
set_option maxHeartbeats 4000000 in
theorem refGet_in (A : Option Addr) (len c : Nat) (f : Nat → Nat) (p : Nat) (w : World) (h : Bytes w A len f) (hlen : len ≤ 4611686018427387904) (hc : len ≤ c) (hcc : c ≤ 9223372036854775807) (hp : p < len) (r : Option (Nat × Nat)) (hr : Got (seg f p (len - p)) r) :
    Calls Try.prog 44 #[.slice A len c, .int .i64 (p : Nat)] w fun e w' => e = .returned (encGot r) ∧ Below w.heap.size w w' := by
  have H := Lib.hid h; have R := Lib.hid hr
  clear h hr
  go_enter Try.func44, Try.ntmps44
  go_wp2
  go_loop [7, 8, 9] (fun n u i => ∃ k : Nat, k ≤ 10 ∧ p + k ≤ len ∧ (∀ j, j < k → 128 ≤ f (p + j)) ∧ n = .int .u64 (val (seg f p k) % 18446744073709551616 : Nat) ∧ u = .int .u64 (128 ^ k % 18446744073709551616 : Nat) ∧ i = .int .i64 (k : Nat)) (fun _ _ i => 10 - (intOf i).toNat)
  case atStart => exact ⟨0, by omega, by omega, fun j hj => by omega, rfl, rfl, rfl⟩
  case round =>
    obtain ⟨k, hk, hpk, hpre, rfl, rfl, rfl⟩ := hrel
    have P := Lib.hid hpre; clear hpre
    have hp0 : (0 : Int) ≤ p := by omega
    by_cases hgo : k < 10 ∧ p + k < len
    · obtain ⟨hk10, hlt⟩ := hgo
      obtain ⟨b, off, rfl, hb, hcell⟩ := H.out.at_ hlt
      have hx := H.out.bd hlt
      have hful := seg_fullp P.out (fun j hj => H.out.bd (by omega : p + j < len))
      have hsp := seg_part f hlt
      have hmv := mod_val f p k
      have hmu := mod_unit k
      have hcell' : w.cell? ⟨b, off + (p + k), none⟩ = some (.int .u8 (f (p + k) : Nat)) := hcell
      clear hcell hb
      have F := Lib.hid hful; have SP := Lib.hid hsp
      clear hful hsp
      have hwl : (word (val (seg f p (k + 1)) % 18446744073709551616)).length ≤ 10 := word_ten (Nat.mod_lt _ (by omega))
      have hvm : val (seg f p (k + 1)) % 18446744073709551616 < 18446744073709551616 := Nat.mod_lt _ (by omega)
      have WL := Lib.hid hwl; have VM := Lib.hid hvm; clear hwl hvm
      have h1 := mod_step1 (f (p + k)) (128 ^ k % 18446744073709551616)
      have h2 := mod_step2 (val (seg f p k) % 18446744073709551616) (f (p + k) % 128 * (128 ^ k % 18446744073709551616) % 18446744073709551616)
      have h3 := mod_step3 (128 ^ k % 18446744073709551616)
      rw [hmv] at h2
      rw [hmu] at h3
      clear hmv hmu
      have i1 : (0 : Int) ≤ (p : Int) + k := by omega
      have i2 : (p : Int) + k < len := by omega
      have hpkl : (p : Int) ≤ (len : Int) - 1 - k := by omega
      generalize f (p + k) % 128 * (128 ^ k % 18446744073709551616) % 18446744073709551616 = y at h1 h2
      generalize 128 ^ k % 18446744073709551616 = u at h1 h3 ⊢
      generalize hu' : 128 ^ (k + 1) % 18446744073709551616 = u' at h3
      generalize val (seg f p k) % 18446744073709551616 = v at h2 ⊢
      generalize hv' : val (seg f p (k + 1)) % 18446744073709551616 = v' at h2 WL VM
      have HU := Lib.hid hu'; have HV := Lib.hid hv'; clear hu' hv'
      by_cases h128 : 128 ≤ f (p + k)
      · have P2 : Hid (∀ j, j < k + 1 → 128 ≤ f (p + j)) := Lib.hid (by
          intro j hj
          rcases Nat.lt_or_ge j k with h | h
          · exact P.out j h
          · obtain rfl : j = k := by omega
            exact h128)
        generalize f (p + k) = x at *
        have h128' : (128 : Int) ≤ x := by omega
        go_wp2
        go_round
        case rel => exact ⟨k + 1, by omega, by omega, P2.out, by rw [HV.out], by rw [HU.out], by go_num⟩
        case measure => simp [intOf]; omega
      · have hc128 : f (p + k) < 128 := by omega
        have G := got_cases (rest := seg f (p + (k + 1)) (len - (p + (k + 1)))) F.out hc128
        rw [seg_len, show seg f p k ++ [f (p + k)] = seg f p (k + 1) from (seg_succ f p k).symm, HV.out, ← SP.out] at G
        have hr := G.uniq R.out
        obtain ⟨rb, hrb⟩ : ∃ rb : Bool, rb = true ↔ word v' = seg f p (k + 1) := ⟨decide (word v' = seg f p (k + 1)), by simp⟩
        have hr2 : r = if rb = true then some (v', k + 1) else none := by rw [← hr]; simp only [hrb]
        have hS : Bytes w (some ⟨b, off + p, none⟩) (k + 1) (fun i => f (p + i)) := H.out.from_ (by omega)
        have HS := Lib.hid hS; have HRB := Lib.hid hrb; have HR2 := Lib.hid hr2
        clear G hr hr2 hrb hS
        generalize f (p + k) = x at *
        have h128' : (x : Int) < 128 := by omega
        have i3 : (p : Int) + k + 1 ≤ len := by omega
        have i4 : (p : Int) + k + 1 ≤ c := by omega
        have i5 : (p : Int) ≤ (p : Int) + k + 1 := by omega
        have i6 : (0 : Int) ≤ (p : Int) + k + 1 := by omega
        have i7 : (0 : Int) ≤ (k : Int) + 1 := by omega
        have i8 : ¬ c = p := by omega
        have hsl : ∀ W : World, (Instr.slice 25 (.slice (some ⟨b, off, none⟩) len c) (some (.int .i64 (p : Nat))) (some (.int .i64 ((p : Int) + k + 1))) none).run Try.prog W = .ok (.slice (some ⟨b, off + p, none⟩) (k + 1) (c - p)) W := by
          intro W
          have i9 : ((p : Int) + k + 1).toNat = p + k + 1 := by omega
          have i10 : p + k + 1 - p = k + 1 := by omega
          have hsz : ∀ W : World, (sizeOf (Try.prog.elem 25)).run Try.prog W = .ok 1 W := fun W => by kernel_rfl
          rw [run_slice_lh W 25 _ len c (by kernel_rfl) .i64 .i64 (p : Nat) ((p : Int) + k + 1) hp0 i5 i4, hsz]
          simp [Result.andThen, sliced, i8, i9, i10, Addr.add]
        go_wp2
        have L1 : Hid ((word v').length ≤ 4611686018427387904) := Lib.hid (by have := WL.out; omega)
        have L2 : Hid (k + 1 ≤ 4611686018427387904) := Lib.hid (by omega)
        have e1 : IntKind.i64.wrap ((p : Int) + k) = (p : Int) + k := IntWalk.i64_in _ (by omega)
        have e2 : IntKind.i64.wrap ((p : Int) + k + 1) = (p : Int) + k + 1 := by
          clear e1; exact IntWalk.i64_in _ (by omega)
        have B0 : Hid (Below w.heap.size w w.drew) := Lib.hid (Below.refl _ w).drew
        go_region_with (first
          | (go_at_call 22; refine (refPut_any v' VM.out _).mono ?_; rintro e w1 ⟨A', c', rfl, q1, q2, q3, hb, ho, hbel⟩; have J := Lib.hid hb; have K := Lib.hid (B0.out.trans hbel); have HS1 := Lib.hid (HS.out.below K.out); clear q1 q2 q3 hb ho hbel HS)
          | (go_at_call 14; refine (same_any _ _ _ _ _ _ _ _ _ J.out HS1.out L1.out L2.out rb (by rw [pick_seg, seg_shift, Nat.add_zero]; exact HRB.out)).mono ?_; rintro e w2 ⟨rfl, hd⟩; have K2 := Lib.hid (K.out.trans (hd.below.mono K.out.size)); clear hd J HS1 K))
        all_goals
          clear e1 e2
          cases rb
          · rw [if_neg (by simp)] at HR2
            go_wp2
            go_ret3
            exact ⟨by rw [HR2.out]; rfl, K2.out⟩
          · rw [if_pos rfl] at HR2
            go_wp2
            go_ret3
            exact ⟨by rw [HR2.out]; rfl, K2.out⟩
    · have hr : none = r := by
        have hcases : k = 10 ∨ p + k = len := by omega
        by_cases h10 : 10 ≤ k
        · have e : seg f p (len - p) = seg f p k ++ seg f (p + k) (len - p - k) := by rw [← seg_add, show k + (len - p - k) = len - p by omega]
          rw [e] at R
          exact (got_no_long (fun x hx => by obtain ⟨i, hi, rfl⟩ := seg_mem hx; exact P.out i hi) (by rw [seg_len]; exact h10)).uniq R.out
        · have e : len - p = k := by omega
          rw [e] at R
          exact (got_no_short (fun x hx => by obtain ⟨i, hi, rfl⟩ := seg_mem hx; exact P.out i hi)).uniq R.out
      have HR := Lib.hid hr
      clear hr
      generalize val (seg f p k) % 18446744073709551616 = v
      generalize 128 ^ k % 18446744073709551616 = u
      by_cases h10 : k < 10
      · have hpk' : ¬ (p : Int) ≤ (len : Int) - 1 - k := by omega
        have hd : decide ((p : Int) ≤ (len : Int) - 1 - k) = false := by simpa using hpk'
        have h10' : (k : Int) < 10 := by omega
        have hd2 : decide ((k : Int) < 10) = true := by simpa using h10'
        have hd3 : decide ((0 : Int) ≤ p) = true := by simp
        clear hgo
        go_wp2
        go_ret3
        exact ⟨by rw [← HR.out]; rfl, Below.refl _ _⟩
      · have h10' : ¬ (k : Int) < 10 := by omega
        have hd2 : decide ((k : Int) < 10) = false := by simpa using h10'
        clear hgo
        go_wp2
        go_ret3
        exact ⟨by rw [← HR.out]; rfl, Below.refl _ _⟩
end Go.Proofs.Ytkjndgnjilfobaa
