/-
  The law's flip turns a bit of bytes about, counted round; its same tells whether bytes are the same.
-/
import Derived.Test.YtfdjedhbbbdeiaaWhole
import Derived.Test.YtfdjedhbbbdeiaaDiffer
namespace Go.Proofs.Ytfdjedhbbbdeiaa
open Go.RowKit

theorem same03_any (A B : Option Addr) (n m c d : Nat) (f g : Nat → Nat) (w : World) (h : Bytes w A n f) (h' : Bytes w B m g) (hn : n ≤ 1048576) (hm : m ≤ 1048576) (r : Bool) (hr : r = true ↔ n = m ∧ ∀ i, i < n → f i = g i) :
    Calls Try.prog 23 #[.slice A n c, .slice B m d] w fun e w' => e = .returned (.bool r) ∧ w' = w := by
  have K := Lib.hid (differ_any A B n m c d f g w h h' hn hm)
  have e : (((differOf f n g m : Nat) : Int) == 0) = r := by
    have : (differOf f n g m = 0) ↔ r = true := by
      rw [hr]
      unfold differOf
      constructor
      · intro h0
        have e1 : n = m := by omega
        subst e1
        refine ⟨rfl, (diff_none (fun i hi => h.bd hi) (fun i hi => h'.bd hi)).1 ?_⟩
        rw [Nat.min_self, Nat.max_self] at h0
        show ones (diff f g) (8 * n) = 0
        omega
      · rintro ⟨rfl, h0⟩
        have h1 : ones (diff f g) (8 * n) = 0 := (diff_none (fun i hi => h.bd hi) (fun i hi => h'.bd hi)).2 h0
        rw [Nat.min_self, Nat.max_self, h1]
        omega
    cases r
    · have : differOf f n g m ≠ 0 := fun h => by have := this.1 h; cases this
      simp; omega
    · have := this.2 rfl
      simp; omega
  generalize differOf f n g m = z at K e
  clear h h' hr
  go_enter Try.func23, Try.ntmps23
  go_wp2_with fail
  refine K.out.mono ?_
  rintro e w2 ⟨rfl, rfl⟩
  go_wp2
  go_ret
  exact ⟨rfl, rfl⟩

/-- which bit flip turns about -/
def bitOf (i : Int) (m : Nat) : Nat := (i % 18446744073709551616).toNat % (8 * m)

set_option maxRecDepth 100000 in
set_option maxHeartbeats 4000000 in
theorem flip_all (base : Nat) (A : Option Addr) (m c : Nat) (f : Nat → Nat) (i : Int) (w : World) (h : OwnB w base A m f) (hm : 0 < m) (hm2 : m ≤ 100000) :
    Calls Try.prog 22 #[.slice A m c, .int .i64 i] w fun e w' => e = .returned (.tuple #[]) ∧ OwnB w' base A m (flipped f (bitOf i m)) ∧ Below base w w' ∧ ∀ b, A ≠ some ⟨b, 0, none⟩ → w'.heap[b]? = w.heap[b]? := by
  have hlt : bitOf i m < 8 * m := Nat.mod_lt _ (by omega)
  have hk : bitOf i m / 8 < m := by omega
  obtain ⟨g, rfl, hg, hc, hf, hx, hset⟩ := h.at_ hk
  have hs2 : f (bitOf i m / 8) ^^^ 2 ^ (bitOf i m % 8) < 256 := Nat.xor_lt_two_pow (n := 8) hx (Nat.pow_lt_pow_right (by omega) (Nat.mod_lt _ (by omega)))
  have S := Lib.hid (hset _ hs2)
  have e0 : (IntKind.u64.wrap i).tmod (8 * (m : Int)) = ((bitOf i m : Nat) : Int) := by
    unfold bitOf
    rw [show IntKind.u64.wrap i = i % 18446744073709551616 from rfl, Int.tmod_eq_emod_of_nonneg (by omega)]
    have h0 : 0 ≤ i % 18446744073709551616 := by omega
    generalize i % 18446744073709551616 = j at h0
    obtain ⟨j', rfl⟩ : ∃ j' : Nat, j = j' := ⟨j.toNat, by omega⟩
    rw [Int.toNat_natCast]
    show (j' : Int) % ((8 : Nat) * (m : Nat) : Int) = _
    rw [← Int.natCast_mul, ← Int.natCast_emod]
  have d1 : (0 : Int) < m := by omega
  generalize bitOf i m = k at *
  have E : Hid (bits .xor .u8 ((f (k / 8) : Nat) : Int) (2 ^ (k % 8) % 256) = ((f (k / 8) ^^^ 2 ^ (k % 8) : Nat) : Int)) := Lib.hid (by
    have h1 : 2 ^ (k % 8) < 256 := Nat.pow_lt_pow_right (n := 8) (by omega) (Nat.mod_lt _ (by omega))
    rw [show ((2 : Int) ^ (k % 8)) = ((2 ^ (k % 8) : Nat) : Int) by rw [Int.natCast_pow]; rfl]
    generalize 2 ^ (k % 8) = y at h1
    rw [show ((y : Int) % 256) = (y : Int) by omega]
    exact u8_xor_nat _ _ hx h1)
  go_enter Try.func22, Try.ntmps22
  go_wp2
  go_end0
  refine ⟨rfl, ?_⟩
  rw [E.out]
  have e : (fun j => if j = k / 8 then f (k / 8) ^^^ 2 ^ (k % 8) else f j) = flipped f k := funext fun j => by
    unfold flipped
    by_cases hj : j = k / 8
    · rw [if_pos hj, if_pos hj, hj]
    · rw [if_neg hj, if_neg hj]
  rw [← e]
  exact ⟨S.out, (Below.refl _ w).setCell (p := ⟨g, k / 8, none⟩) hg _, fun b hb => Below.heap_setCell w ⟨g, k / 8, none⟩ _ b (fun e => hb (by rw [e]))⟩
theorem flip_any (base : Nat) (A : Option Addr) (m c : Nat) (f : Nat → Nat) (i : Int) (w : World) (h : OwnB w base A m f) (hm : 0 < m) (hm2 : m ≤ 100000) :
    Calls Try.prog 22 #[.slice A m c, .int .i64 i] w fun e w' => e = .returned (.tuple #[]) ∧ OwnB w' base A m (flipped f (bitOf i m)) ∧ Below base w w' :=
  (flip_all base A m c f i w h hm hm2).mono fun _ _ h => ⟨h.1, h.2.1, h.2.2.1⟩
end Go.Proofs.Ytfdjedhbbbdeiaa
