/-
  In how many bits two rows of bytes differ, byte by byte; whether bytes are the same, as the library tells them: plain mathematics.
-/
import Derived.Lib.BitFns
import Derived.Lib.Bytes
import Derived.Test.YtfdjedhbbbdeiaaCrcTold
import Derived.Test.YtfdjedhbbbdeiaaNums
namespace Go.Proofs.Ytfdjedhbbbdeiaa

def byteOnes (x : Nat) : Nat := ones (fun i => x / 2 ^ i % 2) 8
theorem count_all : ∀ x : Fin 256, Lib.onesCount x.val = byteOnes x.val := by decide +kernel
theorem count_byte {x : Nat} (h : x < 256) : Lib.onesCount x = byteOnes x := count_all ⟨x, h⟩
theorem byteOnes_le (x : Nat) : byteOnes x ≤ 8 := ones_le 8 (fun i _ => Nat.mod_lt _ (by omega))
theorem ones_add (e : Nat → Nat) (n k : Nat) : ones e (n + k) = ones e n + ones (fun i => e (n + i)) k := by
  induction k with
  | zero => rfl
  | succ k ih =>
    show ones e (n + k) + e (n + k) = ones e n + (ones (fun i => e (n + i)) k + e (n + k))
    omega
theorem diff_byte (f g : Nat → Nat) (k : Nat) : ones (diff f g) (8 * (k + 1)) = ones (diff f g) (8 * k) + byteOnes (f k ^^^ g k) := by
  rw [show 8 * (k + 1) = 8 * k + 8 by omega, ones_add]
  congr 1
  refine ones_congr fun i hi => ?_
  show bitAt f (8 * k + i) ^^^ bitAt g (8 * k + i) = _
  have h1 := bitAt_of f k 0 i hi
  have h2 := bitAt_of g k 0 i hi
  rw [Nat.mul_zero, Nat.zero_add, Nat.add_zero] at h1 h2
  rw [h1, h2, ← bit_xor]
theorem diff_symm (f g : Nat → Nat) (n : Nat) : ones (diff f g) n = ones (diff g f) n := ones_congr fun _ _ => Nat.xor_comm _ _
/-- in how many bits two rows differ -/
def differOf (f : Nat → Nat) (n : Nat) (g : Nat → Nat) (m : Nat) : Nat := 8 * (max n m - min n m) + ones (diff f g) (8 * min n m)
theorem differ_le_eq {f g : Nat → Nat} {n m : Nat} (h : n ≤ m) : differOf f n g m = 8 * (m - n) + ones (diff f g) (8 * n) := by
  unfold differOf; rw [Nat.max_eq_right h, Nat.min_eq_left h]
theorem differ_symm (f g : Nat → Nat) (n m : Nat) : differOf f n g m = differOf g m f n := by
  unfold differOf; rw [Nat.max_comm, Nat.min_comm, diff_symm]
theorem differ_one (f g : Nat → Nat) (n : Nat) : differOf f n g n = ones (diff f g) (8 * n) := by
  rw [differ_le_eq (Nat.le_refl n)]; omega

/-- bytes as the library's integers -/
def ints (f : Nat → Nat) (n : Nat) : List Int := (seg f 0 n).map fun (x : Nat) => (x : Int)
theorem ints_len (f : Nat → Nat) (n : Nat) : (ints f n).length = n := by simp [ints, seg_len]
theorem ints_get (f : Nat → Nat) (n i : Nat) (h : i < n) : (ints f n).getD i 0 = (f i : Int) := by
  simp [ints, List.getD, seg_get f 0 n i h]
theorem byte_inj {x y : Nat} (hx : x < 256) (hy : y < 256) (h : UInt8.ofNat x = UInt8.ofNat y) : x = y := by
  have := congrArg UInt8.toNat h
  simp only [UInt8.toNat_ofNat'] at this
  omega
theorem bytesOf_ints (f g : Nat → Nat) (n m : Nat) (hf : ∀ i, i < n → f i < 256) (hg : ∀ i, i < m → g i < 256) : (Lib.bytesOf (ints f n) == Lib.bytesOf (ints g m)) = true ↔ n = m ∧ ∀ i, i < n → f i = g i := by
  rw [beq_iff_eq]
  constructor
  · intro h
    have hl := congrArg List.length h
    rw [Lib.bytesOf_length, Lib.bytesOf_length, ints_len, ints_len] at hl
    subst hl
    refine ⟨rfl, fun i hi => ?_⟩
    have h1 : ∀ e : Nat → Nat, (Lib.bytesOf (ints e n))[i]? = some (UInt8.ofNat (e i)) := fun e => by
      simp [Lib.bytesOf, ints, seg_get e 0 n i hi]
    have h2 := h1 f
    rw [h, h1 g] at h2
    injection h2 with h2
    exact (byte_inj (hg i hi) (hf i hi) h2).symm
  · rintro ⟨rfl, h⟩
    have : seg f 0 n = seg g 0 n := seg_congr fun i hi => by rw [Nat.zero_add]; exact h i hi
    unfold ints; rw [this]
end Go.Proofs.Ytfdjedhbbbdeiaa
