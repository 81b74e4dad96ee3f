/-
  Bytes as the library's integers: whether bytes are the same, as the library tells it.
-/
import Derived.Lib.Bytes
import Derived.Test.YtkjndgnjilfobaaNums
namespace Go.Proofs.Ytkjndgnjilfobaa

/-- bytes as the library's integers -/
def ints (f : Nat → Nat) (n : Nat) : List Int := (seg f 0 n).map fun (x : Nat) => (x : Int)
theorem ints_len (f : Nat → Nat) (n : Nat) : (ints f n).length = n := by simp [ints, seg_len]
theorem ints_get (f : Nat → Nat) (n i : Nat) (h : i < n) : (ints f n).getD i 0 = (f i : Int) := by
  simp [ints, List.getD, seg_get f 0 n i h]
theorem byte_inj {x y : Nat} (hx : x < 256) (hy : y < 256) (h : UInt8.ofNat x = UInt8.ofNat y) : x = y := by
  have := congrArg UInt8.toNat h
  simp only [UInt8.toNat_ofNat'] at this
  omega
theorem bytesOf_ints (f g : Nat → Nat) (n m : Nat) (hf : ∀ i, i < n → f i < 256) (hg : ∀ i, i < m → g i < 256) : (Lib.bytesOf (ints f n) == Lib.bytesOf (ints g m)) = true ↔ n = m ∧ ∀ i, i < n → f i = g i := by
  rw [beq_iff_eq]
  constructor
  · intro h
    have hl := congrArg List.length h
    rw [Lib.bytesOf_length, Lib.bytesOf_length, ints_len, ints_len] at hl
    subst hl
    refine ⟨rfl, fun i hi => ?_⟩
    have h1 : ∀ e : Nat → Nat, (Lib.bytesOf (ints e n))[i]? = some (UInt8.ofNat (e i)) := fun e => by
      simp [Lib.bytesOf, ints, seg_get e 0 n i hi]
    have h2 := h1 f
    rw [h, h1 g] at h2
    injection h2 with h2
    exact (byte_inj (hg i hi) (hf i hi) h2).symm
  · rintro ⟨rfl, h⟩
    have : seg f 0 n = seg g 0 n := seg_congr fun i hi => by rw [Nat.zero_add]; exact h i hi
    unfold ints; rw [this]
end Go.Proofs.Ytkjndgnjilfobaa
