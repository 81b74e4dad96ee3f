/-
  The furniture of stage 15's laws: great; lines that were told.
-/
import Derived.Test.YtpjhhndjbpegcaaRefSplit15
namespace Go.Proofs.Ytpjhhndjbpegcaa
open Go.RowKit

structure NearL (f : Nat → Int) (n : Nat) (gap room : Int) : Prop where
  hn : n ≤ 300
  hgap : 0 ≤ gap ∧ gap ≤ 1073741824
  hroom : -1 ≤ room ∧ room ≤ 549755813888
  hf : ∀ i, i < n → -1073741824 ≤ f i ∧ f i ≤ 1073741824
instance (f : Nat → Int) (n : Nat) (gap room : Int) : Decidable (NearL f n gap room) :=
  decidable_of_iff (n ≤ 300 ∧ (0 ≤ gap ∧ gap ≤ 1073741824) ∧ (-1 ≤ room ∧ room ≤ 549755813888) ∧ ∀ i, i < n → -1073741824 ≤ f i ∧ f i ≤ 1073741824) ⟨fun h => ⟨h.1, h.2.1, h.2.2.1, h.2.2.2⟩, fun h => ⟨h.hn, h.hgap, h.hroom, h.hf⟩⟩
/-- numbers near 0 are lengths -/
theorem NearL.ok {f : Nat → Int} {n : Nat} {gap room : Int} (h : NearL f n gap room) : splitE f n gap room = 0 := by
  unfold splitE
  have h1 := h.hn
  have h2 := h.hgap
  have h3 := h.hroom
  rw [if_neg (by omega), if_neg]
  rintro (c | c | c)
  · have : allFit f n = true := decide_eq_true (fun i hi => by have := h.hf i hi; unfold Fit; omega)
    rw [this] at c; cases c
  · exact c (by unfold Fit; omega)
  · exact c (by unfold Fit; omega)
theorem castL_get {l : List (Nat × Nat)} {k : Nat} (h : k < l.length) : mu (castL l) k = (l[k].1 : Int) ∧ md (castL l) k = (l[k].2 : Int) := by
  unfold mu md
  rw [mgAt_get (by rw [castL_len]; exact h)]
  simp [castL]
theorem chain_len {n : Nat} : ∀ {l : List (Nat × Nat)} {i m : Nat}, ChainL n i l → l.length = m → i + m ≤ n
  | [], i, m, h, e => by
    have h' : i = n := h
    simp at e
    omega
  | y :: l, i, m, h, e => by
    obtain ⟨h1, h2, h3, h4⟩ := h
    have := chain_len h4 rfl
    simp at e
    omega
theorem prevTo_at {l : List (Nat × Nat)} {i k : Nat} (h : k < l.length) : prevTo i l (k + 1) = l[k].2 := by
  simp [prevTo, h]
def AwakeOK15 (F : Nat) : Prop := ∀ w : World, Calls Try.prog F #[] w fun e w' => e = .returned (.bool true) ∧ Below w.heap.size w w'
theorem b_next15 {w0 W W' : World} (h : Below w0.heap.size w0 W) (hb : Below W.heap.size W W') : Below w0.heap.size w0 W' := h.trans (hb.mono h.size)
end Go.Proofs.Ytpjhhndjbpegcaa
