/-
  The document's Same tells of two lists that read the same that they are.
-/
import Derived.Test.YtpjhhndjbpegcaaLists
namespace Go.Proofs.Ytpjhhndjbpegcaa
open Go.RowKit

theorem below_drewN {B : Nat} {a w : World} (h : Below B a w) (n : Nat) : Below B a (w.drewN n) := ⟨h.os, h.tape, h.output, h.size, h.block⟩
/-- the world behind a call that reads in an order that Go leaves open -/
def Drawn (w w' : World) : Prop := ∃ q, w' = w.drewN q
theorem Drawn.below {w w' : World} (h : Drawn w w') : Below w.heap.size w w' := by
  obtain ⟨q, rfl⟩ := h
  exact below_drewN (Below.refl _ _) q
theorem same_yes (A B : Option Addr) (n c d : Nat) (f : Nat → Int) (w : World) (h : Ints w A n f) (g : Ints w B n f) (hn : n ≤ 4611686018427387904) :
    Calls Try.prog 13 #[.slice A n c, .slice B n d] w fun e w' => e = .returned (.bool true) ∧ Drawn w w' := by
  have H := Lib.hid h
  have G := Lib.hid g
  clear h g
  go_enter Try.func13, Try.ntmps13
  go_wp2
  go_loopw [5] (fun i wr => ∃ k : Nat, k ≤ n ∧ i = .int .i64 k ∧ Drawn w wr) (fun i _ => n - (intOf i).toNat)
  case atStart => exact ⟨0, Nat.zero_le _, rfl, 0, rfl⟩
  case round =>
    obtain ⟨k, hk, rfl, hd⟩ := hrel
    have D := Lib.hid hd
    by_cases hlt : k < n
    · obtain ⟨q, rfl⟩ := hd
      obtain ⟨b, off, rfl, hb, hc⟩ := H.out.at_ hlt
      obtain ⟨b', off', rfl, hb', hc'⟩ := G.out.at_ hlt
      clear hb hb'
      generalize f k = x at hc hc'
      have hx : (x != x) = false := by simp
      have hlt' : (k : Int) < n := by omega
      have hk0 : (0 : Int) ≤ k := by omega
      go_wp2_with (fail)
      go_quiet (fail)
      go_wp2
      go_roundw
      case rel => exact ⟨k + 1, by omega, by go_num, _, rfl⟩
      case measure => simp [intOf]; omega
    · go_wp2
      go_ret
      exact ⟨rfl, D.out⟩
end Go.Proofs.Ytpjhhndjbpegcaa
