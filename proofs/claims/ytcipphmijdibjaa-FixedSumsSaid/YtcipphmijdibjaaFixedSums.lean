/-
  The law FixedSums: whatever numbers come in, what fixed.Fits and fixed.Add answer is what the document's All and Add answer, and the numbers stay.
-/
import Derived.Test.YtcipphmijdibjaaSame
namespace Go.Proofs.Ytcipphmijdibjaa
open Go.RowKit

set_option maxHeartbeats 400000 in
theorem walkFixedSums (A : Option Addr) (n c : Nat) (z : List Int) (w : World) (h : RowIn w A n c z) :
    Calls Try.prog 3 #[.slice A n c] w fun e w' => e = .returned (.bool true) ∧ Below w.heap.size w w' := by
  have hb := h.bd
  have hN := Lib.hid h.nil
  have HI := Lib.hid h.ints
  generalize (fun i => z.getD i 0) = f at HI
  clear h
  by_cases hbig : 1000 < n
  · go_enter Try.func3, Try.ntmps3
    go_wp2_with fail
    go_ret
    exact ⟨rfl, Below.refl _ _⟩
  · obtain ⟨b, hbool⟩ : ∃ b, b = allFit f n := ⟨_, rfl⟩
    obtain ⟨p, hp⟩ : ∃ p, p = addRes f n := ⟨_, rfl⟩
    obtain ⟨x, e⟩ := p
    have HB := Lib.hid hbool.symm
    have HP := Lib.hid hp.symm
    clear hbool hp
    go_enter Try.func3, Try.ntmps3
    go_wp2_with fail
    refine (copy_any A n c f w HI.out (by omega) hN.out).mono ?_
    rintro e w1 ⟨B, d, rfl, hI, hbel, -⟩
    have J := Lib.hid hI
    have K := Lib.hid hbel
    have I1 := Lib.hid (HI.out.below hbel)
    clear hI hbel
    go_wp2_with fail
    refine (add_any B n d f w1 J.out (by omega) _ HP.out).mono ?_
    rintro e w2 ⟨rfl, hbel⟩
    have J2 := Lib.hid (J.out.below hbel)
    have I2 := Lib.hid (I1.out.below hbel)
    have K2 := Lib.hid (K.out.trans (hbel.mono K.out.size))
    clear hbel
    go_wp2_with fail
    refine (refAdd_any A n c f w2 I2.out (by omega) _ HP.out).mono ?_
    rintro e w3 ⟨rfl, rfl⟩
    go_wp2_with fail
    refine (fits_any B n d f w2 J2.out (by omega) b HB.out).mono ?_
    rintro e w3 ⟨rfl, rfl⟩
    go_wp2_with fail
    refine (all_any A n c f w2 I2.out (by omega) b HB.out).mono ?_
    rintro e w3 ⟨rfl, rfl⟩
    go_wp2_with fail
    refine (same_yes B A n d c f w2 J2.out I2.out (by omega)).mono ?_
    rintro e w3 ⟨rfl, hd⟩
    have K3 := Lib.hid (K2.out.trans (hd.below.mono K2.out.size))
    clear hd
    go_wp2
    go_ret
    exact ⟨rfl, K3.out⟩
end Go.Proofs.Ytcipphmijdibjaa
