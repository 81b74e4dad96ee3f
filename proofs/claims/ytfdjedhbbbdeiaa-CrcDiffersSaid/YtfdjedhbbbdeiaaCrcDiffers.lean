/-
  The law CrcDiffers: any two rows of bytes differ in as many bits as the document says.
-/
import Derived.Test.YtfdjedhbbbdeiaaDiffer
import Derived.Test.YtfdjedhbbbdeiaaRefDiffer
namespace Go.Proofs.Ytfdjedhbbbdeiaa
open Go.RowKit

set_option maxRecDepth 100000 in
set_option maxHeartbeats 2000000 in
theorem differs_walk (A B : Option Addr) (n m c d : Nat) (f g : Nat → Nat) (w : World) (h : Bytes w A n f) (h' : Bytes w B m g) :
    Calls Try.prog 5 #[.slice A n c, .slice B m d] w fun e w' => e = .returned (.bool true) ∧ w' = w := by
  have H := Lib.hid h
  have G := Lib.hid h'
  clear h h'
  by_cases hn : 2000 < n
  · have d1 : (2000 : Int) < n := by omega
    go_enter Try.func5, Try.ntmps5
    go_wp2
    go_ret
    exact ⟨rfl, rfl⟩
  · have d1 : ¬ (2000 : Int) < n := by omega
    by_cases hm : 2000 < m
    · have d2 : (2000 : Int) < m := by omega
      go_enter Try.func5, Try.ntmps5
      go_wp2
      go_ret
      exact ⟨rfl, rfl⟩
    · have d2 : ¬ (2000 : Int) < m := by omega
      have K1 := Lib.hid (differ_any A B n m c d f g w H.out G.out (by omega) (by omega))
      have K2 := Lib.hid (refDiffer_any A B n m c d f g w H.out G.out (by omega) (by omega))
      generalize differOf f n g m = z at K1 K2
      go_enter Try.func5, Try.ntmps5
      go_wp2_with fail
      refine K1.out.mono ?_
      rintro e w1 ⟨rfl, rfl⟩
      go_wp2_with fail
      refine K2.out.mono ?_
      rintro e w2 ⟨rfl, rfl⟩
      go_wp2
      go_ret
      exact ⟨rfl, rfl⟩

theorem walkCrcDiffers (a0 : Option Addr) (len0 cap0 : Nat) (z0 : List Int) (a1 : Option Addr) (len1 cap1 : Nat) (z1 : List Int) (w : World) (w0 : RowIn .u8 w a0 len0 cap0 z0) (w1 : RowIn .u8 w a1 len1 cap1 z1) :
    Calls Try.prog 5 #[.slice a0 len0 cap0, .slice a1 len1 cap1] w fun e w' => e = .returned (.bool true) ∧ Below w.heap.size w w' :=
  (differs_walk a0 a1 len0 len1 cap0 cap1 _ _ w w0.bytes w1.bytes).mono fun e w' h => ⟨h.1, by rw [h.2]; exact Below.refl _ _⟩
end Go.Proofs.Ytfdjedhbbbdeiaa
