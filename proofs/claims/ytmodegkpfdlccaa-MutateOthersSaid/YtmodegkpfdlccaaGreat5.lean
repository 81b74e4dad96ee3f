/-
  The law's Great: does a document have more than 320 nodes, or texts of more than 5000 bytes?
-/
import Derived.WalkKit
import Derived.BigQuiet
import Derived.Deep.QuietTactic
import Derived.IntWalk
import Derived.Deep.LoopGhost
import Derived.Test.YtmodegkpfdlccaaProg
import Derived.Test.YtmodegkpfdlccaaNodes
namespace Go.Proofs.Ytmodegkpfdlccaa
open Go.RowKit

theorem below_drew {B : Nat} {a w : World} (h : Below B a w) (n : Nat) : Below B a (w.drewN n) := ⟨h.os, h.tape, h.output, h.size, h.block⟩
def Drew (w w' : World) : Prop := ∃ q, w' = w.drewN q
theorem Drew.below {w w' : World} (h : Drew w w') : Below w.heap.size w w' := by
  obtain ⟨q, rfl⟩ := h
  exact below_drew (Below.refl _ _) q

def bytesTo (N : Nat → RN) : Nat → Nat
  | 0 => 0
  | k + 1 => bytesTo N k + (N k).text.length

set_option maxRecDepth 100000 in
set_option maxHeartbeats 4000000 in
theorem great5_any (A : Option Addr) (n c : Nat) (x : Int) (N : Nat → RN) (w : World) (h : DocIn w A n c x N) :
    Calls Try.prog 21 #[docV A n c x] w fun e w' => ∃ g : Bool, e = .returned (.bool g) ∧ (g = false → n ≤ 320 ∧ bytesTo N n ≤ 5000) ∧ Below w.heap.size w w' := by
  have H1 := h.1.1
  have hn : n ≤ 140737488351232 := by have := h.1.2.2.2; omega
  clear h
  have B0 : Hid (Below w.heap.size w (w.alloc (.cells #[.slice A n c, .int .i64 x] 24))) := Lib.hid ((Below.refl _ w).alloc (Nat.le_refl _) _)
  have C0 : Hid ((w.alloc (.cells #[.slice A n c, .int .i64 x] 24)).cell? ⟨w.heap.size, 0, none⟩ = some (.slice A n c)) := Lib.hid (by unfold World.cell?; rw [heap_alloc_new]; rfl)
  have H := Lib.hid (H1.below B0.out)
  clear H1
  unfold docV
  go_enter Try.func21, Try.ntmps21
  go_wp2
  · go_ret
    exact ⟨true, rfl, by simp, B0.out⟩
  generalize w.alloc (.cells #[.slice A n c, .int .i64 x] 24) = W0 at B0 C0 H ⊢
  go_loopg [3, 4] n (fun g1 vs vi wr => ∃ k : Nat, vi = .int .i64 k ∧ vs = .int .i64 (5000 - (bytesTo N k : Nat)) ∧ k ≤ n ∧ n - k ≤ g1 ∧ bytesTo N k ≤ 5000 ∧ Hid (Drew W0 wr))
  case atStart => exact ⟨0, rfl, rfl, by omega, by omega, by show 0 ≤ 5000; omega, Lib.hid ⟨0, rfl⟩⟩
  case round =>
    obtain ⟨k, rfl, rfl, hk, hg1, hw4, D⟩ := hrel
    by_cases hlt : k < n
    · have hkz : (k : Int) < n := by omega
      have hk0 : (0 : Int) ≤ k := by omega
      obtain ⟨q, rfl⟩ := D.out
      obtain ⟨b, off, rfl, hb, hN⟩ := H.out.2 (by omega)
      have T := hN k hlt 50 (by omega)
      have L := (H.out.1 k hlt).text
      have TE : (N k).cells[50]? = some (.string ⟨(N k).text.toArray⟩) := (H.out.1 k hlt).last
      rw [TE] at T
      have C := C0.out
      have S : Hid (bytesTo N (k + 1) = bytesTo N k + (N k).text.length) := Lib.hid rfl
      obtain ⟨y, hy⟩ : ∃ y, bytesTo N (k + 1) = y := ⟨_, rfl⟩
      have YE := Lib.hid hy
      rw [hy] at S
      clear hy TE hN
      generalize bytesTo N k = z at S hw4 ⊢
      generalize (N k).text = t at S T L
      by_cases hbig : 5000 < y
      · have e1 : (5000 : Int) - z < t.length := by have := S.out; omega
        go_wp2_with fail
        go_ret
        exact ⟨true, rfl, by simp, below_drew B0.out _⟩
      · have e1 : ¬ (5000 : Int) - z < t.length := by have := S.out; omega
        go_wp2_with fail
        go_roundg (n - (k + 1))
        case measure => omega
        case rel => exact ⟨k + 1, by go_num, by rw [YE.out, S.out]; go_num, by omega, Nat.le_refl _, by rw [YE.out]; omega, Lib.hid ⟨_, rfl⟩⟩
    · obtain rfl : k = n := by omega
      obtain ⟨q, rfl⟩ := D.out
      have C := C0.out
      go_wp2
      go_ret
      exact ⟨false, rfl, fun _ => ⟨by omega, hw4⟩, below_drew B0.out _⟩
end Go.Proofs.Ytmodegkpfdlccaa
