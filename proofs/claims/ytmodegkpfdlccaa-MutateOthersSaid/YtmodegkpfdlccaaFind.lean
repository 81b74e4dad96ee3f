/-
  tree.Find of the landed code.
-/
import Derived.Test.YtmodegkpfdlccaaWithin
import Derived.Deep.LoopGhost
namespace Go.Proofs.Ytmodegkpfdlccaa
open Go.RowKit

theorem key_cell {W : World} {A : Option Addr} {n : Nat} {N : Nat → RN} (h : Nodes W A n N) {j : Nat} (hj : j < n) : ∃ b off, A = some ⟨b, off, none⟩ ∧ b < W.heap.size ∧ W.cell? ⟨b, off + j * 51, none⟩ = some (.int .i64 (N j).key) := by
  obtain ⟨b, off, e, hb, hc⟩ := h.2 (by omega)
  exact ⟨b, off, e, hb, (hc j hj 0 (by omega)).trans rfl⟩

set_option maxRecDepth 100000 in
set_option maxHeartbeats 4000000 in
theorem find_any : FindOK := by
  intro A len c x N key w hD hk1 hk2
  have hlen : len ≤ 140737488351232 := by have := hD.1.2.2.2; omega
  unfold docV
  have B0 : Hid (Below w.heap.size w (w.alloc (.cells #[.slice A len c, .int .i64 x] 24))) := Lib.hid ((Below.refl _ w).alloc (Nat.le_refl _) _)
  have HN := Lib.hid (hD.1.1.below B0.out)
  clear hD
  go_enter Try.func72, Try.ntmps72
  go_wp2
  have c0 : (w.alloc (.cells #[.slice A len c, .int .i64 x] 24)).cell? ⟨w.heap.size, 0, none⟩ = some (.slice A len c) := by simp
  generalize w.alloc (.cells #[.slice A len c, .int .i64 x] 24) = W0 at B0 HN c0 ⊢
  go_loop [9] (fun v => ∃ k : Nat, v = .int .i64 k ∧ k ≤ len ∧ Hid (∀ j, j < k → (N j).key ≠ key)) (fun v => len - (intOf v).toNat)
  case atStart => exact ⟨0, rfl, by omega, Lib.hid (fun j hj => absurd hj (by omega))⟩
  case round =>
    obtain ⟨k, rfl, hk, HK⟩ := hrel
    by_cases hlt : k < len
    · have hltz : (k : Int) < len := by omega
      have hk0 : (0 : Int) ≤ k := by omega
      obtain ⟨b, off, rfl, hb, d1⟩ := key_cell HN.out hlt
      by_cases he : (N k).key = key
      · have hee : ((N k).key == key) = true := by simpa using he
        have HE := Lib.hid he
        clear he
        go_wp2
        go_ret
        exact ⟨k, rfl, .inr ⟨k, hlt, rfl, HE.out, HK.out⟩, B0.out⟩
      · have hee : ((N k).key == key) = false := by simpa using he
        have HE := Lib.hid he
        clear he
        go_wp2
        go_round
        case rel => exact ⟨k + 1, by go_num, by omega, Lib.hid (fun j hj => by
          rcases Nat.lt_or_ge j k with h | h
          · exact HK.out j h
          · obtain rfl : j = k := by omega
            exact HE.out)⟩
        case measure => simp [intOf]; omega
    · obtain rfl : k = len := by omega
      go_wp2
      go_ret
      exact ⟨-1, rfl, .inl ⟨rfl, HK.out⟩, B0.out⟩
end Go.Proofs.Ytmodegkpfdlccaa
