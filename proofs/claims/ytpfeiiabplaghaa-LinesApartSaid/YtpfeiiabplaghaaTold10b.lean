/-
  The laws' told, of lines that are those.
-/
import Derived.Test.YtpfeiiabplaghaaTold10
namespace Go.Proofs.Ytpfeiiabplaghaa
open Go.RowKit

/-- lines, by threes, as they lie -/
def TriIn (w : World) (A : Option Addr) (R : List Ln) : Prop := R ≠ [] → ∃ g, A = some ⟨g, 0, none⟩ ∧ g < w.heap.size ∧
  ∀ i x, R[i]? = some x → w.cell? ⟨g, 3 * i, none⟩ = some (.int .i64 (x.1 : Nat)) ∧ w.cell? ⟨g, 3 * i + 1, none⟩ = some (.int .i64 (x.2.1 : Nat)) ∧ w.cell? ⟨g, 3 * i + 2, none⟩ = some (.int .i64 x.2.2)
set_option maxRecDepth 100000 in
set_option maxHeartbeats 4000000 in
theorem told_yes10 (R : List Ln) (v : Value) (A : Option Addr) (m c : Nat) (w : World) (hv : LnIn w v R) (hm : 3 * R.length = m) (hR : R.length ≤ 1000) (hT : TriIn w A R) :
    Calls Try.prog 28 #[v, .int .i64 0, .slice A m c] w fun e w' => e = .returned (.bool true) ∧ ∃ q, w' = w.drewN q := by
  obtain ⟨B, d, rfl, -, hB⟩ := hv
  obtain ⟨n, en⟩ : ∃ n, R.length = n := ⟨_, rfl⟩
  have HB := Lib.hid hB
  have HT := Lib.hid hT
  have HN := Lib.hid en
  rw [en] at hm hR ⊢
  have w0 : IntKind.i64.wrap (3 * (n : Int)) = (m : Int) := by rw [IntWalk.i64_in _ (by omega)]; omega
  have HM := Lib.hid hm
  clear hB hT en hm
  go_enter Try.func28, Try.ntmps28
  go_wp2_with fail
  go_loopg [7] n (fun g1 vi wr => ∃ i q : Nat, vi = .int .i64 i ∧ i ≤ n ∧ n - i ≤ g1 ∧ wr = w.drewN q)
  case atStart => exact ⟨0, 0, rfl, by omega, by omega, rfl⟩
  case round =>
    obtain ⟨i, q, rfl, hi, hg1, rfl⟩ := hrel
    by_cases hlt : i < n
    · have hz : (i : Int) < n := by omega
      have hz0 : (0 : Int) ≤ i := by omega
      have wi : IntKind.i64.wrap ((i : Int) + 1) = (i : Int) + 1 := IntWalk.i64_in _ (by omega)
      have hlp : i < R.length := by have := HN.out; omega
      obtain ⟨g, rfl, -, hat⟩ := HB.out (by intro e; rw [e] at hlp; simp at hlp)
      obtain ⟨g', rfl, -, hat'⟩ := HT.out (by intro e; rw [e] at hlp; simp at hlp)
      obtain ⟨⟨x1, x2, x3⟩, hx⟩ : ∃ x, R[i]? = some x := ⟨_, List.getElem?_eq_getElem hlp⟩
      obtain ⟨c0, c1, c2⟩ := hat i _ hx
      obtain ⟨d0, d1, d2⟩ := hat' i _ hx
      dsimp only at c0 c1 c2 d0 d1 d2
      obtain ⟨j, hj⟩ : ∃ j, 3 * i = j := ⟨_, rfl⟩
      obtain ⟨j1, hj1⟩ : ∃ k, j + 1 = k := ⟨_, rfl⟩
      obtain ⟨j2, hj2⟩ : ∃ k, j + 2 = k := ⟨_, rfl⟩
      have hm := HM.out
      have k0 : IntKind.i64.wrap (3 * (i : Int)) = (j : Int) := by rw [IntWalk.i64_in _ (by omega)]; omega
      have k1 : IntKind.i64.wrap ((j : Int) + 1) = (j1 : Int) := by rw [IntWalk.i64_in _ (by omega)]; omega
      have k2 : IntKind.i64.wrap ((j : Int) + 2) = (j2 : Int) := by rw [IntWalk.i64_in _ (by omega)]; omega
      have l0 : (0 : Int) ≤ j := by omega
      have l1 : (j : Int) < m := by omega
      have l2 : (0 : Int) ≤ j1 := by omega
      have l3 : (j1 : Int) < m := by omega
      have l4 : (0 : Int) ≤ j2 := by omega
      have l5 : (j2 : Int) < m := by omega
      rw [hj] at d0
      rw [hj, hj1] at d1
      rw [hj, hj2] at d2
      generalize (x1 : Int) = y1 at c0 d0
      generalize (x2 : Int) = y2 at c1 d1
      clear hat hat' hx hlp hj hj1 hj2 hm
      go_wp2_with fail
      go_quiet (fail)
      go_wp2_with fail
      go_roundg (n - (i + 1))
      case measure => omega
      case rel => exact ⟨i + 1, q + nq, by go_num, by omega, Nat.le_refl _, rfl⟩
    · obtain rfl : i = n := by omega
      have hz : ¬ (i : Int) < i := by omega
      go_wp2_with fail
      go_ret
      exact ⟨rfl, _, rfl⟩
end Go.Proofs.Ytpfeiiabplaghaa
