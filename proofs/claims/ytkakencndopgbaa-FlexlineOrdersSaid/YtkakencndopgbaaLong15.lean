/-
  How long some boxes are: what the document's long, and the laws' long, answer.
-/
import Derived.Test.YtkakencndopgbaaLinesM15
import Derived.IntWalk
import Derived.Deep.LoopGhost
import Derived.Lib.Hide
namespace Go.Proofs.Ytkakencndopgbaa
open Go.RowKit

/-- the sum of the first so many -/
def sumQ (f : Nat → Int) : Nat → Int
  | 0 => 0
  | k + 1 => sumQ f k + f k
theorem sumF_sumQ (f : Nat → Int) (i k : Nat) : sumF f i k = sumQ (fun j => f (i + j)) k := by
  induction k with
  | zero => rfl
  | succ k ih => rw [sumF, sumQ, ih]
theorem sumQ_bd15 {f : Nat → Int} {c : Int} (k : Nat) (h : ∀ j, j < k → -c ≤ f j ∧ f j ≤ c) : -(k * c) ≤ sumQ f k ∧ sumQ f k ≤ k * c := by
  have := sumF_bd (f := f) (c := c) 0 k (fun j _ hj => h j (by omega))
  have e : sumF f 0 k = sumQ f k := by rw [sumF_sumQ]; congr 1; funext j; rw [Nat.zero_add]
  rwa [e] at this
theorem gap_bd {gap : Int} {n : Nat} (h0 : 0 ≤ gap) (h1 : gap ≤ 1099511627776) (hn : n ≤ 100000) : -1099511627776 ≤ gap * ((n : Int) - 1) ∧ gap * ((n : Int) - 1) ≤ 109951162777600000 := by
  cases n with
  | zero => simp; omega
  | succ n =>
    have e : ((n + 1 : Nat) : Int) - 1 = (n : Int) := by omega
    rw [e]
    have a : gap * (n : Int) ≤ 1099511627776 * (n : Int) := Int.mul_le_mul_of_nonneg_right h1 (by omega)
    have b : 0 ≤ gap * (n : Int) := Int.mul_nonneg h0 (by omega)
    omega
/-- part of a row of numbers -/
theorem Ints.part {w : World} {b off n : Nat} {f : Nat → Int} (h : Ints w (some ⟨b, off, none⟩) n f) {i j : Nat} (hi : i ≤ j) (hj : j ≤ n) : Ints w (some ⟨b, off + i, none⟩) (j - i) (fun k => f (i + k)) := by
  refine ⟨fun k hk => h.1 (i + k) (by omega), fun h0 => ?_⟩
  obtain ⟨b', off', e, hb, hc⟩ := h.2 (by omega)
  injection e with e
  injection e with e1 e2
  subst e1 e2
  exact ⟨b, off + i, rfl, hb, fun k hk => by have := hc (i + k) (by omega); rwa [← Nat.add_assoc] at this⟩
set_option maxRecDepth 100000 in
set_option maxHeartbeats 4000000 in
theorem refLong15 (A : Option Addr) (n c : Nat) (f : Nat → Int) (gap : Int) (w : World) (h : Ints w A n f) (hn : n ≤ 100000) (hg : 0 ≤ gap ∧ gap ≤ 1099511627776) (hf : ∀ i, i < n → -1099511627776 ≤ f i ∧ f i ≤ 1099511627776) (r : Int) (hr : gap * ((n : Int) - 1) + sumQ f n = r) :
    Calls Try.prog 24 #[.slice A n c, .int .i64 gap] w fun e w' => e = .returned (.int .i64 r) ∧ w = w' := by
  have H := Lib.hid h
  have R := Lib.hid hr
  have F := Lib.hid hf
  have GB := gap_bd hg.1 hg.2 hn
  obtain ⟨a, ha⟩ : ∃ a, gap * ((n : Int) - 1) = a := ⟨_, rfl⟩
  have w1 : IntKind.i64.wrap ((n : Int) - 1) = (n : Int) - 1 := IntWalk.i64_in _ (by omega)
  rw [ha] at GB R
  have w2 : IntKind.i64.wrap (gap * ((n : Int) - 1)) = a := by rw [ha]; exact IntWalk.i64_in _ (by omega)
  have HG := Lib.hid GB
  clear h hr hf ha GB hg
  go_enter Try.func24, Try.ntmps24
  go_wp2_with fail
  clear w1 w2
  go_loopg [5, 6] n (fun g1 vn vi wr => ∃ k : Nat, vi = .int .i64 k ∧ vn = .int .i64 (a + sumQ f k) ∧ k ≤ n ∧ n - k ≤ g1 ∧ w = wr)
  case atStart => exact ⟨0, rfl, by simp [sumQ], by omega, by omega, rfl⟩
  case round =>
    obtain ⟨k, rfl, rfl, hk, hg1, rfl⟩ := hrel
    by_cases hlt : k < n
    · have hz : (k : Int) < n := by omega
      have hz0 : (0 : Int) ≤ k := by omega
      have wi : IntKind.i64.wrap ((k : Int) + 1) = (k : Int) + 1 := IntWalk.i64_in _ (by omega)
      obtain ⟨b, off, rfl, -, c0⟩ := H.out.at_ hlt
      have B := sumQ_bd15 (k + 1) (fun j hj => F.out j (by omega))
      have E := Lib.hid (show a + sumQ f k + f k = a + sumQ f (k + 1) by rw [sumQ]; omega)
      have wv : IntKind.i64.wrap (a + sumQ f k + f k) = a + sumQ f (k + 1) := by rw [E.out]; exact IntWalk.i64_in _ (by have := HG.out; omega)
      clear B
      go_wp2_with fail
      go_roundg (n - (k + 1))
      case measure => omega
      case rel => exact ⟨k + 1, by go_num, rfl, by omega, Nat.le_refl _, rfl⟩
    · obtain rfl : k = n := by omega
      have hz : ¬ (k : Int) < k := by omega
      go_wp2_with fail
      go_ret
      exact ⟨by rw [R.out]; rfl, rfl⟩
set_option maxRecDepth 100000 in
set_option maxHeartbeats 4000000 in
theorem lawLong15 (A : Option Addr) (n c : Nat) (f : Nat → Int) (gap : Int) (w : World) (h : Ints w A n f) (hn : n ≤ 100000) (hg : 0 ≤ gap ∧ gap ≤ 1099511627776) (hf : ∀ i, i < n → -1099511627776 ≤ f i ∧ f i ≤ 1099511627776) (r : Int) (hr : gap * ((n : Int) - 1) + sumQ f n = r) :
    Calls Try.prog 18 #[.slice A n c, .int .i64 gap] w fun e w' => e = .returned (.int .i64 r) ∧ w = w' := by
  have H := Lib.hid h
  have R := Lib.hid hr
  have F := Lib.hid hf
  have GB := gap_bd hg.1 hg.2 hn
  obtain ⟨a, ha⟩ : ∃ a, gap * ((n : Int) - 1) = a := ⟨_, rfl⟩
  have w1 : IntKind.i64.wrap ((n : Int) - 1) = (n : Int) - 1 := IntWalk.i64_in _ (by omega)
  rw [ha] at GB R
  have w2 : IntKind.i64.wrap (gap * ((n : Int) - 1)) = a := by rw [ha]; exact IntWalk.i64_in _ (by omega)
  have HG := Lib.hid GB
  clear h hr hf ha GB hg
  go_enter Try.func18, Try.ntmps18
  go_wp2_with fail
  clear w1 w2
  go_loopg [5, 6] n (fun g1 vn vi wr => ∃ k : Nat, vi = .int .i64 k ∧ vn = .int .i64 (a + sumQ f k) ∧ k ≤ n ∧ n - k ≤ g1 ∧ w = wr)
  case atStart => exact ⟨0, rfl, by simp [sumQ], by omega, by omega, rfl⟩
  case round =>
    obtain ⟨k, rfl, rfl, hk, hg1, rfl⟩ := hrel
    by_cases hlt : k < n
    · have hz : (k : Int) < n := by omega
      have hz0 : (0 : Int) ≤ k := by omega
      have wi : IntKind.i64.wrap ((k : Int) + 1) = (k : Int) + 1 := IntWalk.i64_in _ (by omega)
      obtain ⟨b, off, rfl, -, c0⟩ := H.out.at_ hlt
      have B := sumQ_bd15 (k + 1) (fun j hj => F.out j (by omega))
      have E := Lib.hid (show a + sumQ f k + f k = a + sumQ f (k + 1) by rw [sumQ]; omega)
      have wv : IntKind.i64.wrap (a + sumQ f k + f k) = a + sumQ f (k + 1) := by rw [E.out]; exact IntWalk.i64_in _ (by have := HG.out; omega)
      clear B
      go_wp2_with fail
      go_roundg (n - (k + 1))
      case measure => omega
      case rel => exact ⟨k + 1, by go_num, rfl, by omega, Nat.le_refl _, rfl⟩
    · obtain rfl : k = n := by omega
      have hz : ¬ (k : Int) < k := by omega
      go_wp2_with fail
      go_ret
      exact ⟨by rw [R.out]; rfl, rfl⟩
end Go.Proofs.Ytkakencndopgbaa
