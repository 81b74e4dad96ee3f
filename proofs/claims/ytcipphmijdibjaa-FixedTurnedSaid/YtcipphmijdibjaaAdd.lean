/-
  What fixed.length and fixed.Add answer: a number, if it is a length; the sum of numbers, if all are lengths and it is one; else ErrOver.
-/
import Derived.Test.YtcipphmijdibjaaFits
import Derived.Laws.BitsAllLaws
import Derived.Laws.BitsLemmas
namespace Go.Proofs.Ytcipphmijdibjaa
open Go.RowKit

/-- a number and an error's number: what a call answers that refuses what is no length -/
def pair (x : Int) : Int × Int := if Fit x then (x, 0) else (0, 10)
theorem length_any (x : Int) (hx : -9223372036854775808 ≤ x ∧ x ≤ 9223372036854775807) (w : World) (p : Int × Int) (hp : pair x = p) :
    Calls Try.prog 31 #[.int .i64 x] w fun e w' => e = .returned (.tuple #[.int .i64 p.1, .int .i64 p.2]) ∧ Below w.heap.size w w' := by
  subst hp
  by_cases h : Fit x
  · have e : pair x = (x, 0) := by simp [pair, h]
    rw [e]
    clear e
    have D : Hid (allFit (fun _ => x) 1 = true) := Lib.hid (by simp [allFit, h])
    have I := Lib.hid (fun W => Ints.one W x hx)
    clear h hx
    go_enter Try.func31, Try.ntmps31
    go_wp2_with (go_at_call 15; refine (fits_any _ _ _ (fun _ => x) _ (I.out _ _) (by omega) true D.out).mono ?_; rintro e w' ⟨rfl, rfl⟩)
    go_ret2
    exact ⟨rfl, (Below.refl _ _).alloc (Nat.le_refl _) _⟩
  · have e : pair x = (0, 10) := by simp [pair, h]
    rw [e]
    clear e
    have D : Hid (allFit (fun _ => x) 1 = false) := Lib.hid (by simp [allFit, h])
    have I := Lib.hid (fun W => Ints.one W x hx)
    clear h hx
    go_enter Try.func31, Try.ntmps31
    go_wp2_with (go_at_call 15; refine (fits_any _ _ _ (fun _ => x) _ (I.out _ _) (by omega) false D.out).mono ?_; rintro e w' ⟨rfl, rfl⟩)
    go_ret2
    exact ⟨rfl, (Below.refl _ _).alloc (Nat.le_refl _) _⟩

theorem pair_yes {x : Int} (h : Fit x) : pair x = (x, 0) := by simp [pair, h]
theorem pair_no {x : Int} (h : ¬ Fit x) : pair x = (0, 10) := by simp [pair, h]
def sumI (f : Nat → Int) : Nat → Int
  | 0 => 0
  | k + 1 => sumI f k + f k
theorem and_mask (x : Int) : bits BinOp.and IntKind.i64 x 1048575 = x % 1048576 := by
  show IntKind.i64.wrap ((BitVec.ofInt 64 x &&& BitVec.ofInt 64 1048575).toNat : Int) = _
  rw [BitVec.toNat_and]
  have e : (BitVec.ofInt 64 1048575).toNat = 2 ^ 20 - 1 := by decide
  rw [e, Nat.and_two_pow_sub_one_eq_mod, BitVec.toNat_ofInt, IntKind.wrap_i64]
  omega
def up (f : Nat → Int) (k : Nat) : Int := sumI (fun i => f i / 1048576) k
def low (f : Nat → Int) (k : Nat) : Int := sumI (fun i => f i % 1048576) k
theorem up_low (f : Nat → Int) (k : Nat) : up f k * 1048576 + low f k = sumI f k := by
  induction k with
  | zero => simp [up, low, sumI]
  | succ k ih => simp only [up, low, sumI] at *; omega
theorem up_bd (f : Nat → Int) (k : Nat) (h : ∀ i, i < k → Fit (f i)) : -1048576 * k ≤ up f k ∧ up f k ≤ 1048576 * k := by
  induction k with
  | zero => simp [up, sumI]
  | succ k ih =>
    have := ih fun i hi => h i (by omega)
    have hk := h k (by omega)
    simp only [up, sumI, Fit] at *
    omega
theorem low_bd (f : Nat → Int) (k : Nat) : 0 ≤ low f k ∧ low f k ≤ 1048575 * k := by
  induction k with
  | zero => simp [low, sumI]
  | succ k ih => simp only [low, sumI] at *; omega
theorem up_step (f : Nat → Int) (k : Nat) : up f (k + 1) = up f k + f k / 1048576 := rfl
theorem low_step (f : Nat → Int) (k : Nat) : low f (k + 1) = low f k + f k % 1048576 := rfl

/-- what a sum of numbers comes to: ErrOver, unless all are lengths, and it is -/
def addRes (f : Nat → Int) (n : Nat) : Int × Int := if allFit f n then pair (sumI f n) else (0, 10)
theorem add_no (A : Option Addr) (n c : Nat) (f : Nat → Int) (w : World) (h : Ints w A n f) (hn : n ≤ 1048576) (hf : allFit f n = false) :
    Calls Try.prog 13 #[.slice A n c] w fun e w' => e = .returned (.tuple #[.int .i64 0, .int .i64 10]) ∧ Below w.heap.size w w' := by
  have H := Lib.hid h
  have F := Lib.hid hf
  clear h hf
  go_enter Try.func13, Try.ntmps13
  go_wp2_with (go_at_call 15; refine (fits_any _ _ _ f _ H.out (by omega) false F.out).mono ?_; rintro e w' ⟨rfl, rfl⟩)
  go_ret2
  exact ⟨rfl, Below.refl _ _⟩
set_option maxHeartbeats 400000 in
theorem add_yes (A : Option Addr) (n c : Nat) (f : Nat → Int) (w : World) (h : Ints w A n f) (hn : n ≤ 1048576) (hf : allFit f n = true) (p : Int × Int) (hp : pair (sumI f n) = p) :
    Calls Try.prog 13 #[.slice A n c] w fun e w' => e = .returned (.tuple #[.int .i64 p.1, .int .i64 p.2]) ∧ Below w.heap.size w w' := by
  have H := Lib.hid h
  have F := Lib.hid hf
  have G : Hid (∀ i, i < n → Fit (f i)) := Lib.hid (by simpa [allFit] using hf)
  have PP := Lib.hid hp
  clear h hf hp
  go_enter Try.func13, Try.ntmps13
  go_wp2_with (go_at_call 15; refine (fits_any _ _ _ f _ H.out (by omega) true F.out).mono ?_; rintro e w' ⟨rfl, rfl⟩)
  go_loop [4, 5, 13] (fun a b i => ∃ k : Nat, k ≤ n ∧ a = .int .i64 (up f k) ∧ b = .int .i64 (low f k) ∧ i = .int .i64 k) (fun _ _ i => n - (intOf i).toNat)
  case atStart => exact ⟨0, by omega, rfl, rfl, rfl⟩
  case round =>
    obtain ⟨k, hk, rfl, rfl, rfl⟩ := hrel
    by_cases hlt : k < n
    · obtain ⟨b, off, rfl, hb, hc⟩ := H.out.at_ hlt
      have bu := up_bd f k (fun i hi => G.out i (by omega))
      have bl := low_bd f k
      have bk : Fit (f k) := G.out k hlt
      have S1 : Hid _ := Lib.hid (up_step f k)
      have S2 : Hid _ := Lib.hid (low_step f k)
      unfold Fit at bk
      generalize hu : up f k = u at bu S1 ⊢
      generalize hl : low f k = l at bl S2 ⊢
      generalize hx : f k = x at hc bk S1 S2
      clear hu hl hx hb
      have hand := and_mask x
      go_wp2
      go_round
      case rel => exact ⟨k + 1, by omega, by rw [S1.out], by rw [S2.out], by go_num⟩
      case measure => simp [intOf]; omega
    · obtain rfl : k = n := by omega
      have bu := up_bd f k (fun i hi => G.out i (by omega))
      have bl := low_bd f k
      have S := Lib.hid (up_low f k)
      have PS := PP.out
      rw [← S.out] at PS
      have PS' := Lib.hid PS
      clear PS PP G F
      generalize up f k = u at bu PS' ⊢
      generalize low f k = l at bl PS' ⊢
      clear S
      have hand := and_mask l
      have D0 : -9223372036854775808 ≤ u + l / 1048576 ∧ u + l / 1048576 ≤ 9223372036854775807 := by omega
      have I := Lib.hid (fun W => Ints.one W (u + l / 1048576) D0)
      by_cases hU : Fit (u + l / 1048576)
      · have D : Hid (allFit (fun _ => u + l / 1048576) 1 = true) := Lib.hid (by simp [allFit, hU])
        unfold Fit at hU
        have QQ : Hid (pair ((u + l / 1048576) * 1048576 + l % 1048576) = p) := Lib.hid (by
          rw [← PS'.out]; congr 1; omega)
        clear D0
        go_wp2_with (first | (go_at_call 15; refine (fits_any _ _ _ (fun _ => u + l / 1048576) _ (I.out _ _) (by omega) true D.out).mono ?_; rintro e w' ⟨rfl, rfl⟩) | (go_at_call 31; refine (length_any _ (by omega) _ p QQ.out).mono ?_; rintro e w' ⟨rfl, hb⟩))
        go_ret2
        exact ⟨rfl, ((Below.refl _ _).alloc (Nat.le_refl _) _).trans (hb.mono (by simp))⟩
      · have D : Hid (allFit (fun _ => u + l / 1048576) 1 = false) := Lib.hid (by simp [allFit, hU])
        have QQ : Hid (p = (0, 10)) := Lib.hid (by
          rw [← PS'.out]; exact pair_no (by unfold Fit at *; omega))
        clear D0 hU
        go_wp2_with (go_at_call 15; refine (fits_any _ _ _ (fun _ => u + l / 1048576) _ (I.out _ _) (by omega) false D.out).mono ?_; rintro e w' ⟨rfl, rfl⟩)
        go_ret2
        exact ⟨by rw [QQ.out]; rfl, (Below.refl _ _).alloc (Nat.le_refl _) _⟩
theorem add_any (A : Option Addr) (n c : Nat) (f : Nat → Int) (w : World) (h : Ints w A n f) (hn : n ≤ 1048576) (p : Int × Int) (hp : addRes f n = p) :
    Calls Try.prog 13 #[.slice A n c] w fun e w' => e = .returned (.tuple #[.int .i64 p.1, .int .i64 p.2]) ∧ Below w.heap.size w w' := by
  subst hp
  unfold addRes
  by_cases hf : allFit f n = true
  · rw [if_pos hf]
    exact add_yes A n c f w h hn hf _ rfl
  · rw [if_neg hf]
    exact add_no A n c f w h hn (by simpa using hf)
end Go.Proofs.Ytcipphmijdibjaa
