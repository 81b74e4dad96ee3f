/-
  The furniture of stage 15's laws: great; lines that were told.
-/
import Derived.Test.YtkakencndopgbaaRefSplit15
namespace Go.Proofs.Ytkakencndopgbaa
open Go.RowKit

structure NearL (f : Nat → Int) (n : Nat) (gap room : Int) : Prop where
  hn : n ≤ 300
  hgap : 0 ≤ gap ∧ gap ≤ 1073741824
  hroom : -1 ≤ room ∧ room ≤ 549755813888
  hf : ∀ i, i < n → -1073741824 ≤ f i ∧ f i ≤ 1073741824
instance (f : Nat → Int) (n : Nat) (gap room : Int) : Decidable (NearL f n gap room) :=
  decidable_of_iff (n ≤ 300 ∧ (0 ≤ gap ∧ gap ≤ 1073741824) ∧ (-1 ≤ room ∧ room ≤ 549755813888) ∧ ∀ i, i < n → -1073741824 ≤ f i ∧ f i ≤ 1073741824) ⟨fun h => ⟨h.1, h.2.1, h.2.2.1, h.2.2.2⟩, fun h => ⟨h.hn, h.hgap, h.hroom, h.hf⟩⟩
set_option maxRecDepth 100000 in
set_option maxHeartbeats 4000000 in
theorem great15 (A : Option Addr) (n c : Nat) (f : Nat → Int) (gap room : Int) (w : World) (h : Ints w A n f) (bg : Bool) (hb : (!decide (NearL f n gap room)) = bg) :
    Calls Try.prog 17 #[.slice A n c, .int .i64 gap, .int .i64 room] w fun e w' => e = .returned (.bool bg) ∧ w = w' := by
  have H := Lib.hid h
  have R : Hid (¬ NearL f n gap room → bg = true) := Lib.hid (fun h => by rw [← hb]; simp [h])
  have R2 : Hid (NearL f n gap room → bg = false) := Lib.hid (fun h => by rw [← hb]; simp [h])
  clear h hb
  by_cases a1 : 300 < n
  · have hz : (300 : Int) < n := by omega
    have RT : Hid (bg = true) := Lib.hid (R.out (fun h => by have := h.hn; omega))
    go_enter Try.func17, Try.ntmps17
    go_wp2_with fail
    go_ret
    exact ⟨by rw [RT.out]; rfl, rfl⟩
  have z1 : ¬ (300 : Int) < n := by omega
  by_cases a2 : gap < 0
  · have RT : Hid (bg = true) := Lib.hid (R.out (fun h => by have := h.hgap; omega))
    go_enter Try.func17, Try.ntmps17
    go_wp2_with fail
    go_ret
    exact ⟨by rw [RT.out]; rfl, rfl⟩
  by_cases a3 : 1073741824 < gap
  · have RT : Hid (bg = true) := Lib.hid (R.out (fun h => by have := h.hgap; omega))
    go_enter Try.func17, Try.ntmps17
    go_wp2_with fail
    go_ret
    exact ⟨by rw [RT.out]; rfl, rfl⟩
  by_cases a4 : room < -1
  · have RT : Hid (bg = true) := Lib.hid (R.out (fun h => by have := h.hroom; omega))
    go_enter Try.func17, Try.ntmps17
    go_wp2_with fail
    go_ret
    exact ⟨by rw [RT.out]; rfl, rfl⟩
  by_cases a5 : 549755813888 < room
  · have RT : Hid (bg = true) := Lib.hid (R.out (fun h => by have := h.hroom; omega))
    go_enter Try.func17, Try.ntmps17
    go_wp2_with fail
    go_ret
    exact ⟨by rw [RT.out]; rfl, rfl⟩
  have Y := Lib.hid (show (n ≤ 300 ∧ (0 ≤ gap ∧ gap ≤ 1073741824)) ∧ (-1 ≤ room ∧ room ≤ 549755813888) by omega)
  go_enter Try.func17, Try.ntmps17
  go_wp2_with fail
  clear z1 a1 a2 a3 a4 a5
  go_loopg [7] n (fun g1 vi wr => ∃ k : Nat, vi = .int .i64 k ∧ k ≤ n ∧ n - k ≤ g1 ∧ Hid (∀ i, i < k → -1073741824 ≤ f i ∧ f i ≤ 1073741824) ∧ w = wr)
  case atStart => exact ⟨0, rfl, by omega, by omega, Lib.hid (fun i hi => absurd hi (by omega)), rfl⟩
  case round =>
    obtain ⟨k, rfl, hk, hg1, HF, rfl⟩ := hrel
    by_cases hlt : k < n
    · have hz : (k : Int) < n := by omega
      have hz0 : (0 : Int) ≤ k := by omega
      have wi : IntKind.i64.wrap ((k : Int) + 1) = (k : Int) + 1 := IntWalk.i64_in _ (by have := Y.out; omega)
      obtain ⟨b, off, rfl, -, c0⟩ := H.out.at_ hlt
      have FX : Hid (∀ x, f k = x → -1073741824 ≤ x ∧ x ≤ 1073741824 → ∀ i, i < k + 1 → -1073741824 ≤ f i ∧ f i ≤ 1073741824) := Lib.hid (fun x e hx i hi => by
        rcases Nat.lt_or_ge i k with h | h
        · exact HF.out i h
        · obtain rfl : i = k := by omega
          rw [e]; exact hx)
      have RX : Hid ((f k < -1073741824 ∨ 1073741824 < f k) → bg = true) := Lib.hid (fun hx => R.out (fun h => by have := h.hf k hlt; omega))
      generalize f k = x at c0 FX RX
      by_cases b1 : x < -1073741824
      · have RT : Hid (bg = true) := Lib.hid (RX.out (by omega))
        go_wp2_with fail
        go_ret
        exact ⟨by rw [RT.out]; rfl, rfl⟩
      · by_cases b2 : 1073741824 < x
        · have RT : Hid (bg = true) := Lib.hid (RX.out (by omega))
          go_wp2_with fail
          go_ret
          exact ⟨by rw [RT.out]; rfl, rfl⟩
        · have FY := Lib.hid (FX.out x rfl ⟨by omega, by omega⟩)
          clear FX
          go_wp2_with fail
          go_roundg (n - (k + 1))
          case measure => omega
          case rel => exact ⟨k + 1, by go_num, by omega, Nat.le_refl _, FY, rfl⟩
    · obtain rfl : k = n := by omega
      have hz : ¬ (k : Int) < k := by omega
      go_wp2_with fail
      go_ret
      exact ⟨by rw [R2.out ⟨Y.out.1.1, Y.out.1.2, Y.out.2, HF.out⟩]; rfl, rfl⟩
/-- numbers near 0 are lengths -/
theorem NearL.ok {f : Nat → Int} {n : Nat} {gap room : Int} (h : NearL f n gap room) : splitE f n gap room = 0 := by
  unfold splitE
  have h1 := h.hn
  have h2 := h.hgap
  have h3 := h.hroom
  rw [if_neg (by omega), if_neg]
  rintro (c | c | c)
  · have : allFit f n = true := decide_eq_true (fun i hi => by have := h.hf i hi; unfold Fit; omega)
    rw [this] at c; cases c
  · exact c (by unfold Fit; omega)
  · exact c (by unfold Fit; omega)
theorem castL_get {l : List (Nat × Nat)} {k : Nat} (h : k < l.length) : mu (castL l) k = (l[k].1 : Int) ∧ md (castL l) k = (l[k].2 : Int) := by
  unfold mu md
  rw [mgAt_get (by rw [castL_len]; exact h)]
  simp [castL]
/-- lines of the call's own, read -/
theorem own_line {W : World} {B : Nat} {v : Value} {l : List (Nat × Nat)} (h : ownsL15 W B v (castL l)) {k : Nat} (hk : k < l.length) : ∃ g c, v = .slice (some ⟨g, 0, none⟩) l.length c ∧ W.cell? ⟨g, k * 2, none⟩ = some (.int .i64 (l[k].1 : Nat)) ∧ W.cell? ⟨g, k * 2 + 1, none⟩ = some (.int .i64 (l[k].2 : Nat)) := by
  obtain ⟨g, c, e, -, -, -, -, h1, -⟩ := h.at_ (by intro e; have : (castL l).length = 0 := by rw [e]; rfl
                                                   rw [castL_len] at this; omega)
  rw [castL_len] at e
  have := h1 k (by rw [castL_len]; exact hk)
  rw [(castL_get hk).1, (castL_get hk).2] at this
  exact ⟨g, c, e, this⟩
theorem chain_len {n : Nat} : ∀ {l : List (Nat × Nat)} {i m : Nat}, ChainL n i l → l.length = m → i + m ≤ n
  | [], i, m, h, e => by
    have h' : i = n := h
    simp at e
    omega
  | y :: l, i, m, h, e => by
    obtain ⟨h1, h2, h3, h4⟩ := h
    have := chain_len h4 rfl
    simp at e
    omega
theorem prevTo_at {l : List (Nat × Nat)} {i k : Nat} (h : k < l.length) : prevTo i l (k + 1) = l[k].2 := by
  simp [prevTo, h]
def AwakeOK15 (F : Nat) : Prop := ∀ w : World, Calls Try.prog F #[] w fun e w' => e = .returned (.bool true) ∧ Below w.heap.size w w'
theorem b_next15 {w0 W W' : World} (h : Below w0.heap.size w0 W) (hb : Below W.heap.size W W') : Below w0.heap.size w0 W' := h.trans (hb.mono h.size)
end Go.Proofs.Ytkakencndopgbaa
