/-
  What is asked of sizes: parts of greater widths, whole boxes, sides exchanged, nothing asked for.
-/
import Derived.Test.YtgfcddanikeelaaMayMath
import Derived.Test.YtgfcddanikeelaaStyleWidth
namespace Go.Proofs.Ytgfcddanikeelaa
open Go.RowKit

theorem content_same {wh : Bool} {l : RL} {x ed : Int} : (contentR wh l x ed).2.1 = (resolveR l x).2.1 ∧ (contentR wh l x ed).2.2 = (resolveR l x).2.2 ∧
    ((resolveR l x).2.1 = true → (wh = false → (contentR wh l x ed).1 = (resolveR l x).1) ∧ (wh = true → (contentR wh l x ed).1 = max ((resolveR l x).1 - ed) 0)) := by
  unfold contentR
  by_cases h : (resolveR l x).2.1 = true ∧ wh = true
  · rw [if_pos h]
    exact ⟨h.1.symm, (resolve_yes h.1).2.symm, fun _ => ⟨(fun e => by rw [h.2] at e; cases e), fun _ => rfl⟩⟩
  · rw [if_neg h]
    exact ⟨rfl, rfl, fun e => ⟨fun _ => rfl, fun e2 => absurd ⟨e, e2⟩ h⟩⟩
theorem resolve_may {l : RL} (h : LenMay l 0) (hk : l.kind ≠ 2) (x : Int) : (resolveR l x).2.2 = 0 := by
  unfold resolveR
  by_cases h1 : l.kind = 1
  · rw [if_pos h1, if_pos (by unfold LenMay at h; unfold Fit; omega)]
  · rw [if_neg h1, if_neg hk]
/-- a length that may be, of two widths -/
theorem resolve_part {l : RL} (h : LenMay l 0) {x y : Int} (hx : 0 ≤ x) (hxy : x ≤ y) (hy : y ≤ 68719476736) :
    ∃ (n m : Int) (is : Bool), resolveR l x = (n, is, 0) ∧ resolveR l y = (m, is, 0) ∧ 0 ≤ n ∧ n ≤ m ∧ m ≤ 1099511627776 ∧ (is = false → n = 0 ∧ m = 0) := by
  unfold resolveR
  by_cases h1 : l.kind = 1
  · have hf : Fit l.n := by unfold LenMay at h; unfold Fit; omega
    rw [if_pos h1, if_pos h1, if_pos hf]
    unfold LenMay at h
    exact ⟨l.n, l.n, true, rfl, rfl, by omega, by omega, by omega, fun e => by cases e⟩
  · by_cases h2 : l.kind = 2
    · have hn : 0 ≤ l.n ∧ l.n ≤ 100000 := by unfold LenMay at h; omega
      have key : ∀ z : Int, 0 ≤ z → z ≤ 68719476736 → partRes l.n z = (l.n * z / 10000, 0) ∧ 0 ≤ l.n * z / 10000 ∧ l.n * z / 10000 ≤ 1099511627776 := fun z h0 hz => by
        have b1 : l.n * z ≤ 100000 * 68719476736 := Int.mul_le_mul hn.2 hz h0 (by omega)
        have b0 : 0 ≤ l.n * z := Int.mul_nonneg hn.1 h0
        have b2 : 0 ≤ l.n * z / 10000 := by omega
        have b3 : l.n * z / 10000 ≤ 1099511627776 := by omega
        refine ⟨?_, b2, b3⟩
        unfold partRes
        rw [if_neg (by omega), if_pos (by unfold Fit; omega), Int.tdiv_eq_ediv_of_nonneg b0]
        exact pair_yes (by unfold Fit; omega)
      obtain ⟨k1, k2, k3⟩ := key x hx (by omega)
      obtain ⟨j1, j2, j3⟩ := key y (by omega) hy
      have mono : l.n * x / 10000 ≤ l.n * y / 10000 := by
        have : l.n * x ≤ l.n * y := Int.mul_le_mul_of_nonneg_left hxy hn.1
        omega
      rw [if_neg h1, if_pos h2, if_neg h1, if_pos h2, k1, j1]
      exact ⟨_, _, true, rfl, rfl, k2, mono, j3, fun e => by cases e⟩
    · rw [if_neg h1, if_neg h2, if_neg h1, if_neg h2]
      exact ⟨0, 0, false, rfl, rfl, by omega, by omega, by omega, fun _ => ⟨rfl, rfl⟩⟩
theorem content_part {l : RL} (h : LenMay l 0) {x y : Int} (hx : 0 ≤ x) (hxy : x ≤ y) (hy : y ≤ 68719476736) (wh : Bool) {ed : Int} (he : 0 ≤ ed) :
    ∃ (n m : Int) (is : Bool), contentR wh l x ed = (n, is, 0) ∧ contentR wh l y ed = (m, is, 0) ∧ 0 ≤ n ∧ n ≤ m ∧ m ≤ 1099511627776 := by
  obtain ⟨n, m, is, h1, h2, h3, h4, h5, h6⟩ := resolve_part h hx hxy hy
  unfold contentR
  rw [h1, h2]
  by_cases hc : is = true ∧ wh = true
  · rw [if_pos (by exact hc), if_pos (by exact hc), hc.1]
    exact ⟨_, _, true, rfl, rfl, Int.le_max_right _ _, by dsimp only; omega, by dsimp only; omega⟩
  · rw [if_neg (by exact hc), if_neg (by exact hc)]
    exact ⟨n, m, is, rfl, rfl, h3, h4, h5⟩
theorem limits_part {a b : RL} (ha : LenMay a 0) (hb : LenMay b 0) {x y : Int} (hx : 0 ≤ x) (hxy : x ≤ y) (hy : y ≤ 68719476736) (wh : Bool) {ed : Int} (he : 0 ≤ ed) :
    ∃ n m p q : Int, limitsR wh a b x ed = (n, m, 0) ∧ limitsR wh a b y ed = (p, q, 0) ∧ 0 ≤ n ∧ n ≤ p ∧ 0 ≤ m ∧ m ≤ q := by
  obtain ⟨n, p, i, h1, h2, h3, h4, _⟩ := content_part ha hx hxy hy wh he
  obtain ⟨m, q, j, g1, g2, g3, g4, _⟩ := content_part hb hx hxy hy wh he
  unfold limitsR
  rw [h1, h2, g1, g2]
  simp only [ne_eq, not_true_eq_false, if_false]
  cases j with
  | true => exact ⟨n, m, p, q, rfl, rfl, h3, h4, g3, g4⟩
  | false => exact ⟨n, 1099511627776, p, 1099511627776, rfl, rfl, h3, h4, by omega, by omega⟩

/-- a style with its sides exchanged -/
def marginS (s : RS) : RS := { s with margin := fun i => if i = 3 then s.margin 1 else if i = 1 then s.margin 3 else s.margin i }
def crossS (s : RS) : RS := { marginS s with pad := fun i => if i = 3 then s.bord 1 else s.pad i, bord := fun i => if i = 1 then s.pad 3 else s.bord i }
def turnS (s : RS) : RS := { crossS s with pad := fun i => if i = 0 then s.pad 2 else if i = 2 then s.pad 0 else if i = 3 then s.bord 1 else s.pad i }
theorem turn_ok {s : RS} (h : s.ok) : (turnS s).ok := by
  refine ⟨h.display, h.width, h.minW, h.maxW, h.height, h.minH, h.maxH, ?_, ?_, ?_, h.offX, h.offY, h.font, h.ws, h.lines, h.valign, h.dir, h.justify, h.align, h.gap, h.lineGap, h.grow, h.shrink, h.basis, h.order⟩
  · intro i hi
    obtain rfl | rfl | rfl | rfl : i = 0 ∨ i = 1 ∨ i = 2 ∨ i = 3 := by omega
    · exact h.margin 0 (by omega)
    · exact h.margin 3 (by omega)
    · exact h.margin 2 (by omega)
    · exact h.margin 1 (by omega)
  · intro i hi
    obtain rfl | rfl | rfl | rfl : i = 0 ∨ i = 1 ∨ i = 2 ∨ i = 3 := by omega
    · exact h.pad 2 (by omega)
    · exact h.pad 1 (by omega)
    · exact h.pad 0 (by omega)
    · exact h.bord 1 (by omega)
  · intro i hi
    obtain rfl | rfl | rfl | rfl : i = 0 ∨ i = 1 ∨ i = 2 ∨ i = 3 := by omega
    · exact h.bord 0 (by omega)
    · exact h.pad 3 (by omega)
    · exact h.bord 2 (by omega)
    · exact h.bord 3 (by omega)
theorem four_all {P : Nat → Prop} : (∀ i, i < 4 → P i) ↔ P 0 ∧ P 1 ∧ P 2 ∧ P 3 := by
  constructor
  · intro h; exact ⟨h 0 (by omega), h 1 (by omega), h 2 (by omega), h 3 (by omega)⟩
  · rintro ⟨a, b, c, d⟩ i hi
    obtain rfl | rfl | rfl | rfl : i = 0 ∨ i = 1 ∨ i = 2 ∨ i = 3 := by omega
    all_goals assumption
theorem turn_may (s : RS) (hs : s.ok) : mayB (turnS s) = mayB s := by
  rw [Bool.eq_iff_iff, may_iff _ (turn_ok hs), may_iff _ hs]
  constructor
  · intro h
    obtain ⟨m0, m1, m2, m3⟩ := four_all.1 h.dm
    obtain ⟨p0, p1, p2, p3⟩ := four_all.1 h.dp
    obtain ⟨b0, b1, b2, b3⟩ := four_all.1 h.db
    exact ⟨h.d1, h.d3, h.d5, h.d7, h.d9, h.d11, four_all.2 ⟨m0, m3, m2, m1⟩, four_all.2 ⟨p2, p1, p0, b1⟩, four_all.2 ⟨b0, p3, b2, b3⟩, h.g1, h.g2, h.g3, h.g4, h.g5⟩
  · intro h
    obtain ⟨m0, m1, m2, m3⟩ := four_all.1 h.dm
    obtain ⟨p0, p1, p2, p3⟩ := four_all.1 h.dp
    obtain ⟨b0, b1, b2, b3⟩ := four_all.1 h.db
    exact ⟨h.d1, h.d3, h.d5, h.d7, h.d9, h.d11, four_all.2 ⟨m0, m3, m2, m1⟩, four_all.2 ⟨p2, p1, p0, b1⟩, four_all.2 ⟨b0, p3, b2, b3⟩, h.g1, h.g2, h.g3, h.g4, h.g5⟩
theorem turn_across (s : RS) : acrossV (turnS s) = acrossV s := by
  show s.bord 1 + s.bord 3 + (s.pad 1 + s.pad 3) = s.pad 3 + s.bord 3 + (s.pad 1 + s.bord 1)
  omega
theorem turn_up (s : RS) : upV (turnS s) = upV s := by
  show s.pad 2 + s.bord 0 + (s.pad 0 + s.bord 2) = s.pad 0 + s.bord 0 + (s.pad 2 + s.bord 2)
  omega
theorem turn_edges (s : RS) (hs : s.ok) : edgesR (turnS s) = edgesR s := by unfold edgesR; rw [turn_may s hs, turn_across, turn_up]
theorem turn_width (s : RS) (hs : s.ok) (x : Int) : widthR (turnS s) x = widthR s x := by unfold widthR; rw [turn_may s hs, turn_across]; rfl
theorem turn_height (s : RS) (hs : s.ok) : heightR (turnS s) = heightR s := by unfold heightR; rw [turn_may s hs, turn_up]; rfl

/-- a style that asks for no size -/
def autoS (s : RS) : RS := { s with width := ⟨0, 0⟩, minW := ⟨0, 0⟩, maxW := ⟨0, 0⟩, height := ⟨0, 0⟩, minH := ⟨0, 0⟩, maxH := ⟨0, 0⟩ }
theorem auto_ok {s : RS} (h : s.ok) : (autoS s).ok := by
  have z : RL.ok ⟨0, 0⟩ := ⟨by decide, by decide⟩
  exact ⟨h.display, z, z, z, z, z, z, h.margin, h.pad, h.bord, h.offX, h.offY, h.font, h.ws, h.lines, h.valign, h.dir, h.justify, h.align, h.gap, h.lineGap, h.grow, h.shrink, h.basis, h.order⟩
theorem resolve_none (x : Int) : resolveR ⟨0, 0⟩ x = (0, false, 0) := rfl
theorem content_none (wh : Bool) (x ed : Int) : contentR wh ⟨0, 0⟩ x ed = (0, false, 0) := by
  unfold contentR
  rw [resolve_none, if_neg (by simp)]
theorem limits_none (wh : Bool) (x ed : Int) : limitsR wh ⟨0, 0⟩ ⟨0, 0⟩ x ed = (0, 1099511627776, 0) := by
  unfold limitsR
  rw [content_none]
  rfl
end Go.Proofs.Ytgfcddanikeelaa
