/-
  What a style that may be asks for can be solved; a box as wide as what is around.
-/
import Derived.Test.YtdadlhkbngopaaaRefOf12
namespace Go.Proofs.Ytdadlhkbngopaaa
open Go.RowKit

theorem res_ok {l : RL} {lo x : Int} (h : LenMay l lo) (hlo : -274877906944 ≤ lo) (hx : 0 ≤ x ∧ x ≤ 68719476736) : (resolveR l x).2.2 = 0 ∧ (0 ≤ lo → 0 ≤ (resolveR l x).1) := by
  unfold resolveR
  rcases h with ⟨k, n⟩ | ⟨k, n1, n2⟩ | ⟨k, n1, n2⟩
  · rw [if_neg (by omega), if_neg (by omega)]
    exact ⟨rfl, fun _ => Int.le_refl _⟩
  · have f : Fit l.n := by unfold Fit; omega
    rw [if_pos k, if_pos f]
    exact ⟨rfl, fun h => by dsimp only; omega⟩
  · rw [if_neg (by omega), if_pos k]
    have hn : 0 ≤ l.n * x := Int.mul_nonneg n1 hx.1
    have hm : l.n * x ≤ 100000 * 68719476736 := Int.le_trans (Int.mul_le_mul_of_nonneg_left hx.2 n1) (Int.mul_le_mul_of_nonneg_right n2 (by omega))
    have hq : (l.n * x).tdiv 10000 = l.n * x / 10000 := Int.tdiv_eq_ediv_of_nonneg hn
    have f : Fit x := by unfold Fit; omega
    have f2 : Fit (l.n * x / 10000) := by unfold Fit; omega
    have e : partRes l.n x = (l.n * x / 10000, 0) := by
      unfold partRes
      rw [if_neg (by omega), if_pos f, hq]
      unfold pair
      rw [if_pos f2]
    rw [e]
    exact ⟨rfl, fun _ => by dsimp only; omega⟩
theorem content_ok {l : RL} {x ed : Int} (wh : Bool) (h : LenMay l 0) (hx : 0 ≤ x ∧ x ≤ 68719476736) : (contentR wh l x ed).2.2 = 0 ∧ 0 ≤ (contentR wh l x ed).1 := by
  have r := res_ok h (by omega) hx
  unfold contentR
  split
  · exact ⟨rfl, by dsimp only; omega⟩
  · exact ⟨r.1, r.2 (Int.le_refl _)⟩
theorem limits_ok {a b : RL} {x ed : Int} (wh : Bool) (h1 : LenMay a 0) (h2 : LenMay b 0) (hx : 0 ≤ x ∧ x ≤ 68719476736) : (limitsR wh a b x ed).2.2 = 0 ∧ 0 ≤ (limitsR wh a b x ed).1 ∧ 0 ≤ (limitsR wh a b x ed).2.1 := by
  have r1 := content_ok (ed := ed) wh h1 hx
  have r2 := content_ok (ed := ed) wh h2 hx
  unfold limitsR
  rw [if_neg (by rw [r1.1]; simp), if_neg (by rw [r2.1]; simp)]
  refine ⟨rfl, r1.2, ?_⟩
  dsimp only
  split
  · exact r2.2
  · omega
theorem res_fit (l : RL) (x : Int) : Fit (resolveR l x).1 := by
  cases h : (resolveR l x).2.1 with
  | true => exact (resolve_yes h).1
  | false => rw [resolve_no h]; unfold Fit; omega
theorem content_fit (wh : Bool) (l : RL) (x ed : Int) (he : 0 ≤ ed) : Fit (contentR wh l x ed).1 := by
  have h := res_fit l x
  unfold contentR
  split
  · unfold Fit at h ⊢
    dsimp only
    omega
  · exact h
theorem limits_fit (wh : Bool) (a b : RL) (x ed : Int) (he : 0 ≤ ed) : Fit (limitsR wh a b x ed).1 ∧ Fit (limitsR wh a b x ed).2.1 := by
  have h1 := content_fit wh a x ed he
  have h2 := content_fit wh b x ed he
  unfold limitsR
  split
  · exact ⟨by unfold Fit; dsimp only; omega, by unfold Fit; dsimp only; omega⟩
  · split
    · exact ⟨by unfold Fit; dsimp only; omega, by unfold Fit; dsimp only; omega⟩
    · refine ⟨h1, ?_⟩
      dsimp only
      split
      · exact h2
      · unfold Fit; omega
theorem fit_big {x : Int} (h : Fit x) : big x := by unfold Fit at h; unfold big; omega
theorem zero_ok : zeroA.ok := by
  have z : big 0 := by unfold big; omega
  exact ⟨z, z, z, z, z, z⟩
theorem of_ok12 (s : RS) (x : Int) : (ofA s x).1.ok := by
  unfold ofA
  by_cases hm : mayB s = true
  · have ac := across_bd hm
    have e1 : Fit (widthR s x).1 := by unfold widthR; rw [if_pos hm]; exact content_fit _ _ _ _ ac.1
    have e2 : Fit (widthsR s x).1 ∧ Fit (widthsR s x).2.1 := by unfold widthsR; rw [if_pos hm]; exact limits_fit _ _ _ _ _ ac.1
    have e3 := res_fit (s.margin 3) x
    have e4 := res_fit (s.margin 1) x
    rw [if_pos hm]
    split
    · exact zero_ok
    · split
      · exact zero_ok
      · split
        · exact zero_ok
        · split
          · exact zero_ok
          · exact ⟨fit_big e1, fit_big e2.1, fit_big e2.2, fit_big e3, fit_big e4, fit_big (show Fit (acrossV s) by unfold Fit; omega)⟩
  · rw [if_neg hm]
    exact zero_ok
/-- what a style that may be asks for -/
theorem of_good {s : RS} {x : Int} (hs : s.ok) (hm : mayB s = true) (hx : 0 ≤ x ∧ x ≤ 68719476736) : (ofA s x).2 = 0 ∧ ¬ Bad x (ofA s x).1 := by
  have M := (may_iff s hs).1 hm
  have w1 := content_ok (ed := acrossV s) s.whole M.d9.1 hx
  have w2 := limits_ok (ed := acrossV s) s.whole M.d9.2.1 M.d9.2.2.1 hx
  have w3 := (res_ok (M.dm 3 (by omega)) (Int.le_refl _) hx).1
  have w4 := (res_ok (M.dm 1 (by omega)) (Int.le_refl _) hx).1
  have e1 : widthR s x = contentR s.whole s.width x (acrossV s) := by unfold widthR; rw [if_pos hm]
  have e2 : widthsR s x = limitsR s.whole s.minW s.maxW x (acrossV s) := by unfold widthsR; rw [if_pos hm]
  have ac := (across_bd hm).1
  unfold ofA
  rw [if_pos hm, e1, e2, if_neg (by rw [w1.1]; simp), if_neg (by rw [w2.1]; simp), if_neg (by rw [w3]; simp), if_neg (by rw [w4]; simp)]
  refine ⟨rfl, ?_⟩
  unfold Bad
  dsimp only
  have a1 := w1.2
  have a2 := w2.2.1
  have a3 := w2.2.2
  rintro (h | h | h | h | ⟨-, h⟩) <;> omega
theorem of_bad {s : RS} {x : Int} (hm : mayB s = false) : ofA s x = (zeroA, 60) := by
  unfold ofA
  rw [if_neg (by rw [hm]; simp)]
/-- a style as a whole box, as wide as what is around, without margins -/
def wid1 (s : RS) : RS := { s with whole := true }
def wid2 (s : RS) : RS := { wid1 s with width := ⟨2, 10000⟩ }
def wid3 (s : RS) : RS := { wid2 s with minW := ⟨0, 0⟩ }
def wid4 (s : RS) : RS := { wid3 s with maxW := ⟨0, 0⟩ }
def wid5 (s : RS) : RS := { wid4 s with margin := fun _ => ⟨0, 0⟩ }
theorem wid_ok {s : RS} (h : s.ok) : (wid5 s).ok := by
  have z : RL.ok ⟨0, 0⟩ := ⟨by decide, by decide⟩
  have y : RL.ok ⟨2, 10000⟩ := ⟨by decide, by decide⟩
  exact ⟨h.display, y, z, z, h.height, h.minH, h.maxH, fun _ _ => z, h.pad, h.bord, h.offX, h.offY, h.font, h.ws, h.lines, h.valign, h.dir, h.justify, h.align, h.gap, h.lineGap, h.grow, h.shrink, h.basis, h.order⟩
theorem wid_may {s : RS} (h : s.ok) (hm : mayB s = true) : mayB (wid5 s) = true := by
  have M := (may_iff s h).1 hm
  have z : ∀ lo, LenMay ⟨0, 0⟩ lo := fun lo => .inl ⟨rfl, rfl⟩
  refine (may_iff (wid5 s) (wid_ok h)).2 ⟨M.d1, M.d3, M.d5, M.d7, ⟨.inr (.inr ⟨rfl, by show (0 : Int) ≤ 10000; omega, by show (10000 : Int) ≤ 100000; omega⟩), z _, z _, M.d9.2.2.2.1, M.d9.2.2.2.2.1, M.d9.2.2.2.2.2.1, M.d9.2.2.2.2.2.2⟩, M.d11, fun _ _ => z _, M.dp, M.db, M.g1, M.g2, M.g3, M.g4, M.g5⟩
def widA (x ac : Int) : RA := ⟨true, if x < ac then 0 else x - ac, 0, 1099511627776, 0, 0, true, true, ac⟩
theorem of_wide {s : RS} {x : Int} (hs : s.ok) (hm : mayB s = true) (hx : 0 ≤ x ∧ x ≤ 68719476736) : ofA (wid5 s) x = (widA x (acrossV s), 0) := by
  have f : Fit x := by unfold Fit; omega
  have p : partRes 10000 x = (x, 0) := by
    unfold partRes
    rw [if_neg (by omega), if_pos f, Int.mul_tdiv_cancel_left _ (by omega)]
    unfold pair
    rw [if_pos f]
  have r : resolveR ⟨2, 10000⟩ x = (x, true, 0) := by
    unfold resolveR
    dsimp only
    rw [if_neg (by omega), if_pos rfl, p]
    rfl
  have r0 : resolveR ⟨0, 0⟩ x = (0, false, 0) := rfl
  have e1 : widthR (wid5 s) x = (if x < acrossV s then 0 else x - acrossV s, true, 0) := by
    unfold widthR
    rw [if_pos (wid_may hs hm)]
    show contentR true ⟨2, 10000⟩ x (acrossV s) = _
    unfold contentR
    rw [r, if_pos ⟨rfl, rfl⟩]
    dsimp only
    congr 1
    split <;> omega
  have e2 : widthsR (wid5 s) x = (0, 1099511627776, 0) := by
    unfold widthsR
    rw [if_pos (wid_may hs hm)]
    rfl
  have e3 : ∀ i, (wid5 s).margin i = ⟨0, 0⟩ := fun _ => rfl
  unfold ofA
  rw [if_pos (wid_may hs hm), e1, e2, e3, e3, r0]
  rfl
theorem wide_solve {x ac : Int} (hx : 0 ≤ x ∧ x ≤ 68719476736) (hc : 0 ≤ ac ∧ ac ≤ 1099511627776) : solveA x (widA x ac) = if x < ac then (0, 0, x - ac, 0) else (0, x - ac, 0, 0) := by
  have G : Good12 x (widA x ac) := ⟨by omega, ⟨by show (0 : Int) ≤ 0; omega, by show (0 : Int) ≤ 1099511627776; omega⟩, ⟨by show (0 : Int) ≤ 1099511627776; omega, by show (1099511627776 : Int) ≤ 1099511627776; omega⟩, hc, ⟨by show (-1099511627776 : Int) ≤ 0; omega, by show (0 : Int) ≤ 1099511627776; omega⟩, ⟨by show (-1099511627776 : Int) ≤ 0; omega, by show (0 : Int) ≤ 1099511627776; omega⟩, fun _ => by
    show 0 ≤ (if x < ac then 0 else x - ac) ∧ (if x < ac then 0 else x - ac) ≤ 1099511627776
    split <;> omega⟩
  have w0 : wide0 x (widA x ac) = if x < ac then 0 else x - ac := rfl
  have wa : wideA x (widA x ac) = if x < ac then 0 else x - ac := by
    unfold wideA clampV
    rw [w0]
    show max (min (if (if x < ac then 0 else x - ac) < 0 then 0 else (if x < ac then 0 else x - ac)) 1099511627776) 0 = _
    by_cases c : x < ac
    · rw [if_pos c]; decide
    · rw [if_neg c]
      split <;> omega
  have fr : freeA x (widA x ac) = if x < ac then x - ac else 0 := by
    have e : freeA x (widA x ac) = x - 0 - ac - wideA x (widA x ac) - 0 := rfl
    rw [e, wa]
    split <;> omega
  have la : leftA x (widA x ac) = 0 := by
    unfold leftA
    rw [fr]
    by_cases c : x < ac
    · rw [if_pos c, if_pos (.inl (by omega))]; rfl
    · rw [if_neg c, if_neg (by simp [widA]), if_pos ⟨rfl, rfl⟩]; rfl
  have ra : rightA x (widA x ac) = if x < ac then x - ac else 0 := by
    unfold rightA
    rw [fr]
    by_cases c : x < ac
    · rw [if_pos c, if_pos (.inl (by omega))]
      show 0 + (x - ac) = _
      omega
    · rw [if_neg c, if_neg (by simp [widA]), if_pos ⟨rfl, rfl⟩]; rfl
  rw [solve_good G, la, wa, ra]
  · split <;> rfl
  · refine ⟨?_, ?_, ?_⟩
    · rw [la]; unfold Fit; omega
    · rw [wa]; unfold Fit; split <;> omega
    · rw [ra]; unfold Fit; split <;> omega
end Go.Proofs.Ytdadlhkbngopaaa
