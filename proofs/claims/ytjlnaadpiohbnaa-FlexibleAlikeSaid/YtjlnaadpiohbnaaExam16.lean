/-
  The chapter's examples of flexible: what Sizes answers there, by the rounds.
-/
import Derived.Test.YtjlnaadpiohbnaaSizesOK16
namespace Go.Proofs.Ytjlnaadpiohbnaa
open Go.RowKit

def bx (b g s : Int) : It16 := ⟨b, 0, 1000, g, s, 0⟩
theorem share2 {t : Int} {v : Nat → Nat} {X : Nat → Int} (h : ShareOf t v 2 X) (k a b : Nat) (ht : t.natAbs = k) (ha : v 0 = a) (hb : v 1 = b) (hs : 0 < a + b) :
    ∃ q : Nat → Nat, (∀ i, i < 2 → q i < 2) ∧ q 0 ≠ q 1 ∧ (q 0 = 1 → k * a % (a + b) < k * b % (a + b)) ∧ ∀ i, i < 2 → X i = if t < 0 then - bumped (fun i => (base k v (a + b) i : Int)) q (k - (k * a / (a + b) + k * b / (a + b))) i else bumped (fun i => (base k v (a + b) i : Int)) q (k - (k * a / (a + b) + k * b / (a + b))) i := by
  have es : sumN v 2 = a + b := by simp [sumN, ha, hb]
  obtain ⟨Y, hG, hX⟩ := h
  rw [ht] at hG
  rcases hG with ⟨h0, -⟩ | ⟨-, q, ⟨ho, hr, hq⟩, hY⟩
  · omega
  · rw [es] at hq hY
    have eb : sumN (base k v (a + b)) 2 = k * a / (a + b) + k * b / (a + b) := by simp [sumN, base, ha, hb]
    rw [eb] at hY
    have q01 := hq 0 1 (by omega) (by omega) (by omega)
    have r0 := hr 0 (by omega)
    have r1 := hr 1 (by omega)
    refine ⟨q, hr, fun e => ?_, fun e => ?_, fun i hi => ?_⟩
    · rw [← e] at q01
      unfold T at q01
      omega
    · have c : q 1 = 0 := by
        rcases (show q 1 = 0 ∨ q 1 = 1 by omega) with d | d
        · exact d
        · rw [e, d] at q01
          unfold T at q01
          omega
      rw [e, c] at q01
      simp only [T, lost, ha, hb] at q01
      omega
    · rw [hX i hi, hY i hi]
/-- where nothing is lost -/
theorem share2_exact {t : Int} {v : Nat → Nat} {X : Nat → Int} (h : ShareOf t v 2 X) (k a b x y : Nat) (ht : t.natAbs = k) (ha : v 0 = a) (hb : v 1 = b) (hs : 0 < a + b) (hx : k * a / (a + b) = x) (hy : k * b / (a + b) = y) (hk : k - (x + y) = 0) :
    (X 0 = if t < 0 then -(x : Int) else x) ∧ X 1 = if t < 0 then -(y : Int) else y := by
  obtain ⟨q, -, -, -, hX⟩ := share2 h k a b ht ha hb hs
  rw [hx, hy, hk] at hX
  have h0 := hX 0 (by omega)
  have h1 := hX 1 (by omega)
  simp only [bumped, base, ha, hb, hx, hy] at h0 h1
  exact ⟨h0, h1⟩
/-- where one is lost, by both alike -/
theorem share2_tie {t : Int} {v : Nat → Nat} {X : Nat → Int} (h : ShareOf t v 2 X) (k a b x y : Nat) (ht : t.natAbs = k) (ha : v 0 = a) (hb : v 1 = b) (hs : 0 < a + b) (hx : k * a / (a + b) = x) (hy : k * b / (a + b) = y) (hk : k - (x + y) = 1) (hl : k * a % (a + b) = k * b % (a + b)) :
    (X 0 = if t < 0 then -((x : Int) + 1) else (x : Int) + 1) ∧ X 1 = if t < 0 then -(y : Int) else y := by
  obtain ⟨q, hr, -, hq, hX⟩ := share2 h k a b ht ha hb hs
  rw [hx, hy, hk] at hX
  have q0 : q 0 = 0 := by
    have := hr 0 (by omega)
    rcases (show q 0 = 0 ∨ q 0 = 1 by omega) with c | c
    · exact c
    · have := hq c; omega
  have h0 := hX 0 (by omega)
  have h1 := hX 1 (by omega)
  simp only [bumped, base, ha, hb, hx, hy, q0] at h0 h1
  simp at h0 h1
  exact ⟨h0, h1⟩
theorem runs_round {l : List It16} {n : Nat} {g : Bool} {R : Int} {out : Nat → Int} {S : Nat → Bool} {r : Option (Nat → Int)} (hr : Runs l n g R out S r) (L : Int) (hS : ∃ i, i < n ∧ S i = false) (hL : left0 l n R out S = L) (hf : Fit L) :
    ∃ X, ShareOf (leftG g L) (wsR l g S) n X ∧ Runs l n g R (outR l out S X) (setR l n S X) r := by
  subst hL
  cases hr with
  | done _ _ h => obtain ⟨i, hi, e⟩ := hS; exact absurd (h i hi) (by rw [e]; simp)
  | far _ _ _ h => exact absurd hf h
  | round _ _ X _ _ _ hX hr => exact ⟨X, hX, hr⟩
theorem runs_done {l : List It16} {n : Nat} {g : Bool} {R : Int} {out : Nat → Int} {S : Nat → Bool} {r : Option (Nat → Int)} (hr : Runs l n g R out S r) (h : ∀ i, i < n → S i = true) : r = some out := by
  cases hr with
  | done => rfl
  | far _ _ h' => obtain ⟨i, hi, e⟩ := h'; exact absurd (h i hi) (by rw [e]; simp)
  | round _ _ X _ h' => obtain ⟨i, hi, e⟩ := h'; exact absurd (h i hi) (by rw [e]; simp)
theorem two_all {S : Nat → Bool} (h0 : S 0 = true) (h1 : S 1 = true) : ∀ i, i < 2 → S i = true := fun i hi => by
  rcases (show i = 0 ∨ i = 1 by omega) with rfl | rfl <;> assumption
theorem list_two {f : Nat → Int} {x y : Int} (h0 : f 0 = x) (h1 : f 1 = y) : listF f 2 = [x, y] := by
  show [f 0, f 1] = [x, y]
  rw [h0, h1]
def ch2 (x : It16) (s : Bool) (d : Int) : Int := if s = true then 0 else cI x (x.base + d) - (x.base + d)
def st2 (s : Bool) (c all : Int) : Bool := s || decide (all = 0 ∨ (0 < all ∧ 0 < c) ∨ (all < 0 ∧ c < 0))
def ou2 (x : It16) (s : Bool) (o d : Int) : Int := if s = true then o else cI x (x.base + d)
/-- a round of two boxes, told by what is given out -/
theorem round2 {l : List It16} {g : Bool} {R : Int} {out : Nat → Int} {S : Nat → Bool} {r : Option (Nat → Int)} (hr : Runs l 2 g R out S r) (L : Int) (hS : (S 0 && S 1) = false) (hL : R - (0 + (if S 0 = true then out 0 else (itA l 0).base) + (if S 1 = true then out 1 else (itA l 1).base)) = L) (hf : Fit L) :
    ∃ X, ShareOf (leftG g L) (wsR l g S) 2 X ∧ ∀ x0 x1, X 0 = x0 → X 1 = x1 → ∃ (out' : Nat → Int) (S' : Nat → Bool), Runs l 2 g R out' S' r ∧ out' 0 = ou2 (itA l 0) (S 0) (out 0) x0 ∧ out' 1 = ou2 (itA l 1) (S 1) (out 1) x1 ∧
      S' 0 = st2 (S 0) (ch2 (itA l 0) (S 0) x0) (ch2 (itA l 0) (S 0) x0 + ch2 (itA l 1) (S 1) x1) ∧ S' 1 = st2 (S 1) (ch2 (itA l 1) (S 1) x1) (ch2 (itA l 0) (S 0) x0 + ch2 (itA l 1) (S 1) x1) := by
  have hS' : ∃ i, i < 2 ∧ S i = false := by
    cases e0 : S 0
    · exact ⟨0, by omega, e0⟩
    · cases e1 : S 1
      · exact ⟨1, by omega, e1⟩
      · rw [e0, e1] at hS; exact absurd hS (by simp)
  obtain ⟨X, hX, hr⟩ := runs_round hr L hS' hL hf
  refine ⟨X, hX, ?_⟩
  rintro _ _ rfl rfl
  have e : sumB (chR l S X) 2 = ch2 (itA l 0) (S 0) (X 0) + ch2 (itA l 1) (S 1) (X 1) := by
    show 0 + chR l S X 0 + chR l S X 1 = _
    rw [Int.zero_add]
    rfl
  refine ⟨_, _, hr, rfl, rfl, ?_, ?_⟩
  · unfold setR; rw [e]; rfl
  · unfold setR; rw [e]; rfl
/-- near boxes of the examples -/
theorem near_bx (b g s m le : Int) (h : (0 ≤ b ∧ b ≤ 1000) ∧ (0 ≤ g ∧ g ≤ 1000) ∧ (0 ≤ s ∧ s ≤ 1000) ∧ (0 ≤ m ∧ m ≤ 1000) ∧ (0 ≤ le ∧ le ≤ 1000)) : NearI ⟨b, le, m, g, s, 0⟩ := by
  constructor <;> simp only <;> omega
theorem near_two {a b : It16} (ha : NearI a) (hb : NearI b) : ∀ i, i < [a, b].length → NearI (itA [a, b] i) := fun i hi => by
  rcases (show i = 0 ∨ i = 1 by simp at hi; omega) with rfl | rfl
  · exact ha
  · exact hb
theorem exA {o : List Int} {z : Int} (h : SizesIs [bx 10 1 1, bx 10 3 1] 5 45 o z) : o = [15, 25] ∧ z = 0 := by
  obtain ⟨f, rfl, rfl, hr⟩ := near_sizes (by decide) (by decide) (by decide) (near_two (near_bx _ _ _ _ _ (by decide)) (near_bx _ _ _ _ _ (by decide))) h
  refine ⟨?_, rfl⟩
  obtain ⟨X, hX, hr⟩ := round2 hr (20) (by kernel_rfl) (by kernel_rfl) (by unfold Fit; omega)
  obtain ⟨x0, x1⟩ := share2_exact hX 20 1 3 5 15 (by kernel_rfl) (by kernel_rfl) (by kernel_rfl) (by omega) (by omega) (by omega) (by omega)
  obtain ⟨o1, S1, hr, o10, o11, s10, s11⟩ := hr (5) (15) (x0.trans (by kernel_rfl)) (x1.trans (by kernel_rfl))
  have e := runs_done hr (two_all (s10.trans (by kernel_rfl)) (s11.trans (by kernel_rfl)))
  injection e with e
  subst e
  exact list_two (o10.trans (by kernel_rfl)) (o11.trans (by kernel_rfl))
theorem exB {o : List Int} {z : Int} (h : SizesIs [bx 10 0 1, ⟨10, 0, 12, 1, 1, 0⟩] 0 50 o z) : o = [10, 12] ∧ z = 0 := by
  obtain ⟨f, rfl, rfl, hr⟩ := near_sizes (by decide) (by decide) (by decide) (near_two (near_bx _ _ _ _ _ (by decide)) (near_bx _ _ _ _ _ (by decide))) h
  refine ⟨?_, rfl⟩
  obtain ⟨X, hX, hr⟩ := round2 hr (30) (by kernel_rfl) (by kernel_rfl) (by unfold Fit; omega)
  obtain ⟨x0, x1⟩ := share2_exact hX 30 0 1 0 30 (by kernel_rfl) (by kernel_rfl) (by kernel_rfl) (by omega) (by omega) (by omega) (by omega)
  obtain ⟨o1, S1, hr, o10, o11, s10, s11⟩ := hr (0) (30) (x0.trans (by kernel_rfl)) (x1.trans (by kernel_rfl))
  have e := runs_done hr (two_all (s10.trans (by kernel_rfl)) (s11.trans (by kernel_rfl)))
  injection e with e
  subst e
  exact list_two (o10.trans (by kernel_rfl)) (o11.trans (by kernel_rfl))
theorem exC {o : List Int} {z : Int} (h : SizesIs [bx 30 0 1, bx 10 0 1] 0 20 o z) : o = [15, 5] ∧ z = 0 := by
  obtain ⟨f, rfl, rfl, hr⟩ := near_sizes (by decide) (by decide) (by decide) (near_two (near_bx _ _ _ _ _ (by decide)) (near_bx _ _ _ _ _ (by decide))) h
  refine ⟨?_, rfl⟩
  obtain ⟨X, hX, hr⟩ := round2 hr (-20) (by kernel_rfl) (by kernel_rfl) (by unfold Fit; omega)
  obtain ⟨x0, x1⟩ := share2_exact hX 20 30 10 15 5 (by kernel_rfl) (by kernel_rfl) (by kernel_rfl) (by omega) (by omega) (by omega) (by omega)
  obtain ⟨o1, S1, hr, o10, o11, s10, s11⟩ := hr (-15) (-5) (x0.trans (by kernel_rfl)) (x1.trans (by kernel_rfl))
  have e := runs_done hr (two_all (s10.trans (by kernel_rfl)) (s11.trans (by kernel_rfl)))
  injection e with e
  subst e
  exact list_two (o10.trans (by kernel_rfl)) (o11.trans (by kernel_rfl))
theorem exD {o : List Int} {z : Int} (h : SizesIs [⟨30, 25, 1000, 0, 1, 0⟩, bx 10 0 1] 0 30 o z) : o = [25, 5] ∧ z = 0 := by
  obtain ⟨f, rfl, rfl, hr⟩ := near_sizes (by decide) (by decide) (by decide) (near_two (near_bx _ _ _ _ _ (by decide)) (near_bx _ _ _ _ _ (by decide))) h
  refine ⟨?_, rfl⟩
  obtain ⟨X, hX, hr⟩ := round2 hr (-10) (by kernel_rfl) (by kernel_rfl) (by unfold Fit; omega)
  obtain ⟨x0, x1⟩ := share2_tie hX 10 30 10 7 2 (by kernel_rfl) (by kernel_rfl) (by kernel_rfl) (by omega) (by omega) (by omega) (by omega) (by omega)
  obtain ⟨o1, S1, hr, o10, o11, s10, s11⟩ := hr (-8) (-2) (x0.trans (by kernel_rfl)) (x1.trans (by kernel_rfl))
  have t0 : S1 0 = true := s10.trans (by kernel_rfl)
  have t1 : S1 1 = false := s11.trans (by kernel_rfl)
  have u0 : o1 0 = 25 := o10.trans (by kernel_rfl)
  obtain ⟨Y, hY, hr⟩ := round2 hr (-5) (by rw [t0, t1]; rfl) (by rw [t0, t1, u0]; kernel_rfl) (by unfold Fit; omega)
  obtain ⟨y0, y1⟩ := share2_exact hY 5 0 10 0 5 (by kernel_rfl) (by unfold wsR; rw [t0]; rfl) (by unfold wsR; rw [t1]; kernel_rfl) (by omega) (by omega) (by omega) (by omega)
  obtain ⟨o2, S2, hr, o20, o21, s20, s21⟩ := hr 0 (-5) (y0.trans (by kernel_rfl)) (y1.trans (by kernel_rfl))
  rw [t0] at o20 s20 s21
  rw [t1] at o21 s20 s21
  rw [u0] at o20
  have e := runs_done hr (two_all (s20.trans (by kernel_rfl)) (s21.trans (by kernel_rfl)))
  injection e with e
  subst e
  exact list_two (o20.trans (by kernel_rfl)) (o21.trans (by kernel_rfl))
theorem exE {o : List Int} {z : Int} (h : SizesIs [bx 10 1 1, bx 10 1 1] 0 (-1) o z) : o = [10, 10] ∧ z = 0 :=
  h.uniq (by have := SizesIs.wide (l := [bx 10 1 1, bx 10 1 1]) (gap := 0) (room := -1) (by kernel_rfl) rfl; exact this)
theorem exF {o : List Int} {z : Int} (h : SizesIs [bx 10 0 0] 0 5 o z) : o = [10] ∧ z = 0 := by
  have := SizesIs.ok (l := [bx 10 0 0]) (gap := 0) (room := 5) (out0 [bx 10 0 0]) (by kernel_rfl) (by decide) (Runs.done _ _ (fun i hi => by obtain rfl : i = 0 := (by simp at hi; omega); kernel_rfl)) (fun i hi => by obtain rfl : i = 0 := (by simp at hi; omega); show Fit 10; unfold Fit; omega)
  exact h.uniq this
theorem exG {o : List Int} {z : Int} (h : SizesIs [bx (-1) 0 0] 0 5 o z) : o = [] ∧ z = 2 := by
  have e : askT [bx (-1) 0 0] 0 5 = 2 := by kernel_rfl
  have := SizesIs.bad (l := [bx (-1) 0 0]) (gap := 0) (room := 5) (by rw [e]; decide)
  rw [e] at this
  exact h.uniq this
theorem exH {o : List Int} {z : Int} (h : SizesIs [] 0 5 o z) : o = [] ∧ z = 0 := by
  have := SizesIs.ok (l := []) (gap := 0) (room := 5) (out0 []) (by kernel_rfl) (by decide) (Runs.done _ _ (fun i hi => absurd hi (by simp))) (fun i hi => absurd hi (by simp))
  exact h.uniq this
end Go.Proofs.Ytjlnaadpiohbnaa
