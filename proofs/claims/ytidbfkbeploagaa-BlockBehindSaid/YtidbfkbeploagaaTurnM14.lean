/-
  Kids turned upside down: mathematics.
-/
import Derived.Test.YtidbfkbeploagaaNearMath14
namespace Go.Proofs.Ytidbfkbeploagaa
open Go.RowKit

/-- from one margin to another, past kids that aren't through -/
def spanF (w : Mg) : List Kd → Mg → Int
  | [], z => (mjoin w z).1 + (mjoin w z).2
  | k :: l, z => (mjoin w k.t).1 + (mjoin w k.t).2 + k.h + spanF k.b l z
theorem span_cut (w : Mg) (l : List Kd) (k : Kd) (m : List Kd) (z : Mg) : spanF w (l ++ k :: m) z = spanF w l k.t + k.h + spanF k.b m z := by
  induction l generalizing w with
  | nil => rfl
  | cons x l ih =>
    show (mjoin w x.t).1 + (mjoin w x.t).2 + x.h + spanF x.b (l ++ k :: m) z = (mjoin w x.t).1 + (mjoin w x.t).2 + x.h + spanF x.b l k.t + k.h + spanF k.b m z
    rw [ih]
    omega
def turnK (k : Kd) : Kd := ⟨k.b, k.t, k.h, false⟩
def turnL (l : List Kd) : List Kd := (l.map turnK).reverse
theorem turnL_cons (k : Kd) (l : List Kd) : turnL (k :: l) = turnL l ++ [turnK k] := by simp [turnL]
theorem turnL_append (l m : List Kd) : turnL (l ++ m) = turnL m ++ turnL l := by simp [turnL]
theorem turnL_len (l : List Kd) : (turnL l).length = l.length := by simp [turnL]
theorem turnL_drop {l : List Kd} {i : Nat} (hi : i < l.length) : turnL (l.drop i) = turnL (l.drop (i + 1)) ++ [turnK (kAt l i)] := by
  rw [List.drop_eq_getElem_cons hi, turnL_cons, kAt_get hi]
theorem span_turn (w : Mg) (l : List Kd) (z : Mg) : spanF z (turnL l) w = spanF w l z := by
  induction l generalizing w with
  | nil =>
    show (mjoin z w).1 + (mjoin z w).2 = (mjoin w z).1 + (mjoin w z).2
    rw [mjoin_comm]
  | cons k l ih =>
    rw [turnL_cons, span_cut]
    show spanF z (turnL l) k.b + k.h + ((mjoin k.t w).1 + (mjoin k.t w).2) = (mjoin w k.t).1 + (mjoin w k.t).2 + k.h + spanF k.b l z
    rw [ih, mjoin_comm k.t w]
    omega
/-- where it stands behind kids that aren't through -/
theorem at_span {l : List Kd} (hl : ∀ x ∈ l, x.thr = false) : ∀ (s : St) (k : Kd), s.out = false → atS (runS s l) k = s.y + spanF s.wt l k.t := by
  induction l with
  | nil =>
    intro s k h
    show atS s k = s.y + ((mjoin s.wt k.t).1 + (mjoin s.wt k.t).2)
    unfold atS
    rw [if_neg (by rw [h]; simp)]
    omega
  | cons x l ih =>
    intro s k h
    have hx := hl x List.mem_cons_self
    have h1 : stepS s x = ⟨atS s x + x.h, x.b, false, if s.out = true then mjoin s.wt x.t else s.top⟩ := by unfold stepS; rw [if_neg (by rw [hx]; simp)]
    have h2 : atS s x = s.y + (mjoin s.wt x.t).1 + (mjoin s.wt x.t).2 := by unfold atS; rw [if_neg (by rw [h]; simp)]
    show atS (runS (stepS s x) l) k = s.y + ((mjoin s.wt x.t).1 + (mjoin s.wt x.t).2 + x.h + spanF x.b l k.t)
    rw [ih (fun y hy => hl y (List.mem_cons_of_mem _ hy)) _ k (by rw [h1]), h1]
    dsimp only
    omega
theorem end_span {l : List Kd} (hl : ∀ x ∈ l, x.thr = false ∧ MayM x.b) : ∀ (s : St), s.out = false → MayM s.wt → (runS s l).y + (runS s l).wt.1 + (runS s l).wt.2 = s.y + spanF s.wt l mgZ := by
  induction l with
  | nil =>
    intro s h hm
    show s.y + s.wt.1 + s.wt.2 = s.y + ((mjoin s.wt mgZ).1 + (mjoin s.wt mgZ).2)
    rw [mjoin_comm, mjoin_zero hm]
    omega
  | cons x l ih =>
    intro s h hm
    have hx := hl x List.mem_cons_self
    have h1 : stepS s x = ⟨atS s x + x.h, x.b, false, if s.out = true then mjoin s.wt x.t else s.top⟩ := by unfold stepS; rw [if_neg (by rw [hx.1]; simp)]
    have h2 : atS s x = s.y + (mjoin s.wt x.t).1 + (mjoin s.wt x.t).2 := by unfold atS; rw [if_neg (by rw [h]; simp)]
    have h3 := ih (fun y hy => hl y (List.mem_cons_of_mem _ hy)) (stepS s x) (by rw [h1]) (by rw [h1]; exact hx.2)
    show (runS (stepS s x) l).y + (runS (stepS s x) l).wt.1 + (runS (stepS s x) l).wt.2 = s.y + ((mjoin s.wt x.t).1 + (mjoin s.wt x.t).2 + x.h + spanF x.b l mgZ)
    rw [h3, h1]
    dsimp only
    omega
theorem turn_near {l : List Kd} (h : ∀ k ∈ l, NearAt k) : ∀ k ∈ turnL l, NearAt k := by
  intro k hk
  unfold turnL at hk
  rw [List.mem_reverse, List.mem_map] at hk
  obtain ⟨x, hx, rfl⟩ := hk
  have g := h x hx
  exact ⟨g.1, g.2.1, (fun c => by cases c.1), g.2.2.2.2, g.2.2.2.1⟩
theorem turn_solid (l : List Kd) : SolidK (turnL l) := by
  intro j hj
  rw [kAt_get hj]
  have hk := List.getElem_mem hj
  unfold turnL at hk
  rw [List.mem_reverse, List.mem_map] at hk
  obtain ⟨x, -, e⟩ := hk
  show ((turnL l)[j]).thr = false
  unfold turnL
  rw [← e]
  rfl
theorem solid_mem {l : List Kd} (h : SolidK l) : ∀ k ∈ l, k.thr = false := by
  intro k hk
  obtain ⟨i, hi, rfl⟩ := List.getElem_of_mem hk
  rw [← kAt_get hi]
  exact h i hi
theorem told_span {l : List Kd} (hs : SolidK l) (hn : ∀ k ∈ l, NearAt k) : (toldS l false false).h = if 0 < spanF mgZ l mgZ then spanF mgZ l mgZ else 0 := by
  have h := end_span (l := l) (fun x hx => ⟨solid_mem hs x hx, (hn x hx).2.2.2.2.1⟩) (startS false) rfl mgZ_may
  rw [told_solid hs]
  dsimp only
  rw [h]
  show (if 0 < 0 + spanF mgZ l mgZ then 0 + spanF mgZ l mgZ else 0) = _
  rw [Int.zero_add]
theorem turn_h {l : List Kd} (hs : SolidK l) (hn : ∀ k ∈ l, NearAt k) : (toldS (turnL l) false false).h = (toldS l false false).h := by
  rw [told_span hs hn, told_span (turn_solid l) (turn_near hn), span_turn]
theorem told_ats (l : List Kd) (above below : Bool) : (toldS l above below).ats = atsS (startS above) l := by
  unfold toldS endS
  split <;> rfl
/-- where the turned ones stand -/
theorem turn_at {l : List Kd} (hs : SolidK l) (hn : ∀ k ∈ l, NearAt k) {i : Nat} (hi : i < l.length) (hp : 0 < (toldS l false false).h) : ∃ x : Int, (toldS l false false).ats[i]? = some x ∧ (toldS (turnL l) false false).ats[l.length - 1 - i]? = some ((toldS l false false).h - x - (kAt l i).h) := by
  have e : l = l.take i ++ kAt l i :: l.drop (i + 1) := by
    rw [kAt_get hi, ← List.drop_eq_getElem_cons hi, List.take_append_drop]
  have hm := solid_mem hs
  rw [told_span hs hn] at hp ⊢
  have hp2 : 0 < spanF mgZ l mgZ := by
    split at hp
    · assumption
    · omega
  rw [if_pos hp2, told_ats, told_ats, ats_get false hi]
  refine ⟨_, rfl, ?_⟩
  rw [at_span (fun x hx => hm x (List.mem_of_mem_take hx)) (startS false) _ rfl]
  have et : turnL l = turnL (l.drop (i + 1)) ++ turnK (kAt l i) :: turnL (l.take i) := by
    conv => lhs; rw [e]
    rw [turnL_append, turnL_cons, List.append_assoc]
    rfl
  have el : (turnL (l.drop (i + 1))).length = l.length - 1 - i := by rw [turnL_len, List.length_drop]; omega
  have hj : l.length - 1 - i < (turnL l).length := by rw [turnL_len]; omega
  have ek : kAt (turnL l) (l.length - 1 - i) = turnK (kAt l i) := by
    unfold kAt
    rw [et, List.getElem?_append_right (by omega), el, Nat.sub_self]
    rfl
  have ept : (turnL l).take (l.length - 1 - i) = turnL (l.drop (i + 1)) := by
    rw [et, ← el, List.take_left']
    rfl
  rw [ats_get false hj, ek, ept, at_span (fun x hx => ?_) (startS false) _ rfl]
  · have h1 : spanF mgZ l mgZ = spanF mgZ (l.take i) (kAt l i).t + (kAt l i).h + spanF (kAt l i).b (l.drop (i + 1)) mgZ := by
      conv => lhs; rw [e]
      rw [span_cut]
    have h2 : spanF mgZ (turnL (l.drop (i + 1))) (turnK (kAt l i)).t = spanF (kAt l i).b (l.drop (i + 1)) mgZ := span_turn _ _ _
    show some (0 + spanF mgZ (turnL (l.drop (i + 1))) (turnK (kAt l i)).t) = some (spanF mgZ l mgZ - (0 + spanF mgZ (l.take i) (kAt l i).t) - (kAt l i).h)
    rw [h1, h2]
    congr 1
    omega
  · exact solid_mem (turn_solid _) x hx
end Go.Proofs.Ytidbfkbeploagaa
