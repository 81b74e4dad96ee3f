/-
  A box that is open above, one that is open below: mathematics.
-/
import Derived.Test.YtidbfkbeploagaaThroughM14
import Derived.Test.YtidbfkbeploagaaBehindM14
namespace Go.Proofs.Ytidbfkbeploagaa
open Go.RowKit

/-- the margins of the kids from one on, joined from the last one on -/
def tailR : List Kd → Mg
  | [] => mgZ
  | k :: l => mjoin (mjoin (tailR l) k.t) k.b
def tailT (l : List Kd) (i : Nat) : Mg := tailR (l.drop i)
theorem drop_kid {l : List Kd} {k : Nat} (h : k < l.length) : l.drop k = kAt l k :: l.drop (k + 1) := by
  rw [kAt_get h, List.drop_eq_getElem_cons h]
theorem tailT_end (l : List Kd) : tailT l l.length = mgZ := by unfold tailT; rw [List.drop_length]; rfl
theorem tailT_at {l : List Kd} {k : Nat} (h : k < l.length) : tailT l k = mjoin (mjoin (tailT l (k + 1)) (kAt l k).t) (kAt l k).b := by
  unfold tailT
  rw [drop_kid h]
  rfl
theorem tailR_small {l : List Kd} (hg : ∀ k ∈ l, NearAt k) : SmallM (tailR l) := by
  induction l with
  | nil => exact mgZ_small
  | cons k l ih =>
    have g := hg k (by simp)
    exact mjoin_small (mjoin_small (ih (fun x hx => hg x (by simp [hx]))) g.2.2.2.1) g.2.2.2.2
theorem tailT_small {l : List Kd} (hg : ∀ k ∈ l, NearAt k) (i : Nat) : SmallM (tailT l i) := tailR_small (fun k hk => hg k (List.mem_of_mem_drop hk))
/-- kids that are through behind one: what waits, and how far down -/
theorem run_tail (l : List Kd) (hg : ∀ k ∈ l, NearAt k) (ht : ∀ k ∈ l, k.thr = true) : ∀ (s : St), MayM s.wt → (runS s l).wt = mjoin (tailR l) s.wt ∧ (runS s l).y = s.y := by
  induction l with
  | nil => intro s hm; exact ⟨(mjoin_zero hm).symm, rfl⟩
  | cons k l ih =>
    intro s hm
    have g := hg k (by simp)
    have e : stepS s k = ⟨s.y, mjoin (mjoin s.wt k.t) k.b, s.out, s.top⟩ := by unfold stepS; rw [if_pos (ht k (by simp))]
    have h := ih (fun x hx => hg x (by simp [hx])) (fun x hx => ht x (by simp [hx])) ⟨s.y, mjoin (mjoin s.wt k.t) k.b, s.out, s.top⟩ (mjoin_may (mjoin_may hm g.2.2.2.1.1) g.2.2.2.2.1)
    have hw : ∀ (a b c d : Mg), mjoin (mjoin (mjoin a b) c) d = mjoin a (mjoin (mjoin d b) c) := fun a b c d => by
      rw [mjoin_assoc a b c, mjoin_assoc a (mjoin b c) d, mjoin_comm (mjoin b c) d, mjoin_assoc d b c]
    show (runS (stepS s k) l).wt = mjoin (mjoin (mjoin (tailR l) k.t) k.b) s.wt ∧ (runS (stepS s k) l).y = s.y
    rw [e, hw]
    exact h
/-- what waits at the end, and how far down it is, by the last kid that isn't through -/
theorem last_kid {l : List Kd} (hg : ∀ k ∈ l, NearAt k) {i : Nat} (hi : i < l.length) (hk : (kAt l i).thr = false) (ht : ∀ j, i < j → j < l.length → (kAt l j).thr = true) (above : Bool) :
    (runS (startS above) l).wt = mjoin (tailT l (i + 1)) (kAt l i).b ∧ (runS (startS above) l).y = atS (runS (startS above) (l.take i)) (kAt l i) + (kAt l i).h := by
  have e : l = l.take (i + 1) ++ l.drop (i + 1) := (List.take_append_drop _ _).symm
  have e2 : runS (startS above) l = runS (runS (startS above) (l.take (i + 1))) (l.drop (i + 1)) := by
    conv => lhs; rw [e]
    unfold runS
    rw [List.foldl_append]
  have e3 : runS (startS above) (l.take (i + 1)) = stepS (runS (startS above) (l.take i)) (kAt l i) := run_at above hi
  have g := hg (kAt l i) (by rw [kAt_get hi]; exact List.getElem_mem _)
  have e4 : (stepS (runS (startS above) (l.take i)) (kAt l i)).wt = (kAt l i).b ∧ (stepS (runS (startS above) (l.take i)) (kAt l i)).y = atS (runS (startS above) (l.take i)) (kAt l i) + (kAt l i).h := by
    unfold stepS
    rw [if_neg (by rw [hk]; simp)]
    exact ⟨rfl, rfl⟩
  have h := run_tail (l.drop (i + 1)) (fun k hk => hg k (List.mem_of_mem_drop hk)) (fun k hk => by
    obtain ⟨j, hj⟩ := List.getElem?_of_mem hk
    rw [List.getElem?_drop] at hj
    have hjl := (List.getElem?_eq_some_iff.1 hj).1
    have := ht (i + 1 + j) (by omega) hjl
    unfold kAt at this
    rw [hj] at this
    exact this) (stepS (runS (startS above) (l.take i)) (kAt l i)) (by rw [e4.1]; exact g.2.2.2.2.1)
  rw [e2, e3, h.1, h.2, e4.1, e4.2]
  exact ⟨rfl, rfl⟩
/-- the first kid that isn't through: what a box that is open above has as its Top -/
def topT (l : List Kd) (j : Nat) : Mg := mjoin (joinT l j) (kAt l j).t
structure FirstK (l : List Kd) (j : Nat) : Prop where
  lt : j < l.length
  thr : thrB l j = true
  no : (kAt l j).thr = false
theorem step_first_true {w : Mg} {k : Kd} (h : k.thr = false) : stepS ⟨0, w, true, mgZ⟩ k = ⟨k.h, k.b, false, mjoin w k.t⟩ := by
  unfold stepS atS
  simp [h]
theorem step_first_false {w : Mg} {k : Kd} (h : k.thr = false) : stepS ⟨0, w, false, mgZ⟩ k = ⟨(mjoin w k.t).1 + (mjoin w k.t).2 + k.h, k.b, false, mgZ⟩ := by
  unfold stepS atS
  simp [h]
theorem first_sh {l : List Kd} {j : Nat} (h : FirstK l j) {k : Nat} (hk : j < k) (hl : k ≤ l.length) : ShS ((topT l j).1 + (topT l j).2) (runS (startS true) (l.take k)) (runS (startS false) (l.take k)) ∧ (runS (startS true) (l.take k)).top = topT l j := by
  induction k with
  | zero => omega
  | succ k ih =>
    rw [run_at true (l := l) (k := k) (by omega), run_at false (l := l) (k := k) (by omega)]
    by_cases e : k = j
    · subst e
      rw [run_thr true (by omega) h.thr, run_thr false (by omega) h.thr]
      have hn := h.no
      rw [step_first_true hn, step_first_false hn]
      exact ⟨⟨by dsimp only [topT]; omega, rfl, rfl, rfl⟩, rfl⟩
    · obtain ⟨h1, h2⟩ := ih (by omega) (by omega)
      refine ⟨h1.step _, ?_⟩
      unfold stepS
      split
      · exact h2
      · dsimp only
        rw [if_neg (by rw [h1.so]; simp)]
        exact h2
/-- the places, one by one -/
theorem open_ats {l : List Kd} {j : Nat} (h : FirstK l j) {i : Nat} (hi : i < l.length) : ∃ y z : Int, (atsS (startS false) l)[i]? = some y ∧ (atsS (startS true) l)[i]? = some z ∧ (i < j → z = 0) ∧ (j ≤ i → z = y - ((topT l j).1 + (topT l j).2)) ∧ (i = j → y = (topT l j).1 + (topT l j).2) := by
  refine ⟨_, _, ats_get false hi, ats_get true hi, fun hlt => ?_, fun hge => ?_, fun e => ?_⟩
  · have ht : thrB l i = true := by
      have e : l.take i = (l.take j).take i := by rw [List.take_take, Nat.min_eq_left (by omega)]
      have := h.thr
      unfold thrB at this ⊢
      rw [e]
      exact List.all_eq_true.2 (fun x hx => List.all_eq_true.1 this x (List.mem_of_mem_take hx))
    rw [run_thr true (by omega) ht]
    unfold atS
    rw [if_pos rfl]
  · by_cases e : i = j
    · subst e
      rw [run_thr true (by omega) h.thr, run_thr false (by omega) h.thr]
      unfold atS topT
      simp only [if_true, Bool.false_eq_true, if_false]
      omega
    · have h1 := (first_sh h (k := i) (by omega) (by omega)).1.at (kAt l i)
      rw [h1]
      omega
  · subst e
    rw [run_thr false (by omega) h.thr]
    unfold atS topT
    simp only [Bool.false_eq_true, if_false]
    omega
theorem topT_small {l : List Kd} (hg : ∀ k ∈ l, NearAt k) {j : Nat} (hj : j < l.length) : SmallM (topT l j) := by
  have g := hg (kAt l j) (by rw [kAt_get hj]; exact List.getElem_mem _)
  exact mjoin_small (joinT_small hg (by omega)) g.2.2.2.1
theorem told_above {l : List Kd} {j : Nat} (h : FirstK l j) : (toldS l true false).ats = atsS (startS true) l ∧ (toldS l true false).top = topT l j ∧ (toldS l true false).thr = false := by
  have h1 := first_sh h (k := l.length) h.lt (Nat.le_refl _)
  rw [List.take_length] at h1
  unfold toldS endS
  rw [if_neg (by rw [h1.1.so]; simp)]
  exact ⟨rfl, h1.2, rfl⟩
theorem told_shut (l : List Kd) : (toldS l false false).ats = atsS (startS false) l ∧ (toldS l false false).thr = false ∧ (toldS l false false).h = if 0 < (runS (startS false) l).y + (runS (startS false) l).wt.1 + (runS (startS false) l).wt.2 then (runS (startS false) l).y + (runS (startS false) l).wt.1 + (runS (startS false) l).wt.2 else 0 := by
  have h := run_shut l (startS false) rfl
  unfold toldS endS downS
  rw [if_neg (by rw [h]; simp)]
  exact ⟨rfl, rfl, by simp⟩
theorem told_half_h (l : List Kd) : (toldS l false true).h = if 0 < (runS (startS false) l).y then (runS (startS false) l).y else 0 := by
  have h := run_shut l (startS false) rfl
  unfold toldS endS downS
  rw [if_neg (by rw [h]; simp)]
  simp
theorem thrB_get {l : List Kd} {j : Nat} (h : thrB l j = true) {i : Nat} (hi : i < j) (hl : i < l.length) : (kAt l i).thr = true := by
  rw [kAt_get hl]
  refine List.all_eq_true.1 h _ ?_
  exact List.mem_of_getElem? (i := i) (by rw [List.getElem?_take_of_lt hi, List.getElem?_eq_getElem hl])
end Go.Proofs.Ytidbfkbeploagaa
