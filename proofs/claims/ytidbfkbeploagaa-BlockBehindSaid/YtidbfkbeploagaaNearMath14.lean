/-
  Kids near 0: they fit; solid ones.
-/
import Derived.Test.YtidbfkbeploagaaNear14
import Derived.Test.YtidbfkbeploagaaRefStack14
namespace Go.Proofs.Ytidbfkbeploagaa
open Go.RowKit

theorem mjoin_small {a b : Mg} (ha : SmallM a) (hb : SmallM b) : SmallM (mjoin a b) := by
  refine ⟨mjoin_may ha.1 hb.1, ?_⟩
  have h1 := ha.2
  have h2 := hb.2
  unfold mjoin
  dsimp only
  constructor <;> split <;> omega
theorem mgZ_small : SmallM mgZ := by decide
/-- how far it goes -/
structure StN (n : Int) (s : St) : Prop where
  y : -(n * 1073741824) ≤ s.y ∧ s.y ≤ n * 1073741824
  wt : SmallM s.wt
  top : SmallM s.top
theorem start_n (above : Bool) : StN 0 (startS above) := ⟨by unfold startS; dsimp only; omega, mgZ_small, mgZ_small⟩
theorem at_n {n : Int} {s : St} {k : Kd} (hs : StN n s) (hk : NearAt k) : -(n * 1073741824) - 268435456 ≤ atS s k ∧ atS s k ≤ n * 1073741824 + 268435456 := by
  have h1 := hs.y
  have h2 := mjoin_small hs.wt hk.2.2.2.1
  unfold SmallM MayM at h2
  unfold atS
  split <;> omega
theorem step_n {n : Int} {s : St} {k : Kd} (hs : StN n s) (hk : NearAt k) : StN (n + 1) (stepS s k) := by
  have h1 := hs.y
  have h2 := mjoin_small hs.wt hk.2.2.2.1
  have h3 := at_n hs hk
  have h4 := hk.1
  have h5 := hk.2.1
  unfold stepS
  split
  · exact ⟨by dsimp only; rw [Int.add_mul]; omega, mjoin_small h2 hk.2.2.2.2, hs.top⟩
  · refine ⟨by dsimp only; rw [Int.add_mul]; omega, hk.2.2.2.2, ?_⟩
    dsimp only
    split
    · exact h2
    · exact hs.top
theorem run_n {l : List Kd} (hg : ∀ k ∈ l, NearAt k) {n : Int} {s : St} (hs : StN n s) : StN (n + l.length) (runS s l) := by
  induction l generalizing n s with
  | nil => simpa [runS] using hs
  | cons k l ih =>
    have h := ih (fun x hx => hg x (by simp [hx])) (step_n hs (hg k (by simp)))
    have e : n + ((k :: l).length : Int) = n + 1 + (l.length : Int) := by rw [List.length_cons]; omega
    rw [e]
    exact h
theorem run_n2 {l : List Kd} (hg : ∀ k ∈ l, NearAt k) (hl : l.length ≤ 1000) (above : Bool) (k : Nat) : StN 1000 (runS (startS above) (l.take k)) := by
  have h := run_n (l := l.take k) (fun x hx => hg x (List.mem_of_mem_take hx)) (start_n above)
  have hk : ((l.take k).length : Int) ≤ 1000 := by rw [List.length_take]; omega
  exact ⟨by have := h.y; omega, h.wt, h.top⟩
theorem ats_get {l : List Kd} (above : Bool) {k : Nat} (hk : k < l.length) : (atsS (startS above) l)[k]? = some (atS (runS (startS above) (l.take k)) (kAt l k)) := by
  have e : l = l.take (k + 1) ++ l.drop (k + 1) := (List.take_append_drop _ _).symm
  rw [e, atsS_append, List.getElem?_append_left (by rw [atsS_len, List.length_take]; omega), ats_at above hk, List.getElem?_append_right (by rw [atsS_len, List.length_take]; omega), atsS_len, List.length_take, Nat.min_eq_left (by omega), Nat.sub_self, ← e]
  rfl
theorem ats_n {l : List Kd} (hg : ∀ k ∈ l, NearAt k) (hl : l.length ≤ 1000) (above : Bool) : ∀ y ∈ atsS (startS above) l, -1099511627776 ≤ y ∧ y ≤ 1099511627776 := by
  intro y hy
  obtain ⟨i, hi⟩ := List.getElem?_of_mem hy
  have hl2 := (List.getElem?_eq_some_iff.1 hi).1
  rw [atsS_len] at hl2
  rw [ats_get above hl2] at hi
  have h1 := at_n (run_n2 hg hl above i) (hg (kAt l i) (by rw [kAt_get hl2]; exact List.getElem_mem _))
  cases hi
  omega
theorem near_told14 {l : List Kd} (hg : ∀ k ∈ l, NearAt k) (hl : l.length ≤ 1000) (above below : Bool) : stackA l above below = (toldS l above below, 0) := by
  unfold stackA
  rw [if_neg (by rw [askedE_of (by omega) (fun k hk => near_good (hg k hk))]; exact fun h => h rfl), if_pos]
  refine ⟨?_, ?_⟩
  · have e : (toldS l above below).ats = atsS (startS above) l := by unfold toldS endS; split <;> rfl
    rw [e]
    exact ats_n hg hl above
  · have h := run_n2 hg hl above l.length
    rw [List.take_length] at h
    have h1 := h.y
    have h2 := h.wt
    unfold SmallM MayM at h2
    unfold toldS endS downS Fit
    repeat' split
    all_goals (dsimp only; omega)
/-- of solid kids in a closed box -/
theorem run_solid {l : List Kd} (hs : SolidK l) : ∀ {k : Nat}, k ≤ l.length → (runS (startS false) (l.take k)).out = false ∧ (runS (startS false) (l.take k)).top = mgZ
  | 0, _ => ⟨rfl, rfl⟩
  | k + 1, hk => by
    have h := run_solid hs (k := k) (by omega)
    rw [run_at false (by omega)]
    have ht := hs k (by omega)
    unfold stepS
    rw [if_neg (by rw [ht]; simp)]
    exact ⟨rfl, by dsimp only; rw [if_neg (by rw [h.1]; simp)]; exact h.2⟩
theorem step_solid {l : List Kd} (hs : SolidK l) {k : Nat} (hk : k < l.length) : (runS (startS false) (l.take (k + 1))).y = atS (runS (startS false) (l.take k)) (kAt l k) + (kAt l k).h ∧ (runS (startS false) (l.take (k + 1))).wt = (kAt l k).b ∧
    atS (runS (startS false) (l.take k)) (kAt l k) = (runS (startS false) (l.take k)).y + (mjoin (runS (startS false) (l.take k)).wt (kAt l k).t).1 + (mjoin (runS (startS false) (l.take k)).wt (kAt l k).t).2 := by
  have h := run_solid hs (k := k) (by omega)
  have ht := hs k hk
  rw [run_at false hk]
  refine ⟨?_, ?_, ?_⟩
  · unfold stepS; rw [if_neg (by rw [ht]; simp)]
  · unfold stepS; rw [if_neg (by rw [ht]; simp)]
  · unfold atS; rw [if_neg (by rw [h.1]; simp)]
theorem told_solid {l : List Kd} (hs : SolidK l) : toldS l false false = ⟨atsS (startS false) l, if 0 < (runS (startS false) l).y + (runS (startS false) l).wt.1 + (runS (startS false) l).wt.2 then (runS (startS false) l).y + (runS (startS false) l).wt.1 + (runS (startS false) l).wt.2 else 0, mgZ, mgZ, false⟩ := by
  have h := run_solid hs (k := l.length) (Nat.le_refl _)
  rw [List.take_length] at h
  unfold toldS endS downS
  rw [if_neg (by rw [h.1]; simp), h.2]
  rfl
end Go.Proofs.Ytidbfkbeploagaa
