/-
  Kids behind a kid: mathematics.
-/
import Derived.Test.YtidbfkbeploagaaNearMath14
namespace Go.Proofs.Ytidbfkbeploagaa
open Go.RowKit

/-- the same place, so much further down -/
structure ShS (d : Int) (s u : St) : Prop where
  y : u.y = s.y + d
  wt : u.wt = s.wt
  so : s.out = false
  uo : u.out = false
theorem ShS.at {d : Int} {s u : St} (h : ShS d s u) (k : Kd) : atS u k = atS s k + d := by
  unfold atS
  rw [if_neg (by rw [h.uo]; simp), if_neg (by rw [h.so]; simp), h.y, h.wt]
  omega
theorem ShS.step {d : Int} {s u : St} (h : ShS d s u) (k : Kd) : ShS d (stepS s k) (stepS u k) := by
  have ha := h.at k
  unfold stepS
  split
  · exact ⟨h.y, by dsimp only; rw [h.wt], h.so, h.uo⟩
  · exact ⟨by dsimp only; omega, rfl, rfl, rfl⟩
theorem ShS.run {d : Int} {s u : St} (h : ShS d s u) (l : List Kd) : ShS d (runS s l) (runS u l) := by
  induction l generalizing s u with
  | nil => exact h
  | cons k l ih => exact ih (h.step k)
theorem ShS.ats {d : Int} {s u : St} (h : ShS d s u) (l : List Kd) : atsS u l = (atsS s l).map (· + d) := by
  induction l generalizing s u with
  | nil => rfl
  | cons k l ih =>
    show atS u k :: atsS (stepS u k) l = _
    rw [h.at k, ih (h.step k)]
    rfl
/-- a kid that isn't through, of a Bottom alone -/
def botK (k : Kd) : Kd := ⟨mgZ, k.b, 0, false⟩
theorem bot_step (k : Kd) : stepS (startS false) (botK k) = ⟨0, k.b, false, mgZ⟩ := by
  simp [stepS, startS, botK, atS, mjoin, mgZ]
theorem behind_sh {l : List Kd} {k : Kd} (hk : k.thr = false) : ShS (atS (runS (startS false) l) k + k.h) (stepS (startS false) (botK k)) (stepS (runS (startS false) l) k) := by
  rw [bot_step]
  unfold stepS
  rw [if_neg (by rw [hk]; simp)]
  exact ⟨by dsimp only; omega, rfl, rfl, rfl⟩
theorem behind_sh2 {l m : List Kd} {k : Kd} (hk : k.thr = false) : ShS (atS (runS (startS false) l) k + k.h) (runS (startS false) (botK k :: m)) (runS (startS false) (l ++ [k] ++ m)) := by
  have h := (behind_sh (l := l) hk).run m
  have e : runS (startS false) (l ++ [k] ++ m) = runS (stepS (runS (startS false) l) k) m := by
    unfold runS
    rw [List.foldl_append, List.foldl_append]
    rfl
  rw [e]
  exact h
theorem behind_ats {l m : List Kd} {k : Kd} (hk : k.thr = false) : atsS (startS false) (l ++ [k] ++ m) = atsS (startS false) l ++ (atS (runS (startS false) l) k :: (atsS (stepS (startS false) (botK k)) m).map (· + (atS (runS (startS false) l) k + k.h))) := by
  rw [atsS_append, atsS_snoc, runS_snoc, (behind_sh (l := l) hk).ats m, List.append_assoc]
  rfl
theorem run_shut (l : List Kd) : ∀ (s : St), s.out = false → (runS s l).out = false := by
  induction l with
  | nil => exact fun s h => h
  | cons k l ih =>
    intro s h
    refine ih (stepS s k) ?_
    unfold stepS
    split
    · exact h
    · rfl
/-- of a box that is closed above and open below: where they stand, what waits -/
theorem told_half (l : List Kd) : (toldS l false true).ats = atsS (startS false) l ∧ (toldS l false true).bot = (runS (startS false) l).wt ∧ (toldS l false true).thr = false := by
  have h := run_shut l (startS false) rfl
  unfold toldS endS
  rw [if_neg (by rw [h]; simp)]
  exact ⟨rfl, rfl, rfl⟩
theorem behind_bot {l m : List Kd} {k : Kd} (hk : k.thr = false) : (toldS (l ++ [k] ++ m) false true).bot = (toldS (botK k :: m) false true).bot := by
  rw [(told_half _).2.1, (told_half _).2.1]
  exact (behind_sh2 hk).wt
/-- the places of the one row out of those of the other -/
theorem behind_at {l m : List Kd} {k : Kd} (hk : k.thr = false) {i : Nat} (hi : i < m.length) : ∃ e y : Int, (toldS (l ++ [k] ++ m) false true).ats[l.length]? = some e ∧ (toldS (botK k :: m) false true).ats[1 + i]? = some y ∧ (toldS (l ++ [k] ++ m) false true).ats[l.length + 1 + i]? = some (e + k.h + y) := by
  rw [(told_half _).1, (told_half _).1, behind_ats hk]
  have hl : i < (atsS (stepS (startS false) (botK k)) m).length := by rw [atsS_len]; exact hi
  refine ⟨atS (runS (startS false) l) k, (atsS (stepS (startS false) (botK k)) m)[i], ?_, ?_, ?_⟩
  · rw [List.getElem?_append_right (by rw [atsS_len]; omega), atsS_len, Nat.sub_self]
    rfl
  · rw [Nat.add_comm]
    show (_ :: atsS (stepS (startS false) (botK k)) m)[i + 1]? = _
    rw [List.getElem?_cons_succ, List.getElem?_eq_getElem hl]
  · rw [List.getElem?_append_right (by rw [atsS_len]; omega), atsS_len, show l.length + 1 + i - l.length = i + 1 by omega, List.getElem?_cons_succ, List.getElem?_map, List.getElem?_eq_getElem hl]
    simp only [Option.map_some]
    congr 1
    omega
end Go.Proofs.Ytidbfkbeploagaa
