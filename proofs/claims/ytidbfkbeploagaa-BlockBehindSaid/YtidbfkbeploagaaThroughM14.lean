/-
  Kids that are through: mathematics.
-/
import Derived.Test.YtidbfkbeploagaaNearMath14
namespace Go.Proofs.Ytidbfkbeploagaa
open Go.RowKit

/-- the margins of the first so many, joined -/
def joinT (l : List Kd) (k : Nat) : Mg := (l.take k).foldl (fun a x => mjoin (mjoin a x.t) x.b) mgZ
def thrB (l : List Kd) (k : Nat) : Bool := (l.take k).all (·.thr)
theorem joinT_succ {l : List Kd} {k : Nat} (h : k < l.length) : joinT l (k + 1) = mjoin (mjoin (joinT l k) (kAt l k).t) (kAt l k).b := by
  unfold joinT
  rw [take_kid h, List.foldl_append]
  rfl
theorem thrB_succ {l : List Kd} {k : Nat} (h : k < l.length) : thrB l (k + 1) = (thrB l k && (kAt l k).thr) := by
  unfold thrB
  rw [take_kid h, List.all_append]
  simp
theorem run_thr {l : List Kd} (above : Bool) : ∀ {k : Nat}, k ≤ l.length → thrB l k = true → runS (startS above) (l.take k) = ⟨0, joinT l k, above, mgZ⟩
  | 0, _, _ => rfl
  | k + 1, hk, h => by
    rw [thrB_succ (l := l) (by omega)] at h
    simp only [Bool.and_eq_true] at h
    rw [run_at above (l := l) (k := k) (by omega), run_thr above (k := k) (by omega) h.1, joinT_succ (l := l) (by omega)]
    unfold stepS
    rw [if_pos h.2]
theorem run_out {l : List Kd} (above : Bool) : ∀ {k : Nat}, k ≤ l.length → (runS (startS above) (l.take k)).out = (above && thrB l k)
  | 0, _ => by simp [startS, runS, thrB]
  | k + 1, hk => by
    rw [run_at above (l := l) (k := k) (by omega), thrB_succ (l := l) (by omega)]
    have h := run_out (l := l) above (k := k) (by omega)
    unfold stepS
    cases ht : (kAt l k).thr with
    | true => rw [if_pos rfl]; simpa using h
    | false => rw [if_neg (by simp)]; simp
theorem told_open {l : List Kd} (h : thrB l l.length = true) : toldS l true true = ⟨atsS (startS true) l, 0, joinT l l.length, mgZ, true⟩ := by
  have h1 := run_thr true (Nat.le_refl _) h
  rw [List.take_length] at h1
  unfold toldS
  rw [h1]
  unfold endS
  rw [if_pos rfl]
theorem told_open_no {l : List Kd} (h : thrB l l.length = false) : (toldS l true true).thr = false := by
  have h1 := run_out (l := l) true (Nat.le_refl _)
  rw [List.take_length, h] at h1
  unfold toldS endS
  rw [if_neg (by rw [h1]; simp)]
theorem told_shut_thr (l : List Kd) : (toldS l false false).thr = false := by
  have h1 := run_out (l := l) false (Nat.le_refl _)
  rw [List.take_length] at h1
  unfold toldS endS
  rw [if_neg (by rw [h1]; simp)]
theorem told_shut_h {l : List Kd} (h : thrB l l.length = true) : (toldS l false false).h = if 0 < (joinT l l.length).1 + (joinT l l.length).2 then (joinT l l.length).1 + (joinT l l.length).2 else 0 := by
  have h1 := run_thr false (Nat.le_refl _) h
  rw [List.take_length] at h1
  unfold toldS
  rw [h1]
  unfold endS downS
  simp
theorem joinT_small {l : List Kd} (hg : ∀ k ∈ l, NearAt k) : ∀ {k : Nat}, k ≤ l.length → SmallM (joinT l k)
  | 0, _ => mgZ_small
  | k + 1, hk => by
    rw [joinT_succ (l := l) (by omega)]
    have g := hg (kAt l k) (by rw [kAt_get (by omega)]; exact List.getElem_mem _)
    exact mjoin_small (mjoin_small (joinT_small hg (by omega)) g.2.2.2.1) g.2.2.2.2
theorem joinM_three {a b c : Mg} : joinM [a, b, c] = mjoin (mjoin a b) c := rfl
end Go.Proofs.Ytidbfkbeploagaa
