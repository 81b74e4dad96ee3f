/-
  What is asked of a program's Put, Take, Whole, Same of wire; what follows for forms that are torn, or have a byte behind them.
-/
import Derived.Test.YtkjndgnjilfobaaRefPut4
namespace Go.Proofs.Ytkjndgnjilfobaa
open Go.RowKit

def AllShort (l : List WV) : Prop := ∀ v ∈ l, Short v
def AllReal (l : List WV) : Prop := ∀ v ∈ l, Real v
def Valid (s : List Nat) (l : List WV) : Prop := Good s l ∧ AllShort l ∧ AllReal l
theorem ok_real {w : World} {v : RV} (h : v.ok w) : Real v.mean := by
  obtain ⟨h1, h2, ⟨h3, -, h4, -⟩, ⟨h5, -, h6, -⟩⟩ := h
  refine ⟨h1, h2, bytes_lt h3, longs_lt h5, ?_, ?_⟩
  · show (seg v.bf 0 v.bn).length < _
    rw [seg_len]; omega
  · show (seg v.lf 0 v.ln).length < _
    rw [seg_len]; omega
theorem vals_real {w : World} {A : Option Addr} {n : Nat} {V : Nat → RV} (h : Vals w A n V) : AllReal (means V n) := by
  intro v hv
  obtain ⟨j, hj, rfl⟩ := List.mem_map.1 hv
  exact ok_real (h.1 j (List.mem_range.1 hj))
theorem worth_short {V : Nat → RV} {n : Nat} (h : worth V n ≤ 4000) : AllShort (means V n) := by
  intro v hv
  obtain ⟨j, hj, rfl⟩ := List.mem_map.1 hv
  have := worth_one V (List.mem_range.1 hj)
  refine ⟨?_, ?_⟩
  · show (seg (V j).bf 0 (V j).bn).length ≤ _
    rw [seg_len]; omega
  · show (seg (V j).lf 0 (V j).ln).length ≤ _
    rw [seg_len]; omega

def PutAns (s : List Nat) (l : List WV) (W : World) (e : Ending) (w' : World) : Prop :=
  Below W.heap.size W w' ∧ ((¬ Good s l ∧ e = .returned (.tuple #[.slice none 0 0, .int .i64 2])) ∨
    (Good s l ∧ ¬ AllShort l ∧ e = .returned (.tuple #[.slice none 0 0, .int .i64 3])) ∨
    (Good s l ∧ AllShort l ∧ ∃ A c, e = .returned (.tuple #[.slice A (forms s l).length c, .int .i64 0]) ∧ (A = none → (forms s l).length = 0 ∧ c = 0) ∧ (forms s l).length ≤ c ∧ c ≤ 9223372036854775807 ∧ Bytes w' A (forms s l).length (pick (forms s l))))
/-- what is asked of wire.Put -/
def PutOK : Prop := ∀ (s : ByteArray) (A : Option Addr) (n c : Nat) (V : Nat → RV) (W : World), s.size ≤ 9223372036854775807 → ValsIn W A n c V →
  Calls Try.prog 12 #[.string s, .slice A n c] W (PutAns (letters s) (means V n) W)
def TakeAns (s bl : List Nat) (W : World) (e : Ending) (w' : World) : Prop :=
  Below W.heap.size W w' ∧ ((¬ Schema s ∧ e = .returned (.tuple #[.slice none 0 0, .int .i64 0, .int .i64 2])) ∨
    (Schema s ∧ (∀ l r, Valid s l → forms s l ++ r ≠ bl) ∧ e = .returned (.tuple #[.slice none 0 0, .int .i64 0, .int .i64 40])) ∨
    (∃ A m c V r, Valid s (means V m) ∧ forms s (means V m) ++ r = bl ∧ e = .returned (.tuple #[.slice A m c, .int .i64 ((forms s (means V m)).length : Nat), .int .i64 0]) ∧ ValsIn w' A m c V))
/-- what is asked of wire.Take -/
def TakeOK : Prop := ∀ (s : ByteArray) (A : Option Addr) (n c : Nat) (f : Nat → Nat) (W : World), s.size ≤ 9223372036854775807 → Bytes W A n f → (A = none → n = 0 ∧ c = 0) → n ≤ c → c ≤ 9223372036854775807 → n ≤ 4194304 →
  Calls Try.prog 18 #[.string s, .slice A n c] W (TakeAns (letters s) (seg f 0 n) W)
def WholeAns (s bl : List Nat) (W : World) (e : Ending) (w' : World) : Prop :=
  Below W.heap.size W w' ∧ ((¬ Schema s ∧ e = .returned (.tuple #[.slice none 0 0, .int .i64 2])) ∨
    (Schema s ∧ (∀ l, Valid s l → forms s l ≠ bl) ∧ e = .returned (.tuple #[.slice none 0 0, .int .i64 40])) ∨
    (∃ A m c V, Valid s (means V m) ∧ forms s (means V m) = bl ∧ e = .returned (.tuple #[.slice A m c, .int .i64 0]) ∧ ValsIn w' A m c V))
/-- what is asked of wire.Whole -/
def WholeOK4 : Prop := ∀ (s : ByteArray) (A : Option Addr) (n c : Nat) (f : Nat → Nat) (W : World), s.size ≤ 9223372036854775807 → Bytes W A n f → (A = none → n = 0 ∧ c = 0) → n ≤ c → c ≤ 9223372036854775807 → n ≤ 4194304 →
  Calls Try.prog 20 #[.string s, .slice A n c] W (WholeAns (letters s) (seg f 0 n) W)
/-- what is asked of wire.Same -/
def SameOK : Prop := ∀ (A B : Option Addr) (n m c d : Nat) (U V : Nat → RV) (W : World), ValsIn W A n c U → ValsIn W B m d V →
  Calls Try.prog 16 #[.slice A n c, .slice B m d] W fun e w' => e = .returned (.bool (decide (means U n = means V m))) ∧ Below W.heap.size W w'

/-- a form with something behind it is told with that behind it -/
theorem valid_uniq {s : List Nat} {l m : List WV} {r t : List Nat} (hl : Good s l) (hm : Good s m) (h : forms s l ++ r = forms s m ++ t) : l = m ∧ r = t :=
  forms_inj hl.1.1 hl.2 hm.2 h
/-- with a byte behind it a form is none as a whole -/
theorem none_behind {s : List Nat} {l : List WV} {x : Nat} (hl : Good s l) : ∀ m, Valid s m → forms s m ≠ forms s l ++ [x] := by
  intro m hm h
  have := (valid_uniq hm.1 hl (r := []) (t := [x]) (by rw [List.append_nil]; exact h)).2
  cases this
/-- without its last bytes a form is none -/
theorem none_torn {s : List Nat} {l : List WV} {k : Nat} (hl : Good s l) (hk : k < (forms s l).length) : ∀ m r, Valid s m → forms s m ++ r ≠ (forms s l).take k := by
  intro m r hm h
  have e : forms s m ++ (r ++ (forms s l).drop k) = forms s l ++ [] := by
    rw [← List.append_assoc, h, List.take_append_drop, List.append_nil]
  have h2 := (valid_uniq hm.1 hl e).2
  have := congrArg List.length h2
  simp at this
  omega
end Go.Proofs.Ytkjndgnjilfobaa
