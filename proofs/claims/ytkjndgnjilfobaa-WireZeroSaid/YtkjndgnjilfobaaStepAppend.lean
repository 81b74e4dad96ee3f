/-
  An append of any bytes to a row of bytes of the call's own: as one operation, and as a step of a region that draws its order.
-/
import Derived.Test.YtkjndgnjilfobaaAppendB
import Derived.Deep.AppendLies
import Derived.Deep.RegionLaw
namespace Go.Proofs.Ytkjndgnjilfobaa
open Go.RowKit

theorem wp_append_more {w : World} {o : Oper} {a : Act} {K : Act → World → Prop} {Q : Exit → Act → World → Prop} (s x : Operand)
    (ho : o.op = .call { callee := .builtin .append, args := #[s, x], argTypes := #[25, 25] })
    (base : Nat) (v : Value) (l : List Nat) (hs : a.eval s = v) (hown : owns w base 5 .u8 v l) (A : Option Addr) (n c : Nat) (f : Nat → Nat) (hx : a.eval x = .slice A n c) (hA : A = none → n = 0 ∧ c = 0) (hN : Bytes w A n f)
    (hb : l.length + n ≤ 4194304) (hbase : base ≤ w.heap.size)
    (h : ∀ A' c' w', owns w' base 5 .u8 (.slice A' (l.length + n) c') (l ++ seg f 0 n) → l.length + n ≤ c' → c' ≤ 9223372036854775807 → Below base w w' → K (a.put o.dst (.slice A' (l.length + n) c')) w') :
    Oper.wp Try.prog o a w K Q := by
  obtain ⟨i0, hi, hz0, hz1, hz2⟩ := info_parts Try.info5
  cases A with
  | none =>
    obtain ⟨rfl, rfl⟩ := hA rfl
    have hrun := run_append_owned_none (P := Try.prog) (w := w) base 25 o.type 5 i0 1 Try.underlying25 hi v l.length _ hown
    obtain ⟨A', c', rfl, h1, h2, h3⟩ := hown.form
    unfold maxLen at h2
    have := h A' c' w (by simpa [seg_zero] using hown) (by omega) (by omega) (Below.refl _ _)
    unfold Oper.wp
    simp [execOp, ho, resolve, invoke, builtin, hs, hx, hrun, Result.andThen]
    have h4 : K (a.put o.dst (.slice A' l.length c')) w := by simpa using this
    exact h4
  | some ad =>
    refine wp_append_own w s x 25 ho base 5 i0 (.int .u8 0) 1 1 Try.underlying25 hi hz0 hz1 hz2 rfl (by decide) v l.length _ hs hown ad n c ((seg f 0 n).map fun (x : Nat) => Value.int .u8 (x : Nat)) hx (by simp [seg_len]) (Nums.cells hN) (one_cells .u8 _) (by unfold maxLen; omega) (by omega) hbase ?_
    intro v' w' hown' hgrow _
    have ho2 : owns w' base 5 .u8 v' (l ++ seg f 0 n) := by unfold owns; simpa [seg_len] using hown'
    obtain ⟨A', c', rfl, h1, h2, h3⟩ := ho2.form
    rw [List.length_append, seg_len] at ho2 h1 ⊢
    unfold maxLen at h2
    exact h A' c' w' ho2 h1 (by omega) ((Below.refl _ _).grown hgrow hbase (fun k e => (hown.lt k e).1))
theorem step_append_more {w : World} {ops : Array Oper} {o : Oper} {a : Act} {K : Act → World → Prop} {Q : Exit → Act → World → Prop} {E : Prop} (hgd : o.guard = none) (s x : Operand)
    (ho : o.op = .call { callee := .builtin .append, args := #[s, x], argTypes := #[25, 25] })
    (base : Nat) (v : Value) (l : List Nat) (hs : a.eval s = v) (hown : owns w base 5 .u8 v l) (A : Option Addr) (n c : Nat) (f : Nat → Nat) (hx : a.eval x = .slice A n c) (hA : A = none → n = 0 ∧ c = 0) (hN : Bytes w A n f)
    (hb : l.length + n ≤ 4194304) (hbase : base ≤ w.heap.size)
    (h : ∀ A' c' w', owns w' base 5 .u8 (.slice A' (l.length + n) c') (l ++ seg f 0 n) → l.length + n ≤ c' → c' ≤ 9223372036854775807 → Below base w w' → K (a.put o.dst (.slice A' (l.length + n) c')) w') :
    if Region.wanted o (yielded ops a.tmps) = true then Oper.wp Try.prog o a w K Q else E := by
  have hw : Region.wanted o (yielded ops a.tmps) = true := by simp [Region.wanted, hgd]
  rw [if_pos hw]
  exact wp_append_more s x ho base v l hs hown A n c f hx hA hN hb hbase h
end Go.Proofs.Ytkjndgnjilfobaa
