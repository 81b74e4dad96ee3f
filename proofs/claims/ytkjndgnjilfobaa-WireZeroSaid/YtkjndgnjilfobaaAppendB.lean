/-
  An append of any bytes to a row of bytes of the call's own.
-/
import Derived.Test.YtkjndgnjilfobaaBytes
namespace Go.Proofs.Ytkjndgnjilfobaa
open Go.RowKit

/-- 'append(b, x...)' where b is a row of bytes of the call's own, x whatever bytes, nil too. -/
theorem wpList_append_more {w : World} {ops : Array Oper} {rest : List Oper} {o : Oper} {a : Act} {Q : Exit → Act → World → Prop} (hgd : o.guard = none) (s x : Operand)
    (ho : o.op = .call { callee := .builtin .append, args := #[s, x], argTypes := #[25, 25] })
    (base : Nat) (v : Value) (l : List Nat) (hs : a.eval s = v) (hown : owns w base 5 .u8 v l) (A : Option Addr) (n c : Nat) (f : Nat → Nat) (hx : a.eval x = .slice A n c) (hA : A = none → n = 0 ∧ c = 0) (hN : Bytes w A n f)
    (hb : l.length + n ≤ 4194304) (hbase : base ≤ w.heap.size)
    (h : ∀ A' c' w', owns w' base 5 .u8 (.slice A' (l.length + n) c') (l ++ seg f 0 n) → l.length + n ≤ c' → c' ≤ 9223372036854775807 → Below base w w' → wpList Try.prog ops Q rest (a.put o.dst (.slice A' (l.length + n) c')) w') :
    wpList Try.prog ops Q (o :: rest) a w := by
  obtain ⟨i0, hi, hz0, hz1, hz2⟩ := info_parts Try.info5
  cases A with
  | none =>
    obtain ⟨rfl, rfl⟩ := hA rfl
    refine wpList_append_own_none hgd s x 25 ho base 5 i0 1 Try.underlying25 hi v l.length _ hs hown hx ?_
    obtain ⟨A', c', rfl, h1, h2, h3⟩ := hown.form
    unfold maxLen at h2
    have := h A' c' w (by simpa [seg_zero] using hown) (by omega) (by omega) (Below.refl _ _)
    simpa using this
  | some ad =>
    refine wpList_append_own _ hgd s x 25 ho base 5 i0 (.int .u8 0) 1 1 Try.underlying25 hi hz0 hz1 hz2 rfl (by decide) v l.length _ hs hown ad n c ((seg f 0 n).map fun (x : Nat) => Value.int .u8 (x : Nat)) hx (by simp [seg_len]) (Nums.cells hN) (one_cells .u8 _) (by unfold maxLen; omega) (by omega) hbase ?_
    intro v' w' hown' hgrow _
    have ho2 : owns w' base 5 .u8 v' (l ++ seg f 0 n) := by unfold owns; simpa [seg_len] using hown'
    obtain ⟨A', c', rfl, h1, h2, h3⟩ := ho2.form
    rw [List.length_append, seg_len] at ho2 h1 ⊢
    unfold maxLen at h2
    exact h A' c' w' ho2 h1 (by omega) ((Below.refl _ _).grown hgrow hbase (fun k e => (hown.lt k e).1))

theorem owns.some1 {w : World} {base n c : Nat} {A : Option Addr} {l : List Nat} (h : owns w base 5 .u8 (.slice A n c) l) (hl : 0 < l.length) : ∃ g, A = some ⟨g, 0, none⟩ ∧ n = l.length := by
  rcases h.2 with ⟨_, h0⟩ | ⟨g, cap, cur, e, _⟩
  · omega
  · injection e with e1 e2 e3
    exact ⟨g, e1, e2⟩
end Go.Proofs.Ytkjndgnjilfobaa
