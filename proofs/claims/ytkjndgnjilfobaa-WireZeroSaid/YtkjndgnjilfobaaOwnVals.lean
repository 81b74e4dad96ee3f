/-
  A row of wire's values of the call's own: made, appended to, read.
-/
import Derived.Test.YtkjndgnjilfobaaWireTorn
import Derived.Laws.MakeOwn
namespace Go.Proofs.Ytkjndgnjilfobaa
open Go.RowKit

theorem Try.infoV : (Try.prog.info? 42).map (fun i => (i.zero, i.size, i.bytes)) = some (some (.agg #[.int .u64 0, .int .i64 0, .bool false, .slice none 0 0, .slice none 0 0]), 5, 72) := by kernel_rfl
def fiveOf (v : RV) : List Value := [.int .u64 (v.n : Nat), .int .i64 v.i, .bool v.f, .slice v.bA v.bn v.bc, .slice v.lA v.ln v.lc]
def five (V : Nat → RV) : Nat → List Value
  | 0 => []
  | n + 1 => five V n ++ fiveOf (V n)
theorem five_len (V : Nat → RV) (n : Nat) : (five V n).length = n * 5 := by
  induction n with
  | zero => rfl
  | succ n ih => simp [five, fiveOf, ih]; omega
theorem five_get (V : Nat → RV) {n j k : Nat} (hj : j < n) (hk : k < 5) : (five V n)[j * 5 + k]? = (fiveOf (V j))[k]? := by
  induction n with
  | zero => omega
  | succ n ih =>
    unfold five
    by_cases h : j < n
    · rw [List.getElem?_append_left (by rw [five_len]; omega)]
      exact ih h
    · obtain rfl : j = n := by omega
      rw [List.getElem?_append_right (by rw [five_len]; omega), five_len, show j * 5 + k - j * 5 = k by omega]
def joinV (U : Nat → RV) (n : Nat) (V : Nat → RV) (j : Nat) : RV := if j < n then U j else V (j - n)
theorem five_congr {U V : Nat → RV} {n : Nat} (h : ∀ j, j < n → U j = V j) : five U n = five V n := by
  induction n with
  | zero => rfl
  | succ n ih => unfold five; rw [ih (fun j hj => h j (by omega)), h n (by omega)]
theorem five_join (U V : Nat → RV) (n m : Nat) : five (joinV U n V) (n + m) = five U n ++ five V m := by
  induction m with
  | zero =>
    rw [Nat.add_zero]
    show _ = five U n ++ []
    rw [List.append_nil]
    exact five_congr fun j hj => by unfold joinV; rw [if_pos hj]
  | succ m ih =>
    rw [← Nat.add_assoc]
    show five (joinV U n V) (n + m) ++ fiveOf (joinV U n V (n + m)) = five U n ++ (five V m ++ fiveOf (V m))
    rw [ih, List.append_assoc]
    unfold joinV
    rw [if_neg (by omega), show n + m - n = m by omega]
theorem means_join (U V : Nat → RV) (n m : Nat) : means (joinV U n V) (n + m) = means U n ++ means V m := by
  induction m with
  | zero =>
    simp only [Nat.add_zero]
    have e : means V 0 = [] := rfl
    rw [e, List.append_nil]
    exact List.map_congr_left fun j hj => by unfold joinV; rw [if_pos (List.mem_range.1 hj)]
  | succ m ih =>
    rw [← Nat.add_assoc]
    have e1 : ∀ (W : Nat → RV) (k : Nat), means W (k + 1) = means W k ++ [(W k).mean] := fun W k => by simp [means, List.range_succ]
    rw [e1, ih, e1, List.append_assoc]
    unfold joinV
    rw [if_neg (by omega), show n + m - n = m by omega]

/-- a row of values of the call's own -/
def ownsV (w : World) (base : Nat) (v : Value) (V : Nat → RV) (n : Nat) : Prop := w.ownsRow base 42 5 v n (five V n)
theorem ownsV.form {w : World} {base : Nat} {v : Value} {V : Nat → RV} {n : Nat} (h : ownsV w base v V n) : ∃ A c, v = .slice A n c ∧ n ≤ c ∧ c ≤ 9223372036854775807 ∧ (A = none → n = 0 ∧ c = 0) := by
  rcases h.2 with ⟨rfl, h0⟩ | ⟨g, cap, cur, rfl, _, _, h1, h2, _⟩
  · exact ⟨none, 0, by rw [h0], by omega, by omega, fun _ => ⟨h0, rfl⟩⟩
  · unfold maxLen at h2
    exact ⟨some ⟨g, 0, none⟩, cap, rfl, h1, by omega, fun e => by cases e⟩
theorem ownsV.keep {w w' : World} {base : Nat} {v : Value} {V : Nat → RV} {n : Nat} (h : ownsV w base v V n) (hb : Below w.heap.size w w') : ownsV w' base v V n := by
  refine ⟨h.1, ?_⟩
  rcases h.2 with hn | ⟨g, cap, cur, hv, hbg, hg, rest⟩
  · exact .inl hn
  · exact .inr ⟨g, cap, cur, hv, hbg, (hb.block g (lt_of_block hg)).trans hg, rest⟩
theorem ownsV.vals {w : World} {base c n : Nat} {A : Option Addr} {V : Nat → RV} (h : ownsV w base (.slice A n c) V n) (hok : ∀ j, j < n → (V j).ok w) : Vals w A n V := by
  refine ⟨hok, fun hn => ?_⟩
  rcases h.2 with ⟨_, h0⟩ | ⟨g, cap, cur, hv, hbg, hg, _, _, _, ht⟩
  · omega
  · injection hv with hv1 hv2 hv3
    refine ⟨g, 0, hv1, lt_of_block hg, fun j hj => ?_⟩
    have key : ∀ k, k < 5 → w.cell? ⟨g, 0 + j * 5 + k, none⟩ = (fiveOf (V j))[k]? := fun k hk => by
      rw [Nat.zero_add, cell_of_row w g _ cur 42 (0, 0) hg]
      have e := five_get V hj hk
      rw [← ht, List.getElem?_take_of_lt (by omega)] at e
      simpa using e
    exact ⟨key 0 (by omega), key 1 (by omega), key 2 (by omega), key 3 (by omega), key 4 (by omega)⟩
theorem made_vals (W : World) (V : Nat → RV) : ∃ W', (Instr.makeSlice 22 (.int .i64 0) (.int .i64 64)).run Try.prog W = .ok (.slice (some ⟨W.heap.size, 0, none⟩) 0 64) W' ∧ ownsV W' W.heap.size (.slice (some ⟨W.heap.size, 0, none⟩) 0 64) V 0 ∧ Below W.heap.size W W' := by
  obtain ⟨i0, hi, hz0, hz1, hz2⟩ := info_parts Try.infoV
  obtain ⟨w', h1, h2, h3⟩ := run_make_own (P := Try.prog) W W.heap.size 22 42 i0 _ 5 Try.underlying22 hi hz0 hz1 .i64 .i64 64 (by rw [hz2]; omega) (by unfold maxLen; omega) (Nat.le_refl _)
  exact ⟨w', h1, h2, (Below.refl _ W).grown h3 (Nat.le_refl _) (fun k e => by cases e)⟩
theorem five_cells {w : World} {A : Addr} {n : Nat} {V : Nat → RV} (h : Vals w (some A) n V) : ∀ j u, (five V n)[j]? = some u → w.cell? (A.add j) = some u := by
  intro i u hu
  have hlt : i < n * 5 := by
    obtain ⟨h1, _⟩ := List.getElem?_eq_some_iff.1 hu
    rwa [five_len] at h1
  have hj : i / 5 < n := by omega
  obtain ⟨b, off, e, _, h1, h2, h3, h4, h5⟩ := h.at_ hj
  injection e with e
  subst e
  have hi : i = i / 5 * 5 + i % 5 := by omega
  have hk : i % 5 < 5 := Nat.mod_lt _ (by omega)
  rw [hi, five_get V hj hk] at hu
  rw [Go.WideShapes.add_plain, show off + i = off + i / 5 * 5 + i % 5 by omega]
  rcases (show i % 5 = 0 ∨ i % 5 = 1 ∨ i % 5 = 2 ∨ i % 5 = 3 ∨ i % 5 = 4 by omega) with e | e | e | e | e <;> rw [e] at hu ⊢ <;> simp [fiveOf] at hu <;> subst hu
  · exact h1
  · exact h2
  · exact h3
  · exact h4
  · exact h5
theorem five_one (V : Nat → RV) (n : Nat) : ∀ u ∈ five V n, u.oneCell' = true := by
  induction n with
  | zero => intro u hu; cases hu
  | succ n ih =>
    intro u hu
    rcases List.mem_append.1 hu with h | h
    · exact ih u h
    · simp [fiveOf] at h
      rcases h with rfl | rfl | rfl | rfl | rfl <;> rfl
theorem wpList_append_vals {w : World} {ops : Array Oper} {rest : List Oper} {o : Oper} {a : Act} {Q : Exit → Act → World → Prop} (hgd : o.guard = none) (s x : Operand)
    (ho : o.op = .call { callee := .builtin .append, args := #[s, x], argTypes := #[22, 22] })
    (base : Nat) (v : Value) (U : Nat → RV) (n : Nat) (hs : a.eval s = v) (hown : ownsV w base v U n) (A : Option Addr) (m c : Nat) (V : Nat → RV) (hx : a.eval x = .slice A m c) (hA : A = none → m = 0 ∧ c = 0) (hV : Vals w A m V)
    (hb : n + m ≤ 100000) (hbase : base ≤ w.heap.size)
    (h : ∀ A' c' w', ownsV w' base (.slice A' (n + m) c') (joinV U n V) (n + m) → Below base w w' → wpList Try.prog ops Q rest (a.put o.dst (.slice A' (n + m) c')) w') :
    wpList Try.prog ops Q (o :: rest) a w := by
  obtain ⟨i0, hi, hz0, hz1, hz2⟩ := info_parts Try.infoV
  cases A with
  | none =>
    obtain ⟨rfl, rfl⟩ := hA rfl
    refine wpList_append_own_none hgd s x 22 ho base 42 i0 5 Try.underlying22 hi v n _ hs hown hx ?_
    obtain ⟨A', c', rfl, h1, h2, h3⟩ := hown.form
    exact h A' c' w (by unfold ownsV; rw [five_join]; show w.ownsRow base _ 5 _ n (five U n ++ []); rw [List.append_nil]; exact hown) (Below.refl _ _)
  | some ad =>
    refine wpList_append_own _ hgd s x 22 ho base 42 i0 _ 5 72 Try.underlying22 hi hz0 hz1 hz2 rfl (by decide) v n _ hs hown ad m c (five V m) hx (five_len V m) (five_cells hV) (five_one V m) (by unfold maxLen; omega) (by omega) hbase ?_
    intro v' w' hown' hgrow _
    have ho2 : ownsV w' base v' (joinV U n V) (n + m) := by unfold ownsV; rw [five_join]; exact hown'
    obtain ⟨A', c', rfl, h1, h2, h3⟩ := ho2.form
    refine h A' c' w' ho2 ((Below.refl _ _).grown hgrow hbase (fun k e => ?_))
    rcases hown.2 with ⟨rfl, _⟩ | ⟨g, cap, cur, rfl, hbg, _⟩
    · cases e
    · cases e; exact hbg
end Go.Proofs.Ytkjndgnjilfobaa
