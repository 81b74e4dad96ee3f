/-
  Slices of a row of nodes, appended to a row of the call's own; where the law TreeLess' walk stands.
-/
import Derived.Test.YtlkcmfohmkblfaaTreeNested
import Derived.Test.YtlkcmfohmkblfaaLessMath
import Derived.Test.YtlkcmfohmkblfaaNodeVar
import Derived.Deep.AppendLies
import Derived.Deep.RegionLaw
import Derived.StillTailTactics
namespace Go.Proofs.Ytlkcmfohmkblfaa
open Go.RowKit Go.WideShapes

theorem nodes_to (A : Option Addr) (n c k : Nat) (hk : k ≤ c) (W : World) : (Instr.slice 22 (.slice A n c) none (some (.int .i64 (k : Nat))) none).run Try.prog W = .ok (.slice A k c) W := by
  have hsz : ∀ W : World, (sizeOf (Try.prog.elem 22)).run Try.prog W = .ok 51 W := fun W => by kernel_rfl
  rw [run_slice_h W 22 A n c (by kernel_rfl) .i64 (k : Nat) (by omega) (by omega), hsz]
  have e : A.map (·.add 0) = A := by
    cases A with
    | none => rfl
    | some a => simp [Addr.add]
  simp [Result.andThen, sliced, e]
theorem nodes_from (b off n c k : Nat) (hk : k ≤ n) (hn : n ≤ c) :
    ∃ ad, (∀ W : World, (Instr.slice 22 (.slice (some ⟨b, off, none⟩) n c) (some (.int .i64 (k : Nat))) none none).run Try.prog W = .ok (.slice (some ad) (n - k) (c - k)) W) ∧
      ∀ (W : World) (N : Nat → RN), Nodes W (some ⟨b, off, none⟩) n N → Nodes W (some ad) (n - k) (fun i => N (k + i)) := by
  refine ⟨if c = k then ⟨b, off, none⟩ else ⟨b, off + k * 51, none⟩, fun W => ?_, fun W N h => ?_⟩
  · have hsz : ∀ W : World, (sizeOf (Try.prog.elem 22)).run Try.prog W = .ok 51 W := fun W => by kernel_rfl
    rw [run_slice_l W 22 (some ⟨b, off, none⟩) n c (by kernel_rfl) .i64 (k : Nat) (by omega) (by omega), hsz]
    by_cases hc : c = k <;> simp [Result.andThen, sliced, hc, add_plain]
  · by_cases h0 : n - k = 0
    · rw [h0]; exact Nodes.zero _ _ _
    · rw [if_neg (by omega)]
      refine ⟨fun j hj => h.1 (k + j) (by omega), fun _ => ?_⟩
      obtain ⟨b', off', e, hb, hc⟩ := h.2 (by omega)
      cases e
      refine ⟨b, off + k * 51, rfl, hb, fun j hj => ?_⟩
      have := hc (k + j) (by omega)
      rwa [show off + (k + j) * 51 = off + k * 51 + j * 51 by omega] at this

theorem wp_append_nodes {w : World} {o : Oper} {a : Act} {K : Act → World → Prop} {Q : Exit → Act → World → Prop} (s x : Operand)
    (ho : o.op = .call { callee := .builtin .append, args := #[s, x], argTypes := #[22, 22] })
    (base : Nat) (v : Value) (n : Nat) (xs : List Value) (hs : a.eval s = v) (hown : w.ownsRow base 36 51 v n xs) (ad : Addr) (m c : Nat) (M : Nat → RN) (hx : a.eval x = .slice (some ad) m c) (hN : Nodes w (some ad) m M)
    (k : Nat) (hk : n + m = k) (h0 : 0 < k) (hb : k ≤ 600) (hbase : base ≤ w.heap.size)
    (h : ∀ g cap w', w'.ownsRow base 36 51 (.slice (some ⟨g, 0, none⟩) k cap) k (xs ++ rowCells M m) → Below base w w' → K (a.put o.dst (.slice (some ⟨g, 0, none⟩) k cap)) w') :
    Oper.wp Try.prog o a w K Q := by
  subst hk
  obtain ⟨ie, hie, hsz, hz, hby⟩ := node_info
  have hsrc : ∀ j u, (rowCells M m)[j]? = some u → w.cell? (ad.add j) = some u := fun j u hu => by
    rcases Nat.eq_zero_or_pos m with h1 | h1
    · subst h1; simp [rowCells] at hu
    · obtain ⟨a', e, hc⟩ := rowCells_src hN h1
      cases e
      exact hc j u hu
  have hzs : (box 0 0).val.cells.size = 51 := by kernel_rfl
  refine wp_append_own w s x 22 ho base 36 ie _ 51 360 Try.underlying22 hie hz hsz hby hzs (by decide) v n xs hs hown ad m c (rowCells M m) hx (rowCells_len hN.1) hsrc (rowCells_one M m) (by unfold maxLen; omega) (by omega) hbase ?_
  intro v' w' hown' hgrow _
  obtain ⟨g, cap, rfl, _, _⟩ := World.ownsRow.form hown' h0
  exact h g cap w' hown' ((Below.refl _ _).grown hgrow hbase (fun k e => (hown.lt k e).1))

theorem step_append_nodes {w : World} {ops : Array Oper} {o : Oper} {a : Act} {K : Act → World → Prop} {Q : Exit → Act → World → Prop} {E : Prop} (hgd : o.guard = none) (s x : Operand)
    (ho : o.op = .call { callee := .builtin .append, args := #[s, x], argTypes := #[22, 22] })
    (base : Nat) (v : Value) (n : Nat) (xs : List Value) (hs : a.eval s = v) (hown : w.ownsRow base 36 51 v n xs) (ad : Addr) (m c : Nat) (M : Nat → RN) (hx : a.eval x = .slice (some ad) m c) (hN : Nodes w (some ad) m M)
    (k : Nat) (hk : n + m = k) (h0 : 0 < k) (hb : k ≤ 600) (hbase : base ≤ w.heap.size)
    (h : ∀ g cap w', w'.ownsRow base 36 51 (.slice (some ⟨g, 0, none⟩) k cap) k (xs ++ rowCells M m) → Below base w w' → K (a.put o.dst (.slice (some ⟨g, 0, none⟩) k cap)) w') :
    if Region.wanted o (yielded ops a.tmps) = true then Oper.wp Try.prog o a w K Q else E := by
  have hw : Region.wanted o (yielded ops a.tmps) = true := by simp [Region.wanted, hgd]
  rw [if_pos hw]
  exact wp_append_nodes s x ho base v n xs hs hown ad m c M hx hN k hk h0 hb hbase h
theorem wpList_append_nodes {w : World} {ops : Array Oper} {rest : List Oper} {o : Oper} {a : Act} {Q : Exit → Act → World → Prop} (hgd : o.guard = none) (s x : Operand)
    (ho : o.op = .call { callee := .builtin .append, args := #[s, x], argTypes := #[22, 22] })
    (base : Nat) (v : Value) (n : Nat) (xs : List Value) (hs : a.eval s = v) (hown : w.ownsRow base 36 51 v n xs) (ad : Addr) (m c : Nat) (M : Nat → RN) (hx : a.eval x = .slice (some ad) m c) (hN : Nodes w (some ad) m M)
    (k : Nat) (hk : n + m = k) (h0 : 0 < k) (hb : k ≤ 600) (hbase : base ≤ w.heap.size)
    (h : ∀ g cap w', w'.ownsRow base 36 51 (.slice (some ⟨g, 0, none⟩) k cap) k (xs ++ rowCells M m) → Below base w w' → wpList Try.prog ops Q rest (a.put o.dst (.slice (some ⟨g, 0, none⟩) k cap)) w') :
    wpList Try.prog ops Q (o :: rest) a w :=
  wpList_plain hgd fun _ hK => wp_append_nodes s x ho base v n xs hs hown ad m c M hx hN k hk h0 hb hbase fun g cap w' h2 h3 => hK _ _ (h g cap w' h2 h3)

theorem own_below {w w' : World} {B : Nat} {e : TypeId} {size n : Nat} {v : Value} {xs : List Value} (h : w.ownsRow B e size v n xs) (hb : Below w.heap.size w w') : w'.ownsRow B e size v n xs := by
  refine ⟨h.1, ?_⟩
  rcases h.2 with hn | ⟨g, cap, cur, rfl, hg, hgg, rest⟩
  · exact .inl hn
  · exact .inr ⟨g, cap, cur, rfl, hg, by rw [hb.block g (Array.getElem?_eq_some_iff.1 hgg).1]; exact hgg, rest⟩

/-- 'less' in its block; all older blocks as they were -/
structure Cut (v3 W : World) (v : Value) (x : Int) : Prop where
  below : Below v3.heap.size v3 W
  box : DocBox W v3.heap.size v (.int .i64 x)
theorem Cut.size {v3 W : World} {v : Value} {x : Int} (h : Cut v3 W v x) : v3.heap.size + 1 ≤ W.heap.size := h.box.lt
theorem cut_start (v3 : World) (v : Value) (x : Int) : Cut v3 (v3.alloc (.cells #[v, .int .i64 x] 24)) v x := ⟨(Below.refl _ _).alloc (Nat.le_refl _) _, World.alloc_heap_new _ _⟩
theorem Cut.app {v3 W W' : World} {v : Value} {x : Int} (h : Cut v3 W v x) (hb : Below (v3.heap.size + 1) W W') : Cut v3 W' v x :=
  ⟨h.below.trans (hb.mono (by omega)), h.box.keep (hb.block _ (by omega))⟩
theorem Cut.next {v3 W W' : World} {v : Value} {x : Int} (h : Cut v3 W v x) (hb : Below W.heap.size W W') : Cut v3 W' v x := h.app (hb.mono h.size)
theorem Cut.put {v3 W : World} {v : Value} {x : Int} (h : Cut v3 W v x) (u : Value) : Cut v3 (W.setCell ⟨v3.heap.size, 0, none⟩ u) u x := by
  refine ⟨h.below.setCell (Nat.le_refl _) u, ?_⟩
  have := h.box
  unfold DocBox at *
  simp [World.setCell, Array.getElem?_modify, this]
theorem Cut.drew {v3 W : World} {v : Value} {x : Int} (h : Cut v3 W v x) : Cut v3 W.drew v x := h.next (Below.refl _ _).drew
/-- what a drawn region's steps want -/
theorem cut_S {v3 W w : World} {v : Value} {x : Int} {H : Nat} {A : Option Addr} {n c : Nat} {N : Nat → RN} (h : Cut v3 W v x) (h1 : One H H A n c x N w v3) :
    One H H A n c x N w W ∧ W.cell? ⟨H, 0, none⟩ = some (.slice A n c) ∧ W.cell? ⟨H, 1, none⟩ = some (.int .i64 x) ∧ W.frozen? ⟨v3.heap.size, 0, none⟩ = false :=
  ⟨h1.next h.below, (h1.next h.below).x0, (h1.next h.below).x1, h.box.f0⟩
/-- the row that was made, as a document -/
theorem cut_doc {W : World} {base g n m cap : Nat} {x : Int} {N M : Nat → RN} (h : W.ownsRow base 36 51 (.slice (some ⟨g, 0, none⟩) (n + m) cap) (n + m) (rowCells N n ++ rowCells M m)) (hx : -9223372036854775808 ≤ x ∧ x ≤ 9223372036854775807)
    (hN : ∀ j, j < n → (N j).ok) (hM : ∀ j, j < m → (M j).ok) (hb : n + m ≤ 600) : DocIn W (some ⟨g, 0, none⟩) (n + m) cap x (joinN N n M) := by
  rw [← rowCells_join] at h
  have ok : ∀ j, j < n + m → (joinN N n M j).ok := fun j hj => by
    rcases Nat.lt_or_ge j n with h1 | h1
    · rw [joinN_lo h1]; exact hN j h1
    · rw [joinN_hi h1]; exact hM _ (by omega)
  rcases h.2 with ⟨h1, _⟩ | ⟨g', cap', cur, h1, _, h2, h3, h4, h5, h6⟩
  · cases h1
  · injection h1 with e1 e2 e3
    simp only [Option.some.injEq, Addr.mk.injEq, and_true] at e1
    subst e1 e3
    refine ⟨⟨nodes_of_row h2 ok fun i hi => ?_, (fun e => by cases e), ⟨h3, by unfold maxLen at h4; omega⟩, by omega⟩, hx⟩
    rw [← h6, List.getElem?_take, if_pos hi]
    simp

/-- 'less' made; the document's own cells -/
structure Lying (v3 w W : World) (A : Option Addr) (n c : Nat) (x : Int) (N : Nat → RN) (g k cap : Nat) (C : Nat → RN) : Prop where
  one : One w.heap.size w.heap.size A n c x N w W
  box : DocBox W v3.heap.size (.slice (some ⟨g, 0, none⟩) k cap) (.int .i64 x)
  doc : DocIn W (some ⟨g, 0, none⟩) k cap x C
theorem Lying.next {v3 w W W' : World} {A : Option Addr} {n c : Nat} {x : Int} {N : Nat → RN} {g k cap : Nat} {C : Nat → RN} (h : Lying v3 w W A n c x N g k cap C) (hb : Below W.heap.size W W') : Lying v3 w W' A n c x N g k cap C :=
  ⟨h.one.next hb, h.box.keep (hb.block _ h.box.lt), h.doc.below hb⟩
end Go.Proofs.Ytlkcmfohmkblfaa
