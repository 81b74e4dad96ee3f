/-
  The document's Copy: values in memory of their own.
-/
import Derived.Test.YtkjndgnjilfobaaOwnVals
import Derived.Deep.AppendLies
import Derived.Deep.RegionLaw
namespace Go.Proofs.Ytkjndgnjilfobaa
open Go.RowKit

theorem Try.infoL : (Try.prog.info? 39).map (fun i => (i.zero, i.size, i.bytes)) = some (some (.int .u64 0), 1, 8) := by kernel_rfl
/-- An append of numbers to nothing, at a step of a region that draws its order. -/
theorem step_append_longs {w : World} {ops : Array Oper} {o : Oper} {a : Act} {K : Act → World → Prop} {Q : Exit → Act → World → Prop} {E : Prop} (hgd : o.guard = none) (s x : Operand)
    (ho : o.op = .call { callee := .builtin .append, args := #[s, x], argTypes := #[40, 40] })
    (hs : a.eval s = .slice none 0 0) (A : Option Addr) (n c : Nat) (f : Nat → Nat) (hx : a.eval x = .slice A n c) (hA : A = none → n = 0 ∧ c = 0) (hN : Longs w A n f)
    (hb : n ≤ 4194304) (base : Nat) (hbase : base ≤ w.heap.size)
    (h : ∀ A' c' w', owns w' base 39 .u64 (.slice A' n c') (seg f 0 n) → n ≤ c' → c' ≤ 9223372036854775807 → Below w.heap.size w w' → K (a.put o.dst (.slice A' n c')) w') :
    if Region.wanted o (yielded ops a.tmps) = true then Oper.wp Try.prog o a w K Q else E := by
  have hw : Region.wanted o (yielded ops a.tmps) = true := by simp [Region.wanted, hgd]
  rw [if_pos hw]
  obtain ⟨i0, hi, hz0, hz1, hz2⟩ := info_parts Try.infoL
  cases A with
  | none =>
    obtain ⟨rfl, rfl⟩ := hA rfl
    have hown : w.ownsRow base 39 1 (.slice none 0 0) 0 [] := World.ownsRow_nil _ _ _ _
    have hrun := run_append_owned_none (P := Try.prog) (w := w) base 40 o.type 39 i0 1 Try.underlying40 hi (.slice none 0 0) 0 _ hown
    have := h none 0 w (World.ownsRow_nil _ _ _ _) (by omega) (by omega) (Below.refl _ _)
    unfold Oper.wp
    simp [execOp, ho, resolve, invoke, builtin, hs, hx, hrun, Result.andThen]
    exact this
  | some ad =>
    refine wp_append_own w s x 40 ho base 39 i0 (.int .u64 0) 1 8 Try.underlying40 hi hz0 hz1 hz2 rfl (by decide) (.slice none 0 0) 0 [] hs (World.ownsRow_nil _ _ _ _) ad n c ((seg f 0 n).map fun (x : Nat) => Value.int .u64 (x : Nat)) hx (by simp [seg_len]) (Nums.cells hN) (one_cells .u64 _) (by unfold maxLen; omega) (by omega) hbase ?_
    intro v' w' hown' hgrow _
    have ho2 : owns w' base 39 .u64 v' (seg f 0 n) := by unfold owns; simpa [seg_len] using hown'
    obtain ⟨A', c', rfl, h1, h2, h3⟩ := ho2.form
    rw [seg_len] at ho2 h1 ⊢
    unfold maxLen at h2
    exact h A' c' w' ho2 h1 (by omega) ((Below.refl _ _).grown hgrow (Nat.le_refl _) (fun k e => by cases e))
theorem owns.nums_n {w : World} {base e c n : Nat} {K : IntKind} {M : Nat} {A : Option Addr} {l : List Nat} (h : owns w base e K (.slice A n c) l) (hn : n = l.length) (hl : ∀ x ∈ l, x < M) : Nums K M w A n (pick l) ∧ (A = none → n = 0 ∧ c = 0) ∧ n ≤ c ∧ c ≤ 9223372036854775807 := by
  subst hn
  obtain ⟨A', c', hv, h1, h2, h3⟩ := h.form
  injection hv with v1 v2 v3
  subst v1 v3
  unfold maxLen at h2
  exact ⟨h.nums hl, h3, h1, by omega⟩
/-- an owned row of numbers where one block older than it was stored to -/
theorem owns.off {w w' : World} {base e B : Nat} {K : IntKind} {v : Value} {l : List Nat} (h : owns w base e K v l) (hB : B < base) (hk : ∀ k, k ≠ B → w'.heap[k]? = w.heap[k]?) : owns w' base e K v l := by
  refine ⟨h.1, ?_⟩
  rcases h.2 with hn | ⟨g, cap, cur, rfl, hbg, hg, rest⟩
  · exact .inl hn
  · exact .inr ⟨g, cap, cur, rfl, hbg, by rw [hk g (by omega)]; exact hg, rest⟩

/-- the place lies in the world, and not in the row's own block -/
def Apart (w : World) (v : Value) (A : Option Addr) : Prop := ∀ p, A = some p → p.block < w.heap.size ∧ some p.block ≠ v.ownBlock
theorem Apart.up {w w' : World} {v : Value} {A : Option Addr} (h : Apart w v A) (hs : w.heap.size ≤ w'.heap.size) : Apart w' v A := fun p e => ⟨Nat.lt_of_lt_of_le (h p e).1 hs, (h p e).2⟩
theorem Apart.next {w w' : World} {v v' : Value} {A : Option Addr} {g : Nat} (h : Apart w v A) (hs : w.heap.size ≤ w'.heap.size) (hv' : v'.ownBlock = some g) (hg : v.ownBlock = some g ∨ g = w.heap.size) : Apart w' v' A := fun p e => by
  obtain ⟨h1, h2⟩ := h p e
  refine ⟨Nat.lt_of_lt_of_le h1 hs, ?_⟩
  rw [hv']
  rcases hg with hg | hg
  · rwa [hg] at h2
  · intro e2
    injection e2 with e2
    omega
theorem Nums.far {K : IntKind} {M : Nat} {w w' : World} {A : Option Addr} {n : Nat} {f : Nat → Nat} {v : Value} (h : Nums K M w A n f) (hs : w.heap.size ≤ w'.heap.size) (ha : Apart w v A) (hg : w.grownBy w' v.ownBlock) : Nums K M w' A n f :=
  ⟨h.1, fun hn => by
    obtain ⟨b, off, rfl, hb, hc⟩ := h.2 hn
    refine ⟨b, off, rfl, by omega, fun i hi => ?_⟩
    rw [← hc i hi]
    exact hg.cell_far ⟨b, off + i, none⟩ hb (ha _ rfl).2⟩
theorem RV.ok.far {w w' : World} {X : RV} {v : Value} (h : X.ok w) (hs : w.heap.size ≤ w'.heap.size) (h1 : Apart w v X.bA) (h2 : Apart w v X.lA) (hg : w.grownBy w' v.ownBlock) : X.ok w' :=
  ⟨h.1, h.2.1, ⟨h.2.2.1.1.far hs h1 hg, h.2.2.1.2⟩, ⟨h.2.2.2.1.far hs h2 hg, h.2.2.2.2⟩⟩
theorem owns.apart {w w0 : World} {base e n c b0 m s : Nat} {K : IntKind} {v : Value} {A : Option Addr} {l : List Nat} {xs : List Value} {e2 : TypeId} (h : owns w base e K (.slice A n c) l) (ho : w0.ownsRow b0 e2 s v m xs) (hb : w0.heap.size ≤ base) : Apart w v A := fun p hp => by
  subst hp
  rcases h.2 with ⟨hv, _⟩ | ⟨g, cap, cur, hv, hbg, hg, _⟩
  · cases hv
  · injection hv with v1 v2 v3
    injection v1 with v1
    subst v1
    refine ⟨lt_of_block hg, ?_⟩
    rcases ho.2 with ⟨rfl, _⟩ | ⟨g', cap', cur', rfl, _, hg', _⟩
    · intro e; cases e
    · have := lt_of_block hg'
      intro e
      injection e with e
      simp at e
      omega
theorem wpList_append_vals1 {w : World} {ops : Array Oper} {rest : List Oper} {o : Oper} {a : Act} {Q : Exit → Act → World → Prop} (hgd : o.guard = none) (s x : Operand)
    (ho : o.op = .call { callee := .builtin .append, args := #[s, x], argTypes := #[22, 22] })
    (base : Nat) (v : Value) (U : Nat → RV) (n : Nat) (hs : a.eval s = v) (hown : ownsV w base v U n) (ad : Addr) (c : Nat) (X : RV) (hx : a.eval x = .slice (some ad) 1 c) (hV : Vals w (some ad) 1 (fun _ => X))
    (hb : n ≤ 100000) (hbase : base ≤ w.heap.size)
    (h : ∀ g cap w', ownsV w' base (.slice (some ⟨g, 0, none⟩) (n + 1) cap) (joinV U n (fun _ => X)) (n + 1) → w.grownBy w' v.ownBlock → (v.ownBlock = some g ∨ g = w.heap.size) → g < w'.heap.size → wpList Try.prog ops Q rest (a.put o.dst (.slice (some ⟨g, 0, none⟩) (n + 1) cap)) w') :
    wpList Try.prog ops Q (o :: rest) a w := by
  obtain ⟨i0, hi, hz0, hz1, hz2⟩ := info_parts Try.infoV
  refine wpList_append_lies _ hgd s x 22 ho base 42 i0 _ 5 72 Try.underlying22 hi hz0 hz1 hz2 rfl (by decide) v n _ hs hown ad 1 c (five (fun _ => X) 1) hx (five_len _ 1) (five_cells hV) (five_one _ 1) (by decide) (by unfold maxLen; omega) (by omega) hbase _ rfl ?_
  intro g cap w' h1 h2 h3 h4
  exact h g cap w' (by unfold ownsV; rw [five_join]; exact h1) h2 h3 h4

set_option maxRecDepth 100000 in
set_option maxHeartbeats 4000000 in
theorem refCopy4_any (A : Option Addr) (n c : Nat) (V : Nat → RV) (w : World) (h : ValsIn w A n c V) (hn : n ≤ 1000) (hs : ∀ j, j < n → (V j).bn ≤ 100000 ∧ (V j).ln ≤ 100000) :
    Calls Try.prog 11 #[.slice A n c] w fun e w' => ∃ A' c' V', e = .returned (.slice A' n c') ∧ ValsIn w' A' n c' V' ∧ means V' n = means V n ∧ Below w.heap.size w w' := by
  have H := Lib.hid h.1
  have HS := Lib.hid hs
  clear h hs
  go_enter Try.func11, Try.ntmps11
  go_wp2
  go_loopg [3, 4] n (fun g1 vo vi wr => ∃ (k : Nat) (V' : Nat → RV), vi = .int .i64 k ∧ k ≤ n ∧ n - k ≤ g1 ∧ Hid (ownsV wr w.heap.size vo V' k) ∧ Hid (∀ j, j < k → ((V' j).ok wr ∧ (V' j).mean = (V j).mean) ∧ Apart wr vo (V' j).bA ∧ Apart wr vo (V' j).lA) ∧ Hid (Below w.heap.size w wr))
  case atStart => exact ⟨0, fun _ => default, rfl, by omega, by omega, Lib.hid (World.ownsRow_nil _ _ _ _), Lib.hid (fun j hj => by omega), Lib.hid (Below.refl _ _)⟩
  case round =>
    rename World => W
    obtain ⟨k, V', rfl, hk, hg1, O, OK, B⟩ := hrel
    by_cases hlt : k < n
    · have hkz : (k : Int) < n := by omega
      have hk0 : (0 : Int) ≤ k := by omega
      have HB := Lib.hid (H.out.below B.out)
      obtain ⟨b, off, rfl, hb, hfive⟩ := H.out.at_ hlt
      have FA : Hid (∀ W', Below w.heap.size w W' → FiveAt W' b (off + k * 5) (V k)) := Lib.hid (fun W' hW => hfive.keep fun o => hW.cell (p := ⟨b, o, none⟩) hb)
      obtain ⟨h1, h2, h3, h4, h5⟩ := FA.out _ B.out
      have a4 : ∀ o : Obj, (W.alloc o).cell? ⟨b, off + k * 5 + 3, none⟩ = some (.slice (V k).bA (V k).bn (V k).bc) := fun o => (FA.out _ (B.out.alloc B.out.size o)).2.2.2.1
      have VK := Lib.hid (HB.out.1 k hlt)
      have SK := Lib.hid (HS.out k hlt)
      clear hfive
      have BX : Hid ((W.alloc (.cells #[.int .u64 ((V k).n : Nat), .int .i64 (V k).i, .bool (V k).f, .slice (V k).bA (V k).bn (V k).bc, .slice (V k).lA (V k).ln (V k).lc] 42)).heap[W.heap.size]? = some (.cells #[.int .u64 ((V k).n : Nat), .int .i64 (V k).i, .bool (V k).f, .slice (V k).bA (V k).bn (V k).bc, .slice (V k).lA (V k).ln (V k).lc] 42 (0, 0))) := Lib.hid (heap_alloc_new W _)
      have BA : Hid (Below w.heap.size w (W.alloc (.cells #[.int .u64 ((V k).n : Nat), .int .i64 (V k).i, .bool (V k).f, .slice (V k).bA (V k).bn (V k).bc, .slice (V k).lA (V k).ln (V k).lc] 42))) := Lib.hid (B.out.alloc B.out.size _)
      have OA := Lib.hid (O.out.keep ((Below.refl _ W).alloc (Nat.le_refl _) (.cells #[.int .u64 ((V k).n : Nat), .int .i64 (V k).i, .bool (V k).f, .slice (V k).bA (V k).bn (V k).bc, .slice (V k).lA (V k).ln (V k).lc] 42)))
      have VA := Lib.hid (VK.out.below ((Below.refl _ W).alloc (Nat.le_refl _) (.cells #[.int .u64 ((V k).n : Nat), .int .i64 (V k).i, .bool (V k).f, .slice (V k).bA (V k).bn (V k).bc, .slice (V k).lA (V k).ln (V k).lc] 42)))
      have bb1 : (V k).bn ≤ 1048576 := by have := SK.out.1; omega
      go_wp2_with fail
      refine (copy_any (V k).bA (V k).bn (V k).bc (V k).bf _ VA.out.2.2.1.1 bb1 VA.out.2.2.1.2.1).mono ?_
      rintro e w2 ⟨C, cC, rfl, q1, q2, q3, -, hO, hbel⟩
      have BX2 := Lib.hid ((hbel.block W.heap.size (by simp)).trans BX.out)
      have O2 : Hid (owns w2 (W.heap.size + 1) 5 .u8 (.slice C (seg (V k).bf 0 (V k).bn).length cC) (seg (V k).bf 0 (V k).bn)) := Lib.hid (by simpa using hO)
      have B2 : Hid (Below W.heap.size W w2) := Lib.hid (((Below.refl _ W).alloc (Nat.le_refl _) _).trans (hbel.mono (by simp)))
      have S2 : Hid (W.heap.size + 1 ≤ w2.heap.size) := Lib.hid (by have := hbel.size; simpa using this)
      have c3 : w2.cell? ⟨W.heap.size, 3, none⟩ = some (.slice (V k).bA (V k).bn (V k).bc) := by rw [cell_of_row w2 _ 3 _ _ _ BX2.out]; rfl
      have z3 : w2.frozen? ⟨W.heap.size, 3, none⟩ = false := by simp [World.frozen?, BX2.out]
      have c4 : w2.cell? ⟨W.heap.size, 4, none⟩ = some (.slice (V k).lA (V k).ln (V k).lc) := by rw [cell_of_row w2 _ 4 _ _ _ BX2.out]; rfl
      have z4 : w2.frozen? ⟨W.heap.size, 4, none⟩ = false := by simp [World.frozen?, BX2.out]
      clear hbel hO BX BA OA VA a4 h1 h2 h3 h4 h5
      go_wp2_with fail
      obtain ⟨w8, hw8⟩ : ∃ w8, w8 = (w2.setCell ⟨W.heap.size, 3, none⟩ (.slice C (seg (V k).bf 0 (V k).bn).length cC)).setCell ⟨W.heap.size, 4, none⟩ (.slice none 0 0) := ⟨_, rfl⟩
      rw [← hw8]
      have N8 : ∀ j, j ≠ W.heap.size → w8.heap[j]? = w2.heap[j]? := fun j hj => by rw [hw8, Below.heap_setCell _ _ _ _ hj, Below.heap_setCell _ _ _ _ hj]
      have O8 := Lib.hid (O2.out.off (Nat.lt_succ_self _) N8)
      have BX8 : Hid (w8.heap[W.heap.size]? = some (.cells #[.int .u64 ((V k).n : Nat), .int .i64 (V k).i, .bool (V k).f, .slice C (seg (V k).bf 0 (V k).bn).length cC, .slice none 0 0] 42 (0, 0))) := Lib.hid (by
        rw [hw8, setCell_eq_setRow _ _ _ _ _ _ _ BX2.out, setCell_eq_setRow _ _ _ _ _ _ _ (setRow_heap _ _ _ _ _ _ BX2.out), setRow_setRow, setRow_heap _ _ _ _ _ _ BX2.out]; rfl)
      have B8 : Hid (Below W.heap.size W w8) := Lib.hid (by rw [hw8]; exact (B2.out.setCell (Nat.le_refl _) _).setCell (Nat.le_refl _) _)
      have S8 : Hid (W.heap.size + 1 ≤ w8.heap.size) := Lib.hid (by have := S2.out; rw [hw8]; simpa using this)
      clear hw8 N8 O2 BX2 B2 S2 c3 z3 c4 z4 w2
      have c4 : w8.cell? ⟨W.heap.size, 4, none⟩ = some (.slice none 0 0) := by rw [cell_of_row w8 _ 4 _ _ _ BX8.out]; rfl
      have f4 := (FA.out w8 (B.out.trans (B8.out.mono B.out.size))).2.2.2.2
      have V8 := Lib.hid (VK.out.below B8.out)
      have ll1 : (V k).ln ≤ 4194304 := by have := SK.out.2; omega
      go_region_law (refine step_append_longs (by rfl) _ _ (by rfl) (by rfl) (V k).lA (V k).ln (V k).lc (V k).lf (by rfl) V8.out.2.2.2.2.1 V8.out.2.2.2.1 ll1 (W.heap.size + 1) S8.out ?_; intro L cL w9 hO9 l1 l2 hb9; have BX9 := Lib.hid ((hb9.block W.heap.size (by have := S8.out; simp; omega)).trans BX8.out); have c4' : w9.cell? ⟨W.heap.size, 4, none⟩ = some (.slice none 0 0) := (by rw [cell_of_row w9 _ 4 _ _ _ BX9.out]; rfl); have z4' : w9.frozen? ⟨W.heap.size, 4, none⟩ = false := (by simp [World.frozen?, BX9.out]))
      all_goals
        obtain ⟨w10, hw10⟩ : ∃ w10, w10 = w9.setCell ⟨W.heap.size, 4, none⟩ (.slice L (V k).ln cL) := ⟨_, rfl⟩
        rw [← hw10]
        have N10 : ∀ j, j ≠ W.heap.size → w10.heap[j]? = w9.heap[j]? := fun j hj => by rw [hw10, Below.heap_setCell _ _ _ _ hj]
        have OC : Hid (owns w10 (W.heap.size + 1) 5 .u8 (.slice C (seg (V k).bf 0 (V k).bn).length cC) (seg (V k).bf 0 (V k).bn)) := Lib.hid ((O8.out.keep ((Below.refl _ w8).drew.trans hb9)).off (Nat.lt_succ_self _) N10)
        have OL := Lib.hid (hO9.off (Nat.lt_succ_self _) N10)
        have BX10 : Hid (w10.heap[W.heap.size]? = some (.cells #[.int .u64 ((V k).n : Nat), .int .i64 (V k).i, .bool (V k).f, .slice C (seg (V k).bf 0 (V k).bn).length cC, .slice L (V k).ln cL] 42 (0, 0))) := Lib.hid (by
          rw [hw10, setCell_eq_setRow _ _ _ _ _ _ _ BX9.out, setRow_heap _ _ _ _ _ _ BX9.out]; rfl)
        have B10 : Hid (Below W.heap.size W w10) := Lib.hid (by rw [hw10]; exact (B8.out.drew.trans (hb9.mono (by have := S8.out; simp; omega))).setCell (Nat.le_refl _) _)
        have O10 := Lib.hid (O.out.keep B10.out)
        have BB : Hid (Below w.heap.size w w10) := Lib.hid (B.out.trans (B10.out.mono B.out.size))
        have OK10 : Hid (∀ j, j < k → ((V' j).ok w10 ∧ (V' j).mean = (V j).mean) ∧ Apart w10 u3 (V' j).bA ∧ Apart w10 u3 (V' j).lA) := Lib.hid (fun j hj => ⟨⟨(OK.out j hj).1.1.below B10.out, (OK.out j hj).1.2⟩, (OK.out j hj).2.1.up B10.out.size, (OK.out j hj).2.2.up B10.out.size⟩)
        clear hw10 N10 hO9 hb9 BX9 c4' z4' O8 BX8 B8 S8 c4 f4 V8 w9
        have c0 : w10.cell? ⟨W.heap.size, 0, none⟩ = some (.int .u64 ((V k).n : Nat)) := by rw [cell_of_row w10 _ 0 _ _ _ BX10.out]; rfl
        have c1 : w10.cell? ⟨W.heap.size, 1, none⟩ = some (.int .i64 (V k).i) := by rw [cell_of_row w10 _ 1 _ _ _ BX10.out]; rfl
        have c2 : w10.cell? ⟨W.heap.size, 2, none⟩ = some (.bool (V k).f) := by rw [cell_of_row w10 _ 2 _ _ _ BX10.out]; rfl
        have c3 : w10.cell? ⟨W.heap.size, 3, none⟩ = some (.slice C (seg (V k).bf 0 (V k).bn).length cC) := by rw [cell_of_row w10 _ 3 _ _ _ BX10.out]; rfl
        have c4 : w10.cell? ⟨W.heap.size, 4, none⟩ = some (.slice L (V k).ln cL) := by rw [cell_of_row w10 _ 4 _ _ _ BX10.out]; rfl
        obtain ⟨X, hX⟩ : ∃ X : RV, X = ⟨(V k).n, (V k).i, (V k).f, C, (seg (V k).bf 0 (V k).bn).length, cC, pick (seg (V k).bf 0 (V k).bn), L, (V k).ln, cL, pick (seg (V k).lf 0 (V k).ln)⟩ := ⟨_, rfl⟩
        have XO : Hid (X.ok w10) := Lib.hid (by
          have hb : ∀ x ∈ seg (V k).bf 0 (V k).bn, x < 256 := fun x hx => by obtain ⟨i, hi, rfl⟩ := seg_mem hx; rw [Nat.zero_add]; exact VK.out.2.2.1.1.bd hi
          have hl : ∀ x ∈ seg (V k).lf 0 (V k).ln, x < 18446744073709551616 := fun x hx => by obtain ⟨i, hi, rfl⟩ := seg_mem hx; rw [Nat.zero_add]; exact VK.out.2.2.2.1.bd hi
          obtain ⟨p1, p2, p3, p4⟩ := OC.out.nums_n rfl hb
          obtain ⟨r1, r2, r3, r4⟩ := OL.out.nums_n (seg_len _ _ _).symm hl
          rw [hX]
          exact ⟨VK.out.1, VK.out.2.1, ⟨p1, p2, by show (seg (V k).bf 0 (V k).bn).length ≤ _; rw [seg_len]; omega, p3, p4⟩, ⟨r1, r2, by show (V k).ln ≤ _; omega, r3, r4⟩⟩)
        have XM : Hid (X.mean = (V k).mean) := Lib.hid (by
          rw [hX]
          unfold RV.mean
          have e := pick_seg (seg (V k).lf 0 (V k).ln)
          rw [seg_len] at e
          simp only [pick_seg, e])
        have LL : Hid ((seg (V k).bf 0 (V k).bn).length = X.bn ∧ (V k).ln = X.ln) := Lib.hid (by rw [hX]; exact ⟨rfl, rfl⟩)
        have VX : Hid (Vals (w10.alloc (.cells #[.int .u64 ((V k).n : Nat), .int .i64 (V k).i, .bool (V k).f, .slice C (seg (V k).bf 0 (V k).bn).length cC, .slice L (V k).ln cL] 42)) (some ⟨w10.heap.size, 0, none⟩) 1 (fun _ => X)) := Lib.hid (by
          refine ⟨fun j hj => XO.out.below ((Below.refl _ w10).alloc (Nat.le_refl _) _), fun _ => ⟨_, _, rfl, by simp, fun j hj => ?_⟩⟩
          obtain rfl : j = 0 := by omega
          have hn := heap_alloc_new w10 (.cells #[.int .u64 ((V k).n : Nat), .int .i64 (V k).i, .bool (V k).f, .slice C (seg (V k).bf 0 (V k).bn).length cC, .slice L (V k).ln cL] 42)
          rw [hX]
          refine ⟨?_, ?_, ?_, ?_, ?_⟩ <;> rw [cell_of_row _ _ _ _ _ _ hn] <;> rfl)
        have OA := Lib.hid (O10.out.keep ((Below.refl _ w10).alloc (Nat.le_refl _) (.cells #[.int .u64 ((V k).n : Nat), .int .i64 (V k).i, .bool (V k).f, .slice C (seg (V k).bf 0 (V k).bn).length cC, .slice L (V k).ln cL] 42)))
        have SA : Hid (∀ o : Obj, w.heap.size ≤ (w10.alloc o).heap.size) := Lib.hid (fun o => by have := BB.out.size; simp; omega)
        have AX : Hid (Apart w10 u3 X.bA ∧ Apart w10 u3 X.lA) := Lib.hid (by rw [hX]; exact ⟨OC.out.apart O.out (by omega), OL.out.apart O.out (by omega)⟩)
        clear hX
        go_wp2_with (refine wpList_append_vals1 (o := ⟨some 36, _, _, _, _, _⟩) rfl _ _ rfl w.heap.size u3 V' k rfl OA.out _ 1 X rfl VX.out (by omega) (SA.out _) ?_)
        intro g7 c7 w11 hO11 hgrow hat hlt7
        have S11 := hgrow.size
        have O11 := Lib.hid hO11
        have OK11 : Hid (∀ j, j < k + 1 → ((joinV V' k (fun _ => X) j).ok w11 ∧ (joinV V' k (fun _ => X) j).mean = (V j).mean) ∧ Apart w11 (.slice (some ⟨g7, 0, none⟩) (k + 1) c7) (joinV V' k (fun _ => X) j).bA ∧ Apart w11 (.slice (some ⟨g7, 0, none⟩) (k + 1) c7) (joinV V' k (fun _ => X) j).lA) := Lib.hid (fun j hj => by
          unfold joinV
          split
          · rename_i hjk
            obtain ⟨⟨p1, p2⟩, p3, p4⟩ := OK10.out j hjk
            have p1 := p1.below ((Below.refl _ w10).alloc (Nat.le_refl _) (.cells #[.int .u64 ((V k).n : Nat), .int .i64 (V k).i, .bool (V k).f, .slice C (seg (V k).bf 0 (V k).bn).length cC, .slice L (V k).ln cL] 42))
            have q3 := p3.up (w' := w10.alloc (.cells #[.int .u64 ((V k).n : Nat), .int .i64 (V k).i, .bool (V k).f, .slice C (seg (V k).bf 0 (V k).bn).length cC, .slice L (V k).ln cL] 42)) (by simp)
            have q4 := p4.up (w' := w10.alloc (.cells #[.int .u64 ((V k).n : Nat), .int .i64 (V k).i, .bool (V k).f, .slice C (seg (V k).bf 0 (V k).bn).length cC, .slice L (V k).ln cL] 42)) (by simp)
            exact ⟨⟨p1.far S11 q3 q4 hgrow, p2⟩, q3.next S11 rfl (by simpa using hat), q4.next S11 rfl (by simpa using hat)⟩
          · obtain rfl : j = k := by omega
            have p1 := XO.out.below ((Below.refl _ w10).alloc (Nat.le_refl _) (.cells #[.int .u64 ((V j).n : Nat), .int .i64 (V j).i, .bool (V j).f, .slice C (seg (V j).bf 0 (V j).bn).length cC, .slice L (V j).ln cL] 42))
            have q3 := AX.out.1.up (w' := w10.alloc (.cells #[.int .u64 ((V j).n : Nat), .int .i64 (V j).i, .bool (V j).f, .slice C (seg (V j).bf 0 (V j).bn).length cC, .slice L (V j).ln cL] 42)) (by simp)
            have q4 := AX.out.2.up (w' := w10.alloc (.cells #[.int .u64 ((V j).n : Nat), .int .i64 (V j).i, .bool (V j).f, .slice C (seg (V j).bf 0 (V j).bn).length cC, .slice L (V j).ln cL] 42)) (by simp)
            exact ⟨⟨p1.far S11 q3 q4 hgrow, XM.out⟩, q3.next S11 rfl (by simpa using hat), q4.next S11 rfl (by simpa using hat)⟩)
        have B11 : Hid (Below w.heap.size w w11) := Lib.hid ((BB.out.alloc BB.out.size _).grown hgrow (SA.out _) (fun j e => by
          rcases O.out.2 with ⟨rfl, _⟩ | ⟨g, cap, cur, rfl, hbg, _⟩
          · cases e
          · cases e; exact hbg))
        clear hO11 hgrow hat hlt7 S11 OA SA VX LL XM XO AX OK10 O10 BB B10 BX10 OL OC c0 c1 c2 c3 c4 OK O B
        go_wp2_with fail
        go_roundg (n - (k + 1))
        case measure => omega
        case rel => exact ⟨k + 1, joinV V' k (fun _ => X), by go_num, by omega, Nat.le_refl _, O11, OK11, B11⟩
    · obtain rfl : k = n := by omega
      go_wp2_with fail
      go_ret
      obtain ⟨A', c', hv, h1, h2, h3⟩ := O.out.form
      subst hv
      exact ⟨A', c', V', rfl, ⟨O.out.vals fun j hj => (OK.out j hj).1.1, h3, ⟨h1, h2⟩, by omega⟩, List.map_congr_left fun j hj => (OK.out j (List.mem_range.1 hj)).1.2, B.out⟩
end Go.Proofs.Ytkjndgnjilfobaa
