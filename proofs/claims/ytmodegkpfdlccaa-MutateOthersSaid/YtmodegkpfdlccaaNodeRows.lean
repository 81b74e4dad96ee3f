/-
  Slices of a row of nodes; rows of nodes put one behind the other: slices.Grow of nothing, slices.Concat.
-/
import Derived.Test.YtmodegkpfdlccaaTreeOK
import Derived.Test.YtmodegkpfdlccaaNodeVar
import Derived.Deep.AppendLies
import Derived.Deep.RegionLaw
import Derived.StillTailTactics
import Derived.Lib.AppendZeros
import Derived.LoopTactic
import Derived.Deep.LoopGhost
namespace Go.Proofs.Ytmodegkpfdlccaa
open Go.RowKit Go.WideShapes

theorem nodes_to (A : Option Addr) (n c k : Nat) (hk : k ≤ c) (W : World) : (Instr.slice 22 (.slice A n c) none (some (.int .i64 (k : Nat))) none).run Try.prog W = .ok (.slice A k c) W := by
  have hsz : ∀ W : World, (sizeOf (Try.prog.elem 22)).run Try.prog W = .ok 51 W := fun W => by kernel_rfl
  rw [run_slice_h W 22 A n c (by kernel_rfl) .i64 (k : Nat) (by omega) (by omega), hsz]
  have e : A.map (·.add 0) = A := by
    cases A with
    | none => rfl
    | some a => simp [Addr.add]
  simp [Result.andThen, sliced, e]
theorem nodes_from (b off n c k : Nat) (hk : k ≤ n) (hn : n ≤ c) :
    ∃ ad, (∀ W : World, (Instr.slice 22 (.slice (some ⟨b, off, none⟩) n c) (some (.int .i64 (k : Nat))) none none).run Try.prog W = .ok (.slice (some ad) (n - k) (c - k)) W) ∧
      ∀ (W : World) (N : Nat → RN), Nodes W (some ⟨b, off, none⟩) n N → Nodes W (some ad) (n - k) (fun i => N (k + i)) := by
  refine ⟨if c = k then ⟨b, off, none⟩ else ⟨b, off + k * 51, none⟩, fun W => ?_, fun W N h => ?_⟩
  · have hsz : ∀ W : World, (sizeOf (Try.prog.elem 22)).run Try.prog W = .ok 51 W := fun W => by kernel_rfl
    rw [run_slice_l W 22 (some ⟨b, off, none⟩) n c (by kernel_rfl) .i64 (k : Nat) (by omega) (by omega), hsz]
    by_cases hc : c = k <;> simp [Result.andThen, sliced, hc, add_plain]
  · by_cases h0 : n - k = 0
    · rw [h0]; exact Nodes.zero _ _ _
    · rw [if_neg (by omega)]
      refine ⟨fun j hj => h.1 (k + j) (by omega), fun _ => ?_⟩
      obtain ⟨b', off', e, hb, hc⟩ := h.2 (by omega)
      cases e
      refine ⟨b, off + k * 51, rfl, hb, fun j hj => ?_⟩
      have := hc (k + j) (by omega)
      rwa [show off + (k + j) * 51 = off + k * 51 + j * 51 by omega] at this

theorem wp_append_nodes {w : World} {o : Oper} {a : Act} {K : Act → World → Prop} {Q : Exit → Act → World → Prop} (s x : Operand)
    (ho : o.op = .call { callee := .builtin .append, args := #[s, x], argTypes := #[22, 22] })
    (base : Nat) (v : Value) (n : Nat) (xs : List Value) (hs : a.eval s = v) (hown : w.ownsRow base 32 51 v n xs) (ad : Addr) (m c : Nat) (M : Nat → RN) (hx : a.eval x = .slice (some ad) m c) (hN : Nodes w (some ad) m M)
    (k : Nat) (hk : n + m = k) (h0 : 0 < k) (hb : k ≤ 600) (hbase : base ≤ w.heap.size)
    (h : ∀ g cap w', w'.ownsRow base 32 51 (.slice (some ⟨g, 0, none⟩) k cap) k (xs ++ rowCells M m) → Below base w w' → K (a.put o.dst (.slice (some ⟨g, 0, none⟩) k cap)) w') :
    Oper.wp Try.prog o a w K Q := by
  subst hk
  obtain ⟨ie, hie, hsz, hz, hby⟩ := node_info
  have hsrc : ∀ j u, (rowCells M m)[j]? = some u → w.cell? (ad.add j) = some u := fun j u hu => by
    rcases Nat.eq_zero_or_pos m with h1 | h1
    · subst h1; simp [rowCells] at hu
    · obtain ⟨a', e, hc⟩ := rowCells_src hN h1
      cases e
      exact hc j u hu
  have hzs : (box 0 0).val.cells.size = 51 := by kernel_rfl
  refine wp_append_own w s x 22 ho base 32 ie _ 51 360 Try.underlying22 hie hz hsz hby hzs (by decide) v n xs hs hown ad m c (rowCells M m) hx (rowCells_len hN.1) hsrc (rowCells_one M m) (by unfold maxLen; omega) (by omega) hbase ?_
  intro v' w' hown' hgrow _
  obtain ⟨g, cap, rfl, _, _⟩ := World.ownsRow.form hown' h0
  exact h g cap w' hown' ((Below.refl _ _).grown hgrow hbase (fun k e => (hown.lt k e).1))

theorem step_append_nodes {w : World} {ops : Array Oper} {o : Oper} {a : Act} {K : Act → World → Prop} {Q : Exit → Act → World → Prop} {E : Prop} (hgd : o.guard = none) (s x : Operand)
    (ho : o.op = .call { callee := .builtin .append, args := #[s, x], argTypes := #[22, 22] })
    (base : Nat) (v : Value) (n : Nat) (xs : List Value) (hs : a.eval s = v) (hown : w.ownsRow base 32 51 v n xs) (ad : Addr) (m c : Nat) (M : Nat → RN) (hx : a.eval x = .slice (some ad) m c) (hN : Nodes w (some ad) m M)
    (k : Nat) (hk : n + m = k) (h0 : 0 < k) (hb : k ≤ 600) (hbase : base ≤ w.heap.size)
    (h : ∀ g cap w', w'.ownsRow base 32 51 (.slice (some ⟨g, 0, none⟩) k cap) k (xs ++ rowCells M m) → Below base w w' → K (a.put o.dst (.slice (some ⟨g, 0, none⟩) k cap)) w') :
    if Region.wanted o (yielded ops a.tmps) = true then Oper.wp Try.prog o a w K Q else E := by
  have hw : Region.wanted o (yielded ops a.tmps) = true := by simp [Region.wanted, hgd]
  rw [if_pos hw]
  exact wp_append_nodes s x ho base v n xs hs hown ad m c M hx hN k hk h0 hb hbase h
theorem wpList_append_nodes {w : World} {ops : Array Oper} {rest : List Oper} {o : Oper} {a : Act} {Q : Exit → Act → World → Prop} (hgd : o.guard = none) (s x : Operand)
    (ho : o.op = .call { callee := .builtin .append, args := #[s, x], argTypes := #[22, 22] })
    (base : Nat) (v : Value) (n : Nat) (xs : List Value) (hs : a.eval s = v) (hown : w.ownsRow base 32 51 v n xs) (ad : Addr) (m c : Nat) (M : Nat → RN) (hx : a.eval x = .slice (some ad) m c) (hN : Nodes w (some ad) m M)
    (k : Nat) (hk : n + m = k) (h0 : 0 < k) (hb : k ≤ 600) (hbase : base ≤ w.heap.size)
    (h : ∀ g cap w', w'.ownsRow base 32 51 (.slice (some ⟨g, 0, none⟩) k cap) k (xs ++ rowCells M m) → Below base w w' → wpList Try.prog ops Q rest (a.put o.dst (.slice (some ⟨g, 0, none⟩) k cap)) w') :
    wpList Try.prog ops Q (o :: rest) a w :=
  wpList_plain hgd fun _ hK => wp_append_nodes s x ho base v n xs hs hown ad m c M hx hN k hk h0 hb hbase fun g cap w' h2 h3 => hK _ _ (h g cap w' h2 h3)

theorem own_below {w w' : World} {B : Nat} {e : TypeId} {size n : Nat} {v : Value} {xs : List Value} (h : w.ownsRow B e size v n xs) (hb : Below w.heap.size w w') : w'.ownsRow B e size v n xs := by
  refine ⟨h.1, ?_⟩
  rcases h.2 with hn | ⟨g, cap, cur, rfl, hg, hgg, rest⟩
  · exact .inl hn
  · exact .inr ⟨g, cap, cur, rfl, hg, by rw [hb.block g (Array.getElem?_eq_some_iff.1 hgg).1]; exact hgg, rest⟩

theorem nodes_mid (b off n c k e : Nat) (hk : k < e) (he : e ≤ n) (hn : n ≤ c) :
    ∃ ad, (∀ W : World, (Instr.slice 22 (.slice (some ⟨b, off, none⟩) n c) (some (.int .i64 (k : Nat))) (some (.int .i64 (e : Nat))) none).run Try.prog W = .ok (.slice (some ad) (e - k) (c - k)) W) ∧
      ∀ (W : World) (N : Nat → RN), Nodes W (some ⟨b, off, none⟩) n N → Nodes W (some ad) (e - k) (fun i => N (k + i)) := by
  refine ⟨⟨b, off + k * 51, none⟩, fun W => ?_, fun W N h => ?_⟩
  · have hsz : ∀ W : World, (sizeOf (Try.prog.elem 22)).run Try.prog W = .ok 51 W := fun W => by kernel_rfl
    have hck : ¬ c = k := by omega
    rw [run_slice_lh W 22 (some ⟨b, off, none⟩) n c (by kernel_rfl) .i64 .i64 (k : Nat) (e : Nat) (by omega) (by omega) (by omega), hsz]
    simp [Result.andThen, sliced, hck, add_plain]
  · refine ⟨fun j hj => h.1 (k + j) (by omega), fun _ => ?_⟩
    obtain ⟨b', off', e', hb, hc⟩ := h.2 (by omega)
    cases e'
    refine ⟨b, off + k * 51, rfl, hb, fun j hj => ?_⟩
    have := hc (k + j) (by omega)
    rwa [show off + (k + j) * 51 = off + k * 51 + j * 51 by omega] at this

theorem rowCells_same {N M : Nat → RN} : ∀ {n : Nat}, (∀ j, j < n → N j = M j) → rowCells N n = rowCells M n
  | 0, _ => rfl
  | n + 1, h => by rw [rowCells, rowCells, rowCells_same fun j hj => h j (by omega), h n (by omega)]
theorem rowCells_add (N : Nat → RN) (a : Nat) : ∀ b, rowCells N (a + b) = rowCells N a ++ rowCells (fun i => N (a + i)) b
  | 0 => by rw [Nat.add_zero, show rowCells (fun i => N (a + i)) 0 = [] from rfl, List.append_nil]
  | b + 1 => by rw [← Nat.add_assoc, rowCells, rowCells_add N a b, rowCells, List.append_assoc]

/-- a row of a call's own that holds these nodes, as nodes -/
theorem nodes_of_own {W : World} {base g k cap : Nat} {M : Nat → RN} (h : W.ownsRow base 32 51 (.slice (some ⟨g, 0, none⟩) k cap) k (rowCells M k)) (hM : ∀ j, j < k → (M j).ok) (hb : k ≤ 600) :
    NodesIn W (some ⟨g, 0, none⟩) k cap M ∧ base ≤ g ∧ ∃ cs, W.heap[g]? = some (.cells cs 32 (0, 0)) := by
  rcases h.2 with ⟨h1, _⟩ | ⟨g', cap', cur, h1, h0, h2, h3, h4, h5, h6⟩
  · cases h1
  · injection h1 with e1 e2 e3
    simp only [Option.some.injEq, Addr.mk.injEq, and_true] at e1
    subst e1 e3
    refine ⟨⟨nodes_of_row h2 hM fun i hi => ?_, (fun e => by cases e), ⟨h3, by unfold maxLen at h4; omega⟩, by omega⟩, h0, _, h2⟩
    rw [← h6, List.getElem?_take, if_pos hi]
    simp

/-- a slice of nodes that is to be put behind others -/
structure NP where
  ad : Addr
  n : Nat
  c : Nat
  N : Nat → RN
/-- a row of slices of nodes -/
def NPs (w : World) (A : Option Addr) (m : Nat) (P : Nat → NP) : Prop := (∀ j, j < m → Nodes w (some (P j).ad) (P j).n (P j).N) ∧ (0 < m → ∃ b off, A = some ⟨b, off, none⟩ ∧ b < w.heap.size ∧ ∀ j, j < m → w.cell? ⟨b, off + j, none⟩ = some (.slice (some (P j).ad) (P j).n (P j).c))
def totalP (P : Nat → NP) : Nat → Nat
  | 0 => 0
  | k + 1 => totalP P k + (P k).n
def catP (P : Nat → NP) : Nat → List Value
  | 0 => []
  | k + 1 => catP P k ++ rowCells (P k).N (P k).n
theorem totalP_mono (P : Nat → NP) {k m : Nat} (h : k ≤ m) : totalP P k ≤ totalP P m := by
  induction h with
  | refl => exact Nat.le_refl _
  | step _ ih => exact Nat.le_trans ih (by show _ ≤ totalP P _ + _; omega)
theorem NPs.at_ {w : World} {A : Option Addr} {m : Nat} {P : Nat → NP} (h : NPs w A m P) {j : Nat} (hj : j < m) : ∃ b off, A = some ⟨b, off, none⟩ ∧ b < w.heap.size ∧ w.cell? ⟨b, off + j, none⟩ = some (.slice (some (P j).ad) (P j).n (P j).c) := by
  obtain ⟨b, off, e, hb, hc⟩ := h.2 (by omega)
  exact ⟨b, off, e, hb, hc j hj⟩
theorem NPs.below {w w' : World} {A : Option Addr} {m : Nat} {P : Nat → NP} (h : NPs w A m P) (hb : Below w.heap.size w w') : NPs w' A m P :=
  ⟨fun j hj => (h.1 j hj).below hb, fun hm => by
    obtain ⟨b, off, e, hlt, hc⟩ := h.2 hm
    exact ⟨b, off, e, Nat.lt_of_lt_of_le hlt hb.size, fun j hj => (hb.cell (p := ⟨b, off + j, none⟩) hlt).trans (hc j hj)⟩⟩

theorem grown_nodes (w : World) (m g : Nat) (hmg : m ≤ g) (hg : g ≤ maxLen) : (w.drew.alloc (.cells (Builtin.zeroCells (box 0 0).val.cells m ++ Builtin.zeroCells (box 0 0).val.cells (g - m)) 32)).ownsRow w.heap.size 32 51 (.slice (some ⟨w.heap.size, 0, none⟩) 0 g) 0 [] :=
  ⟨by simp, .inr ⟨w.heap.size, g, _, rfl, Nat.le_refl _, heap_alloc_new w.drew _, Nat.zero_le _, hg, by
    have hz : (box 0 0).val.cells.size = 51 := by kernel_rfl
    rw [Array.size_append, size_zeroCells, size_zeroCells, hz, ← Nat.add_mul]
    congr 1
    omega, by simp⟩⟩

set_option maxRecDepth 100000 in
set_option maxHeartbeats 1000000 in
theorem growN_any (m : Nat) (w : World) (h0 : 0 < m) (hm : m ≤ 600) :
    Calls Try.prog 79 #[.slice none 0 0, .int .i64 (m : Nat)] w fun e w' => ∃ v, e = .returned v ∧ w'.ownsRow w.heap.size 32 51 v 0 [] ∧ Below w.heap.size w w' := by
  obtain ⟨ie, hie, hsz, hz, hby⟩ := node_info
  have hp : (0 : Int) < m := by omega
  have hrz := Lib.run_append_nil_zeros (P := Try.prog) w 22 3 22 32 ie (box 0 0).val .i64 .i64 Try.underlying22 Try.underlying3 hie hz m (by omega) (by omega) (by omega) (by rw [hby]; omega)
  have hge := grownCap_ge w m 0 32
  have hle := grownCap_le_maxLen w m 0 32 (by unfold maxLen; omega)
  have O := Lib.hid (grown_nodes w m (grownCap w m 0 32) hge hle)
  generalize grownCap w m 0 32 = G at hrz hge hle O
  have hG : G ≤ 9223372036854775807 := by unfold maxLen at hle; omega
  generalize Builtin.zeroCells (box 0 0).val.cells m ++ Builtin.zeroCells (box 0 0).val.cells (G - m) = Z at hrz O
  have hs1 : (Instr.slice 22 (.slice none 0 0) none (some (.int .i64 0)) none).run Try.prog w = .ok (.slice none 0 0) w := nodes_to none 0 0 0 (Nat.le_refl _) w
  have hs2 : (Instr.slice 22 (.slice (some ⟨w.heap.size, 0, none⟩) m G) none (some (.int .i64 0)) none).run Try.prog (w.drew.alloc (.cells Z 32)) = .ok (.slice (some ⟨w.heap.size, 0, none⟩) 0 G) (w.drew.alloc (.cells Z 32)) := nodes_to _ m G 0 (Nat.zero_le _) _
  clear hie hz hsz hby
  go_enter Try.func79, Try.ntmps79
  go_wp2_with (at_builtin; refine Lib.wpList_append_run _ rfl _ _ _ _ rfl _ _ rfl rfl _ _ hrz ?_)
  go_ret
  exact ⟨_, rfl, O.out, ((Below.refl _ w).drew).alloc (by simp) _⟩

/-- rows of nodes, one behind the other, in memory of the call's own -/
def MadeN (w : World) (k : Nat) (xs : List Value) (e : Ending) (w' : World) : Prop := ∃ g cap, e = .returned (.slice (some ⟨g, 0, none⟩) k cap) ∧ w'.ownsRow w.heap.size 32 51 (.slice (some ⟨g, 0, none⟩) k cap) k xs ∧ Below w.heap.size w w'
theorem madeN_of {w w' : World} {k : Nat} {v : Value} {xs : List Value} (h : w'.ownsRow w.heap.size 32 51 v k xs) (h0 : 0 < k) (hb : Below w.heap.size w w') : MadeN w k xs (.returned v) w' := by
  obtain ⟨g, cap, rfl, _, _⟩ := World.ownsRow.form h h0
  exact ⟨g, cap, rfl, h, hb⟩

set_option maxRecDepth 100000 in
set_option maxHeartbeats 2000000 in
theorem concatN_any (A : Option Addr) (n c : Nat) (P : Nat → NP) (w : World) (h : NPs w A n P) (hn : n ≤ 3) (h0 : 0 < (P 0).n) (h1 : 0 < n) (ht : totalP P n ≤ 600) :
    Calls Try.prog 49 #[.slice A n c] w (MadeN w (totalP P n) (catP P n)) := by
  have H := Lib.hid h
  have T : Hid (∀ k, k ≤ n → totalP P k ≤ 600) := Lib.hid (fun k hk => Nat.le_trans (totalP_mono P hk) ht)
  have T1 : Hid (∀ k, 0 < totalP P (k + 1)) := Lib.hid (fun k => Nat.lt_of_lt_of_le (show 0 < totalP P 1 by show 0 < 0 + (P 0).n; omega) (totalP_mono P (by omega)))
  clear h ht h0
  go_enter Try.func49, Try.ntmps49
  go_wp2
  go_loop [3, 11] (fun s i => ∃ k : Nat, k ≤ n ∧ i = .int .i64 k ∧ s = .int .i64 (totalP P k : Nat)) (fun _ i => n - (intOf i).toNat)
  case atStart => exact ⟨0, Nat.zero_le _, rfl, rfl⟩
  case round =>
    obtain ⟨k, hk, rfl, rfl⟩ := hrel
    by_cases hlt : k < n
    · have hkz : (k : Int) < n := by omega
      obtain ⟨b, off, rfl, hb, hcell⟩ := H.out.at_ hlt
      have t1 := T.out (k + 1) (by omega)
      have e1 : totalP P (k + 1) = totalP P k + (P k).n := rfl
      have hs : totalP P k + (P k).n ≤ 600 := by omega
      have E : Hid (totalP P (k + 1) = totalP P k + (P k).n) := Lib.hid e1
      clear t1 e1 hb
      have hneg : ¬ ((totalP P k : Int) + ((P k).n : Int) < 0) := by omega
      generalize hm : (P k).n = m at hs hneg hcell E
      clear hm
      generalize ht : totalP P k = t at hs hneg E
      clear ht
      go_wp2
      go_round
      case rel => exact ⟨k + 1, by omega, by go_num, by rw [E.out]; go_num⟩
      case measure => simp [intOf]; omega
    · obtain rfl : k = n := by omega
      have t1 := T.out k (Nat.le_refl _)
      have t2 : 0 < totalP P k := by
        obtain ⟨j, rfl⟩ : ∃ j, k = j + 1 := ⟨k - 1, by omega⟩
        exact T1.out j
      have RT : Hid (∀ v w', w'.ownsRow w.heap.size 32 51 v (totalP P k) (catP P k) → Below w.heap.size w w' → MadeN w (totalP P k) (catP P k) (.returned v) w') := Lib.hid (fun v w' ho hb => madeN_of ho t2 hb)
      generalize ht : totalP P k = t at t1 t2
      clear ht
      go_wp2_with (go_at_call 79; refine (growN_any t _ t2 t1).mono ?_; rintro e w1 ⟨v, rfl, ho, hb⟩)
      have O1 := Lib.hid ho
      have B1 := Lib.hid hb
      clear ho hb
      go_loopg [6, 27] k (fun g1 vo vi wr => ∃ j : Nat, vi = .int .i64 j ∧ j ≤ k ∧ k - j ≤ g1 ∧ Hid (wr.ownsRow w.heap.size 32 51 vo (totalP P j) (catP P j)) ∧ Hid (Below w.heap.size w wr))
      case atStart => exact ⟨0, rfl, by omega, by omega, O1, B1⟩
      case round =>
        rename World => W
        obtain ⟨j, rfl, hj, hg1, O, B⟩ := hrel
        by_cases hlt : j < k
        · have hjz : (j : Int) < k := by omega
          obtain ⟨b, off, rfl, hb, hcell⟩ := H.out.at_ hlt
          have hcW : W.cell? ⟨b, off + j, none⟩ = some (.slice (some (P j).ad) (P j).n (P j).c) := (B.out.cell (p := ⟨b, off + j, none⟩) hb).trans hcell
          have PK := Lib.hid ((H.out.1 j hlt).below B.out)
          have HL := Lib.hid (T.out (j + 1) (by omega))
          have HP := Lib.hid (T1.out j)
          clear hb hcell
          go_wp2_with (at_builtin; refine wpList_append_nodes rfl _ _ rfl w.heap.size _ _ _ rfl O.out (P j).ad (P j).n (P j).c (P j).N rfl PK.out (totalP P (j + 1)) rfl HP.out HL.out B.out.size ?_)
          intro g cap w' ho hb
          have O2 := Lib.hid ho
          have B2 := Lib.hid (B.out.trans hb)
          clear ho hb
          go_wp2
          go_roundg (k - (j + 1))
          case measure => omega
          case rel => exact ⟨j + 1, by go_num, by omega, Nat.le_refl _, O2, B2⟩
        · obtain rfl : j = k := by omega
          go_wp2
          go_ret
          exact RT.out _ _ O.out B.out
end Go.Proofs.Ytmodegkpfdlccaa
