/-
  The landed places: a place for each spot, in a row of the call's own.
-/
import Derived.Test.YtnhbegdoedbpeaaEdges11
import Derived.Laws.Sem
namespace Go.Proofs.Ytnhbegdoedbpeaa
open Go.RowKit Go.Shelf
attribute [local go_sem] run_store_bound

theorem noughts_cells (n : Nat) : (madeCells #[.int .i64 0, .int .i64 0] (n * 2)).toList = cellsP (List.replicate n (0, 0)) := by
  apply List.ext_getElem?
  intro i
  by_cases h : i < n * 2
  · have hl : i / 2 < (List.replicate n ((0, 0) : Ps)).length := by rw [List.length_replicate]; omega
    have g := flat_get psCells 2 psCells_len (l := List.replicate n (0, 0)) hl (i := i % 2) (by omega)
    rw [show i / 2 * 2 + i % 2 = i by omega] at g
    unfold cellsP
    rw [g, List.getElem_replicate]
    have hm : i % 2 = 0 ∨ i % 2 = 1 := by omega
    unfold madeCells
    rw [Array.toList_map, Array.toList_range, List.getElem?_map, List.getElem?_range h]
    rcases hm with hm | hm <;> simp [hm, psCells]
  · rw [List.getElem?_eq_none, List.getElem?_eq_none]
    · rw [cellsP_len, List.length_replicate]; omega
    · rw [Array.length_toList, size_madeCells]; omega
theorem made_places (n : Nat) (hn : n ≤ 1000000) : ∃ cs : Array Value, cs.toList = cellsP (List.replicate n (0, 0)) ∧ cs.size = n * 2 ∧ ∀ W : World, (Instr.makeSlice 25 (.int .i64 (n : Nat)) (.int .i64 (n : Nat))).run Try.prog W = .ok (.slice (some ⟨W.heap.size, 0, none⟩) n n) (W.alloc (.cells cs 35)) := by
  obtain ⟨i0, hi, hz0, hz1, hz2⟩ := info_parts10 Try.infoPs
  refine ⟨madeCells #[.int .i64 0, .int .i64 0] (n * 2), noughts_cells n, size_madeCells _ _, fun W => ?_⟩
  have := run_make (P := Try.prog) W 25 35 i0 _ Try.underlying25 hi hz0 .i64 .i64 (n : Nat) (n : Nat) (by omega) (by omega) (by rw [hz2]; omega) (by omega)
  rw [Int.toNat_natCast, hz1] at this
  exact this
/-- where the loop stands: the array of methods in a block, the row of places in another one -/
structure PIt (w : World) (q g : Nat) (h b : Int) (m : List Ps) (W : World) : Prop where
  below : Below w.heap.size w W
  arr : W.heap[q]? = some (.cells (edgesA h b) 56)
  row : ownsP W w.heap.size (.slice (some ⟨g, 0, none⟩) m.length m.length) m
  ne : q ≠ g
  gt : w.heap.size ≤ g ∧ g < W.heap.size
theorem PIt.lt {w W : World} {q g : Nat} {h b : Int} {m : List Ps} (p : PIt w q g h b m W) : q < W.heap.size := (Array.getElem?_eq_some_iff.1 p.arr).1
theorem PIt.of {w W W' : World} {q g : Nat} {h b : Int} {m : List Ps} (p : PIt w q g h b m W) (hb : Below W.heap.size W W') : PIt w q g h b m W' :=
  ⟨p.below.trans (hb.mono p.below.size), (hb.block _ p.lt).trans p.arr, p.row.keep hb, p.ne, p.gt.1, Nat.lt_of_lt_of_le p.gt.2 hb.size⟩
theorem PIt.cell {w W : World} {q g : Nat} {h b : Int} {m : List Ps} (p : PIt w q g h b m W) {a y : Nat} (hy : (edgesA h b)[a]? = some (edgeV y h b)) : W.cell? ⟨q, a, none⟩ = some (edgeV y h b) := by
  simp [World.cell?, p.arr, hy]
theorem PIt.put {w W : World} {q g : Nat} {h b : Int} {m : List Ps} (p : PIt w q g h b m W) {k : Nat} (hk : k < m.length) (x y : Int) :
    PIt w q g h b (m.set k (x, y)) ((W.setCell ⟨g, k * 2, none⟩ (.int .i64 x)).setCell ⟨g, k * 2 + 1, none⟩ (.int .i64 y)) := by
  have s1 := own_set p.row (k * 2) (.int .i64 x)
  have s2 := own_set s1.1 (k * 2 + 1) (.int .i64 y)
  have hg : ∀ j v (W : World), (W.setCell ⟨g, j, none⟩ v).heap[q]? = W.heap[q]? := fun j v W => by
    simp [World.setCell, Array.getElem?_modify, show ¬ g = q from fun e => p.ne e.symm]
  refine ⟨(p.below.trans s1.2).trans s2.2, by rw [hg, hg]; exact p.arr, ?_, p.ne, p.gt.1, by simpa [World.setCell] using p.gt.2⟩
  unfold ownsP
  rw [List.length_set]
  have h1 : ((cellsP m).set (k * 2) (.int .i64 x)).set (k * 2 + 1) (.int .i64 y) = cellsP (m.set k (x, y)) := by
    unfold cellsP
    have e1 := flat_set psCells 2 psCells_len (l := m) hk (i := 0) (by omega) (.int .i64 x) (x, (m[k]).2) rfl
    rw [Nat.add_zero] at e1
    rw [e1]
    have hk' : k < (m.set k (x, (m[k]).2)).length := by rw [List.length_set]; exact hk
    have e2 := flat_set psCells 2 psCells_len (l := m.set k (x, (m[k]).2)) hk' (i := 1) (by omega) (.int .i64 y) (x, y) (by rw [List.getElem_set_self]; rfl)
    rw [e2, List.set_set]
  rw [← h1]
  exact s2.1
theorem PIt.fro {w W : World} {q g : Nat} {h b : Int} {m : List Ps} (p : PIt w q g h b m W) (j : Nat) : W.frozen? ⟨g, j, none⟩ = false := by
  rcases p.row.2 with ⟨e, _⟩ | ⟨g', cap, cur, e, _, hg, _⟩
  · cases e
  · injection e with e1
    injection e1 with e1
    injection e1 with e1
    subst e1
    simp [World.frozen?, hg]
theorem PIt.old {w W : World} {q g : Nat} {h b : Int} {m : List Ps} (p : PIt w q g h b m W) {k : Nat} (hk : k < m.length) : ∃ x y, W.cell? ⟨g, k * 2, none⟩ = some (.int .i64 x) ∧ W.cell? ⟨g, k * 2 + 1, none⟩ = some (.int .i64 y) := by
  obtain ⟨g', c, e, -, -, -, -, hc, -⟩ := p.row.at_ (by intro e; rw [e] at hk; simp at hk)
  injection e with e1
  injection e1 with e1
  injection e1 with e1
  subst e1
  obtain ⟨h1, h2⟩ := hc k _ (List.getElem?_eq_getElem hk)
  exact ⟨_, _, h1, h2⟩

theorem off_cell {W : World} {g b i j : Nat} (h : g ≠ b) (u : Value) : (W.setCell ⟨g, i, none⟩ u).cell? ⟨b, j, none⟩ = W.cell? ⟨b, j, none⟩ := by
  simp [World.cell?, World.setCell, Array.getElem?_modify, h]
set_option maxRecDepth 100000 in
set_option maxHeartbeats 8000000 in
theorem places_any (l : List Sp) (v : Value) (H B LD : Int) (w : World) (hv : SpIn w v l) (hn : l.length ≤ 2048)
    (hal : ∀ i, i < l.length → sa l i ≤ 2) (hw : ∀ i, i < l.length → -1099511627776 ≤ sw l i ∧ sw l i ≤ 1099511627776) (hup : ∀ i, i < l.length → -1099511627776 ≤ su l i ∧ su l i ≤ 1099511627776) (hdn : ∀ i, i < l.length → -1099511627776 ≤ sd l i ∧ sd l i ≤ 1099511627776)
    (hH : -2199023255552 ≤ H ∧ H ≤ 2199023255552) (hB : -1099511627776 ≤ B ∧ B ≤ 1099511627776) (hL : 0 ≤ LD ∧ LD ≤ 9007199254740992) :
    Calls Try.prog 20 #[.agg #[.int .i64 H, .int .i64 B], v, .int .i64 LD] w fun e w' => ∃ (u : Value) (m : List Ps), e = .returned u ∧ m.length = l.length ∧ (∀ j, j < l.length → m[j]? = some (LD + sumS l j, yT H B (sp l j))) ∧ ownsP w' w.heap.size u m ∧ Below w.heap.size w w' := by
  have HV := Lib.hid hv
  obtain ⟨A, c, rfl, -, -⟩ := hv
  have SB : Hid (∀ k, k ≤ l.length → -2251799813685248 ≤ sumS l k ∧ sumS l k ≤ 2251799813685248) := Lib.hid (fun k hk => by
    have := sumS_bound hw k hk
    omega)
  have EA : Hid (∀ k, k < l.length → ∃ y : Nat, (edgesA H B)[sa l k]? = some (edgeV y H B) ∧ (∀ args w, (callFunc y args).run Try.prog w = .ok (.enter y args) w) ∧
      ∀ W : World, Calls Try.prog y #[.agg #[.int .i64 H, .int .i64 B], .agg #[.int .i64 (sw l k), .int .i64 (su l k), .int .i64 (sd l k), .int .u8 (sa l k : Nat)]] W fun e w' => e = .returned (.int .i64 (yT H B (sp l k))) ∧ Below W.heap.size W w') := Lib.hid (fun k hk => by
    have h1 := hup k hk
    have h2 := hdn k hk
    exact edge_any H B (sw l k) (su l k) (sd l k) (sa l k) (hal k hk) (IntWalk.i64_in _ (by omega)) (IntWalk.i64_in _ (by omega)) (IntWalk.i64_in _ (by omega)))
  obtain ⟨n, en⟩ : ∃ n, l.length = n := ⟨_, rfl⟩
  have HN := Lib.hid en
  have HL := Lib.hid hL
  rw [en] at hn HV SB EA hal ⊢
  have AL := Lib.hid hal
  obtain ⟨cs, hcs, hcz, hmk⟩ := made_places n (by omega)
  have HCS := Lib.hid hcs
  have HCZ := Lib.hid hcz
  have KE := Lib.hid (fun W => edges_any H B W)
  unfold edgesA edgeV at KE
  have R0 : Hid (Below w.heap.size w (w.alloc (.cells #[.int .i64 H, .int .i64 B] 47))) := Lib.hid ((Below.refl _ w).alloc (Nat.le_refl _) _)
  clear hw hup hdn hH hB en hL hcs hcz hal
  go_enter Try.func20, Try.ntmps20
  go_wp2_with (go_at_call 26; (with_reducible refine (KE.out _).mono ?_); rintro e w2 ⟨rfl, hb⟩; have R2 : Hid (Below w.heap.size w w2) := Lib.hid (R0.out.trans (hb.mono R0.out.size)); clear hb)
  have P0 : Hid (PIt w w2.heap.size (w2.heap.size + 1) H B (List.replicate n (0, 0)) ((w2.alloc (.cells #[.func (.func 27) #[.agg #[.int .i64 H, .int .i64 B]] #[], .func (.func 28) #[.agg #[.int .i64 H, .int .i64 B]] #[], .func (.func 29) #[.agg #[.int .i64 H, .int .i64 B]] #[]] 56)).alloc (.cells cs 35))) := Lib.hid (by
    show PIt w w2.heap.size (w2.heap.size + 1) H B (List.replicate n (0, 0)) ((w2.alloc (.cells (edgesA H B) 56)).alloc (.cells cs 35))
    have hs := R2.out.size
    have b1 := (Below.refl (w2.heap.size + 1) (w2.alloc (.cells (edgesA H B) 56))).alloc (by rw [World.size_alloc]; omega) (.cells cs 35)
    have h2 := heap_alloc_new (w2.alloc (.cells (edgesA H B) 56)) (.cells cs 35)
    rw [World.size_alloc] at h2
    refine ⟨(R2.out.alloc hs _).alloc (by rw [World.size_alloc]; omega) _, (b1.block _ (by omega)).trans (heap_alloc_new w2 _), ?_, by omega, by omega, by rw [World.size_alloc, World.size_alloc]; omega⟩
    refine ⟨by rw [cellsP_len], .inr ⟨w2.heap.size + 1, (List.replicate n ((0, 0) : Ps)).length, cs, rfl, by omega, h2, Nat.le_refl _, by rw [List.length_replicate]; unfold maxLen; omega, by rw [List.length_replicate]; exact HCZ.out, ?_⟩⟩
    rw [HCS.out, List.take_of_length_le (by rw [cellsP_len]; exact Nat.le_refl _)])
  clear KE R0 R2 hmk HCS HCZ
  generalize ((w2.alloc (.cells #[.func (.func 27) #[.agg #[.int .i64 H, .int .i64 B]] #[], .func (.func 28) #[.agg #[.int .i64 H, .int .i64 B]] #[], .func (.func 29) #[.agg #[.int .i64 H, .int .i64 B]] #[]] 56)).alloc (.cells cs 35)) = w3 at P0 ⊢
  generalize w2.heap.size + 1 = g at P0 ⊢
  generalize w2.heap.size = q at P0 ⊢
  go_loopg [2, 18] n (fun g1 va vi wr => ∃ (k : Nat) (m : List Ps), vi = .int .i64 k ∧ va = .int .i64 (LD + sumS l k) ∧ k ≤ n ∧ n - k ≤ g1 ∧ Hid (m.length = n) ∧ Hid (∀ j, j < k → m[j]? = some (LD + sumS l j, yT H B (sp l j))) ∧ Hid (PIt w q g H B m wr))
  case atStart => exact ⟨0, _, rfl, by rw [sumS_zero, Int.add_zero], by omega, by omega, Lib.hid (by rw [List.length_replicate]), Lib.hid (fun j hj => absurd hj (by omega)), P0⟩
  case round =>
    obtain ⟨k, m, rfl, rfl, hk, hg1, HM, HJ, HP⟩ := hrel
    obtain ⟨wo, hwo⟩ : ∃ wo, wo = wr := ⟨_, rfl⟩
    subst hwo
    clear P0
    by_cases hlt : k < n
    · have hz : (k : Int) < n := by omega
      have hz0 : (0 : Int) ≤ k := by omega
      have wi : IntKind.i64.wrap ((k : Int) + 1) = (k : Int) + 1 := IntWalk.i64_in _ (by omega)
      obtain ⟨b, off, c', e, c0, c1, c2, c3⟩ := (HV.out.keep HP.out.below).get (i := k) (by have := HN.out; omega)
      injection e with e1 e2 e3
      subst e1 e3
      clear e2
      obtain ⟨y, hy, EN, hKY⟩ := EA.out k hlt
      have KY := Lib.hid hKY
      have P1 := Lib.hid (HP.out.of ((Below.refl _ wo).alloc (Nat.le_refl _) (.cells #[.int .i64 (sw l k), .int .i64 (su l k), .int .i64 (sd l k), .int .u8 (sa l k : Nat)] 33)))
      have X1 := Lib.hid (heap_alloc_new wo (.cells #[.int .i64 (sw l k), .int .i64 (su l k), .int .i64 (sd l k), .int .u8 (sa l k : Nat)] 33))
      have SB1 := SB.out (k + 1) (by omega)
      have SB0 := SB.out k (by omega)
      have ss := sumS_succ (l := l) (k := k) (by have := HN.out; omega)
      have LB := HL.out
      have ws : IntKind.i64.wrap (LD + sumS l k + sw l k) = LD + sumS l (k + 1) := by
        rw [ss, Int.add_assoc]
        exact IntWalk.i64_in _ (by omega)
      have ha3 := AL.out k hlt
      obtain ⟨X', hX'⟩ : ∃ X', LD + sumS l (k + 1) = X' := ⟨_, rfl⟩
      obtain ⟨X, hX⟩ : ∃ X, LD + sumS l k = X := ⟨_, rfl⟩
      obtain ⟨Y, hY⟩ : ∃ Y, yT H B (sp l k) = Y := ⟨_, rfl⟩
      have HX' := Lib.hid hX'
      have HX := Lib.hid hX
      have HY := Lib.hid hY
      rw [hX, hX'] at ws
      rw [hY] at KY
      rw [hX]
      clear hX hX' hY SB1 SB0 ss LB hKY
      generalize sw l k = z0 at c0 P1 X1 KY ws
      generalize su l k = z1 at c1 P1 X1 KY
      generalize sd l k = z2 at c2 P1 X1 KY
      generalize sa l k = a at c3 P1 X1 KY ha3 hy
      have hz3 : ((a : Nat) : Int) < 3 := by omega
      have hz4 : (0 : Int) ≤ (a : Nat) := by omega
      have HQ := Lib.hid hy
      clear ha3 hy
      go_wp2_with fail
      obtain ⟨t, ht⟩ : ∃ t, wo.heap.size = t := ⟨_, rfl⟩
      rw [ht] at X1 ⊢
      have GT : Hid (g < t ∧ q < t) := Lib.hid (by rw [← ht]; exact ⟨HP.out.gt.2, HP.out.lt⟩)
      generalize wo.alloc (.cells #[.int .i64 z0, .int .i64 z1, .int .i64 z2, .int .u8 (a : Nat)] 33) = W1 at P1 X1 ⊢
      have LT : Hid (t < W1.heap.size) := Lib.hid (Array.getElem?_eq_some_iff.1 X1.out).1
      have SC : Hid (∀ W', Below W1.heap.size W1 W' → W'.cell? ⟨t, 0, none⟩ = some (.int .i64 z0) ∧ W'.cell? ⟨t, 1, none⟩ = some (.int .i64 z1) ∧ W'.cell? ⟨t, 2, none⟩ = some (.int .i64 z2) ∧ W'.cell? ⟨t, 3, none⟩ = some (.int .u8 (a : Nat)) ∧ W'.cell? ⟨q, a, none⟩ = some (.func (.func y) #[.agg #[.int .i64 H, .int .i64 B]] #[])) := Lib.hid (fun W' hb => by
        have h0 := (hb.block t LT.out).trans X1.out
        exact ⟨by simp [World.cell?, h0], by simp [World.cell?, h0], by simp [World.cell?, h0], by simp [World.cell?, h0], (P1.out.of hb).cell HQ.out⟩)
      have C1 := Lib.hid (SC.out _ (Below.refl _ _))
      have BD : Hid (Below W1.heap.size W1 W1.drew) := Lib.hid (Below.refl _ W1).drew
      clear c0 c1 c2 c3 ht X1
      go_region_held3 (fun W' => W'.cell? ⟨t, 0, none⟩ = some (.int .i64 z0) ∧ W'.cell? ⟨t, 1, none⟩ = some (.int .i64 z1) ∧ W'.cell? ⟨t, 2, none⟩ = some (.int .i64 z2) ∧ W'.cell? ⟨t, 3, none⟩ = some (.int .u8 (a : Nat)) ∧ W'.cell? ⟨q, a, none⟩ = some (.func (.func y) #[.agg #[.int .i64 H, .int .i64 B]] #[]))
        (first | exact C1.out | exact C3.out | exact C4.out _ _)
        (first
        | (go_at_fn y; (with_reducible refine (KY.out _).mono ?_); rintro e w3 ⟨rfl, hb⟩; have B3 : Hid (Below W1.heap.size W1 w3) := Lib.hid (BD.out.trans hb); have P3 := Lib.hid (P1.out.of B3.out); have C3 := Lib.hid (SC.out w3 B3.out); obtain ⟨x0, y0, o0, o1⟩ := P3.out.old (k := k) (by rw [HM.out]; exact hlt); have f0 := P3.out.fro (k * 2); have f1 := P3.out.fro (k * 2 + 1); have C4 : Hid (∀ u1 u2, ((w3.setCell ⟨g, k * 2, none⟩ u1).setCell ⟨g, k * 2 + 1, none⟩ u2).cell? ⟨t, 0, none⟩ = some (.int .i64 z0) ∧ ((w3.setCell ⟨g, k * 2, none⟩ u1).setCell ⟨g, k * 2 + 1, none⟩ u2).cell? ⟨t, 1, none⟩ = some (.int .i64 z1) ∧ ((w3.setCell ⟨g, k * 2, none⟩ u1).setCell ⟨g, k * 2 + 1, none⟩ u2).cell? ⟨t, 2, none⟩ = some (.int .i64 z2) ∧ ((w3.setCell ⟨g, k * 2, none⟩ u1).setCell ⟨g, k * 2 + 1, none⟩ u2).cell? ⟨t, 3, none⟩ = some (.int .u8 (a : Nat)) ∧ ((w3.setCell ⟨g, k * 2, none⟩ u1).setCell ⟨g, k * 2 + 1, none⟩ u2).cell? ⟨q, a, none⟩ = some (.func (.func y) #[.agg #[.int .i64 H, .int .i64 B]] #[])) := Lib.hid (fun u1 u2 => by rw [off_cell (by have := GT.out; omega), off_cell (by have := GT.out; omega), off_cell (by have := GT.out; omega), off_cell (by have := GT.out; omega), off_cell (by have := GT.out; omega), off_cell (by have := GT.out; omega), off_cell (by have := GT.out; omega), off_cell (by have := GT.out; omega), off_cell P3.out.ne.symm, off_cell P3.out.ne.symm]; exact C3.out); clear hb))
      rename_i hS
      obtain ⟨s0, -⟩ := hS
      have P4 := Lib.hid (P3.out.put (k := k) (by rw [HM.out]; exact hlt) X Y)
      have HJ2 : Hid (∀ j, j < k + 1 → (m.set k (X, Y))[j]? = some (LD + sumS l j, yT H B (sp l j))) := Lib.hid (fun j hj => by
        by_cases e : j = k
        · subst e
          rw [List.getElem?_set_self (by rw [HM.out]; exact hlt), HX.out, HY.out]
        · rw [List.getElem?_set_ne (fun h => e h.symm)]
          exact HJ.out j (by omega))
      have HM2 : Hid ((m.set k (X, Y)).length = n) := Lib.hid (by rw [List.length_set]; exact HM.out)
      clear o0 o1 f0 f1 C1 C3 C4 P1 P3 SC BD B3 HQ KY EN HP HJ
      go_wp2_with fail
      go_roundg (n - (k + 1))
      case measure => omega
      case rel => exact ⟨k + 1, _, by go_num, by rw [HX'.out], by omega, Nat.le_refl _, HM2, HJ2, P4⟩
    · obtain rfl : k = n := by omega
      have hz : ¬ (k : Int) < k := by omega
      have OW := Lib.hid HP.out.row
      rw [HM.out] at OW
      have OB := Lib.hid HP.out.below
      go_wp2_with fail
      go_ret
      exact ⟨_, rfl, m, HM.out, HJ.out, OW.out, OB.out⟩
end Go.Proofs.Ytnhbegdoedbpeaa
