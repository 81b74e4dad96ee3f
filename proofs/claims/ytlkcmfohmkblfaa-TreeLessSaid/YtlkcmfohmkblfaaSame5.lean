/-
  tree.Same of the landed code; nodes compared in a region that draws its order.
-/
import Derived.Test.YtlkcmfohmkblfaaWithin
import Derived.Test.YtlkcmfohmkblfaaCopy5
import Derived.Deep.MidRow
import Derived.Deep.LoopGhost
import Derived.StillTailTactics
namespace Go.Proofs.Ytlkcmfohmkblfaa
open Go.RowKit

theorem node_range {W : World} {b o : Nat} {v : RN} (hv : v.ok) (h : NodeAt W b o v) : W.rangeAt b o v.cells := fun j u hu => by
  have hj : j < 51 := by
    have := hv.len
    rcases Nat.lt_or_ge j 51 with h1 | h1
    · exact h1
    · rw [List.getElem?_eq_none (by omega)] at hu; cases hu
  exact (h j hj).trans hu

theorem run_node_eq_all {u v : RN} (hu : u.ok) (hv : v.ok) : ∃ r : Bool, (∀ w : World, (Op.equalIn 10000 36 (.agg u.cells.toArray) (.agg v.cells.toArray)).run Try.prog w = .ok r w) ∧ (r = true ↔ u = v) := by
  classical
  refine ⟨decide (u = v), fun w => ?_, by simp⟩
  obtain ⟨r, hr, hiff⟩ := run_node_eq hu hv w
  unfold RN.val at hr
  rw [hr]
  congr 1
  rw [Bool.eq_iff_iff, decide_eq_true_iff]
  exact hiff

theorem wp_region_still_d {P : Program} {id : Nat} {Q : Exit → Act → World → Prop} {a : Act} {w : World} {l : List Oper} (hm : P.follows .mixedOrders = true) (hB : Region.lexB .any l.toArray = true)
    (h : wpStill P l.toArray w.drew (fun a' => Q .normal a' w.drew) l a) : (Code.region id l.toArray true).wp P Q a w := wp_region_still_lit hm hB h

section
variable {P : Program} {ops : Array Oper} {w : World} {Q : Act → Prop} {a : Act} {o : Oper} {rest : List Oper}
/-- a struct in the middle of a row is read, in a region that draws its order -/
theorem wpStill_load_mid (hg : o.guard = none) (ty : TypeId) (x : Operand) (ho : o.op = .load ty x)
    (b off : Nat) (hx : a.eval x = .pointer (some ⟨b, off, none⟩)) (cs : List Value) (d : TypeDesc) (hc : w.rangeAt b off cs)
    (hu : P.underlying ty = some d) (hd : d.isRow = true) (hi : (P.info? ty).map (·.size) = some cs.length)
    (h : wpStill P ops w Q rest (a.put o.dst (.agg cs.toArray))) : wpStill P ops w Q (o :: rest) a := by
  refine wpStill_step fun K hK => ?_
  rw [if_pos (by simp [Region.wanted, hg])]
  unfold Oper.still execOp
  simp only [ho, hx, Instr.loadAt, Instr.sureAddr, Sem.run_bind, Sem.run_pure, Result.andThen_ok, run_loadVar_mid w b off ty cs d hc hu hd hi, Oper.stillUpon_value]
  exact hK _ h
/-- two structs are compared there -/
theorem wpStill_eq_struct (hg : o.guard = none) (neq : Bool) (t rt : TypeId) (x y : Operand) (ho : o.op = .binOp (if neq then .neq else .eql) t x y rt)
    (xs ys : Array Value) (hx : a.eval x = .agg xs) (hy : a.eval y = .agg ys) (hm : P.eqGuardType P.depth t = false) (r : Bool) (hr : ∀ w : World, (Op.equalIn 10000 t (.agg xs) (.agg ys)).run P w = .ok r w)
    (h : wpStill P ops w Q rest (a.put o.dst (.bool (if neq then !r else r)))) : wpStill P ops w Q (o :: rest) a := by
  refine wpStill_step fun K hK => ?_
  rw [if_pos (by simp [Region.wanted, hg])]
  unfold Oper.still execOp
  cases neq
  · simp only [ho, hx, hy, Sem.run_bind, Sem.run_pure, run_eqGuard_agg _ _ _ _ _ _ _ hm, Bool.false_eq_true, if_false, run_eql_struct, hr, Result.andThen_ok, Oper.stillUpon_value]
    exact hK _ h
  · simp only [ho, hx, hy, Sem.run_bind, Sem.run_pure, run_eqGuard_agg _ _ _ _ _ _ _ hm, if_true, run_neq_struct, hr, Result.andThen_ok, Oper.stillUpon_value]
    exact hK _ h
end

theorem node_guard : Try.prog.eqGuardType Try.prog.depth 36 = false := by kernel_rfl
theorem node_isize : (Try.prog.info? 36).map (·.size) = some 51 := by kernel_rfl

set_option maxRecDepth 100000 in
set_option maxHeartbeats 4000000 in
theorem equal_nodes (A : Option Addr) (n c : Nat) (N : Nat → RN) (B : Option Addr) (m d : Nat) (M : Nat → RN) (w : World) (hA : Nodes w A n N) (hB : Nodes w B m M) (hn : n ≤ 140737488351232) (hm : m ≤ 140737488351232) :
    Calls Try.prog 24 #[.slice A n c, .slice B m d] w fun e w' => ∃ b : Bool, e = .returned (.bool b) ∧ (b = true ↔ n = m ∧ ∀ j, j < n → N j = M j) ∧ Below w.heap.size w w' := by
  have HA := Lib.hid hA
  have HB := Lib.hid hB
  clear hA hB
  by_cases hl : n = m
  · subst hl
    go_enter Try.func24, Try.ntmps24
    go_wp2
    go_loopg [13] n (fun g1 v wr => ∃ k : Nat, v = .int .i64 k ∧ k ≤ n ∧ n - k ≤ g1 ∧ Hid (∀ j, j < k → N j = M j) ∧ Hid (Drew w wr))
    case atStart => exact ⟨0, rfl, by omega, by omega, Lib.hid (fun j hj => absurd hj (by omega)), Lib.hid ⟨0, rfl⟩⟩
    case round =>
      obtain ⟨k, rfl, hk, hg1, EQ, DW⟩ := hrel
      by_cases hlt : k < n
      · have hltz : (k : Int) < n := by omega
        have hk0 : (0 : Int) ≤ k := by omega
        obtain ⟨q, rfl⟩ := DW.out
        obtain ⟨bA, oA, rfl, hbA, nA⟩ := HA.out.2 (by omega)
        obtain ⟨bB, oB, rfl, hbB, nB⟩ := HB.out.2 (by omega)
        have okA := HA.out.1 k hlt
        have okB := HB.out.1 k hlt
        have rA : Hid ((w.drewN q).drew.rangeAt bA (oA + k * 51) (N k).cells) := Lib.hid (node_range okA (nA k hlt))
        have rB : Hid ((w.drewN q).drew.rangeAt bB (oB + k * 51) (M k).cells) := Lib.hid (node_range okB (nB k hlt))
        have lA := okA.len
        have lB := okB.len
        obtain ⟨r, hr, hiff⟩ := run_node_eq_all okA okB
        have RR := Lib.hid hr
        have RI : Hid (r = true ∧ N k = M k ∨ r = false ∧ N k ≠ M k) := Lib.hid (by cases r <;> simp at hiff <;> simp [hiff])
        have LA : Hid ((Try.prog.info? 36).map (·.size) = some (N k).cells.length) := Lib.hid (by rw [lA]; exact node_isize)
        have LB : Hid ((Try.prog.info? 36).map (·.size) = some (M k).cells.length) := Lib.hid (by rw [lB]; exact node_isize)
        clear nA nB okA okB lA lB hr hiff
        generalize hX : (N k).cells = X at rA RR LA
        generalize hY : (M k).cells = Y at rB RR LB
        clear hX hY
        go_wp2
        refine wp_region_still_d (by kernel_rfl) (by kernel_rfl) ?_
        iterate 3 still_step
        refine wpStill_load_mid rfl 36 _ rfl bA (oA + k * 51) rfl X _ rA.out Try.underlying36 rfl LA.out ?_
        iterate 3 still_step
        refine wpStill_load_mid rfl 36 _ rfl bB (oB + k * 51) rfl Y _ rB.out Try.underlying36 rfl LB.out ?_
        refine wpStill_eq_struct rfl true 36 _ _ _ rfl X.toArray Y.toArray rfl rfl node_guard r RR.out ?_
        refine wpStill_nil ?_
        go_simp
        rcases RI.out with ⟨rfl, he⟩ | ⟨rfl, he⟩
        · have HE := Lib.hid he
          clear he RI
          go_wp2
          go_roundg (n - (k + 1))
          case measure => omega
          case rel => exact ⟨k + 1, by go_num, by omega, Nat.le_refl _, Lib.hid (fun j hj => by
            rcases Nat.lt_or_ge j k with h | h
            · exact EQ.out j h
            · obtain rfl : j = k := by omega
              exact HE.out), Lib.hid ⟨q + 1, rfl⟩⟩
        · have HE := Lib.hid he
          clear he RI
          go_wp2
          go_ret
          exact ⟨false, rfl, ⟨(fun h => by cases h), fun h => absurd (h.2 k hlt) HE.out⟩, below_drew (Below.refl _ _) (q + 1)⟩
      · obtain rfl : k = n := by omega
        obtain ⟨q, rfl⟩ := DW.out
        go_wp2
        go_ret
        exact ⟨true, rfl, ⟨fun _ => ⟨trivial, EQ.out⟩, fun _ => rfl⟩, below_drew (Below.refl _ _) q⟩
  · have hne : ((n : Int) == m) = false := by simp; omega
    have hne2 : ((n : Int) != m) = true := by simp; omega
    go_enter Try.func24, Try.ntmps24
    go_wp2
    go_ret
    exact ⟨false, rfl, ⟨(fun h => by cases h), fun h => absurd h.1 hl⟩, Below.refl _ _⟩

set_option maxRecDepth 100000 in
set_option maxHeartbeats 4000000 in
theorem same_any5 : SameOK5 := by
  intro A n c x N B m d y M w hA hB
  have hn : n ≤ 140737488351232 := by have := hA.1.2.2.2; omega
  have hm : m ≤ 140737488351232 := by have := hB.1.2.2.2; omega
  unfold docV
  have hb0 : Below w.heap.size w ((w.alloc (.cells #[.slice A n c, .int .i64 x] 24)).alloc (.cells #[.slice B m d, .int .i64 y] 24)) := ((Below.refl _ w).alloc (Nat.le_refl _) _).alloc (by simp) _
  have d0 : DocBox ((w.alloc (.cells #[.slice A n c, .int .i64 x] 24)).alloc (.cells #[.slice B m d, .int .i64 y] 24)) w.heap.size (.slice A n c) (.int .i64 x) := heap_alloc2_old w _ _
  have d1 : DocBox ((w.alloc (.cells #[.slice A n c, .int .i64 x] 24)).alloc (.cells #[.slice B m d, .int .i64 y] 24)) (w.heap.size + 1) (.slice B m d) (.int .i64 y) := heap_alloc2_new w _ _
  have B0 := Lib.hid hb0
  have HA := Lib.hid (hA.1.1.below hb0)
  have HB := Lib.hid (hB.1.1.below hb0)
  have a0 := d0.c0
  have a1 := d0.c1
  have b0 := d1.c0
  have b1 := d1.c1
  have Z0 : Hid (w.heap.size ≤ ((w.alloc (.cells #[.slice A n c, .int .i64 x] 24)).alloc (.cells #[.slice B m d, .int .i64 y] 24)).heap.size) := Lib.hid hb0.size
  clear hA hB hb0 d0 d1
  by_cases hx : x = y
  · have hxx : (x == y) = true := by simpa using hx
    have HX := Lib.hid hx
    clear hx
    go_enter Try.func16, Try.ntmps16
    go_wp2_with fail
    refine (equal_nodes A n c N B m d M _ HA.out HB.out hn hm).mono ?_
    rintro e w1 ⟨b, rfl, hb, hbl⟩
    have HE := Lib.hid hb
    have BL := Lib.hid (B0.out.trans (hbl.mono Z0.out))
    clear hb hbl a0 a1 b0 b1
    go_wp2_with fail
    go_ret
    exact ⟨b, rfl, HE.out.trans ⟨fun h => ⟨HX.out, h⟩, fun h => h.2⟩, BL.out⟩
  · have hxx : (x == y) = false := by simpa using hx
    have HX := Lib.hid hx
    clear hx
    go_enter Try.func16, Try.ntmps16
    go_wp2_with fail
    go_ret
    exact ⟨false, rfl, ⟨(fun h => by cases h), fun h => absurd h.1 HX.out⟩, B0.out⟩
end Go.Proofs.Ytlkcmfohmkblfaa
