/-
  The landed code's cursor over items: the line that begins at it.
-/
import Derived.Test.YtpfeiiabplaghaaCursor10b
namespace Go.Proofs.Ytpfeiiabplaghaa
open Go.RowKit Go.Shelf

/-- where the walk of a line stands: the cursor at t, in block b; the line's own cells, and a copy of the cursor at a, in blocks of its own -/
structure LineAt (W0 W : World) (b : Nat) (A : Option Addr) (c : Nat) (l : List It) (a t : Nat) : Prop where
  cur : Cur W b A c l t
  grown : W0.grownBy W (some b)
  lt : b < W0.heap.size
  old : l ≠ [] → ∀ b' off, A = some ⟨b', off, none⟩ → b' < W0.heap.size
  res : W.heap[W0.heap.size]? = some (.cells #[.int .i64 0, .int .i64 0, .int .i64 0] 34)
  frm : W.heap[W0.heap.size + 1]? = some (.cells #[.slice A l.length c, .int .i64 (a : Nat), .int .i64 (pre l a)] 56)
theorem LineAt.size {W0 W : World} {b c a t : Nat} {A : Option Addr} {l : List It} (h : LineAt W0 W b A c l a t) : W0.heap.size + 2 ≤ W.heap.size := (Array.getElem?_eq_some_iff.1 h.frm).1
theorem LineAt.step {W0 W V : World} {b c a t u : Nat} {A : Option Addr} {l : List It} (h : LineAt W0 W b A c l a t) (hg : W.grownBy V (some b)) (hc : Cur V b A c l u) : LineAt W0 V b A c l a u :=
  ⟨hc, h.grown.trans hg, h.lt, h.old, (hg.block _ (by have := h.size; omega) (fun e => by injection e with e; have := h.lt; omega)).trans h.res, (hg.block _ (by have := h.size; omega) (fun e => by injection e with e; have := h.lt; omega)).trans h.frm⟩
/-- another block of its own turns -/
theorem LineAt.other {W0 W V : World} {b c a t : Nat} {A : Option Addr} {l : List It} (h : LineAt W0 W b A c l a t) {row : Option Nat} (hg : W.grownBy V row) (hr : ∀ q, row = some q → W0.heap.size + 2 ≤ q) : LineAt W0 V b A c l a t :=
  ⟨h.cur.grown hg (fun e => by have := hr _ e; have := h.lt; omega) (fun hl b' off e e' => by have := hr _ e'; have := h.old hl _ _ e; omega),
    h.grown.andThen hg (fun j e => .inl (by have := hr _ e; omega)), h.lt, h.old, (hg.block _ (by have := h.size; omega) (fun e => by have := hr _ e.symm; omega)).trans h.res, (hg.block _ (by have := h.size; omega) (fun e => by have := hr _ e.symm; omega)).trans h.frm⟩
theorem LineAt.grow {W0 W V : World} {b c a t : Nat} {A : Option Addr} {l : List It} (h : LineAt W0 W b A c l a t) (hg : W.grownBy V none) : LineAt W0 V b A c l a t := h.other hg (fun _ e => by cases e)
/-- a cursor's cells in another block -/
structure Cells3 (W0 W : World) (q : Nat) (A : Option Addr) (n c u : Nat) (P : Int) : Prop where
  blk : W.heap[q]? = some (.cells #[.slice A n c, .int .i64 (u : Nat), .int .i64 P] 56)
  lo : W0.heap.size + 2 ≤ q
theorem Cells3.c0 {W0 W : World} {q n c u : Nat} {P : Int} {A : Option Addr} (h : Cells3 W0 W q A n c u P) : W.cell? ⟨q, 0, none⟩ = some (.slice A n c) := by simp [World.cell?, h.blk]
theorem Cells3.c1 {W0 W : World} {q n c u : Nat} {P : Int} {A : Option Addr} (h : Cells3 W0 W q A n c u P) : W.cell? ⟨q, 1, none⟩ = some (.int .i64 (u : Nat)) := by simp [World.cell?, h.blk]
theorem Cells3.c2 {W0 W : World} {q n c u : Nat} {P : Int} {A : Option Addr} (h : Cells3 W0 W q A n c u P) : W.cell? ⟨q, 2, none⟩ = some (.int .i64 P) := by simp [World.cell?, h.blk]
theorem Cells3.fro {W0 W : World} {q n c u : Nat} {P : Int} {A : Option Addr} (h : Cells3 W0 W q A n c u P) (j : Nat) : W.frozen? ⟨q, j, none⟩ = false := by simp [World.frozen?, h.blk]
theorem Cells3.lt {W0 W : World} {q n c u : Nat} {P : Int} {A : Option Addr} (h : Cells3 W0 W q A n c u P) : q < W.heap.size := (Array.getElem?_eq_some_iff.1 h.blk).1
theorem Cells3.grow {W0 W V : World} {q n c u : Nat} {P : Int} {A : Option Addr} (h : Cells3 W0 W q A n c u P) {row : Option Nat} (hg : W.grownBy V row) (hr : row ≠ some q) : Cells3 W0 V q A n c u P :=
  ⟨(hg.block _ h.lt (fun e => hr e.symm)).trans h.blk, h.lo⟩
theorem Cells3.put {W0 W : World} {q n c u : Nat} {P : Int} {A : Option Addr} (h : Cells3 W0 W q A n c u P) (v : Nat) (R : Int) :
    Cells3 W0 (((W.setCell ⟨q, 0, none⟩ (.slice A n c)).setCell ⟨q, 1, none⟩ (.int .i64 (v : Nat))).setCell ⟨q, 2, none⟩ (.int .i64 R)) q A n c v R ∧
    W.grownBy (((W.setCell ⟨q, 0, none⟩ (.slice A n c)).setCell ⟨q, 1, none⟩ (.int .i64 (v : Nat))).setCell ⟨q, 2, none⟩ (.int .i64 R)) (some q) := by
  refine ⟨⟨?_, h.lo⟩, ((grown_cell W q 0 (.slice A n c)).trans (grown_cell _ q 1 (.int .i64 (v : Nat)))).trans (grown_cell _ q 2 (.int .i64 R))⟩
  have e := h.blk
  simp [World.setCell, Array.getElem?_modify, e]
theorem LineAt.f1 {W0 W : World} {b c a t : Nat} {A : Option Addr} {l : List It} (h : LineAt W0 W b A c l a t) : W.cell? ⟨W0.heap.size + 1, 1, none⟩ = some (.int .i64 (a : Nat)) := by simp [World.cell?, h.frm]
theorem LineAt.f2 {W0 W : World} {b c a t : Nat} {A : Option Addr} {l : List It} (h : LineAt W0 W b A c l a t) : W.cell? ⟨W0.heap.size + 1, 2, none⟩ = some (.int .i64 (pre l a)) := by simp [World.cell?, h.frm]
theorem LineAt.rf {W0 W : World} {b c a t : Nat} {A : Option Addr} {l : List It} (h : LineAt W0 W b A c l a t) (j : Nat) : W.frozen? ⟨W0.heap.size, j, none⟩ = false := by simp [World.frozen?, h.res]
theorem LineAt.rc {W0 W : World} {b c a t : Nat} {A : Option Addr} {l : List It} (h : LineAt W0 W b A c l a t) : W.cell? ⟨W0.heap.size, 0, none⟩ = some (.int .i64 0) ∧ W.cell? ⟨W0.heap.size, 1, none⟩ = some (.int .i64 0) ∧ W.cell? ⟨W0.heap.size, 2, none⟩ = some (.int .i64 0) := by simp [World.cell?, h.res]
/-- the line's cells are written -/
theorem LineAt.done {W0 W : World} {b c a t : Nat} {A : Option Addr} {l : List It} (h : LineAt W0 W b A c l a t) (x y z : Int) (V : World)
    (hV : V = (((W.setCell ⟨W0.heap.size, 0, none⟩ (.int .i64 x)).setCell ⟨W0.heap.size, 1, none⟩ (.int .i64 y)).setCell ⟨W0.heap.size, 2, none⟩ (.int .i64 z)).drew) :
    V.heap[W0.heap.size]? = some (.cells #[.int .i64 x, .int .i64 y, .int .i64 z] 34) ∧ Cur V b A c l t ∧ W0.grownBy V (some b) := by
  have g := (((grown_cell W W0.heap.size 0 (.int .i64 x)).trans (grown_cell _ W0.heap.size 1 (.int .i64 y))).trans (grown_cell _ W0.heap.size 2 (.int .i64 z))).trans (grown_drew' _ _)
  rw [← hV] at g
  refine ⟨?_, h.cur.grown g (fun e => by injection e with e; have := h.lt; omega) (fun hl b' off e e' => by injection e' with e'; have := h.old hl _ _ e; omega), h.grown.andThen g (fun j e => .inl (by injection e with e; omega))⟩
  have e := h.res
  rw [hV]
  simp [World.setCell, World.drew, Array.getElem?_modify, e]

theorem ext_go10 {l : List It} {w : Int} {a t : Nat} (h : behind l t < clusterT l (behind l t)) (h2 : sumI l a (clusterT l (behind l t)) ≤ w) : extT l w a t = extT l w a (clusterT l (behind l t)) := by
  rw [extT, dif_pos ⟨by omega, h2⟩]
theorem ext_no10 {l : List It} {w : Int} {a t : Nat} (h : ¬ (behind l t < clusterT l (behind l t) ∧ sumI l a (clusterT l (behind l t)) ≤ w)) : extT l w a t = t := by
  rw [extT, dif_neg]
  rintro ⟨h1, h2⟩
  refine h ⟨?_, h2⟩
  have := (cluster_facts (cluster_ne h1)).1
  omega
theorem to_ext {l : List It} {w : Int} {a : Nat} : toT l w a = extT l w a (clusterT l a) := by
  unfold toT
  by_cases h : kd l a = 2
  · have hs : ¬ Solid l a := by unfold Solid; omega
    rw [if_pos h, cluster_no hs, ext_no10]
    rw [behind_self (by omega), cluster_no hs]
    omega
  · rw [if_neg h]

theorem heap_alloc_new' (W : World) (o : Obj) {q : Nat} (h : q = W.heap.size) : (W.alloc o).heap[q]? = some o := by rw [h]; exact heap_alloc_new W o
set_option maxRecDepth 100000 in
set_option maxHeartbeats 8000000 in
theorem line_any {W : World} {b c a : Nat} {A : Option Addr} {l : List It} (h : Cur W b A c l a) (hn : l.length ≤ 4096) (hw : Within l 1099511627776) (x : Int) :
    Calls Try.prog 32 #[.pointer (some ⟨b, 0, none⟩), .int .i64 x] W fun e w' => e = .returned (.agg #[.int .i64 (a : Nat), .int .i64 (toT l x a : Nat), .int .i64 (sumI l a (toT l x a))]) ∧ Cur w' b A c l (toT l x a) ∧ W.grownBy w' (some b) := by
  obtain ⟨n, en⟩ : ∃ n, l.length = n := ⟨_, rfl⟩
  have K1 := Lib.hid (fun V (h' : Cur V b A c l a) => cluster_any h' hn hw _ rfl _ rfl)
  have K2 := Lib.hid (fun V t (h' : Cur V b A c l t) u hu r hr => next_any h' hn hw (behind l t) u rfl hu r hr)
  have PI := Lib.hid (pre_in hw hn)
  rw [en] at K2 PI hn
  have H := Lib.hid h
  have c0 := h.c0
  have c1 := h.c1
  have c2 := h.c2
  have hb := h.lt
  have hal : a ≤ n := by have := h.le; omega
  obtain ⟨t0, ht0⟩ : ∃ t, clusterT l a = t := ⟨_, rfl⟩
  have L0 : Hid (LineAt W ((W.alloc (.cells #[.int .i64 0, .int .i64 0, .int .i64 0] 34)).alloc (.cells #[.slice A l.length c, .int .i64 (a : Nat), .int .i64 (pre l a)] 56)) b A c l a a) := Lib.hid (by
    have g := (World.grownBy_alloc W (.cells #[.int .i64 0, .int .i64 0, .int .i64 0] 34) (none : Option Nat)).trans (World.grownBy_alloc _ (.cells #[.slice A l.length c, .int .i64 (a : Nat), .int .i64 (pre l a)] 56) none)
    refine ⟨h.grown g (by simp) (fun _ _ _ _ e => by cases e), ⟨g.os, g.tape, g.output, g.size, fun i hi _ => g.block i hi (by simp)⟩, hb, fun hl b' off e => h.its.block_lt hl e, ?_, ?_⟩
    · exact ((Below.refl _ _).alloc (Nat.le_refl _) _ |>.block _ (by simp)).trans (heap_alloc_new W _)
    · have := heap_alloc_new (W.alloc (.cells #[.int .i64 0, .int .i64 0, .int .i64 0] 34)) (.cells #[.slice A l.length c, .int .i64 (a : Nat), .int .i64 (pre l a)] 56)
      rwa [World.size_alloc] at this)
  rw [en] at c0 L0
  have EN := Lib.hid en
  have T0 := Lib.hid ht0
  clear h hw en
  go_enter Try.func32, Try.ntmps32
  obtain ⟨u0, hu0⟩ : ∃ u, clusterT l (behind l t0) = u := ⟨_, rfl⟩
  obtain ⟨r0, hr0⟩ : ∃ r, decide (behind l t0 < u0) = r := ⟨_, rfl⟩
  have U0 := Lib.hid hu0
  have R0 := Lib.hid hr0
  rw [ht0] at K1
  clear ht0 hu0 hr0
  go_wp2_with (first
    | (go_at_call 36; (with_reducible refine (K1.out _ L0.out.cur).mono ?_); rintro e w1 ⟨rfl, hc, hg⟩; have L1 := Lib.hid (L0.out.step hg hc); clear hc hg)
    | (go_at_call 37; (with_reducible refine (K2.out _ _ L1.out.cur u0 U0.out r0 R0.out).mono ?_); rintro e w2 ⟨rfl, hg⟩; have L2 := Lib.hid (L1.out.grow hg); clear hg))
  have hal2 : t0 ≤ n := by have := L2.out.cur.le; have := EN.out; omega
  have L3 := Lib.hid (L2.out.grow (World.grownBy_alloc w2 (.cells #[.slice A n c, .int .i64 (u0 : Nat), .int .i64 (pre l u0)] 56) none))
  have N3 : Hid (Cells3 W (w2.alloc (.cells #[.slice A n c, .int .i64 (u0 : Nat), .int .i64 (pre l u0)] 56)) w2.heap.size A n c u0 (pre l u0)) := Lib.hid ⟨heap_alloc_new w2 _, L2.out.size⟩
  have X3 : Hid (extT l x a t0 = toT l x a) := Lib.hid (by rw [to_ext, T0.out])
  generalize w2.alloc (.cells #[.slice A n c, .int .i64 (u0 : Nat), .int .i64 (pre l u0)] 56) = w3 at L3 N3 ⊢
  generalize w2.heap.size = q0 at N3 ⊢
  clear L2 L1 L0 K1 T0 c0 c1 c2
  go_loopg [6, 7] n (fun g1 v6 v7 wr => ∃ (t q u : Nat) (r : Bool), v6 = .pointer (some ⟨q, 0, none⟩) ∧ v7 = .bool r ∧ t ≤ n ∧ n - t ≤ g1 ∧ Hid (clusterT l (behind l t) = u) ∧ Hid (decide (behind l t < u) = r) ∧ Hid (LineAt W wr b A c l a t) ∧ Hid (Cells3 W wr q A n c u (pre l u)) ∧ Hid (extT l x a t = toT l x a))
  case atStart => exact ⟨t0, q0, u0, r0, rfl, rfl, hal2, by omega, U0, R0, L3, N3, X3⟩
  case round =>
    obtain ⟨t, q, u, r, rfl, rfl, ht, hg1, HU, HR, HL, HN, HX⟩ := hrel
    have n2 := HN.out.c2
    cases r with
    | false =>
      have HT : Hid (toT l x a = t) := Lib.hid (by rw [← HX.out]; exact ext_no10 (by rw [HU.out]; rintro ⟨h1, h2⟩; have := HR.out; simp only [decide_eq_false_iff_not] at this; omega))
      have f1 := HL.out.f1
      have f2 := HL.out.f2
      have c1 := HL.out.cur.c1
      have c2 := HL.out.cur.c2
      obtain ⟨s0', s1', s2'⟩ := HL.out.rc
      have r0' := HL.out.rf 0
      have r1' := HL.out.rf 1
      have r2' := HL.out.rf 2
      have WD : IntKind.i64.wrap (pre l t - pre l a) = pre l t - pre l a := IntWalk.i64_in _ (by have h1 := PI.out t ht; have h2 := PI.out a hal; omega)
      clear n2
      go_wp2_with fail
      go_still_tail 14, (by kernel_rfl)
      go_wp2_with fail
      obtain ⟨V, hV⟩ : ∃ V, V = (((wr.setCell ⟨W.heap.size, 0, none⟩ (.int .i64 (a : Nat))).setCell ⟨W.heap.size, 1, none⟩ (.int .i64 (t : Nat))).setCell ⟨W.heap.size, 2, none⟩ (.int .i64 (pre l t - pre l a))).drew := ⟨_, rfl⟩
      rw [← hV]
      obtain ⟨D1, D2, D3⟩ := HL.out.done _ _ _ _ hV
      refine bodyPost_ret (results_cell_row rfl _ _ W.heap.size _ _ _ _ rfl D1 Try.underlying34 rfl (by kernel_rfl)) rfl ?_
      exact ⟨by rw [HT.out]; rfl, by rw [HT.out]; exact D2, D3⟩
    | true =>
      have HU2 : u ≤ n ∧ t < u := by
        have h1 := HR.out
        simp only [decide_eq_true_eq] at h1
        have h2 := (behind_facts l t).1
        have h3 := HU.out
        have h4 := cluster_facts (l := l) (i := behind l t) (cluster_ne (by omega))
        have := EN.out
        omega
      have f2 := HL.out.f2
      have WU : IntKind.i64.wrap (pre l u - pre l a) = pre l u - pre l a := IntWalk.i64_in _ (by have h1 := PI.out u HU2.1; have h2 := PI.out a hal; omega)
      by_cases hx : pre l u - pre l a ≤ x
      · have HX2 : Hid (extT l x a u = toT l x a) := Lib.hid (by
          have h1 := HR.out
          simp only [decide_eq_true_eq] at h1
          rw [← HX.out, ext_go10 (t := t) (by rw [HU.out]; exact h1) (by rw [HU.out]; exact hx), HU.out])
        have n0 := HN.out.c0
        have n1 := HN.out.c1
        have qb : q ≠ b := by have := HN.out.lo; omega
        have bq : b ≠ q := fun e => qb e.symm
        have k0 := HL.out.cur.c0
        rw [EN.out] at k0
        have k1 := HL.out.cur.c1
        have k2 := HL.out.cur.c2
        have g0 := HL.out.cur.fro 0
        have g1' := HL.out.cur.fro 1
        have g2' := HL.out.cur.fro 2
        obtain ⟨v, hv⟩ : ∃ v, clusterT l (behind l u) = v := ⟨_, rfl⟩
        obtain ⟨s, hs⟩ : ∃ s, decide (behind l u < v) = s := ⟨_, rfl⟩
        have HV := Lib.hid hv
        have HS := Lib.hid hs
        clear hv hs
        obtain ⟨P1, P2⟩ := HL.out.cur.put u (by rw [EN.out]; exact HU2.1)
        rw [EN.out] at P1 P2
        have HL1 := Lib.hid (HL.out.step P2 P1)
        clear P1 P2
        have HL2 := Lib.hid (HL1.out.grow (World.grownBy_alloc _ (.cells #[.slice A n c, .int .i64 (u : Nat), .int .i64 (pre l u)] 56) none))
        have HN2 : Hid (Cells3 W _ wr.heap.size A n c u (pre l u)) := Lib.hid ⟨heap_alloc_new' (((wr.setCell ⟨b, 0, none⟩ (.slice A n c)).setCell ⟨b, 1, none⟩ (.int .i64 (u : Nat))).setCell ⟨b, 2, none⟩ (.int .i64 (pre l u))) (.cells #[.slice A n c, .int .i64 (u : Nat), .int .i64 (pre l u)] 56) (by simp [World.setCell]), HL.out.size⟩
        go_wp2_with (go_at_call 37; (with_reducible refine (K2.out _ _ HL2.out.cur v HV.out s HS.out).mono ?_); rintro e w5 ⟨rfl, hg⟩; have HL5 := Lib.hid (HL2.out.grow hg); have HN5 := Lib.hid (HN2.out.grow hg (by simp)); have m0 := HN5.out.c0; have m1 := HN5.out.c1; have m2 := HN5.out.c2; have e0 := HN5.out.fro 0; have e1 := HN5.out.fro 1; have e2 := HN5.out.fro 2; clear hg)
        obtain ⟨P1, P2⟩ := HN5.out.put v (pre l v)
        have HL6 := Lib.hid (HL5.out.other P2 (fun q e => by injection e with e; have := HN5.out.lo; omega))
        go_roundg (n - u)
        case measure => omega
        case rel => exact ⟨u, wr.heap.size, v, s, rfl, rfl, HU2.1, Nat.le_refl _, HV, HS, HL6, Lib.hid P1, HX2⟩
      · have hx2 : decide (pre l u - pre l a ≤ x) = false := by simpa using hx
        have HT : Hid (toT l x a = t) := Lib.hid (by rw [← HX.out]; exact ext_no10 (by rw [HU.out]; rintro ⟨h1, h2⟩; exact hx h2))
        have f1 := HL.out.f1
        have c1 := HL.out.cur.c1
        have c2 := HL.out.cur.c2
        obtain ⟨s0', s1', s2'⟩ := HL.out.rc
        have r0' := HL.out.rf 0
        have r1' := HL.out.rf 1
        have r2' := HL.out.rf 2
        have WD : IntKind.i64.wrap (pre l t - pre l a) = pre l t - pre l a := IntWalk.i64_in _ (by have h1 := PI.out t ht; have h2 := PI.out a hal; omega)
        go_wp2_with fail
        go_still_tail 14, (by kernel_rfl)
        go_wp2_with fail
        obtain ⟨V, hV⟩ : ∃ V, V = (((wr.setCell ⟨W.heap.size, 0, none⟩ (.int .i64 (a : Nat))).setCell ⟨W.heap.size, 1, none⟩ (.int .i64 (t : Nat))).setCell ⟨W.heap.size, 2, none⟩ (.int .i64 (pre l t - pre l a))).drew := ⟨_, rfl⟩
        rw [← hV]
        obtain ⟨D1, D2, D3⟩ := HL.out.done _ _ _ _ hV
        refine bodyPost_ret (results_cell_row rfl _ _ W.heap.size _ _ _ _ rfl D1 Try.underlying34 rfl (by kernel_rfl)) rfl ?_
        exact ⟨by rw [HT.out]; rfl, by rw [HT.out]; exact D2, D3⟩
end Go.Proofs.Ytpfeiiabplaghaa
