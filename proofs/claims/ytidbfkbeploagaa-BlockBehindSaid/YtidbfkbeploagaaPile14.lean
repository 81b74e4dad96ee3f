/-
  The landed pile: what waits, joined; the next place; a kid put on; the end.
-/
import Derived.Test.YtidbfkbeploagaaAsk14
import Derived.Test.YtidbfkbeploagaaJoin13
import Derived.Test.YtidbfkbeploagaaRefStack14
import Derived.Test.YtidbfkbeploagaaRely3
namespace Go.Proofs.Ytidbfkbeploagaa
open Go.RowKit

def plCells (v : Value) (r : Sk) (y : Int) (wt : Mg) (o : Bool) : List Value := [v, .int .i64 r.h, .int .i64 r.top.1, .int .i64 r.top.2, .int .i64 r.bot.1, .int .i64 r.bot.2, .bool r.thr, .int .i64 y, .int .i64 wt.1, .int .i64 wt.2, .bool o]
/-- a pile in its block -/
def PlAt (w : World) (b : Nat) (v : Value) (r : Sk) (y : Int) (wt : Mg) (o : Bool) : Prop := w.heap[b]? = some (.cells (plCells v r y wt o).toArray 50)
theorem PlAt.new (w : World) (v : Value) (r : Sk) (y : Int) (wt : Mg) (o : Bool) : PlAt (w.alloc (.cells (plCells v r y wt o).toArray 50)) w.heap.size v r y wt o := heap_alloc_new w _
section
variable {w w' : World} {b : Nat} {v : Value} {r : Sk} {y : Int} {wt : Mg} {o : Bool}
theorem PlAt.lt (h : PlAt w b v r y wt o) : b < w.heap.size := (Array.getElem?_eq_some_iff.1 h).1
theorem PlAt.keep (h : PlAt w b v r y wt o) (hb : Below w.heap.size w w') : PlAt w' b v r y wt o := (hb.block b h.lt).trans h
theorem PlAt.keepB {B : Nat} (h : PlAt w b v r y wt o) (hb : Below B w w') (hl : b < B) : PlAt w' b v r y wt o := (hb.block b hl).trans h
theorem PlAt.cells (h : PlAt w b v r y wt o) : w.cell? ⟨b, 0, none⟩ = some v ∧ w.cell? ⟨b, 1, none⟩ = some (.int .i64 r.h) ∧ w.cell? ⟨b, 2, none⟩ = some (.int .i64 r.top.1) ∧ w.cell? ⟨b, 3, none⟩ = some (.int .i64 r.top.2) ∧ w.cell? ⟨b, 4, none⟩ = some (.int .i64 r.bot.1) ∧ w.cell? ⟨b, 5, none⟩ = some (.int .i64 r.bot.2) ∧ w.cell? ⟨b, 6, none⟩ = some (.bool r.thr) := by
  have h' : w.heap[b]? = some (.cells (plCells v r y wt o).toArray 50) := h
  simp [World.cell?, h', plCells]
theorem PlAt.more (h : PlAt w b v r y wt o) : w.cell? ⟨b, 7, none⟩ = some (.int .i64 y) ∧ w.cell? ⟨b, 8, none⟩ = some (.int .i64 wt.1) ∧ w.cell? ⟨b, 9, none⟩ = some (.int .i64 wt.2) ∧ w.cell? ⟨b, 10, none⟩ = some (.bool o) := by
  have h' : w.heap[b]? = some (.cells (plCells v r y wt o).toArray 50) := h
  simp [World.cell?, h', plCells]
theorem PlAt.fro (h : PlAt w b v r y wt o) (j : Nat) : w.frozen? ⟨b, j, none⟩ = false := by
  have h' : w.heap[b]? = some (.cells (plCells v r y wt o).toArray 50) := h
  simp [World.frozen?, h']
theorem PlAt.set (h : PlAt w b v r y wt o) (j : Nat) (u : Value) (v' : Value) (r' : Sk) (y' : Int) (wt' : Mg) (o' : Bool) (e : (plCells v r y wt o).set j u = plCells v' r' y' wt' o') : PlAt (w.setCell ⟨b, j, none⟩ u) b v' r' y' wt' o' := by
  have h' : w.heap[b]? = some (.cells (plCells v r y wt o).toArray 50) := h
  unfold PlAt
  rw [← e]
  simp [World.setCell, Array.getElem?_modify, h']
end
/-- the pile, and its places -/
structure PIt (W : World) (p : Nat) (v : Value) (ats : List Int) (k : Sk) (y : Int) (wt : Mg) (o : Bool) : Prop where
  pile : PlAt W p v k y wt o
  own : ownsI14 W (p + 1) v ats
/-- nothing but a block, and younger ones, has turned; of those that are there nothing but that block -/
structure But (p : Nat) (W W' : World) : Prop where
  below : Below p W W'
  rest : ∀ b, b < W.heap.size → b ≠ p → W'.heap[b]? = W.heap[b]?
theorem But.refl (p : Nat) (W : World) : But p W W := ⟨Below.refl _ _, fun _ _ _ => rfl⟩
theorem But.trans {p : Nat} {W W' W2 : World} (h : But p W W') (h' : But p W' W2) : But p W W2 := ⟨h.below.trans h'.below, fun b hb hn => (h'.rest b (Nat.lt_of_lt_of_le hb h.below.size) hn).trans (h.rest b hb hn)⟩
theorem But.of {p : Nat} {W W' : World} (hp : p < W.heap.size) (h : Below W.heap.size W W') : But p W W' := ⟨h.mono (Nat.le_of_lt hp), fun b hb _ => h.block b hb⟩
theorem But.cell {p : Nat} {W W' : World} (h : But p W W') (j : Nat) (u : Value) : But p W (W'.setCell ⟨p, j, none⟩ u) :=
  ⟨h.below.setCell (Nat.le_refl _) _, fun b hb hn => by
    have := h.rest b hb hn
    have hpb : p ≠ b := fun e => hn e.symm
    simpa [World.setCell, Array.getElem?_modify, hpb] using this⟩
theorem KbAt.but {p : Nat} {W W' : World} {b : Nat} {k : Kd} (h : KbAt W b k) (hb : But p W W') (hn : b ≠ p) : KbAt W' b k := (hb.rest b h.lt hn).trans h
section
variable {W W' : World} {p : Nat} {v : Value} {ats : List Int} {k : Sk} {y : Int} {wt : Mg} {o : Bool}
theorem PIt.of (h : PIt W p v ats k y wt o) (hb : Below W.heap.size W W') : PIt W' p v ats k y wt o := ⟨h.pile.keep hb, h.own.keep hb⟩
theorem PIt.tell (h : PIt W p v ats k y wt o) (j : Nat) (u : Value) (k' : Sk) (y' : Int) (wt' : Mg) (o' : Bool) (e : (plCells v k y wt o).set j u = plCells v k' y' wt' o') : PIt (W.setCell ⟨p, j, none⟩ u) p v ats k' y' wt' o' :=
  ⟨h.pile.set j u v k' y' wt' o' e, own_set14 h.own (Nat.lt_succ_self _) _⟩
theorem PIt.put {v' : Value} (h : PIt W p v ats k y wt o) (z : Int) (hb : Below (p + 1) W W') (ho : ownsI14 W' (p + 1) v' (ats ++ [z])) : PIt (W'.setCell ⟨p, 0, none⟩ v') p v' (ats ++ [z]) k y wt o :=
  ⟨(h.pile.keepB hb (Nat.lt_succ_self _)).set 0 v' v' k y wt o rfl, own_set14 ho (Nat.lt_succ_self _) _⟩
end
def opM14 (l : List Mg) : OpB := ⟨fun v w => MgIn w v l, fun _ _ _ hb h => h.keep hb⟩
theorem pair14 (w : World) (a b : Mg) : MgIn (w.alloc (.cells #[.int .i64 a.1, .int .i64 a.2, .int .i64 b.1, .int .i64 b.2] 25)) (.slice (some ⟨w.heap.size, 0, none⟩) 2 2) [a, b] := mgs_new [a, b] (by simp) _

set_option maxRecDepth 100000 in
set_option maxHeartbeats 4000000 in
theorem pjoin14 {W : World} {p : Nat} {v : Value} {ats : List Int} {k : Sk} {y : Int} {wt : Mg} {o : Bool} (h : PIt W p v ats k y wt o) (m : Mg) :
    Calls Try.prog 35 #[.pointer (some ⟨p, 0, none⟩), mgV m] W fun e W' => e = .returned (.tuple #[]) ∧ PIt W' p v ats k y (mjoin wt m) o ∧ But p W W' := by
  have KJ := Lib.hid (fun X u (hX : MgIn X u [wt, m]) => join13_any [wt, m] u X hX (by simp))
  rw [joinM_two] at KJ
  have HP := Lib.hid h.pile.lt
  have B0 : Hid (Below W.heap.size W (W.alloc (.cells (mgCells m).toArray 25))) := Lib.hid ((Below.refl _ W).alloc (Nat.le_refl _) _)
  have G0 := Lib.hid (MgAt.new W m)
  have H1 := Lib.hid (h.of B0.out)
  clear h
  obtain ⟨mj, hm⟩ : ∃ mj, mjoin wt m = mj := ⟨_, rfl⟩
  rw [hm] at KJ ⊢
  clear hm
  obtain ⟨a1, a2⟩ := m
  obtain ⟨wa, wb⟩ := wt
  obtain ⟨j1, j2⟩ := mj
  unfold mgV at KJ ⊢
  unfold mgCells at G0 B0 H1
  dsimp only at KJ G0 B0 H1 ⊢
  go_enter Try.func35, Try.ntmps35
  go_upto_region 1 with fail
  replace G0 : Hid (MgAt (W.alloc (.cells #[.int .i64 a1, .int .i64 a2] 25)) W.heap.size (a1, a2)) := G0
  replace B0 : Hid (Below W.heap.size W (W.alloc (.cells #[.int .i64 a1, .int .i64 a2] 25))) := B0
  replace H1 : Hid (PIt (W.alloc (.cells #[.int .i64 a1, .int .i64 a2] 25)) p v ats k y (wa, wb) o) := H1
  generalize W.alloc (.cells #[.int .i64 a1, .int .i64 a2] 25) = w1 at G0 B0 H1 ⊢
  generalize W.heap.size = g at G0 ⊢
  have CC : Hid (∀ X, Below w1.heap.size w1 X → X.cell? ⟨p, 8, none⟩ = some (.int .i64 wa) ∧ X.cell? ⟨p, 9, none⟩ = some (.int .i64 wb) ∧ X.cell? ⟨g, 0, none⟩ = some (.int .i64 a1) ∧ X.cell? ⟨g, 1, none⟩ = some (.int .i64 a2)) := Lib.hid (fun X hX => by
    have h1 := (H1.out.of hX).pile.more
    have h2 := (G0.out.keep hX).cells
    exact ⟨h1.2.1, h1.2.2.1, h2.1, h2.2⟩)
  refine' wp_region_lastD [opV _, opV _, opV _, opV _, opV _, opV _, opM14 [(wa, wb), (a1, a2)], opV (.agg #[.int .i64 j1, .int .i64 j2]), opV _, opV _] 10 _ rfl (by kernel_rfl) rfl (by kernel_rfl) ⟨?s0, ?s1, ?s2, ?s3, ?s4, ?s5, ?s6, ?s7, ?s8, ?s9, trivial⟩ rfl ?fin
  case s0 =>
    refine BStep.of [] [] (opV _) (by kernel_rfl) (fun _ _ => by kernel_rfl) rfl ?_
    intro vs wv hB hA
    clear hA
    simp only [fillP]
    have c0 := (CC.out wv hB).1; have c1 := (CC.out wv hB).2.1; have d0 := (CC.out wv hB).2.2.1; have d1 := (CC.out wv hB).2.2.2; go_wp2_with fail
    refine postB_val ?_ (Below.refl _ _)
    simp only [List.getElem?_cons_succ, List.getElem?_cons_zero]
    rfl
  case s1 =>
    refine BStep.of [] [] (opV _) (by kernel_rfl) (fun _ _ => by kernel_rfl) rfl ?_
    intro vs wv hB hA
    clear hA
    simp only [fillP]
    have c0 := (CC.out wv hB).1; have c1 := (CC.out wv hB).2.1; have d0 := (CC.out wv hB).2.2.1; have d1 := (CC.out wv hB).2.2.2; go_wp2_with fail
    refine postB_val ?_ (Below.refl _ _)
    simp only [List.getElem?_cons_succ, List.getElem?_cons_zero]
    rfl
  case s2 =>
    refine BStep.of [1] [(5, 1)] (opV _) (by kernel_rfl) (fun _ _ => by kernel_rfl) rfl ?_
    intro vs wv hB hA
    have h1 : vs 1 = _ := hA.1
    clear hA
    simp only [fillP, List.setIfInBounds_toArray, List.set_cons_zero, List.set_cons_succ, h1]
    have c0 := (CC.out wv hB).1; have c1 := (CC.out wv hB).2.1; have d0 := (CC.out wv hB).2.2.1; have d1 := (CC.out wv hB).2.2.2; go_wp2_with fail
    refine postB_val ?_ (Below.refl _ _)
    simp only [List.getElem?_cons_succ, List.getElem?_cons_zero]
    rfl
  case s3 =>
    refine BStep.of [2] [(6, 2)] (opV _) (by kernel_rfl) (fun _ _ => by kernel_rfl) rfl ?_
    intro vs wv hB hA
    have h2 : vs 2 = _ := hA.1
    clear hA
    simp only [fillP, List.setIfInBounds_toArray, List.set_cons_zero, List.set_cons_succ, h2]
    have c0 := (CC.out wv hB).1; have c1 := (CC.out wv hB).2.1; have d0 := (CC.out wv hB).2.2.1; have d1 := (CC.out wv hB).2.2.2; go_wp2_with fail
    refine postB_val ?_ (Below.refl _ _)
    simp only [List.getElem?_cons_succ, List.getElem?_cons_zero]
    rfl
  case s4 =>
    refine BStep.of [3] [(7, 3)] (opV _) (by kernel_rfl) (fun _ _ => by kernel_rfl) rfl ?_
    intro vs wv hB hA
    have h3 : vs 3 = _ := hA.1
    clear hA
    simp only [fillP, List.setIfInBounds_toArray, List.set_cons_zero, List.set_cons_succ, h3]
    have c0 := (CC.out wv hB).1; have c1 := (CC.out wv hB).2.1; have d0 := (CC.out wv hB).2.2.1; have d1 := (CC.out wv hB).2.2.2; go_wp2_with fail
    refine postB_val ?_ (Below.refl _ _)
    simp only [List.getElem?_cons_succ, List.getElem?_cons_zero]
    rfl
  case s5 =>
    refine BStep.of [] [] (opV _) (by kernel_rfl) (fun _ _ => by kernel_rfl) rfl ?_
    intro vs wv hB hA
    clear hA
    simp only [fillP]
    have c0 := (CC.out wv hB).1; have c1 := (CC.out wv hB).2.1; have d0 := (CC.out wv hB).2.2.1; have d1 := (CC.out wv hB).2.2.2; go_wp2_with fail
    refine postB_val ?_ (Below.refl _ _)
    simp only [List.getElem?_cons_succ, List.getElem?_cons_zero]
    rfl
  case s6 =>
    refine BStep.of [4, 5] [(8, 4), (9, 5)] (opM14 [(wa, wb), (a1, a2)]) (by kernel_rfl) (fun _ _ => by kernel_rfl) rfl ?_
    intro vs wv hB hA
    have h4 : vs 4 = _ := hA.1
    have h5 : vs 5 = _ := hA.2.1
    clear hA
    simp only [fillP, List.setIfInBounds_toArray, List.set_cons_zero, List.set_cons_succ, h4, h5]
    go_wp2_with fail; exact postB_R rfl (pair14 wv (wa, wb) (a1, a2)) ((Below.refl _ _).alloc (Nat.le_refl _) _)
  case s7 =>
    refine BStep.of [6] [(10, 6)] (opV (.agg #[.int .i64 j1, .int .i64 j2])) (by kernel_rfl) (fun _ _ => by kernel_rfl) rfl ?_
    intro vs wv hB hA
    have h6 : MgIn wv (vs 6) [(wa, wb), (a1, a2)] := hA.1
    clear hA
    simp only [fillP, List.setIfInBounds_toArray, List.set_cons_zero, List.set_cons_succ]
    (go_wp2_with (go_at_call 15; (with_reducible refine (KJ.out _ _ h6).mono ?_); rintro e w7 ⟨rfl, hb⟩)); exact postB_val rfl hb
  case s8 =>
    refine BStep.of [0, 1, 2, 3, 4, 5, 6, 7] [(4, 0), (5, 1), (6, 2), (7, 3), (8, 4), (9, 5), (10, 6), (11, 7)] (opV _) (by kernel_rfl) (fun _ _ => by kernel_rfl) rfl ?_
    intro vs wv hB hA
    have h0 : vs 0 = _ := hA.1
    have h1 : vs 1 = _ := hA.2.1
    have h2 : vs 2 = _ := hA.2.2.1
    have h3 : vs 3 = _ := hA.2.2.2.1
    have h4 : vs 4 = _ := hA.2.2.2.2.1
    have h5 : vs 5 = _ := hA.2.2.2.2.2.1
    have h6 : MgIn wv (vs 6) [(wa, wb), (a1, a2)] := hA.2.2.2.2.2.2.1
    have h7 : vs 7 = _ := hA.2.2.2.2.2.2.2.1
    clear hA
    simp only [fillP, List.setIfInBounds_toArray, List.set_cons_zero, List.set_cons_succ, h0, h1, h2, h3, h4, h5, h7]
    have c0 := (CC.out wv hB).1; have c1 := (CC.out wv hB).2.1; have d0 := (CC.out wv hB).2.2.1; have d1 := (CC.out wv hB).2.2.2; go_wp2_with fail
    refine postB_val ?_ (Below.refl _ _)
    simp only [List.getElem?_cons_succ, List.getElem?_cons_zero]
    rfl
  case s9 =>
    refine BStep.of [0, 1, 2, 3, 4, 5, 6, 7, 8] [(4, 0), (5, 1), (6, 2), (7, 3), (8, 4), (9, 5), (10, 6), (11, 7), (12, 8)] (opV _) (by kernel_rfl) (fun _ _ => by kernel_rfl) rfl ?_
    intro vs wv hB hA
    have h0 : vs 0 = _ := hA.1
    have h1 : vs 1 = _ := hA.2.1
    have h2 : vs 2 = _ := hA.2.2.1
    have h3 : vs 3 = _ := hA.2.2.2.1
    have h4 : vs 4 = _ := hA.2.2.2.2.1
    have h5 : vs 5 = _ := hA.2.2.2.2.2.1
    have h6 : MgIn wv (vs 6) [(wa, wb), (a1, a2)] := hA.2.2.2.2.2.2.1
    have h7 : vs 7 = _ := hA.2.2.2.2.2.2.2.1
    have h8 : vs 8 = _ := hA.2.2.2.2.2.2.2.2.1
    clear hA
    simp only [fillP, List.setIfInBounds_toArray, List.set_cons_zero, List.set_cons_succ, h0, h1, h2, h3, h4, h5, h7, h8]
    have c0 := (CC.out wv hB).1; have c1 := (CC.out wv hB).2.1; have d0 := (CC.out wv hB).2.2.1; have d1 := (CC.out wv hB).2.2.2; go_wp2_with fail
    refine postB_val ?_ (Below.refl _ _)
    simp only [List.getElem?_cons_succ, List.getElem?_cons_zero]
    rfl
  case fin =>
    refine last_of [0, 1, 2, 3, 4, 5, 6, 7, 8, 9] [(4, 0), (5, 1), (6, 2), (7, 3), (8, 4), (9, 5), (10, 6), (11, 7), (12, 8), (13, 9)] (by kernel_rfl) (fun _ _ => by kernel_rfl) ?_
    intro vs wv hB hA
    have h0 : vs 0 = _ := hA.1
    have h1 : vs 1 = _ := hA.2.1
    have h2 : vs 2 = _ := hA.2.2.1
    have h3 : vs 3 = _ := hA.2.2.2.1
    have h4 : vs 4 = _ := hA.2.2.2.2.1
    have h5 : vs 5 = _ := hA.2.2.2.2.2.1
    have h6 : MgIn wv (vs 6) [(wa, wb), (a1, a2)] := hA.2.2.2.2.2.2.1
    have h7 : vs 7 = _ := hA.2.2.2.2.2.2.2.1
    have h8 : vs 8 = _ := hA.2.2.2.2.2.2.2.2.1
    have h9 : vs 9 = _ := hA.2.2.2.2.2.2.2.2.2.1
    clear hA
    simp only [fillP, List.setIfInBounds_toArray, List.set_cons_zero, List.set_cons_succ, h0, h1, h2, h3, h4, h5, h7, h8, h9]
    have G := Lib.hid (H1.out.of hB); have BF := Lib.hid (b_next B0.out hB); have f8 := G.out.pile.fro 8; have f9 := G.out.pile.fro 9; have m8 := G.out.pile.more.2.1; have m9 := G.out.pile.more.2.2.1; dsimp only at m8 m9; go_wp2_with fail; refine bodyPost_end (results_none rfl _ _ _) rfl ?_
    exact ⟨rfl, (G.out.tell 8 (.int .i64 j1) k y (j1, wb) o rfl).tell 9 (.int .i64 j2) k y (j1, j2) o rfl, ((But.of HP.out BF.out).cell 8 _).cell 9 _⟩

set_option maxRecDepth 100000 in
set_option maxHeartbeats 4000000 in
theorem pnext14 {W : World} {p : Nat} {v : Value} {ats : List Int} {k : Sk} {y : Int} {wt : Mg} {o : Bool} (h : PIt W p v ats k y wt o) (hy : -4611686018427387904 ≤ y ∧ y ≤ 4611686018427387904) (hw : MayM wt) :
    Calls Try.prog 36 #[.pointer (some ⟨p, 0, none⟩)] W fun e W' => e = .returned (.int .i64 (if o = true then y else y + wt.1 + wt.2)) ∧ Below W.heap.size W W' := by
  have H0 := Lib.hid h
  have ea := h.pile.more.2.2.2
  have eb := h.pile.more.1
  have KV := Lib.hid (fun X => value13_any wt X)
  clear h
  cases o with
  | true =>
    clear KV hw
    go_enter Try.func36, Try.ntmps36
    go_wp2_with fail
    go_ret
    exact ⟨rfl, Below.refl _ _⟩
  | false =>
    obtain ⟨wa, wb⟩ := wt
    have hw' := hw
    unfold MayM at hw'
    dsimp only at hw' ⊢
    have E : Hid (valueM (wa, wb) = wa + wb) := Lib.hid (by unfold valueM; exact IntWalk.i64_in _ (by dsimp only; omega))
    have e0 : (if false = true then y else y + wa + wb) = y + wa + wb := if_neg (by decide)
    rw [e0]
    clear e0
    obtain ⟨vv, hvv⟩ : ∃ vv, wa + wb = vv := ⟨_, rfl⟩
    have b1 : IntKind.i64.wrap (y + vv) = y + vv := IntWalk.i64_in _ (by omega)
    have E2 : Hid (y + wa + wb = y + vv) := Lib.hid (by rw [← hvv]; omega)
    rw [hvv] at E
    rw [E.out] at KV
    clear E hvv hw hw' hy
    unfold mgV at KV
    dsimp only at KV
    have CC : Hid (∀ X, Below W.heap.size W X → X.cell? ⟨p, 7, none⟩ = some (.int .i64 y) ∧ X.cell? ⟨p, 8, none⟩ = some (.int .i64 wa) ∧ X.cell? ⟨p, 9, none⟩ = some (.int .i64 wb)) := Lib.hid (fun X hX => by
      have h1 := (H0.out.of hX).pile.more
      exact ⟨h1.1, h1.2.1, h1.2.2.1⟩)
    clear H0 eb
    go_enter Try.func36, Try.ntmps36
    go_upto_region 3 with fail
    refine' wp_region_below [opV _, opV _, opV _, opV _, opV _, opV _, opV _, opV _, opV (.int .i64 vv), opV _, opV _] rfl (by kernel_rfl) ⟨?s0, ?s1, ?s2, ?s3, ?s4, ?s5, ?s6, ?s7, ?s8, ?s9, ?s10, trivial⟩ ?fin
    case s0 =>
      refine BStep.of [] [] (opV _) (by kernel_rfl) (fun _ _ => by kernel_rfl) rfl ?_
      intro vs wv hB hA
      clear hA
      simp only [fillP]
      have c0 := (CC.out wv hB).1; have c1 := (CC.out wv hB).2.1; have c2 := (CC.out wv hB).2.2; go_wp2_with fail
      refine postB_val ?_ (Below.refl _ _)
      simp only [List.getElem?_cons_succ, List.getElem?_cons_zero]
      rfl
    case s1 =>
      refine BStep.of [0] [(11, 0)] (opV _) (by kernel_rfl) (fun _ _ => by kernel_rfl) rfl ?_
      intro vs wv hB hA
      have h0 : vs 0 = _ := hA.1
      clear hA
      simp only [fillP, List.setIfInBounds_toArray, List.set_cons_zero, List.set_cons_succ, h0]
      have c0 := (CC.out wv hB).1; have c1 := (CC.out wv hB).2.1; have c2 := (CC.out wv hB).2.2; go_wp2_with fail
      refine postB_val ?_ (Below.refl _ _)
      simp only [List.getElem?_cons_succ, List.getElem?_cons_zero]
      rfl
    case s2 =>
      refine BStep.of [1] [(12, 1)] (opV _) (by kernel_rfl) (fun _ _ => by kernel_rfl) rfl ?_
      intro vs wv hB hA
      have h1 : vs 1 = _ := hA.1
      clear hA
      simp only [fillP, List.setIfInBounds_toArray, List.set_cons_zero, List.set_cons_succ, h1]
      have c0 := (CC.out wv hB).1; have c1 := (CC.out wv hB).2.1; have c2 := (CC.out wv hB).2.2; go_wp2_with fail
      refine postB_val ?_ (Below.refl _ _)
      simp only [List.getElem?_cons_succ, List.getElem?_cons_zero]
      rfl
    case s3 =>
      refine BStep.of [2] [(13, 2)] (opV _) (by kernel_rfl) (fun _ _ => by kernel_rfl) rfl ?_
      intro vs wv hB hA
      have h2 : vs 2 = _ := hA.1
      clear hA
      simp only [fillP, List.setIfInBounds_toArray, List.set_cons_zero, List.set_cons_succ, h2]
      have c0 := (CC.out wv hB).1; have c1 := (CC.out wv hB).2.1; have c2 := (CC.out wv hB).2.2; go_wp2_with fail
      refine postB_val ?_ (Below.refl _ _)
      simp only [List.getElem?_cons_succ, List.getElem?_cons_zero]
      rfl
    case s4 =>
      refine BStep.of [] [] (opV _) (by kernel_rfl) (fun _ _ => by kernel_rfl) rfl ?_
      intro vs wv hB hA
      clear hA
      simp only [fillP]
      have c0 := (CC.out wv hB).1; have c1 := (CC.out wv hB).2.1; have c2 := (CC.out wv hB).2.2; go_wp2_with fail
      refine postB_val ?_ (Below.refl _ _)
      simp only [List.getElem?_cons_succ, List.getElem?_cons_zero]
      rfl
    case s5 =>
      refine BStep.of [4] [(15, 4)] (opV _) (by kernel_rfl) (fun _ _ => by kernel_rfl) rfl ?_
      intro vs wv hB hA
      have h4 : vs 4 = _ := hA.1
      clear hA
      simp only [fillP, List.setIfInBounds_toArray, List.set_cons_zero, List.set_cons_succ, h4]
      have c0 := (CC.out wv hB).1; have c1 := (CC.out wv hB).2.1; have c2 := (CC.out wv hB).2.2; go_wp2_with fail
      refine postB_val ?_ (Below.refl _ _)
      simp only [List.getElem?_cons_succ, List.getElem?_cons_zero]
      rfl
    case s6 =>
      refine BStep.of [5] [(16, 5)] (opV _) (by kernel_rfl) (fun _ _ => by kernel_rfl) rfl ?_
      intro vs wv hB hA
      have h5 : vs 5 = _ := hA.1
      clear hA
      simp only [fillP, List.setIfInBounds_toArray, List.set_cons_zero, List.set_cons_succ, h5]
      have c0 := (CC.out wv hB).1; have c1 := (CC.out wv hB).2.1; have c2 := (CC.out wv hB).2.2; go_wp2_with fail
      refine postB_val ?_ (Below.refl _ _)
      simp only [List.getElem?_cons_succ, List.getElem?_cons_zero]
      rfl
    case s7 =>
      refine BStep.of [6] [(17, 6)] (opV _) (by kernel_rfl) (fun _ _ => by kernel_rfl) rfl ?_
      intro vs wv hB hA
      have h6 : vs 6 = _ := hA.1
      clear hA
      simp only [fillP, List.setIfInBounds_toArray, List.set_cons_zero, List.set_cons_succ, h6]
      have c0 := (CC.out wv hB).1; have c1 := (CC.out wv hB).2.1; have c2 := (CC.out wv hB).2.2; go_wp2_with fail
      refine postB_val ?_ (Below.refl _ _)
      simp only [List.getElem?_cons_succ, List.getElem?_cons_zero]
      rfl
    case s8 =>
      refine BStep.of [7] [(18, 7)] (opV (.int .i64 vv)) (by kernel_rfl) (fun _ _ => by kernel_rfl) rfl ?_
      intro vs wv hB hA
      have h7 : vs 7 = _ := hA.1
      clear hA
      simp only [fillP, List.setIfInBounds_toArray, List.set_cons_zero, List.set_cons_succ, h7]
      (go_wp2_with (go_at_call 16; (with_reducible refine (KV.out _).mono ?_); rintro e w7 ⟨rfl, hb⟩)); exact postB_val rfl hb
    case s9 =>
      refine BStep.of [3, 8] [(14, 3), (19, 8)] (opV _) (by kernel_rfl) (fun _ _ => by kernel_rfl) rfl ?_
      intro vs wv hB hA
      have h3 : vs 3 = _ := hA.1
      have h8 : vs 8 = _ := hA.2.1
      clear hA
      simp only [fillP, List.setIfInBounds_toArray, List.set_cons_zero, List.set_cons_succ, h3, h8]
      have c0 := (CC.out wv hB).1; have c1 := (CC.out wv hB).2.1; have c2 := (CC.out wv hB).2.2; go_wp2_with fail
      refine postB_val ?_ (Below.refl _ _)
      simp only [List.getElem?_cons_succ, List.getElem?_cons_zero]
      rfl
    case s10 =>
      refine BStep.of [0, 1, 2, 3, 4, 5, 6, 7, 8, 9] [(11, 0), (12, 1), (13, 2), (14, 3), (15, 4), (16, 5), (17, 6), (18, 7), (19, 8), (20, 9)] (opV _) (by kernel_rfl) (fun _ _ => by kernel_rfl) rfl ?_
      intro vs wv hB hA
      have h0 : vs 0 = _ := hA.1
      have h1 : vs 1 = _ := hA.2.1
      have h2 : vs 2 = _ := hA.2.2.1
      have h3 : vs 3 = _ := hA.2.2.2.1
      have h4 : vs 4 = _ := hA.2.2.2.2.1
      have h5 : vs 5 = _ := hA.2.2.2.2.2.1
      have h6 : vs 6 = _ := hA.2.2.2.2.2.2.1
      have h7 : vs 7 = _ := hA.2.2.2.2.2.2.2.1
      have h8 : vs 8 = _ := hA.2.2.2.2.2.2.2.2.1
      have h9 : vs 9 = _ := hA.2.2.2.2.2.2.2.2.2.1
      clear hA
      simp only [fillP, List.setIfInBounds_toArray, List.set_cons_zero, List.set_cons_succ, h0, h1, h2, h3, h4, h5, h6, h7, h8, h9]
      have c0 := (CC.out wv hB).1; have c1 := (CC.out wv hB).2.1; have c2 := (CC.out wv hB).2.2; go_wp2_with fail
      refine postB_val ?_ (Below.refl _ _)
      simp only [List.getElem?_cons_succ, List.getElem?_cons_zero]
      rfl
    case fin =>
      refine fin_of [0, 1, 2, 3, 4, 5, 6, 7, 8, 9, 10] [(11, 0), (12, 1), (13, 2), (14, 3), (15, 4), (16, 5), (17, 6), (18, 7), (19, 8), (20, 9), (2, 10)] (by kernel_rfl) (fun _ _ => by kernel_rfl) ?_
      intro vs wv hB hA
      have h0 : vs 0 = _ := hA.1
      have h1 : vs 1 = _ := hA.2.1
      have h2 : vs 2 = _ := hA.2.2.1
      have h3 : vs 3 = _ := hA.2.2.2.1
      have h4 : vs 4 = _ := hA.2.2.2.2.1
      have h5 : vs 5 = _ := hA.2.2.2.2.2.1
      have h6 : vs 6 = _ := hA.2.2.2.2.2.2.1
      have h7 : vs 7 = _ := hA.2.2.2.2.2.2.2.1
      have h8 : vs 8 = _ := hA.2.2.2.2.2.2.2.2.1
      have h9 : vs 9 = _ := hA.2.2.2.2.2.2.2.2.2.1
      have h10 : vs 10 = _ := hA.2.2.2.2.2.2.2.2.2.2.1
      clear hA
      simp only [fillP, List.setIfInBounds_toArray, List.set_cons_zero, List.set_cons_succ, h0, h1, h2, h3, h4, h5, h6, h7, h8, h9, h10]
      go_wp2_with fail; go_ret
      exact ⟨by rw [E2.out]; rfl, hB⟩

theorem own_lt14 {W : World} {B : Nat} {v : Value} {l : List Int} (h : ownsI14 W B v l) : ∀ k, v.ownBlock = some k → k < W.heap.size := by
  intro k hk
  rcases h.2 with ⟨rfl, _⟩ | ⟨g, cap, cur, rfl, hb, hw, rest⟩
  · cases hk
  · cases hk
    exact (Array.getElem?_eq_some_iff.1 hw).1
theorem wpList_append_p14 {w : World} {ops : Array Oper} {rest : List Oper} {o : Oper} {a : Act} {Q : Exit → Act → World → Prop} (hgd : o.guard = none) (s x : Operand)
    (ho : o.op = .call { callee := .builtin .append, args := #[s, x], argTypes := #[23, 23] })
    (base : Nat) (v : Value) (l : List Int) (hs : a.eval s = v) (hown : ownsI14 w base v l) (y : Int) (T : TypeId) (hx : a.eval x = .slice (some ⟨w.heap.size, 0, none⟩) 1 1)
    (hb : l.length ≤ 90000) (hbase : base ≤ w.heap.size)
    (h : ∀ v' w', ownsI14 w' base v' (l ++ [y]) → Below base w w' → (∀ k, k < w.heap.size → some k ≠ v.ownBlock → w'.heap[k]? = w.heap[k]?) → wpList Try.prog ops Q rest (a.put o.dst v') w') :
    wpList Try.prog ops Q (o :: rest) a (w.alloc (.cells #[.int .i64 y] T)) := by
  obtain ⟨i0, hi, hz0, hz1, hz2⟩ := info_parts10 Try.infoI14
  have ha : Below base w (w.alloc (.cells #[.int .i64 y] T)) := (Below.refl _ _).alloc hbase _
  have ha2 : Below w.heap.size w (w.alloc (.cells #[.int .i64 y] T)) := (Below.refl _ _).alloc (Nat.le_refl _) _
  have hown2 : (w.alloc (.cells #[.int .i64 y] T)).ownsRow base 3 1 v l.length (l.map (Value.int .i64)) := hown.alloc _
  refine wpList_append_own _ hgd s x 23 ho base 3 i0 (.int .i64 0) 1 8 Try.underlying23 hi hz0 hz1 hz2 rfl (by decide) v l.length _ hs hown2 ⟨w.heap.size, 0, none⟩ 1 1 [.int .i64 y] hx rfl (fun j u hj => ?_) (fun u hu => by simp at hu; subst hu; rfl) (by unfold maxLen; omega) (by omega) (by have := ha.size; omega) ?_
  · match j, hj with
    | 0, hj => simp at hj; subst hj; simp [Addr.add, World.cell?_alloc_at]
  · intro v' w' hown' hgrow _
    have ho2 : Below base (w.alloc (.cells #[.int .i64 y] T)) w' := (Below.refl base _).grown hgrow (by have := ha.size; omega) (fun k e => by
      rcases hown2.2 with ⟨rfl, _⟩ | ⟨g, cap, cur, rfl, hbg, _⟩
      · cases e
      · cases e; exact hbg)
    refine h v' w' ?_ (ha.trans ho2) (fun k hk e => (hgrow.block k (Nat.lt_of_lt_of_le hk ha.size) e).trans (ha2.block k hk))
    unfold ownsI14
    rw [List.map_append, List.length_append]
    exact hown'

set_option maxRecDepth 100000 in
set_option maxHeartbeats 4000000 in
theorem pput14 {W : World} {p : Nat} {v : Value} {ats : List Int} {s : St} {n : Int} (h : PIt W p v ats (tkS s) s.y s.wt s.out) (x : Kd) (hx : GoodK x) (hs : StB n s) (hn : n ≤ 4096) (hl : ats.length ≤ 90000) :
    Calls Try.prog 24 #[.pointer (some ⟨p, 0, none⟩), kdV x] W fun e W' => e = .returned (.tuple #[]) ∧ (∃ v', PIt W' p v' (ats ++ [atS s x]) (tkS (stepS s x)) (stepS s x).y (stepS s x).wt (stepS s x).out) ∧ Below p W W' := by
  have HP := Lib.hid h.pile.lt
  have HV := Lib.hid (own_lt14 h.own)
  have HL := Lib.hid hl
  have B0 : Hid (Below W.heap.size W (W.alloc (.cells (kdCells x).toArray 35))) := Lib.hid ((Below.refl _ W).alloc (Nat.le_refl _) _)
  have G0 := Lib.hid (KbAt.new W x)
  have H1 := Lib.hid (h.of B0.out)
  have ATB := Lib.hid (at_bd hs hx)
  have M1 := Lib.hid (mjoin_may hs.wt hx.t)
  have YB := Lib.hid hs.y
  have GX := Lib.hid hx.h
  have HN := Lib.hid hn
  clear h hx hs hl hn
  obtain ⟨at1, hat⟩ : ∃ z, atS s x = z := ⟨_, rfl⟩
  obtain ⟨s2, hst⟩ : ∃ z, stepS s x = z := ⟨_, rfl⟩
  rw [hat] at ATB
  have RS := Lib.hid hst
  have HA := Lib.hid hat
  rw [hat, hst]
  unfold stepS at RS
  rw [hat] at RS
  unfold atS at HA
  clear hat hst
  obtain ⟨⟨tu, td⟩, ⟨bu, bd⟩, hh, thr⟩ := x
  obtain ⟨y, ⟨wa, wb⟩, out, ⟨t1, t2⟩⟩ := s
  dsimp only [tkS] at RS HA M1 YB GX H1 ⊢
  obtain ⟨⟨m1, m2⟩, hm⟩ : ∃ m, mjoin (wa, wb) (tu, td) = m := ⟨_, rfl⟩
  rw [hm] at RS HA M1
  dsimp only at HA
  have HGP : Hid (W.heap.size ≠ p) := Lib.hid (by have := HP.out; omega)
  unfold kdV
  unfold kdCells at G0 B0 H1
  dsimp only at G0 B0 H1 ⊢
  go_enter Try.func24, Try.ntmps24
  go_upto_region 1 with fail
  replace G0 : Hid (KbAt (W.alloc (.cells #[.int .i64 tu, .int .i64 td, .int .i64 bu, .int .i64 bd, .int .i64 hh, .bool thr] 35)) W.heap.size ⟨(tu, td), (bu, bd), hh, thr⟩) := G0
  replace B0 : Hid (Below W.heap.size W (W.alloc (.cells #[.int .i64 tu, .int .i64 td, .int .i64 bu, .int .i64 bd, .int .i64 hh, .bool thr] 35))) := B0
  replace H1 : Hid (PIt (W.alloc (.cells #[.int .i64 tu, .int .i64 td, .int .i64 bu, .int .i64 bd, .int .i64 hh, .bool thr] 35)) p v ats ⟨[], 0, (t1, t2), mgZ, false⟩ y (wa, wb) out) := H1
  generalize W.alloc (.cells #[.int .i64 tu, .int .i64 td, .int .i64 bu, .int .i64 bd, .int .i64 hh, .bool thr] 35) = w1 at G0 B0 H1 ⊢
  have HVG : Hid (some W.heap.size ≠ v.ownBlock) := Lib.hid (fun e => Nat.lt_irrefl _ (HV.out _ e.symm))
  generalize hg : W.heap.size = g at G0 HGP HVG ⊢
  clear hg HV
  have K1 := Lib.hid (pjoin14 H1.out (tu, td))
  rw [hm] at K1
  unfold mgV at K1
  dsimp only at K1
  clear hm
  obtain ⟨a0, a1, a2, a3, a4, a5⟩ := G0.out.cells
  simp only [Nat.zero_add] at a0 a1 a2 a3 a4 a5
  go_upto_region 2 with (go_at_call 35; (with_reducible refine K1.out.mono ?_); rintro e w2 ⟨rfl, hI, hN⟩; have H2 := Lib.hid hI; have N2 := Lib.hid hN; clear hI hN)
  have G2 := Lib.hid (G0.out.but N2.out HGP.out)
  have L0 := Lib.hid G0.out.lt
  clear a0 a1 a2 a3 a4 a5 K1 G0 H1
  have K2 := Lib.hid (pnext14 H2.out (by have := YB.out; have := HN.out; omega) M1.out)
  dsimp only at K2
  rw [HA.out] at K2
  go_upto_region 3 with (go_at_call 36; (with_reducible refine K2.out.mono ?_); rintro e w3 ⟨rfl, hb⟩; have B3 := Lib.hid hb; clear hb)
  have H3 := Lib.hid (H2.out.of B3.out)
  have G3 := Lib.hid (G2.out.keep B3.out)
  have o0 := H3.out.pile.cells.1
  have P3 := Lib.hid H3.out.pile.lt
  clear K2
  go_upto_region 4 with ((with_reducible change wpList _ _ _ (Oper.mk (some 19) _ _ _ _ _ :: _) _ _); refine wpList_append_p14 rfl _ _ rfl (p + 1) _ ats rfl H3.out.own at1 _ rfl HL.out P3.out ?_; intro v5 w5 hO hB hR; obtain ⟨A9, n9, c9, rfl⟩ : ∃ A n c, v5 = Value.slice A n c := (by obtain ⟨A9, c9, e9, -, -, -⟩ := own_form hO; exact ⟨_, _, _, e9⟩); have O8 := Lib.hid hO; have B8 := Lib.hid hB; have R8 := Lib.hid hR; have y0 := (H3.out.pile.keepB hB (Nat.lt_succ_self _)).cells.1; have z0 := (H3.out.pile.keepB hB (Nat.lt_succ_self _)).fro 0; clear hO hB hR)
  have H4 := Lib.hid (H3.out.put at1 B8.out O8.out)
  have G4 : Hid (KbAt (w5.setCell ⟨p, 0, none⟩ (.slice A9 n9 c9)) g ⟨(tu, td), (bu, bd), hh, thr⟩) := Lib.hid (by
    have e : w5.heap[g]? = _ := (R8.out g G3.out.lt HVG.out).trans G3.out
    have e2 : p ≠ g := fun e => HGP.out e.symm
    unfold KbAt
    simpa [World.setCell, Array.getElem?_modify, e2] using e)
  have BB4 : Hid (Below p W (w5.setCell ⟨p, 0, none⟩ (.slice A9 n9 c9))) := Lib.hid (by
    have q1 := B0.out.mono (Nat.le_of_lt HP.out)
    have q2 := q1.trans N2.out.below
    have q3 := q2.trans (B3.out.mono (Nat.le_of_lt H2.out.pile.lt))
    have q4 := q3.trans (B8.out.mono (Nat.le_succ p))
    exact q4.setCell (Nat.le_refl _) _)
  clear y0 z0 B8 O8 R8 H3 G3 o0 P3 B3 G2 N2 H2 B0 HL L0
  generalize w5.setCell ⟨p, 0, none⟩ (.slice A9 n9 c9) = w6 at H4 G4 BB4 ⊢
  have HP6 := Lib.hid H4.out.pile.lt
  obtain ⟨a0, a1, a2, a3, a4, a5⟩ := G4.out.cells
  simp only [Nat.zero_add] at a0 a1 a2 a3 a4 a5
  have x10 := H4.out.pile.more.2.2.2
  cases thr with
  | true =>
    have K5 := Lib.hid (pjoin14 H4.out (bu, bd))
    have RE : Hid (s2 = ⟨y, mjoin (m1, m2) (bu, bd), out, (t1, t2)⟩) := Lib.hid (by have h := RS.out; simpa using h.symm)
    unfold mgV at K5
    dsimp only at K5
    clear RS
    go_wp2_with (go_at_call 35; (with_reducible refine K5.out.mono ?_); rintro e w7 ⟨rfl, hI, hN⟩; have H7 := Lib.hid hI; have N7 := Lib.hid hN; clear hI hN)
    refine bodyPost_ret (results_none rfl _ _ _) rfl ?_
    exact ⟨rfl, ⟨_, by rw [RE.out]; exact H7.out⟩, BB4.out.trans N7.out.below⟩
  | false =>
    have wz : IntKind.i64.wrap (at1 + hh) = at1 + hh := IntWalk.i64_in _ (by have := ATB.out; have := GX.out; have := HN.out; omega)
    obtain ⟨zz, hz⟩ : ∃ zz, at1 + hh = zz := ⟨_, rfl⟩
    replace wz := wz.trans hz
    rw [hz] at RS
    clear hz
    cases out with
    | true =>
      have RE : Hid (s2 = ⟨zz, (bu, bd), false, (m1, m2)⟩) := Lib.hid (by have h := RS.out; simpa using h.symm)
      have f2 := H4.out.pile.fro 2
      have f3 := H4.out.pile.fro 3
      have f10 := H4.out.pile.fro 10
      obtain ⟨-, -, o2, o3, -, -, -⟩ := H4.out.pile.cells
      obtain ⟨-, o8, o9, -⟩ := H4.out.pile.more
      dsimp only at o2 o3 o8 o9
      have H5 : Hid (PIt (((w6.setCell ⟨p, 2, none⟩ (.int .i64 m1)).setCell ⟨p, 3, none⟩ (.int .i64 m2)).setCell ⟨p, 10, none⟩ (.bool false)) p (.slice A9 n9 c9) (ats ++ [at1]) ⟨[], 0, (m1, m2), mgZ, false⟩ y (m1, m2) false) := Lib.hid (((H4.out.tell 2 (.int .i64 m1) ⟨[], 0, (m1, t2), mgZ, false⟩ y (m1, m2) true rfl).tell 3 (.int .i64 m2) ⟨[], 0, (m1, m2), mgZ, false⟩ y (m1, m2) true rfl).tell 10 (.bool false) ⟨[], 0, (m1, m2), mgZ, false⟩ y (m1, m2) false rfl)
      have N5 : Hid (But p w6 (((w6.setCell ⟨p, 2, none⟩ (.int .i64 m1)).setCell ⟨p, 3, none⟩ (.int .i64 m2)).setCell ⟨p, 10, none⟩ (.bool false))) := Lib.hid ((((But.refl p w6).cell 2 _).cell 3 _).cell 10 _)
      go_upto_region 8 with fail
      clear a0 a1 a2 a3 a4 a5 x10 f2 f3 f10 o2 o3 o8 o9
      generalize ((w6.setCell ⟨p, 2, none⟩ (.int .i64 m1)).setCell ⟨p, 3, none⟩ (.int .i64 m2)).setCell ⟨p, 10, none⟩ (.bool false) = w7 at H5 N5 ⊢
      have G7 := Lib.hid (G4.out.but N5.out HGP.out)
      obtain ⟨a0, a1, a2, a3, a4, a5⟩ := G7.out.cells
      simp only [Nat.zero_add] at a0 a1 a2 a3 a4 a5
      have o7 := H5.out.pile.more.1
      have o8 := H5.out.pile.more.2.1
      have o9 := H5.out.pile.more.2.2.1
      have f7 := H5.out.pile.fro 7
      have f8 := H5.out.pile.fro 8
      have f9 := H5.out.pile.fro 9
      dsimp only at o7 o8 o9
      have NE : p ≠ g := fun e => HGP.out e.symm
      have NE2 : g ≠ p := HGP.out
      have NB : (p == g) = false := by simpa using NE
      have H6 := Lib.hid (((H5.out.tell 7 (.int .i64 zz) ⟨[], 0, (m1, m2), mgZ, false⟩ zz (m1, m2) false rfl).tell 8 (.int .i64 bu) ⟨[], 0, (m1, m2), mgZ, false⟩ zz (bu, m2) false rfl).tell 9 (.int .i64 bd) ⟨[], 0, (m1, m2), mgZ, false⟩ zz (bu, bd) false rfl)
      have N6 := Lib.hid ((((N5.out.cell 7 (.int .i64 zz)).cell 8 (.int .i64 bu)).cell 9 (.int .i64 bd)))
      clear G7 H5 N5 RS G4 H4
      go_region
      all_goals (
        go_wp2_with fail
        refine bodyPost_end (results_none rfl _ _ _) rfl ?_
        exact ⟨rfl, ⟨_, by rw [RE.out]; first | exact H6.out | exact H6.out.of (Below.refl _ _).drew⟩, by first | exact BB4.out.trans N6.out.below | exact (BB4.out.trans N6.out.below).drew⟩)
    | false =>
      have RE : Hid (s2 = ⟨zz, (bu, bd), false, (t1, t2)⟩) := Lib.hid (by have h := RS.out; simpa using h.symm)
      have N5 := Lib.hid (But.refl p w6)
      have H5 := H4
      go_upto_region 8 with fail
      clear a0 a1 a2 a3 a4 a5 x10
      obtain ⟨w7, hw7⟩ : ∃ w7, w6 = w7 := ⟨_, rfl⟩
      rw [hw7] at H5 ⊢
      replace N5 : Hid (But p w6 w7) := by rw [← hw7]; exact N5
      clear hw7
      have G7 := Lib.hid (G4.out.but N5.out HGP.out)
      obtain ⟨a0, a1, a2, a3, a4, a5⟩ := G7.out.cells
      simp only [Nat.zero_add] at a0 a1 a2 a3 a4 a5
      have o7 := H5.out.pile.more.1
      have o8 := H5.out.pile.more.2.1
      have o9 := H5.out.pile.more.2.2.1
      have f7 := H5.out.pile.fro 7
      have f8 := H5.out.pile.fro 8
      have f9 := H5.out.pile.fro 9
      dsimp only at o7 o8 o9
      have NE : p ≠ g := fun e => HGP.out e.symm
      have NE2 : g ≠ p := HGP.out
      have NB : (p == g) = false := by simpa using NE
      have H6 := Lib.hid (((H5.out.tell 7 (.int .i64 zz) ⟨[], 0, (t1, t2), mgZ, false⟩ zz (m1, m2) false rfl).tell 8 (.int .i64 bu) ⟨[], 0, (t1, t2), mgZ, false⟩ zz (bu, m2) false rfl).tell 9 (.int .i64 bd) ⟨[], 0, (t1, t2), mgZ, false⟩ zz (bu, bd) false rfl)
      have N6 := Lib.hid ((((N5.out.cell 7 (.int .i64 zz)).cell 8 (.int .i64 bu)).cell 9 (.int .i64 bd)))
      clear G7 H5 N5 RS G4 H4
      go_region
      all_goals (
        go_wp2_with fail
        refine bodyPost_end (results_none rfl _ _ _) rfl ?_
        exact ⟨rfl, ⟨_, by rw [RE.out]; first | exact H6.out | exact H6.out.of (Below.refl _ _).drew⟩, by first | exact BB4.out.trans N6.out.below | exact (BB4.out.trans N6.out.below).drew⟩)
end Go.Proofs.Ytidbfkbeploagaa
