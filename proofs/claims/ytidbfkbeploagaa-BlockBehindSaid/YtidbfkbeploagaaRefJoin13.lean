/-
  The document's Join of chapter 13.
-/
import Derived.Test.YtidbfkbeploagaaRef13
import Derived.Deep.LoopGhost
import Derived.Deep.QuietTactic
import Derived.BigQuiet
namespace Go.Proofs.Ytidbfkbeploagaa
open Go.RowKit

theorem b_next {w0 W W' : World} (h : Below w0.heap.size w0 W) (hb : Below W.heap.size W W') : Below w0.heap.size w0 W' := h.trans (hb.mono h.size)
/-- a block holds a margin -/
def MgAt (W : World) (b : Nat) (a : Mg) : Prop := W.heap[b]? = some (.cells (mgCells a).toArray 25)
theorem MgAt.new (w : World) (a : Mg) : MgAt (w.alloc (.cells (mgCells a).toArray 25)) w.heap.size a := heap_alloc_new w _
theorem MgAt.lt {W : World} {b : Nat} {a : Mg} (h : MgAt W b a) : b < W.heap.size := (Array.getElem?_eq_some_iff.1 h).1
theorem MgAt.keep {W W' : World} {b : Nat} {a : Mg} (h : MgAt W b a) (hb : Below W.heap.size W W') : MgAt W' b a := (hb.block b h.lt).trans h
theorem MgAt.cells {W : World} {b : Nat} {a : Mg} (h : MgAt W b a) : W.cell? ⟨b, 0, none⟩ = some (.int .i64 a.1) ∧ W.cell? ⟨b, 1, none⟩ = some (.int .i64 a.2) := by
  have h' : W.heap[b]? = some (.cells (mgCells a).toArray 25) := h
  simp [World.cell?, h', mgCells]
theorem MgAt.fro {W : World} {b : Nat} {a : Mg} (h : MgAt W b a) (j : Nat) : W.frozen? ⟨b, j, none⟩ = false := by
  have h' : W.heap[b]? = some (.cells (mgCells a).toArray 25) := h
  simp [World.frozen?, h']
theorem MgAt.set {W : World} {b : Nat} {a : Mg} (h : MgAt W b a) (j : Nat) (v : Value) (a' : Mg) (e : (mgCells a).set j v = mgCells a') : MgAt (W.setCell ⟨b, j, none⟩ v) b a' := by
  have h' : W.heap[b]? = some (.cells (mgCells a).toArray 25) := h
  unfold MgAt
  rw [← e]
  simp [World.setCell, Array.getElem?_modify, h']
theorem MgAt.off {W : World} {b g j : Nat} {a : Mg} {v : Value} (h : MgAt W b a) (hn : g ≠ b) : MgAt (W.setCell ⟨g, j, none⟩ v) b a := by
  have h' : W.heap[b]? = some (.cells (mgCells a).toArray 25) := h
  unfold MgAt
  simp [World.setCell, Array.getElem?_modify, hn, h']
/-- a result of noughts, a margin behind it; nothing ahead of them has turned -/
structure M2 (w w' : World) (a : Mg) : Prop where
  below : Below w.heap.size w w'
  res : MgAt w' w.heap.size mgZ
  mine : MgAt w' (w.heap.size + 1) a
theorem M2.of {w w' w2 : World} {a : Mg} (h : M2 w w' a) (hb : Below w'.heap.size w' w2) : M2 w w2 a := ⟨h.below.trans (hb.mono h.below.size), h.res.keep hb, h.mine.keep hb⟩
theorem M2.set {w w' : World} {a : Mg} (h : M2 w w' a) (j : Nat) (v : Value) (a' : Mg) (e : (mgCells a).set j v = mgCells a') : M2 w (w'.setCell ⟨w.heap.size + 1, j, none⟩ v) a' :=
  ⟨h.below.setCell (by show w.heap.size ≤ w.heap.size + 1; omega) _, h.res.off (by omega), h.mine.set j v a' e⟩
theorem M2.done {w w' : World} {a : Mg} (h : M2 w w' a) : ((w'.setCell ⟨w.heap.size, 0, none⟩ (.int .i64 a.1)).setCell ⟨w.heap.size, 1, none⟩ (.int .i64 a.2)).heap[w.heap.size]? = some (.cells (mgCells a).toArray 25) ∧ Below w.heap.size w ((w'.setCell ⟨w.heap.size, 0, none⟩ (.int .i64 a.1)).setCell ⟨w.heap.size, 1, none⟩ (.int .i64 a.2)) := by
  refine ⟨(h.res.set 0 (.int .i64 a.1) (a.1, 0) rfl).set 1 (.int .i64 a.2) a rfl, (h.below.setCell (Nat.le_refl _) _).setCell (Nat.le_refl _) _⟩
theorem M2.new (w : World) (a : Mg) : M2 w ((w.alloc (.cells (mgCells mgZ).toArray 25)).alloc (.cells (mgCells a).toArray 25)) a := by
  have h1 : MgAt (w.alloc (.cells (mgCells mgZ).toArray 25)) w.heap.size mgZ := MgAt.new w mgZ
  refine ⟨((Below.refl _ w).alloc (Nat.le_refl _) _).alloc (by rw [World.size_alloc]; omega) _, h1.keep ((Below.refl _ _).alloc (Nat.le_refl _) _), ?_⟩
  have h2 := MgAt.new (w.alloc (.cells (mgCells mgZ).toArray 25)) a
  rwa [World.size_alloc] at h2
/-- the first of them, joined -/
def joinK (l : List Mg) (k : Nat) : Mg := joinM (l.take k)
theorem joinK_succ {l : List Mg} {k : Nat} (h0 : 0 < k) (hk : k < l.length) : joinK l (k + 1) = mjoin (joinK l k) (mu l k, md l k) := by
  unfold joinK mu md
  rw [mgAt_get hk, List.take_succ_eq_append_getElem hk]
  cases l with
  | nil => simp at hk
  | cons x l =>
    cases k with
    | zero => omega
    | succ k =>
      rw [List.take_succ_cons, List.cons_append]
      show (List.take k l ++ [(x :: l)[k + 1]]).foldl mjoin x = _
      rw [List.foldl_append]
      rfl
theorem joinK_one {l : List Mg} (h : 0 < l.length) : joinK l 1 = (mu l 0, md l 0) := by
  unfold joinK mu md
  rw [mgAt_get h]
  cases l with
  | nil => simp at h
  | cons x l => rfl

set_option maxRecDepth 100000 in
set_option maxHeartbeats 4000000 in
theorem refJoin_any13 : JoinOK 32 := by
  intro l v w hv hn
  have HV := Lib.hid hv
  obtain ⟨A, c, rfl, -, -⟩ := hv
  by_cases h0 : l.length = 0
  · obtain rfl : l = [] := List.length_eq_zero_iff.1 h0
    have D : Hid (Below w.heap.size w (w.alloc (.cells #[.int .i64 0, .int .i64 0] 25))) := Lib.hid ((Below.refl _ w).alloc (Nat.le_refl _) _)
    dsimp only [List.length_nil]
    clear hn h0 HV
    go_enter Try.func32, Try.ntmps32
    go_wp2_with fail
    refine bodyPost_ret (results_cell_row rfl _ _ w.heap.size _ _ _ _ rfl (heap_alloc_new w _) Try.underlying25 rfl (by kernel_rfl)) rfl ?_
    exact ⟨rfl, D.out⟩
  · obtain ⟨n, en⟩ : ∃ n, l.length = n := ⟨_, rfl⟩
    have EJ : Hid (joinM l = joinK l n) := Lib.hid (by unfold joinK; rw [← en, List.take_length])
    rw [EJ.out]
    have HN := Lib.hid en
    have J1 := Lib.hid (joinK_one (l := l) (by omega))
    have JS := Lib.hid (fun k (h : 0 < k) (hk : k < n) => joinK_succ (l := l) h (by omega))
    have hp : (0 : Int) < n := by omega
    have hne : ((n : Int) == 0) = false := by simp; omega
    have M0 := Lib.hid (M2.new w (mu l 0, md l 0))
    have B0 : Hid (Below w.heap.size w (w.alloc (.cells (mgCells mgZ).toArray 25))) := Lib.hid ((Below.refl _ w).alloc (Nat.le_refl _) _)
    obtain ⟨b, off, c', e, c0, c1⟩ := (HV.out.keep B0.out).get (i := 0) (by omega)
    injection e with e1 e2 e3
    subst e1 e3
    clear e2
    rw [Nat.zero_mul, Nat.add_zero] at c0 c1
    rw [en] at hn HV h0 ⊢
    rw [← J1.out] at M0
    have e0 : (joinK l 1).1 = mu l 0 ∧ (joinK l 1).2 = md l 0 := by rw [J1.out]; exact ⟨rfl, rfl⟩
    rw [← e0.1] at c0
    rw [← e0.2] at c1
    clear e0 J1 EJ en h0
    unfold mgCells mgZ at M0 B0 c0 c1
    dsimp only at M0 B0 c0 c1
    have hn1 : 1 ≤ n := by omega
    go_enter Try.func32, Try.ntmps32
    go_wp2_with fail
    clear c0 c1 B0
    go_loopg [4] n (fun g1 vi wr => ∃ k : Nat, vi = .int .i64 k ∧ 1 ≤ k ∧ k ≤ n ∧ n - k ≤ g1 ∧ Hid (M2 w wr (joinK l k)))
    case atStart => exact ⟨1, rfl, by omega, by omega, by omega, M0⟩
    case round =>
      obtain ⟨k, rfl, hk1, hk, hg1, HM⟩ := hrel
      obtain ⟨wo, hwo⟩ : ∃ wo, wo = wr := ⟨_, rfl⟩
      subst hwo
      clear M0
      by_cases hlt : k < n
      · have hz : (k : Int) < n := by omega
        have hz0 : (0 : Int) ≤ k := by omega
        have wi : IntKind.i64.wrap ((k : Int) + 1) = (k : Int) + 1 := IntWalk.i64_in _ (by omega)
        obtain ⟨c0, c1⟩ := (HV.out.keep HM.out.below).at_ (i := k) (by have := HN.out; omega)
        obtain ⟨m0, m1⟩ := HM.out.mine.cells
        have f0 := HM.out.mine.fro 0
        have f1 := HM.out.mine.fro 1
        have E := Lib.hid (JS.out k (by omega) hlt)
        unfold mjoin at E
        dsimp only at E
        generalize mu l k = z0 at c0 E
        generalize md l k = z1 at c1 E
        obtain ⟨⟨p, q⟩, hpq⟩ : ∃ m, joinK l k = m := ⟨_, rfl⟩
        rw [hpq] at E HM m0 m1
        dsimp only at E m0 m1
        clear hpq
        by_cases h1 : p < z0
        · by_cases h2 : z1 < q
          · have E' : Hid (joinK l (k + 1) = (z0, z1)) := Lib.hid (by rw [E.out, if_pos h1, if_pos h2])
            clear E
            go_wp2_with fail
            go_quiet (fail)
            go_wp2_with fail
            go_quiet (fail)
            go_wp2_with fail
            go_roundg (n - (k + 1))
            case measure => omega
            case rel => exact ⟨k + 1, by go_num, by omega, by omega, Nat.le_refl _, by rw [E'.out]; exact Lib.hid ((((HM.out.of (drewN_below _ _ _)).set 0 _ (z0, q) rfl).of (drewN_below _ _ _)).set 1 _ (z0, z1) rfl)⟩
          · have E' : Hid (joinK l (k + 1) = (z0, q)) := Lib.hid (by rw [E.out, if_pos h1, if_neg h2])
            have h2' : q ≤ z1 := by omega
            clear E
            go_wp2_with fail
            go_quiet (fail)
            go_wp2_with fail
            go_quiet (fail)
            go_wp2_with fail
            go_roundg (n - (k + 1))
            case measure => omega
            case rel => exact ⟨k + 1, by go_num, by omega, by omega, Nat.le_refl _, by rw [E'.out]; exact Lib.hid (((HM.out.of (drewN_below _ _ _)).set 0 _ (z0, q) rfl).of (drewN_below _ _ _))⟩
        · have h1' : z0 ≤ p := by omega
          by_cases h2 : z1 < q
          · have E' : Hid (joinK l (k + 1) = (p, z1)) := Lib.hid (by rw [E.out, if_neg h1, if_pos h2])
            clear E
            go_wp2_with fail
            go_quiet (fail)
            go_wp2_with fail
            go_quiet (fail)
            go_wp2_with fail
            go_roundg (n - (k + 1))
            case measure => omega
            case rel => exact ⟨k + 1, by go_num, by omega, by omega, Nat.le_refl _, by rw [E'.out]; exact Lib.hid ((HM.out.of (drewN_below _ _ _)).set 1 _ (p, z1) rfl)⟩
          · have E' : Hid (joinK l (k + 1) = (p, q)) := Lib.hid (by rw [E.out, if_neg h1, if_neg h2])
            have h2' : q ≤ z1 := by omega
            clear E
            go_wp2_with fail
            go_quiet (fail)
            go_wp2_with fail
            go_quiet (fail)
            go_wp2_with fail
            go_roundg (n - (k + 1))
            case measure => omega
            case rel => exact ⟨k + 1, by go_num, by omega, by omega, Nat.le_refl _, by rw [E'.out]; exact Lib.hid (HM.out.of (drewN_below _ _ _))⟩
      · obtain rfl : k = n := by omega
        have hz : ¬ (k : Int) < k := by omega
        obtain ⟨m0, m1⟩ := HM.out.mine.cells
        obtain ⟨r0, r1⟩ := HM.out.res.cells
        have f0 := HM.out.res.fro 0
        have f1 := HM.out.res.fro 1
        have D := Lib.hid HM.out.done
        obtain ⟨⟨p, q⟩, hpq⟩ : ∃ m, joinK l k = m := ⟨_, rfl⟩
        rw [hpq] at m0 m1 D
        have HP := Lib.hid hpq
        unfold mgCells at D
        dsimp only at m0 m1 D
        clear HM hpq
        go_wp2_with fail
        refine bodyPost_ret (results_cell_row rfl _ _ w.heap.size _ _ _ _ rfl D.out.1 Try.underlying25 rfl (by kernel_rfl)) rfl ?_
        exact ⟨by rw [HP.out]; rfl, D.out.2⟩
end Go.Proofs.Ytidbfkbeploagaa
