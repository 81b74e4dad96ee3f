/-
  The landed code's cursor over items: the cluster at it, the one that comes next.
-/
import Derived.Test.YtpfeiiabplaghaaCursor10
import Derived.Laws.Rows
namespace Go.Proofs.Ytpfeiiabplaghaa
open Go.RowKit Go.Shelf

theorem cluster_box {l : List It} {i : Nat} (h : kd l i = 3) : clusterT l i = i + 1 := by
  unfold clusterT
  rw [if_pos ⟨kd_lt (by omega), h⟩]
theorem cluster_words {l : List It} {i : Nat} (h : kd l i ≠ 3) : clusterT l i = wordsT l i := by
  unfold clusterT
  rw [if_neg (by omega)]
set_option maxRecDepth 100000 in
set_option maxHeartbeats 4000000 in
theorem cluster_any {W : World} {b c i : Nat} {A : Option Addr} {l : List It} (h : Cur W b A c l i) (hn : l.length ≤ 4096) (hw : Within l 1099511627776) (j : Nat) (hj : clusterT l i = j) (r : Bool) (hr : decide (i < j) = r) :
    Calls Try.prog 36 #[.pointer (some ⟨b, 0, none⟩)] W fun e w' => e = .returned (.bool r) ∧ Cur w' b A c l j ∧ W.grownBy w' (some b) := by
  have HR := Lib.hid hr
  by_cases h3 : kd l i = 3
  · have K := Lib.hid (step_any _ 3 onBox_ok h hn hw (by omega) true (by simpa using h3) _ rfl)
    have R : Hid (r = true) := Lib.hid (by
      rw [← hr, ← hj, cluster_box h3]
      simp)
    have J : Hid (j = i + 1) := Lib.hid (by rw [← hj, cluster_box h3])
    clear h hr hj h3 hw
    go_enter Try.func36, Try.ntmps36
    go_wp2_with (go_at_call 33; (with_reducible refine (K.out).mono ?_); rintro e w' ⟨rfl, hc, hg⟩)
    go_ret
    exact ⟨by rw [R.out]; rfl, by rw [J.out]; exact hc, hg⟩
  · have K := Lib.hid (step_any _ 3 onBox_ok h hn hw (by omega) false (by simpa using h3) _ rfl)
    have K2 := Lib.hid (fun W' (h' : Cur W' b A c l i) => pass_any _ 0 onWord_ok h' hn hw (by omega) j (by rw [passT_word, ← cluster_words h3, hj]))
    have hij : i ≤ j := by rw [← hj, cluster_words h3]; exact (words_facts l i).1
    clear h hj h3 hw
    cases r with
    | true =>
      have hz : (i : Int) < j := by have := HR.out; simp only [decide_eq_true_eq] at this; omega
      clear hr hij
      go_enter Try.func36, Try.ntmps36
      go_wp2_with (first | (go_at_call 33; (with_reducible refine (K.out).mono ?_); rintro e w' ⟨rfl, hc, hg⟩; have C1 := Lib.hid hc; have G1 := Lib.hid hg; have c1 := hc.c1; clear hc hg) | (go_at_call 30; (with_reducible refine (K2.out _ C1.out).mono ?_); rintro e w2 ⟨⟨v, rfl⟩, hc, hg⟩; have C2 := Lib.hid hc; have G2 := Lib.hid (G1.out.trans hg); have d1 := hc.c1; clear hc hg))
      go_ret
      exact ⟨rfl, C2.out, G2.out⟩
    | false =>
      have hz : ¬ (i : Int) < j := by have := HR.out; simp only [decide_eq_false_iff_not] at this; omega
      clear hr hij
      go_enter Try.func36, Try.ntmps36
      go_wp2_with (first | (go_at_call 33; (with_reducible refine (K.out).mono ?_); rintro e w' ⟨rfl, hc, hg⟩; have C1 := Lib.hid hc; have G1 := Lib.hid hg; have c1 := hc.c1; clear hc hg) | (go_at_call 30; (with_reducible refine (K2.out _ C1.out).mono ?_); rintro e w2 ⟨⟨v, rfl⟩, hc, hg⟩; have C2 := Lib.hid hc; have G2 := Lib.hid (G1.out.trans hg); have d1 := hc.c1; clear hc hg))
      go_ret
      exact ⟨by show Ending.returned (.bool (decide (i < j))) = _; rw [HR.out], C2.out, G2.out⟩

/-- a copy of a cursor in a new block -/
theorem Cur.fresh {W V : World} {b c i : Nat} {A : Option Addr} {l : List It} (h : Cur W b A c l i) (hg : W.grownBy V none)
    (hb : V.heap[W.heap.size]? = some (.cells #[.slice A l.length c, .int .i64 (i : Nat), .int .i64 (pre l i)] 56)) : Cur V W.heap.size A c l i :=
  ⟨hb, h.its.grown hg (fun _ _ _ _ e => by cases e), fun hl b' off e => by have := h.its.block_lt hl e; omega, h.le⟩
theorem grown_new {W V : World} {o : Obj} (hg : (W.alloc o).grownBy V (some W.heap.size)) : W.grownBy V none :=
  ⟨hg.os, hg.tape, hg.output, by have := hg.size; rw [World.size_alloc] at this; omega, fun k hk _ => (hg.block k (by rw [World.size_alloc]; omega) (fun e => by injection e with e; omega)).trans (((Below.refl _ W).alloc (Nat.le_refl _) o).block k hk)⟩
/-- a whole cursor stored -/
theorem Cur.put {W : World} {b c i : Nat} {A : Option Addr} {l : List It} (h : Cur W b A c l i) (j : Nat) (hj : j ≤ l.length) :
    Cur (((W.setCell ⟨b, 0, none⟩ (.slice A l.length c)).setCell ⟨b, 1, none⟩ (.int .i64 (j : Nat))).setCell ⟨b, 2, none⟩ (.int .i64 (pre l j))) b A c l j ∧
    W.grownBy (((W.setCell ⟨b, 0, none⟩ (.slice A l.length c)).setCell ⟨b, 1, none⟩ (.int .i64 (j : Nat))).setCell ⟨b, 2, none⟩ (.int .i64 (pre l j))) (some b) := by
  have g := ((grown_cell W b 0 (.slice A l.length c)).trans (grown_cell _ b 1 (.int .i64 (j : Nat)))).trans (grown_cell _ b 2 (.int .i64 (pre l j)))
  refine ⟨h.moved g hj ?_, g⟩
  have e := h.blk
  simp [World.setCell, Array.getElem?_modify, e]
theorem results_row_tmp10 {P : Program} {fn : Func} {p u : Tmp} {ty : TypeId} (h : fn.results = #[.cell p ty, .tmp u]) (tmps : Array Value) (w : World) (g : Nat) (t : TypeId) (cs : Array Value) (fr : Nat × Nat) (d : TypeDesc)
    (hp : tmps.getD p undef = .pointer (some ⟨g, 0, none⟩)) (hg : w.heap[g]? = some (.cells cs t fr))
    (hu : P.underlying ty = some d) (hd : (match d with | .struct _ | .array _ _ => true | _ => false) = true) (hi : (P.info? ty).map (·.size) = some cs.size) :
    (results fn tmps).run P w = .ok (.tuple #[.agg cs, tmps.getD u undef]) w := by
  rw [results_cell_tmp h, hp]
  simp [asAddr, run_loadVar_row w g t ty cs fr d hg hu hd hi, Result.andThen]
set_option maxRecDepth 100000 in
set_option maxHeartbeats 4000000 in
theorem next_any {W : World} {b c i : Nat} {A : Option Addr} {l : List It} (h : Cur W b A c l i) (hn : l.length ≤ 4096) (hw : Within l 1099511627776) (m j : Nat) (hm : behind l i = m) (hj : clusterT l m = j) (r : Bool) (hr : decide (m < j) = r) :
    Calls Try.prog 37 #[.pointer (some ⟨b, 0, none⟩)] W fun e w' => e = .returned (.tuple #[.agg #[.slice A l.length c, .int .i64 (j : Nat), .int .i64 (pre l j)], .bool r]) ∧ W.grownBy w' none := by
  have K1 := Lib.hid (fun V B (h' : Cur V B A c l i) => pass_any _ 1 onBlank_ok h' hn hw (by omega) m (by rw [passT_blank, hm]))
  have K2 := Lib.hid (fun V B (h' : Cur V B A c l m) => cluster_any h' hn hw j hj r hr)
  have H := Lib.hid h
  have c0 := h.c0
  have c1 := h.c1
  have c2 := h.c2
  have hb := h.lt
  have C0 : Hid (Cur (W.alloc (.cells #[.slice A l.length c, .int .i64 (i : Nat), .int .i64 (pre l i)] 56)) W.heap.size A c l i) := Lib.hid (h.fresh (World.grownBy_alloc W _ none) (heap_alloc_new W _))
  clear h hm hj hr hw
  go_enter Try.func37, Try.ntmps37
  go_wp2_with (first | (go_at_call 30; (with_reducible refine (K1.out _ _ C0.out).mono ?_); rintro e w1 ⟨⟨v, rfl⟩, hc, hg⟩; have C1 := Lib.hid hc; have G1 := Lib.hid hg; clear hc hg) | (go_at_call 36; (with_reducible refine (K2.out _ _ C1.out).mono ?_); rintro e w2 ⟨rfl, hc, hg⟩; have C2 := Lib.hid hc; have G2 := Lib.hid (G1.out.trans hg); have d0 := hc.c0; have d1 := hc.c1; have d2 := hc.c2; have f0 := hc.fro 0; have f1 := hc.fro 1; have f2 := hc.fro 2; clear hc hg))
  obtain ⟨P1, P2⟩ := C2.out.put j C2.out.le
  refine bodyPost_ret (results_row_tmp10 rfl _ _ W.heap.size _ _ _ _ rfl P1.blk Try.underlying56 rfl (by kernel_rfl)) rfl ?_
  exact ⟨rfl, grown_new (G2.out.trans P2)⟩
end Go.Proofs.Ytpfeiiabplaghaa
