/-
  The landed code: attempt and Apply of mutate.
-/
import Derived.Test.YtmodegkpfdlccaaMutC
import Derived.Recover
import Derived.Defers
import Derived.Tactics2
import Derived.RegionTactic
import Derived.Deep.RegionHeld
import Derived.Laws.EntriesVeiled
import Derived.Test.YtmodegkpfdlccaaMutDo
namespace Go.Proofs.Ytmodegkpfdlccaa

section
open Go.RowKit

theorem assert_errno (f : Int) (w : World) : (Instr.typeAssert (.iface 37 (.int .i64 f)) 20 37 false).run Try.prog w = .ok (.int .i64 f) w := by kernel_rfl
theorem catch_idle (qc qe : Nat) (w : World) :
    CallsD Try.prog 31 #[.pointer (some ⟨qc, 0, none⟩), .pointer (some ⟨qe, 0, none⟩)] .returning w fun e u' w' => e = .returned (.tuple #[]) ∧ u' = .returning ∧ w' = w := by
  refine callsD_of_wpS Try.func31 rfl fun c₀ cs hu => ?_
  apply wpS_seq
  apply wpS_region
  simp [wpOpsS, go_sem, recoverD, hu, Try.ntmps31, Exit.thenS]
  apply wpS_seq
  apply wpS_region
  simp [wpOpsS, go_sem, Exit.thenS]
  refine wpS_cond (t := false) (by simp [Act.eval, Array.replicate]) ?_
  simp only [Bool.false_eq_true, if_false]
  refine wpS_of_wp (wp_skip ?_)
  cases c₀
  simp_all [bodyPostS, results, Try.results31]

theorem catch_wrong (qc qe H : Nat) (a b v : Value) (f : Int) (w : World) (hc : DocBox w qc a b) (he : w.heap[qe]? = some (.cells #[v] 37 (0, 0))) (h1 : H ≤ qc) (h2 : H ≤ qe) (hne : qc ≠ qe) :
    CallsD Try.prog 31 #[.pointer (some ⟨qc, 0, none⟩), .pointer (some ⟨qe, 0, none⟩)] (.panicking [{ v := .iface 37 (.int .i64 f), recovered := false }]) w fun e u' w' =>
      e = .returned (.tuple #[]) ∧ u' = .panicking [{ v := .iface 37 (.int .i64 f), recovered := true }] ∧ DocBox w' qc (.slice none 0 0) (.int .i64 0) ∧ w'.heap[qe]? = some (.cells #[.int .i64 f] 37 (0, 0)) ∧ Below H w w' := by
  refine callsD_of_wpS Try.func31 rfl fun c₀ cs hu => ?_
  apply wpS_seq
  apply wpS_region
  simp [wpOpsS, go_sem, recoverD, hu, Try.ntmps31, Exit.thenS]
  apply wpS_seq
  apply wpS_region
  simp [wpOpsS, go_sem, Exit.thenS]
  refine wpS_cond (t := true) (by simp [Act.eval, Array.replicate]) ?_
  simp only [if_true]
  refine wpS_of_wp ?_
  have c0 := hc.c0
  have c1 := hc.c1
  have f0 := hc.f0
  have f1 := hc.f1
  have e0 : w.cell? ⟨qe, 0, none⟩ = some v := by simp [World.cell?, he]
  have e1 : w.frozen? ⟨qe, 0, none⟩ = false := by simp [World.frozen?, he]
  have g0 : ∀ u1 u2, ((w.setCell ⟨qc, 0, none⟩ u1).setCell ⟨qc, 1, none⟩ u2).cell? ⟨qe, 0, none⟩ = some v := fun u1 u2 => by
    rw [World.cell?_setCell_far _ _ _ _ hne, World.cell?_setCell_far _ _ _ _ hne]
    exact e0
  have hta := assert_errno f
  have D := Lib.hid hc
  have E := Lib.hid he
  have NE := Lib.hid hne
  clear hc he
  change Code.wp _ _ _ { tmps := #[.pointer (some ⟨qc, 0, none⟩), .pointer (some ⟨qe, 0, none⟩), .iface 37 (.int .i64 f), .iface 37 (.int .i64 f), .iface 37 (.int .i64 f), .bool true, undef, undef, undef], defers := [] } w
  go_region
  refine ⟨rfl, _, rfl, .tuple #[], by simp [results, Try.results31], rfl, rfl, ?_, ?_, ?_⟩
  · exact (((D.out.put (.slice none 0 0) (.int .i64 0)).set (fun e => NE.out e.symm) _).drew)
  · show (((w.setCell ⟨qc, 0, none⟩ (.slice none 0 0)).setCell ⟨qc, 1, none⟩ (.int .i64 0)).setCell ⟨qe, 0, none⟩ (.int .i64 f)).heap[qe]? = _
    have e2 : ((w.setCell ⟨qc, 0, none⟩ (.slice none 0 0)).setCell ⟨qc, 1, none⟩ (.int .i64 0)).heap[qe]? = some (.cells #[v] 37 (0, 0)) := by
      rw [heap_set _ (fun e => NE.out e.symm), heap_set _ (fun e => NE.out e.symm)]
      exact E.out
    simp only [World.setCell] at e2 ⊢
    rw [Array.getElem?_modify, if_pos rfl, e2]
    rfl
  · exact (((Below.refl H w).setCell (p := ⟨qc, 0, none⟩) h1 _).setCell (p := ⟨qc, 1, none⟩) h1 _).setCell (p := ⟨qe, 0, none⟩) h2 _ |>.drew
end

section
open Go.RowKit

theorem results_cells {fn : Func} {p q : Tmp} (h : fn.results = #[.cell p 24, .cell q 37]) (tmps : Array Value) (w : World) (g1 g2 : Nat) (cs : Array Value) (f : Int)
    (hp : tmps.getD p undef = .pointer (some ⟨g1, 0, none⟩)) (hg : w.heap[g1]? = some (.cells cs 24 (0, 0))) (hs : cs.size = 2)
    (hq : tmps.getD q undef = .pointer (some ⟨g2, 0, none⟩)) (he : w.heap[g2]? = some (.cells #[.int .i64 f] 37 (0, 0))) :
    (results fn tmps).run Try.prog w = .ok (.tuple #[.agg cs, .int .i64 f]) w := by
  have hr := run_loadVar_row (P := Try.prog) w g1 24 24 cs (0, 0) _ hg Try.underlying24 rfl (by rw [hs]; kernel_rfl)
  have hp' : tmps[p]?.getD undef = .pointer (some ⟨g1, 0, none⟩) := by simpa using hp
  have hq' : tmps[q]?.getD undef = .pointer (some ⟨g2, 0, none⟩) := by simpa using hq
  have ce : w.cell? ⟨g2, 0, none⟩ = some (.int .i64 f) := by simp [World.cell?, he]
  have h2 : (loadVar 37 ⟨g2, 0, none⟩).run Try.prog w = .ok (.int .i64 f) w := by
    simp [go_sem, ce]
  simp only [results, h]
  simp [Sem.run_bind, Result.andThen]
  rw [hp', hq']
  simp [asAddr, hr, h2]
theorem no_done {N : Nat → RN} {n : Nat} {x : Int} {g : RC} (hk : g.kind = 0 ∨ 6 ≤ g.kind) : doneN StyOK N n x g = .no 70 := by
  unfold doneN
  rw [if_neg (by omega)]
  cases findN N n g.key with
  | none => rfl
  | some a =>
    dsimp only
    rw [if_neg (by omega), if_neg (by omega), if_neg (by omega)]
theorem inner_any (A : Option Addr) (n c : Nat) (x : Int) (N : Nat → RN) (bd bc : Nat) (g : RC) (hg : g.ok) (w : World) (hd : DocBox w bd (.slice A n c) (.int .i64 x)) (hD : DocIn w A n c x N) (hc : ChBox w bc g) :
    Calls Try.prog 23 #[.pointer (some ⟨bd, 0, none⟩), .pointer (some ⟨bc, 0, none⟩)] w fun e w' => CloIs w (applyN StyOK N n x g) e w' ∧ Below w.heap.size w w' := by
  by_cases hm : MayD StyOK n x N
  · have hk := hg.kind
    by_cases h0 : g.kind = 0
    · exact do_zero A n c x N bd bc g hg hm h0 (no_done (.inl h0)) w hd hD hc
    by_cases h6 : 6 ≤ g.kind
    · exact do_great A n c x N bd bc g hg hm h6 (no_done (.inr h6)) w hd hD hc
    by_cases h1 : g.kind = 1
    · exact do_1 A n c x N bd bc g hg hm h1 (fun W d b q1 q2 q3 => clo1_any A n c x N d b g hg h1 W hm.shape q1 q2 q3) w hd hD hc
    by_cases h2 : g.kind = 2
    · exact do_2 A n c x N bd bc g hg hm h2 (fun W d b q1 q2 q3 => clo2_any A n c x N d b g hg h2 W hm.shape q1 q2 q3) w hd hD hc
    by_cases h3 : g.kind = 3
    · exact do_3 A n c x N bd bc g hg hm h3 (fun W d b q1 q2 q3 => clo3_any A n c x N d b g hg h3 W hm.shape q1 q2 q3) w hd hD hc
    by_cases h4 : g.kind = 4
    · exact do_4 A n c x N bd bc g hg hm h4 (fun W d b q1 q2 q3 => clo4_any A n c x N d b g hg h4 W hm.shape.most q1 q2 q3) w hd hD hc
    · exact do_5 A n c x N bd bc g hg hm (by omega) (fun W d b q1 q2 q3 => clo5_any A n c x N d b g hg (by omega) W hm.shape.most q1 q2 q3) w hd hD hc
  · exact do_bad A n c x N bd bc g hg hm w hd hD hc

set_option maxRecDepth 100000 in
set_option maxHeartbeats 1000000 in
theorem attempt_any (A : Option Addr) (n c : Nat) (x : Int) (N : Nat → RN) (bd bc : Nat) (g : RC) (hg : g.ok) (w : World) (hd : DocBox w bd (.slice A n c) (.int .i64 x)) (hD : DocIn w A n c x N) (hc : ChBox w bc g) :
    Calls Try.prog 22 #[.func (.func 23) #[] #[.pointer (some ⟨bd, 0, none⟩), .pointer (some ⟨bc, 0, none⟩)]] w fun e w' => Ans7 w w' e (applyN StyOK N n x g) ∧ Below w.heap.size w w' := by
  have hb0 : Below w.heap.size w ((w.alloc (.cells #[.slice none 0 0, .int .i64 0] 24)).alloc (.cells #[.int .i64 0] 37)) := ((Below.refl _ _).alloc (Nat.le_refl _) _).alloc (by simp) _
  have B0 := Lib.hid hb0
  have IN := Lib.hid (inner_any A n c x N bd bc g hg _ (hd.below hb0) (hD.below hb0) (hc.below hb0))
  have D0 : Hid (DocBox ((w.alloc (.cells #[.slice none 0 0, .int .i64 0] 24)).alloc (.cells #[.int .i64 0] 37)) w.heap.size (.slice none 0 0) (.int .i64 0)) := Lib.hid (heap_alloc2_old w _ _)
  have E0 : Hid (((w.alloc (.cells #[.slice none 0 0, .int .i64 0] 24)).alloc (.cells #[.int .i64 0] 37)).heap[w.heap.size + 1]? = some (.cells #[.int .i64 0] 37 (0, 0))) := Lib.hid (heap_alloc2_new w _ _)
  clear hd hD hc hg hb0
  have hmf : ∀ (fn : Fn) (first cap : Array Value) (w : World), (Instr.makeFunc fn first cap).run Try.prog w = .ok (.func fn first cap) w := fun _ _ _ _ => rfl
  generalize applyN StyOK N n x g = R at IN ⊢
  cases R with
  | no f =>
    go_enter_defers Try.func22, Try.ntmps22
    go_wp2_with (go_at_call 23; (with_reducible refine IN.out.mono ?_); rintro e w1 ⟨hr, hb⟩; have D1 := Lib.hid (D0.out.below hb); have B1 := Lib.hid (B0.out.trans (hb.mono B0.out.size)); have E1 := Lib.hid ((hb.block _ (Array.getElem?_eq_some_iff.1 E0.out).1).trans E0.out); unfold CloIs wrong at hr; subst hr; clear hb)
    refine leaves_cons (f := 31) (args := #[.pointer (some ⟨w.heap.size, 0, none⟩), .pointer (some ⟨w.heap.size + 1, 0, none⟩)]) (by simp) (by simp [go_sem]) ?_
    refine (catch_wrong _ _ w.heap.size _ _ _ f w1 D1.out E1.out (Nat.le_refl _) (by omega) (by omega)).mono ?_
    rintro e u' w2 ⟨rfl, rfl, h1, h2, h3⟩
    refine ⟨_, results_cells rfl _ _ w.heap.size (w.heap.size + 1) _ f rfl h1 rfl rfl h2, rfl, ?_⟩
    exact B1.out.trans h3
  | doc m y M =>
    go_enter_defers Try.func22, Try.ntmps22
    go_wp2_with (go_at_call 23; (with_reducible refine IN.out.mono ?_); rintro e w1 ⟨hr, hb⟩; have D1 := Lib.hid (D0.out.below hb); have B1 := Lib.hid (B0.out.trans (hb.mono B0.out.size)); have E1 := Lib.hid ((hb.block _ (Array.getElem?_eq_some_iff.1 E0.out).1).trans E0.out); obtain ⟨B, d, rfl, hn⟩ := hr; have DN := Lib.hid (hn.lower B0.out.size); have AP := Lib.hid (hn.apart (q := w.heap.size) (by first | (simp; done) | (simp; omega))); have AQ := Lib.hid (hn.apart (q := w.heap.size + 1) (by first | (simp; done) | (simp; omega))); have d0 := D1.out.c0; have d1 := D1.out.c1; have f0 := D1.out.f0; have f1 := D1.out.f1; have e0 : w1.cell? ⟨w.heap.size + 1, 0, none⟩ = some (.int .i64 0) := (by simp [World.cell?, E1.out]); have e1 : w1.frozen? ⟨w.heap.size + 1, 0, none⟩ = false := (by simp [World.frozen?, E1.out]); clear hb hn; unfold docV)
    have H1 : DocBox (((w1.setCell ⟨w.heap.size, 0, none⟩ (.slice B m d)).setCell ⟨w.heap.size, 1, none⟩ (.int .i64 y)).setCell ⟨w.heap.size + 1, 0, none⟩ (.int .i64 0)) w.heap.size (.slice B m d) (.int .i64 y) := (D1.out.put _ _).set (by show w.heap.size + 1 ≠ w.heap.size; omega) _
    have H2 : (((w1.setCell ⟨w.heap.size, 0, none⟩ (.slice B m d)).setCell ⟨w.heap.size, 1, none⟩ (.int .i64 y)).setCell ⟨w.heap.size + 1, 0, none⟩ (.int .i64 0)).heap[w.heap.size + 1]? = some (.cells #[.int .i64 0] 37 (0, 0)) := by
      have e2 : ((w1.setCell ⟨w.heap.size, 0, none⟩ (.slice B m d)).setCell ⟨w.heap.size, 1, none⟩ (.int .i64 y)).heap[w.heap.size + 1]? = some (.cells #[.int .i64 0] 37 (0, 0)) := by
        rw [heap_set _ (by show w.heap.size + 1 ≠ w.heap.size; omega), heap_set _ (by show w.heap.size + 1 ≠ w.heap.size; omega)]
        exact E1.out
      simp only [World.setCell] at e2 ⊢
      rw [Array.getElem?_modify, if_pos rfl, e2]
      rfl
    have H3 := ((DN.out.set 0 (.slice B m d) AP.out).set 1 (.int .i64 y) AP.out).set 0 (.int .i64 0) AQ.out
    have H4 : Below w.heap.size w (((w1.setCell ⟨w.heap.size, 0, none⟩ (.slice B m d)).setCell ⟨w.heap.size, 1, none⟩ (.int .i64 y)).setCell ⟨w.heap.size + 1, 0, none⟩ (.int .i64 0)) :=
      ((B1.out.setCell (p := ⟨w.heap.size, 0, none⟩) (Nat.le_refl _) _).setCell (p := ⟨w.heap.size, 1, none⟩) (Nat.le_refl _) _).setCell (p := ⟨w.heap.size + 1, 0, none⟩) (by show w.heap.size ≤ w.heap.size + 1; omega) _
    refine leaves_cons (f := 31) (args := #[.pointer (some ⟨w.heap.size, 0, none⟩), .pointer (some ⟨w.heap.size + 1, 0, none⟩)]) (by simp) (by simp [go_sem]) ?_
    refine (catch_idle _ _ _).mono ?_
    rintro e u' w2 ⟨rfl, rfl, rfl⟩
    exact ⟨_, results_cells rfl _ _ w.heap.size (w.heap.size + 1) _ 0 rfl H1 rfl rfl H2, ⟨B, d, rfl, H3.1, H3.2⟩, H4⟩

set_option maxRecDepth 100000 in
set_option maxHeartbeats 1000000 in
theorem apply_any : ApplyOK7 StyOK 10 := by
  intro A n c x N g w hD hg
  unfold docV changeV
  have hb0 : Below w.heap.size w (((w.alloc (.cells #[.slice A n c, .int .i64 x] 24)).alloc (.cells g.cells.toArray 34)).alloc (.cells #[.slice none 0 0, .int .i64 0] 24)) := (((Below.refl _ _).alloc (Nat.le_refl _) _).alloc (by simp) _).alloc (by simp only [World.size_alloc]; omega) _
  have B0 := Lib.hid hb0
  have DB : DocBox (((w.alloc (.cells #[.slice A n c, .int .i64 x] 24)).alloc (.cells g.cells.toArray 34)).alloc (.cells #[.slice none 0 0, .int .i64 0] 24)) w.heap.size (.slice A n c) (.int .i64 x) := ((docBox_new rfl).alloc _).alloc _
  have CB : ChBox (((w.alloc (.cells #[.slice A n c, .int .i64 x] 24)).alloc (.cells g.cells.toArray 34)).alloc (.cells #[.slice none 0 0, .int .i64 0] 24)) (w.heap.size + 1) g := ChBox.alloc (heap_alloc2_new _ _ _) _
  have D0 : Hid (DocBox (((w.alloc (.cells #[.slice A n c, .int .i64 x] 24)).alloc (.cells g.cells.toArray 34)).alloc (.cells #[.slice none 0 0, .int .i64 0] 24)) (w.heap.size + 1 + 1) (.slice none 0 0) (.int .i64 0)) := Lib.hid (heap_alloc3 _ _ _ _)
  have KA := Lib.hid (attempt_any A n c x N w.heap.size (w.heap.size + 1) g hg _ DB (hD.below hb0) CB)
  clear hb0 DB CB hD hg
  have hmf : ∀ (fn : Fn) (first cap : Array Value) (w : World), (Instr.makeFunc fn first cap).run Try.prog w = .ok (.func fn first cap) w := fun _ _ _ _ => rfl
  generalize applyN StyOK N n x g = R at KA ⊢
  generalize g.cells.toArray = X at B0 D0 KA ⊢
  go_enter Try.func10, Try.ntmps10
  cases R with
  | no f =>
    go_wp2_with (go_at_call 22; (with_reducible refine KA.out.mono ?_); rintro e w1 ⟨rfl, hb⟩; have D1 := Lib.hid (D0.out.below hb); have B1 := Lib.hid (B0.out.trans (hb.mono B0.out.size)); have d0 := D1.out.c0; have d1 := D1.out.c1; have f0 := D1.out.f0; have f1 := D1.out.f1; clear hb; unfold docV)
    refine bodyPost_ret (results_doc_tmp rfl _ _ (w.heap.size + 1 + 1) _ _ _ _ rfl (D1.out.put _ _) Try.underlying24 rfl (by kernel_rfl)) rfl ?_
    exact ⟨rfl, (B1.out.setCell (p := ⟨w.heap.size + 1 + 1, 0, none⟩) (by show w.heap.size ≤ w.heap.size + 1 + 1; omega) _).setCell (p := ⟨w.heap.size + 1 + 1, 1, none⟩) (by show w.heap.size ≤ w.heap.size + 1 + 1; omega) _⟩
  | doc m y M =>
    go_wp2_with (go_at_call 22; (with_reducible refine KA.out.mono ?_); rintro e w1 ⟨⟨B, d, rfl, hn1, hn2⟩, hb⟩; have DN : Hid (DocNew _ w1 B m d y M) := Lib.hid ⟨hn1, hn2⟩; have D1 := Lib.hid (D0.out.below hb); have B1 := Lib.hid (B0.out.trans (hb.mono B0.out.size)); have d0 := D1.out.c0; have d1 := D1.out.c1; have f0 := D1.out.f0; have f1 := D1.out.f1; clear hb hn1 hn2; unfold docV)
    have AP := DN.out.apart (q := w.heap.size + 1 + 1) D0.out.lt
    have H3 := ((DN.out.lower B0.out.size).set 0 (.slice B m d) AP).set 1 (.int .i64 y) AP
    refine bodyPost_ret (results_doc_tmp rfl _ _ (w.heap.size + 1 + 1) _ _ _ _ rfl (D1.out.put _ _) Try.underlying24 rfl (by kernel_rfl)) rfl ?_
    exact ⟨⟨B, d, rfl, H3.1, H3.2⟩, (B1.out.setCell (p := ⟨w.heap.size + 1 + 1, 0, none⟩) (by show w.heap.size ≤ w.heap.size + 1 + 1; omega) _).setCell (p := ⟨w.heap.size + 1 + 1, 1, none⟩) (by show w.heap.size ≤ w.heap.size + 1 + 1; omega) _⟩
end
end Go.Proofs.Ytmodegkpfdlccaa
