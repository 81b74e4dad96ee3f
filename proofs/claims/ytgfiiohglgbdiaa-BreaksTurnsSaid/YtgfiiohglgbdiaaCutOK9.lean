/-
  breaks.Cut: the pieces, in a row of the call's own.
-/
import Derived.Deep.AppendLies
import Derived.Test.YtgfiiohglgbdiaaCut9
namespace Go.Proofs.Ytgfiiohglgbdiaa
open Go.RowKit Go.Shelf
attribute [local go_sem] Oper.semAt_some
attribute [local go_sem] wide_fn

theorem setCell_same {W : World} {b o : Nat} {c : Array Value} {T : TypeId} {z : Nat × Nat} {u : Value} (h : W.heap[b]? = some (.cells c T z)) (hu : c[o]? = some u) : W.setCell ⟨b, o, none⟩ u = W := by
  unfold World.setCell
  have e : c.setIfInBounds o u = c := by
    apply Array.ext_getElem?
    intro i
    rw [Array.getElem?_setIfInBounds]
    by_cases hi : o = i
    · subst hi
      have hlt := (Array.getElem?_eq_some_iff.1 hu).1
      rw [if_pos rfl, if_pos hlt, hu]
    · simp [hi]
  congr 1
  apply Array.ext_getElem?
  intro i
  rw [Array.getElem?_modify]
  by_cases hi : b = i
  · subst hi
    simp [h, e]
  · simp [hi]
/-- where Cut's loop stands: its variable l, and the row -/
def CutAt (w : World) (d : List Pc) (X : World) : Prop := ∃ v, Boxed X w.heap.size 22 v ∧ ownsP X w.heap.size v d ∧ Below w.heap.size w X
/-- Cut's own blocks: its variable's, and the row's -/
def mineC (lb : Nat) (X : World) (k : Nat) : Prop := k = lb ∨ ∃ v, Boxed X lb 22 v ∧ v.ownBlock = some k
theorem boxed_uniq {X : World} {B : Nat} {t : TypeId} {v u : Value} (h : Boxed X B t v) (k : Boxed X B t u) : v = u := by
  have e := (show X.heap[B]? = _ from h).symm.trans k
  cases e
  rfl
theorem owns_cells {X : World} {base : Nat} {v : Value} {d : List Pc} (h : ownsP X base v d) {k : Nat} (hk : v.ownBlock = some k) : ∃ c fz, X.heap[k]? = some (.cells c 26 fz) := by
  rcases h.2 with ⟨rfl, _⟩ | ⟨g, cap, cur, rfl, _, hg, _⟩
  · cases hk
  · cases hk
    exact ⟨_, _, hg⟩
theorem CutAt.own {w : World} {B : Nat} (hB : w.heap.size ≤ B) : OwnFrom B (CutAt w) := fun _ X Y row ⟨v, h1, h2, h3⟩ hg hr => by
  have ne : ∀ (k : Nat) (c : Array Value) (T : TypeId) (fz : Nat × Nat), X.heap[k]? = some (.cells c T fz) → some k ≠ row := fun k c T fz hk e => by
    obtain ⟨o, q1, q2⟩ := (hr k e.symm).2
    rw [hk] at q1
    cases q1
    cases q2
  refine ⟨v, h1.kept hg (ne _ _ _ _ h1), World.ownsRow.kept h2 hg ?_, h3.grown hg h3.size (fun k e => Nat.le_trans hB (hr k e).1)⟩
  cases hv : v.ownBlock with
  | none => exact .inl rfl
  | some g =>
    obtain ⟨c, fz, hc⟩ := owns_cells h2 hv
    exact .inr (ne g _ _ _ hc)
theorem mineC_ok {w : World} {H : Nat} : MineOK 5 (CutAt w) (mineC w.heap.size) H :=
  ⟨fun {pre W k} ⟨v, h1, h2, _⟩ hm => by
    rcases hm with rfl | ⟨u, q1, q2⟩
    · exact ⟨_, h1, rfl⟩
    · obtain rfl := boxed_uniq h1 q1
      obtain ⟨c, fz, hc⟩ := owns_cells h2 q2
      exact ⟨_, hc, rfl⟩,
  fun {pre W W' row} ⟨v, h1, h2, _⟩ hg hr k _ _ hm => by
    rcases hm with e | ⟨u, q1, q2⟩
    · exact .inl e
    · refine .inr ⟨v, h1, ?_⟩
      have h1' : Boxed W' w.heap.size 22 v := h1.kept hg (fun e => by
        obtain ⟨o, e1, e2⟩ := (hr _ e.symm).2
        rw [show W.heap[w.heap.size]? = _ from h1] at e1
        cases e1
        cases e2)
      rw [boxed_uniq h1' q1]
      exact q2,
  fun {pre W} c T z ⟨v, h1, h2, _⟩ _ hm => by
    rcases hm with e | ⟨u, q1, q2⟩
    · have := h1.lt
      omega
    · obtain rfl := boxed_uniq (h1.alloc _) q1
      obtain ⟨c, fz, hc⟩ := owns_cells h2 q2
      have := (Array.getElem?_eq_some_iff.1 hc).1
      omega⟩
theorem wpListIn_append_pc {F : Fence} {n : Nat} {w : World} {ops : Array Oper} {rest : List Oper} {o : Oper} {a : Act} {Q : Exit → Act → World → Prop} (hg : o.guard = none) (s x : Operand)
    (hop : o.op = .call { callee := .builtin .append, args := #[s, x], argTypes := #[22, 22] })
    (base : Nat) (v : Value) (ps : List Pc) (hs : a.eval s = v) (hown : ownsP w base v ps) (p : Pc) (ad : Addr) (hx : a.eval x = .slice (some ad) 1 1) (hc : ∀ j u, (cellsP [p])[j]? = some u → w.cell? (ad.add j) = some u)
    (hb : ps.length ≤ 100000) (hbase : base ≤ w.heap.size)
    (hK : ∀ g cap w', ownsP w' base (.slice (some ⟨g, 0, none⟩) (ps.length + 1) cap) (ps ++ [p]) → w.grownBy w' v.ownBlock → (v.ownBlock = some g ∨ g = w.heap.size) → g < w'.heap.size → wpListIn F n Try.prog ops Q rest (a.put o.dst (.slice (some ⟨g, 0, none⟩) (ps.length + 1) cap)) w') :
    wpListIn F n Try.prog ops Q (o :: rest) a w := by
  obtain ⟨i0, hi, hz0, hz1, hz2⟩ := info_parts9 Try.infoPc
  obtain ⟨g, cap, w', hrun, r1, r2, r3, r4⟩ := run_append_lies (P := Try.prog) w 22 o.type base 26 i0 _ 2 24 Try.underlying22 hi hz0 hz1 hz2 rfl (by decide) v ps.length _ hown ad 1 1 (cellsP [p]) (cellsP_len [p]) hc (cellsP_one [p]) (by decide) (by unfold maxLen; omega) (by omega) hbase _ rfl
  refine wpListIn_plain hg fun K hK' => ?_
  unfold Oper.wpIn
  refine ⟨?_, ?_⟩
  · simp [Oper.about, hop, resolve, Target.leads, Sem.run_pure]
  · rw [Oper.semAt_plain F _ _ (by rw [hop]; intro c hc'; cases hc')]
    simp [execOp, hop, resolve, invoke, builtin, hs, hx, hrun, Result.andThen]
    exact hK' _ _ (hK g cap w' (by unfold ownsP; rw [cellsP_append, List.length_append]; exact r1) r2 r3 r4)
theorem cut_keeps {X X1 : World} {tmp : Obj} {lb H g cap : Nat} {sbs : List Nat} {v : Value} {n : Nat} (h1 : Boxed X lb 22 v) (hg : (X.alloc tmp).grownBy X1 v.ownBlock) (hl : v.ownBlock = some g ∨ g = (X.alloc tmp).heap.size)
    (hv : Boxed (X1.setCell ⟨lb, 0, none⟩ (.slice (some ⟨g, 0, none⟩) n cap)) lb 22 (.slice (some ⟨g, 0, none⟩) n cap)) :
    Keeps (mineC lb) H sbs X (X1.setCell ⟨lb, 0, none⟩ (.slice (some ⟨g, 0, none⟩) n cap)) := by
  have hs : X.heap.size + 1 ≤ X1.heap.size := by have := hg.size; rw [World.size_alloc] at this; exact this
  refine ⟨by rw [World.size_setCell]; omega, fun k _ hk hm => ⟨?_, ?_⟩⟩
  · rw [Below.heap_setCell _ _ _ _ (show k ≠ lb from fun e => hm (.inl e)), hg.block k (by rw [World.size_alloc]; omega) (fun e => hm (.inr ⟨v, h1, e.symm⟩)), Below.heap_alloc _ _ _ hk]
  · rintro (e | ⟨u, q1, q2⟩)
    · exact hm (.inl e)
    · obtain rfl := boxed_uniq hv q1
      have e : g = k := by simpa [Value.ownBlock] using q2
      subst e
      rcases hl with hl | hl
      · exact hm (.inr ⟨v, h1, hl⟩)
      · rw [World.size_alloc] at hl; omega

set_option maxRecDepth 100000 in
set_option maxHeartbeats 8000000 in
theorem cut_ok : CutOK 9 := by
  intro s ws w hs _
  have CL := cutP_len ws s.data.toList
  have SZ : s.data.toList.length = s.size := by simp
  have PL := Lib.hid (fun p (hp : p ∈ cutP ws s.data.toList) => piece_len hp)
  refine (callsIn_wide (n := 6)).1 ?_
  refine callsIn_of_wp_marks Try.func9 rfl trivial ?_ rfl
  simp only [Try.ntmps9, List.size_toArray, List.length_cons, List.length_nil, Nat.reduceAdd, Nat.reduceSub, Array.replicate_succ, Array.replicate_zero, List.push_toArray, List.append_toArray, List.nil_append, List.cons_append]
  have K := Lib.hid (fun W => pieces_any s ws W hs)
  gi_wp2_with (gi_at_call 16; (with_reducible refine (callsIn_wide.2 (K.out _)).mono ?_); rintro e W0 ⟨gf, lb, sbs, rfl, P⟩)
  have hz : (w.alloc (.cells #[.slice none 0 0] 22)).heap.size = w.heap.size + 1 := by rw [World.size_alloc]
  have hB0 : Below w.heap.size w W0 := ((Below.refl _ w).alloc (Nat.le_refl _) _).trans (P.below.mono (by omega))
  have hX0 : Boxed W0 w.heap.size 22 (.slice none 0 0) := (P.below.block w.heap.size (by omega)).trans (Boxed.new w _ _)
  have ST := Lib.hid (show CutAt w [] W0 from ⟨_, hX0, ownsP.nil _ _, hB0⟩)
  have hsm : ∀ k ∈ sbs, ¬ mineC w.heap.size W0 k := fun k hk hm => by
    have := (P.sbs k hk).1
    rcases hm with e | ⟨u, q1, q2⟩
    · omega
    · obtain rfl := boxed_uniq hX0 q1
      cases q2
  have hz0 : w.heap.size + 1 ≤ W0.heap.size := by have := P.below.size; omega
  refine wpIn_tells (k := 3) (u8 := 5) (w := W0) (w0 := W0) (gf := gf) (lb := lb) rfl P.enters P.tell (Below.refl _ _) (fun k hk => (P.sbs k hk).2.1) (fun _ => rfl)
    (CutAt w) (mineC w.heap.size) (CutAt.own (by omega)) mineC_ok hsm ST.out
    (fun pre x a' X => CutAt w pre X ∧ ∃ Bp, ¬ mineC w.heap.size X Bp ∧ X.heap[Bp]? = some (.cells #[.int .u8 (x.1 : Nat), .string ⟨x.2.toArray⟩] 26 (0, 0)) ∧ a' = { tmps := #[.string s, .int .u8 ws, undef, undef, .slice none 0 0, .pointer (some ⟨w.heap.size, 0, none⟩), .pointer (some ⟨Bp, 0, none⟩), .string s, .int .u8 ws, .func (.func gf) #[] lb, .agg #[.int .u8 (x.1 : Nat), .string ⟨x.2.toArray⟩], undef, undef, undef, undef, undef, undef, undef, undef, undef], defers := [] })
    (fun pre x a' => ?ax) ?assign ?body ?done
  case ax =>
    rintro _ A C row ⟨h0, Bp, h1, h2, h3⟩ hg hr
    have he : C.heap[Bp]? = A.heap[Bp]? := hg.block Bp (Array.getElem?_eq_some_iff.1 h2).1 (fun e => by
      obtain ⟨o, q1, q2⟩ := (hr Bp e.symm).2
      rw [h2] at q1
      cases q1
      cases q2)
    exact ⟨CutAt.own (B := W0.heap.size) (by omega) _ _ _ _ h0 hg hr, Bp, fun hm => h1 (mineC_ok.stay h0 hg hr (Array.getElem?_eq_some_iff.1 h2).1 he hm), he.trans h2, h3⟩
  case assign =>
    intro l' pre x X K hi hpre hK
    have hi2 := (CutAt.own (Nat.le_refl _)).alloc (.cells #[.int .u8 (x.1 : Nat), .string ⟨x.2.toArray⟩] 26) hi
    have KK := hK _ _ (keeps_new (mineC_ok (H := W0.heap.size)) hi (grown_alloc9 X (.cells #[.int .u8 (x.1 : Nat), .string ⟨x.2.toArray⟩] 26))) hi2 ⟨hi2, X.heap.size, (mineC_ok (H := 0)).fresh _ _ _ hi (by decide), World.alloc_heap_new X _, rfl⟩
    dsimp only [encP]
    gi_wp2
    simpa using KK
  case body =>
    rintro l' pre ⟨k, t⟩ a' X hl - ⟨hi, Bp, hnm, hp, rfl⟩ hpre
    have TL : t.length ≤ 8192 := by have := PL.out _ (prefix_mem hpre); dsimp only at this; omega
    have DL : pre.length ≤ 8192 := by
      have := hpre.length_le
      rw [List.length_append] at this
      omega
    obtain ⟨v, hv, ho, hb⟩ := hi
    have c0 : X.cell? ⟨Bp, 0, none⟩ = some (.int .u8 (k : Nat)) := by simp [World.cell?, hp]
    have c1 : X.cell? ⟨Bp, 1, none⟩ = some (.string ⟨t.toArray⟩) := by simp [World.cell?, hp]
    have KC := Lib.hid (clone_any ⟨t.toArray⟩ X (by simp [ByteArray.size]; omega))
    have HV := Lib.hid hv
    have HO := Lib.hid ho
    have HB := Lib.hid hb
    have HN := Lib.hid hnm
    have HP := Lib.hid hp
    clear hpre hv ho hb hnm hp
    gi_wp2_with (first
      | (gi_at_call 17; (with_reducible refine (CallsIn.inRound l' (callsIn_wide.2 KC.out)).mono ?_); rintro e X1 ⟨rfl, hC⟩; clear KC c0 c1; have hg1 := grown_below9 hC; have hp1 : X1.heap[Bp]? = some (.cells #[.int .u8 (k : Nat), .string ⟨t.toArray⟩] 26 (0, 0)) := (hC.block Bp (Array.getElem?_eq_some_iff.1 HP.out).1).trans HP.out; have c0 : X1.cell? ⟨Bp, 0, none⟩ = some (.int .u8 (k : Nat)) := (by simp [World.cell?, hp1]); have c1 : X1.cell? ⟨Bp, 1, none⟩ = some (.string ⟨t.toArray⟩) := (by simp [World.cell?, hp1]); have f1 : X1.frozen? ⟨Bp, 1, none⟩ = false := (by simp [World.frozen?, hp1]); have hset : X1.setCell ⟨Bp, 1, none⟩ (.string ⟨t.toArray⟩) = X1 := setCell_same hp1 rfl; have V1 := Lib.hid (HV.out.kept hg1 (fun e => by cases e)); have cv := V1.out.cell; have C1 := Lib.hid hC; have hXs : w.heap.size ≤ X1.heap.size := Nat.le_trans HB.out.size hC.size; have O1 := Lib.hid (show ownsP X1 w.heap.size v pre from HO.out.keep hC); have O2 := Lib.hid (show ownsP (X1.alloc (.cells #[.int .u8 (k : Nat), .string ⟨t.toArray⟩] 26)) w.heap.size v pre from O1.out.keep ((Below.refl _ X1).alloc (Nat.le_refl _) _)); clear hC hg1 hp1)
      | (gi_at_builtin; (with_reducible change wpListIn _ _ _ _ _ (Oper.mk (some 18) _ _ _ _ _ :: _) _ _); refine wpListIn_append_pc rfl _ _ rfl w.heap.size v pre rfl O2.out (k, t) ⟨X1.heap.size, 0, none⟩ rfl (fun j u h => pc_cells (k, t) j u h) (by omega) (by rw [World.size_alloc]; omega) ?_; intro g cap w2 hown' hgrow hlies hlt; obtain ⟨hv1, hv2, hr2, hk2, hb2⟩ := Boxed.appended V1.out (by decide) O1.out hXs (Nat.le_refl _) hown' hgrow; have CK := Lib.hid (cut_keeps (H := W0.heap.size) (sbs := sbs) V1.out hgrow hlies hv2); have hc1 := hv1.cell; have hf1 := hv1.frozen; have V2 := Lib.hid hv2; have R2 := Lib.hid hr2; have B2 := Lib.hid hb2; clear hv1 hv2 hr2 hk2 hb2 hown' hgrow hlies hlt))
    have hi : CutAt w pre X := ⟨v, HV.out, HO.out, HB.out⟩
    have hb1 : Below w.heap.size w X1 := HB.out.trans (C1.out.mono HB.out.size)
    exact ⟨(keeps_new (mineC_ok (H := W0.heap.size)) hi (grown_below9 C1.out)).trans CK.out, _, V2.out, R2.out, hb1.trans B2.out⟩
  case done =>
    rintro D X hD ⟨v, hv, ho, hb⟩ hK
    have hc := hv.cell
    gi_wp2
    refine ⟨by simp, .inl ⟨_, _, rfl, run_takeDeferred hK, ?_⟩⟩
    exact ⟨_, results_tmp rfl _ _ _, v, rfl, ownsRow_putObj ho _ hK rfl, hb.trans (belowK_b (w := w) (Nat.le_refl _) X D _ _ (by omega) hK rfl rfl)⟩
end Go.Proofs.Ytgfiiohglgbdiaa
