/-
  The function value of breaks.wordsAndEnds tells a text's pieces.
-/
import Derived.Test.YtgfiiohglgbdiaaWordsTell
namespace Go.Proofs.Ytgfiiohglgbdiaa
open Go.RowKit Go.Shelf
attribute [local go_sem] Oper.semAt_some
attribute [local go_sem] wide_fn

/-- a piece in a box of its own, told j times -/
structure PcLoop (l yb pb H : Nat) (sbs : List Nat) (mine : World → Nat → Prop) (J : List Pc → World → Prop) (D : List Pc) (p : Pc) (X : World) (j : Nat) (W : World) : Prop where
  tell : PcTell l yb mine J (D ++ List.replicate j p) W
  box : W.heap[pb]? = some (.cells #[.int .u8 (p.1 : Nat), .string ⟨p.2.toArray⟩] 26 (0, 0))
  nm : ¬ mine W pb
  kept : Keeps mine H sbs X W
theorem PcLoop.c0 {l yb pb H : Nat} {sbs : List Nat} {mine : World → Nat → Prop} {J : List Pc → World → Prop} {D : List Pc} {p : Pc} {X : World} {j : Nat} {W : World} (h : PcLoop l yb pb H sbs mine J D p X j W) : W.cell? ⟨pb, 0, none⟩ = some (.int .u8 (p.1 : Nat)) := by simp [World.cell?, h.box]
theorem PcLoop.c1 {l yb pb H : Nat} {sbs : List Nat} {mine : World → Nat → Prop} {J : List Pc → World → Prop} {D : List Pc} {p : Pc} {X : World} {j : Nat} {W : World} (h : PcLoop l yb pb H sbs mine J D p X j W) : W.cell? ⟨pb, 1, none⟩ = some (.string ⟨p.2.toArray⟩) := by simp [World.cell?, h.box]
theorem PcLoop.next {l yb pb H H' : Nat} {sbs sbs' : List Nat} {mine : World → Nat → Prop} {J : List Pc → World → Prop} {D : List Pc} {p : Pc} {X : World} {j : Nat} {W W' : World} (h : PcLoop l yb pb H sbs mine J D p X j W) (hyb : H' ≤ yb) (hpb : H' ≤ pb) (hH : H' ≤ H) (hs : ∀ k ∈ sbs, H' ≤ k)
    (hj : J (D ++ List.replicate j p ++ [p]) W') (hk : Keeps mine H' sbs' W W') : PcLoop l yb pb H sbs mine J D p X (j + 1) W' := by
  obtain ⟨e, m⟩ := hk.same pb (.inl hpb) (Array.getElem?_eq_some_iff.1 h.box).1 h.nm
  refine ⟨?_, e.trans h.box, m, h.kept.trans (hk.weaken hH hs)⟩
  have := h.tell.next hyb hj hk
  rwa [List.append_assoc, ← List.replicate_succ'] at this
theorem PcLoop.start {l yb H B : Nat} {sbs : List Nat} {mine : World → Nat → Prop} {J : List Pc → World → Prop} {D : List Pc} {X : World} (hJ : OwnFrom B J) (hM : MineOK 5 J mine B) (h : PcTell l yb mine J D X) (p : Pc) :
    PcLoop l yb X.heap.size H sbs mine J D p X 0 (X.alloc (.cells #[.int .u8 (p.1 : Nat), .string ⟨p.2.toArray⟩] 26)) :=
  ⟨by simpa using h.grown hJ hM (grown_alloc9 X _), World.alloc_heap_new X _, hM.fresh _ _ _ h.j (by decide), keeps_new hM h.j (grown_alloc9 X _)⟩

set_option maxRecDepth 100000 in
set_option maxHeartbeats 8000000 in
theorem wordsK_tell (s : ByteArray) (sb : Nat) (w : World) (h1 : w.cell? ⟨sb, 0, none⟩ = some (.string s)) (hs : s.size ≤ 8192) :
    Tells Try.prog 5 30 #[.pointer (some ⟨sb, 0, none⟩)] encP (cutK s.data.toList) [sb] w := by
  intro l J mine W hW hJ hM hsm hY h0
  have c1 : W.cell? ⟨sb, 0, none⟩ = some (.string s) := (hW.cell (p := ⟨sb, 0, none⟩) (lt_of_cell9 h1)).trans h1
  have HY := Lib.hid hY
  have HJ := Lib.hid hJ
  have HM := Lib.hid hM
  have H0 := Lib.hid h0
  have SB := Lib.hid (lt_of_cell9 c1)
  have c2 : ∀ o, (W.alloc o).cell? ⟨sb, 0, none⟩ = some (.string s) := fun o => (World.cell?_alloc_lt _ o _ (lt_of_cell9 c1)).trans c1
  clear hY hJ hM hsm h0 h1 hW c1
  refine (callsIn_wide (n := 8)).1 ?_
  refine callsIn_of_wp_marks Try.func30 rfl trivial ?_ rfl
  simp only [Try.ntmps30, List.size_toArray, List.length_cons, List.length_nil, Nat.reduceAdd, Nat.reduceSub, Array.replicate_succ, Array.replicate_zero, List.push_toArray, List.append_toArray, List.nil_append, List.cons_append]
  gi_wp2_with (gi_at_call 28; refine (callsIn_wide.2 (rows_any s _ _)).mono ?_; rintro e w' ⟨rfl, rfl⟩)
  have ST := Lib.hid (start9 (l := l) (s := s) (m := ⟨#[10]⟩) HJ.out HM.out H0.out)
  generalize (((W.alloc (.cells #[.func (.yield l) #[] #[]] 40)).alloc (.cells #[.string s] 9)).alloc (.cells #[.string ⟨#[10]⟩] 9)) = W0 at ST ⊢
  have hz := ST.out.size
  clear c2
  refine wpIn_tells (k := 5) (u8 := 5) (w := W0) (w0 := W0) (gf := 32) (lb := #[.pointer (some ⟨W.heap.size + 1, 0, none⟩), .pointer (some ⟨W.heap.size + 1 + 1, 0, none⟩)]) rfl (enters_of Try.func32 (by kernel_rfl) rfl)
    (rows_tell s ⟨#[10]⟩ _ _ W0 ST.out.c1 ST.out.c2 hs) (Below.refl _ _) (fun k hk => ?lt) (fun _ => rfl)
    (fun pre X => PcTell l W.heap.size mine J (pre.flatMap pcK) X) mine ?own ?mok (fun k hk => ?nm) ST.out.tell
    (fun pre x a' X => a' = { tmps := #[.func (.yield l) #[] #[], .pointer (some ⟨sb, 0, none⟩), .pointer (some ⟨W.heap.size, 0, none⟩), .string ⟨x.1.toArray⟩, .bool x.2, undef, undef, .string s, .func (.func 32) #[] #[.pointer (some ⟨W.heap.size + 1, 0, none⟩), .pointer (some ⟨W.heap.size + 1 + 1, 0, none⟩)], .string ⟨x.1.toArray⟩, .bool x.2, undef, undef, undef, undef, undef, undef, undef, undef, undef, undef, undef, undef, undef, undef], defers := [] }) (fun pre x a' => ownFrom_pure _ (fun (_ : Unit) => _)) ?assign ?body ?done
  case lt =>
    have : k = W.heap.size + 1 ∨ k = W.heap.size + 1 + 1 := by simpa using hk
    omega
  case own => exact fun d A C row h hg hr => PcTell.own (own_mono HJ.out (show W.heap.size ≤ W0.heap.size by omega)) (HM.out.mono (by omega)) _ A C row h hg hr
  case mok => exact ⟨fun h hm => HM.out.cells h.j hm, fun h hg hr _ hk he hm => (HM.out.mono (show W.heap.size ≤ W0.heap.size by omega)).stay h.j hg hr hk he hm, fun c T z h hT => HM.out.fresh c T z h.j hT⟩
  case nm =>
    have : k = W.heap.size + 1 ∨ k = W.heap.size + 1 + 1 := by simpa using hk
    rcases this with rfl | rfl
    · exact ST.out.n1
    · exact ST.out.n2
  case assign =>
    intro l' pre x X K hi hpre hK
    dsimp only [encR]
    gi_wp2
    simpa using hK _ _ (Keeps.refl _ _ _ _) hi rfl
  case body =>
    rintro l' pre ⟨t, mb⟩ a' X hl hi rfl hpre
    rw [among_end'] at hpre
    have TL : t.length ≤ 8192 := by
      have := rowsR_len (prefix_mem hpre)
      simp at this
      omega
    have PRE := Lib.hid (show ∀ (j : Nat) (p : Pc) (n : Nat), pcK (t, mb) = List.replicate n p → j < n → pre.flatMap pcK ++ List.replicate j p ++ [p] <+: cutK s.data.toList from fun j p n e hj => by
      obtain ⟨post, hpost⟩ := prefix_last hpre
      rw [cutK_rows, hpost, List.flatMap_append, List.flatMap_cons, e]
      refine ⟨List.replicate (n - (j + 1)) p ++ post.flatMap pcK, ?_⟩
      have : List.replicate n p = List.replicate j p ++ [p] ++ List.replicate (n - (j + 1)) p := by
        rw [← List.replicate_succ', List.replicate_append_replicate]
        congr 1
        omega
      rw [this]
      simp)
    have hX := Lib.hid (show W.heap.size ≤ X.heap.size by have := boxed_lt9 hi.box; omega)
    have hs2 := Lib.hid (show ∀ k ∈ [W.heap.size + 1, W.heap.size + 1 + 1], W.heap.size ≤ k from fun k hk => by
      have : k = W.heap.size + 1 ∨ k = W.heap.size + 1 + 1 := by simpa using hk
      omega)
    have HI := Lib.hid hi
    clear hi hpre
    cases mb with
    | true =>
      gi_wp2
      have P0 := Lib.hid (PcLoop.start (H := W0.heap.size) (sbs := [W.heap.size + 1, W.heap.size + 1 + 1]) HJ.out HM.out HI.out (2, []))
      have NN := Lib.hid (show pcK (t, true) = List.replicate (t.length) (2, []) from rfl)
      dsimp only at P0
      generalize X.alloc (.cells #[.int .u8 2, .string ⟨#[]⟩] 26) = Y at P0 ⊢
      gi_loopw [18] (fun q wr => ∃ j : Nat, q = .int .i64 j ∧ j ≤ t.length ∧ Hid (PcLoop l W.heap.size X.heap.size W0.heap.size [W.heap.size + 1, W.heap.size + 1 + 1] mine J (pre.flatMap pcK) (2, []) X j wr)) (fun q _ => t.length - (intOf q).toNat)
      case atStart => exact ⟨0, rfl, by omega, P0⟩
      case round =>
        obtain ⟨j, rfl, hj, hP⟩ := hrel
        clear P0
        by_cases hlt : j < t.length
        · have hz : (j : Int) < (t.length : Nat) := by omega
          have c0 : wr.cell? ⟨X.heap.size, 0, none⟩ = some (.int .u8 2) := hP.out.c0
          have c1 : wr.cell? ⟨X.heap.size, 1, none⟩ = some (.string ⟨#[]⟩) := hP.out.c1
          have cb := hP.out.tell.box.cell
          have wj : IntKind.i64.wrap ((j : Int) + 1) = ((j + 1 : Nat) : Int) := IntWalk.i64_in _ (by omega)
          obtain ⟨fn, tmps, assign, body, hy, hRR⟩ := HY.out _ _ wr (5 - 1) hP.out.tell.j (PRE.out j _ _ NN.out hlt)
          replace hy : (Instr.yield l #[.agg #[.int .u8 2, .string ⟨#[]⟩]]).run Try.prog wr = .ok (.round l fn tmps assign body) wr := hy
          gi_wp2
          refine hRR.mono ?_
          rintro e W3 ⟨rfl, hj3, hk3⟩
          have P3 := Lib.hid (hP.out.next (Nat.le_refl _) hX.out (by omega) hs2.out hj3 hk3)
          clear hy hRR c0 c1 cb
          gi_wp2
          go_roundw
          case rel => exact ⟨j + 1, by go_num, by omega, P3⟩
          case measure => simp [intOf]; omega
        · obtain rfl : j = t.length := by omega
          gi_wp2
          exact ⟨hP.out.kept, by show PcTell _ _ _ _ (List.flatMap pcK (pre ++ [(t, true)])) _; rw [List.flatMap_append, List.flatMap_cons, List.flatMap_nil, List.append_nil, NN.out]; exact hP.out.tell⟩
    | false =>
      gi_wp2
      have P0 := Lib.hid (PcLoop.start (H := W0.heap.size) (sbs := [W.heap.size + 1, W.heap.size + 1 + 1]) HJ.out HM.out HI.out (0, t))
      have NN := Lib.hid (show pcK (t, false) = List.replicate (1) (0, t) from rfl)
      dsimp only at P0
      generalize X.alloc (.cells #[.int .u8 0, .string ⟨t.toArray⟩] 26) = Y at P0 ⊢
      gi_loopw [18] (fun q wr => ∃ j : Nat, q = .int .i64 j ∧ j ≤ 1 ∧ Hid (PcLoop l W.heap.size X.heap.size W0.heap.size [W.heap.size + 1, W.heap.size + 1 + 1] mine J (pre.flatMap pcK) (0, t) X j wr)) (fun q _ => 1 - (intOf q).toNat)
      case atStart => exact ⟨0, rfl, by omega, P0⟩
      case round =>
        obtain ⟨j, rfl, hj, hP⟩ := hrel
        clear P0
        by_cases hlt : j < 1
        · have hz : (j : Int) < (1 : Nat) := by omega
          have c0 : wr.cell? ⟨X.heap.size, 0, none⟩ = some (.int .u8 0) := hP.out.c0
          have c1 : wr.cell? ⟨X.heap.size, 1, none⟩ = some (.string ⟨t.toArray⟩) := hP.out.c1
          have cb := hP.out.tell.box.cell
          have wj : IntKind.i64.wrap ((j : Int) + 1) = ((j + 1 : Nat) : Int) := IntWalk.i64_in _ (by omega)
          obtain ⟨fn, tmps, assign, body, hy, hRR⟩ := HY.out _ _ wr (5 - 1) hP.out.tell.j (PRE.out j _ _ NN.out hlt)
          replace hy : (Instr.yield l #[.agg #[.int .u8 0, .string ⟨t.toArray⟩]]).run Try.prog wr = .ok (.round l fn tmps assign body) wr := hy
          gi_wp2
          refine hRR.mono ?_
          rintro e W3 ⟨rfl, hj3, hk3⟩
          have P3 := Lib.hid (hP.out.next (Nat.le_refl _) hX.out (by omega) hs2.out hj3 hk3)
          clear hy hRR c0 c1 cb
          gi_wp2
          go_roundw
          case rel => exact ⟨j + 1, by go_num, by omega, P3⟩
          case measure => simp [intOf]; omega
        · obtain rfl : j = 1 := by omega
          gi_wp2
          exact ⟨hP.out.kept, by show PcTell _ _ _ _ (List.flatMap pcK (pre ++ [(t, false)])) _; rw [List.flatMap_append, List.flatMap_cons, List.flatMap_nil, List.append_nil, NN.out]; exact hP.out.tell⟩
  case done =>
    intro D X hD hi hK
    rw [among_end', ← cutK_rows] at hi
    gi_wp2
    refine ⟨by simp, .inl ⟨_, _, rfl, run_takeDeferred hK, ?_⟩⟩
    exact ⟨_, results_none rfl _ _ _, ⟨_, rfl⟩, (own_mono HJ.out (show W.heap.size ≤ W0.heap.size by omega)).putObj _ hi.j hD hK rfl⟩
end Go.Proofs.Ytgfiiohglgbdiaa
