/-
  The document's Solve, and its Fit.
-/
import Derived.Test.YtdadlhkbngopaaaWidthMath
import Derived.Deep.Cut
namespace Go.Proofs.Ytdadlhkbngopaaa
open Go.RowKit

theorem results_tmp4' {fn : Func} {t u v s : Tmp} (h : fn.results = #[.tmp t, .tmp u, .tmp v, .tmp s]) (tmps : Array Value) (P : Program) (w : World) :
    (results fn tmps).run P w = .ok (.tuple #[tmps.getD t undef, tmps.getD u undef, tmps.getD v undef, tmps.getD s undef]) w := by
  simp [results, h]
theorem asked_cells (w : World) (a : RA) : ∀ W', Below (w.alloc (.cells a.cells.toArray 29)).heap.size (w.alloc (.cells a.cells.toArray 29)) W' →
    W'.cell? ⟨w.heap.size, 0, none⟩ = some (.bool a.is) ∧ W'.cell? ⟨w.heap.size, 1, none⟩ = some (.int .i64 a.width) ∧ W'.cell? ⟨w.heap.size, 2, none⟩ = some (.int .i64 a.least) ∧ W'.cell? ⟨w.heap.size, 3, none⟩ = some (.int .i64 a.most) ∧ W'.cell? ⟨w.heap.size, 4, none⟩ = some (.int .i64 a.left) ∧ W'.cell? ⟨w.heap.size, 5, none⟩ = some (.int .i64 a.right) ∧ W'.cell? ⟨w.heap.size, 6, none⟩ = some (.bool a.al) ∧ W'.cell? ⟨w.heap.size, 7, none⟩ = some (.bool a.ar) ∧ W'.cell? ⟨w.heap.size, 8, none⟩ = some (.int .i64 a.edges) := fun W' hb => by
  have h0 := (hb.block w.heap.size (by rw [World.size_alloc]; omega)).trans (heap_alloc_new w _)
  simp [World.cell?, h0, RA.cells]
/-- numbers in a new row -/
theorem ints_new12 (w : World) (T : TypeId) (l : List Int) (f : Nat → Int) (hf : ∀ i, i < l.length → l[i]? = some (f i)) (hb : ∀ i, i < l.length → -9223372036854775808 ≤ f i ∧ f i ≤ 9223372036854775807) : Ints (w.alloc (.cells (l.map (Value.int .i64)).toArray T)) (some ⟨w.heap.size, 0, none⟩) l.length f :=
  ⟨hb, fun _ => ⟨_, 0, rfl, by rw [World.size_alloc]; omega, fun i hi => by
    rw [World.cell?_alloc_new, Nat.zero_add]
    simp [hf i hi]⟩⟩
def pickI (l : List Int) (i : Nat) : Int := l[i]?.getD 0
theorem pickI_at (l : List Int) (i : Nat) (h : i < l.length) : l[i]? = some (pickI l i) := by unfold pickI; rw [List.getElem?_eq_getElem h]; rfl
theorem all_picked (l : List Int) : allFit (pickI l) l.length = decide (∀ y ∈ l, Fit y) := by
  unfold allFit
  refine decide_eq_decide.2 ⟨fun h y hy => ?_, fun h i hi => ?_⟩
  · obtain ⟨i, hi⟩ := List.getElem?_of_mem hy
    have hl := (List.getElem?_eq_some_iff.1 hi).1
    have := h i hl
    unfold pickI at this
    rw [hi] at this
    exact this
  · have := pickI_at l i hi
    exact h _ (List.mem_of_getElem? this)
theorem picked_new (w : World) (T : TypeId) (l : List Int) (hb : ∀ y ∈ l, -9223372036854775808 ≤ y ∧ y ≤ 9223372036854775807) : Ints (w.alloc (.cells (l.map (Value.int .i64)).toArray T)) (some ⟨w.heap.size, 0, none⟩) l.length (pickI l) :=
  ints_new12 w T l _ (fun i hi => pickI_at l i hi) (fun i hi => hb _ (List.mem_of_getElem? (pickI_at l i hi)))
theorem own_new12 (w : World) (B : Nat) (hB : B ≤ w.heap.size) (l : List Int) (hl : l.length ≤ 1000) : (w.alloc (.cells (l.map (Value.int .i64)).toArray 3)).ownsRow B 3 1 (.slice (some ⟨w.heap.size, 0, none⟩) l.length l.length) l.length (l.map (Value.int .i64)) :=
  ⟨by simp, .inr ⟨w.heap.size, l.length, _, rfl, hB, heap_alloc_new w _, Nat.le_refl _, by unfold maxLen; omega, by simp, by simp [List.take_of_length_le]⟩⟩
theorem own_slice12 {w : World} {B : Nat} {T : TypeId} {k n : Nat} {v : Value} {cs : List Value} (h : w.ownsRow B T k v n cs) : ∃ A c, v = .slice A n c := by
  rcases h.2 with ⟨rfl, rfl⟩ | ⟨g, cap, cur, rfl, -⟩
  · exact ⟨_, _, rfl⟩
  · exact ⟨_, _, rfl⟩
theorem wpList_append_int {w : World} {ops : Array Oper} {rest : List Oper} {o : Oper} {a : Act} {Q : Exit → Act → World → Prop} (hgd : o.guard = none) (s x : Operand)
    (ho : o.op = .call { callee := .builtin .append, args := #[s, x], argTypes := #[43, 43] })
    (base : Nat) (v : Value) (l : List Int) (hs : a.eval s = v) (hown : w.ownsRow base 3 1 v l.length (l.map (Value.int .i64))) (y : Int) (T : TypeId) (hx : a.eval x = .slice (some ⟨w.heap.size, 0, none⟩) 1 1)
    (hb : l.length ≤ 90000) (hbase : base ≤ w.heap.size)
    (h : ∀ v' w', w'.ownsRow base 3 1 v' (l ++ [y]).length ((l ++ [y]).map (Value.int .i64)) → Below base w w' → wpList Try.prog ops Q rest (a.put o.dst v') w') :
    wpList Try.prog ops Q (o :: rest) a (w.alloc (.cells #[.int .i64 y] T)) := by
  obtain ⟨i0, hi, hz0, hz1, hz2⟩ := info_parts info_int
  have ha : Below base w (w.alloc (.cells #[.int .i64 y] T)) := (Below.refl _ _).alloc hbase _
  have hown2 : (w.alloc (.cells #[.int .i64 y] T)).ownsRow base 3 1 v l.length (l.map (Value.int .i64)) := hown.alloc _
  refine wpList_append_own _ hgd s x 43 ho base 3 i0 (.int .i64 0) 1 8 Try.underlying43 hi hz0 hz1 hz2 rfl (by decide) v l.length _ hs hown2 ⟨w.heap.size, 0, none⟩ 1 1 [.int .i64 y] hx rfl (fun j u hj => ?_) (fun u hu => by simp at hu; subst hu; rfl) (by unfold maxLen; omega) (by omega) (by have := ha.size; omega) ?_
  · match j, hj with
    | 0, hj => simp at hj; subst hj; simp [Addr.add, World.cell?_alloc_at]
  · intro v' w' hown' hgrow _
    have ho2 : Below base (w.alloc (.cells #[.int .i64 y] T)) w' := (Below.refl base _).grown hgrow (by have := ha.size; omega) (fun k e => by
      rcases hown2.2 with ⟨rfl, _⟩ | ⟨g, cap, cur, rfl, hbg, _⟩
      · cases e
      · cases e; exact hbg)
    refine h v' w' ?_ (ha.trans ho2)
    rw [List.map_append, List.length_append]
    exact hown'
def askedL (x : Int) (a : RA) : List Int := [x, a.least, a.most, a.left, a.right, a.edges] ++ (if a.is = true then [a.width] else [])
theorem askedL_fit (x : Int) (a : RA) : decide (∀ y ∈ askedL x a, Fit y) = decide (FitA x a) := by
  refine decide_eq_decide.2 ?_
  unfold askedL FitA
  by_cases h : a.is = true
  · rw [if_pos h]
    simp [h]
  · rw [if_neg h]
    simp [h]
set_option maxRecDepth 100000 in
set_option maxHeartbeats 8000000 in
theorem refSolve_any (x : Int) (a : RA) (w : World) (hx : big x) (ha : a.ok) :
    Calls Try.prog 13 #[.int .i64 x, askedV a] w fun e w' => e = .returned (.tuple #[.int .i64 (solveA x a).1, .int .i64 (solveA x a).2.1, .int .i64 (solveA x a).2.2.1, .int .i64 (solveA x a).2.2.2]) ∧ Below w.heap.size w w' := by
  have XC := Lib.hid (asked_cells w a)
  have B0 : Hid (Below w.heap.size w (w.alloc (.cells a.cells.toArray 29))) := Lib.hid ((Below.refl _ w).alloc (Nat.le_refl _) _)
  obtain ⟨l, hl⟩ : ∃ l, (solveA x a).1 = l := ⟨_, rfl⟩
  obtain ⟨m, hm⟩ : ∃ m, (solveA x a).2.1 = m := ⟨_, rfl⟩
  obtain ⟨r, hr⟩ : ∃ r, (solveA x a).2.2.1 = r := ⟨_, rfl⟩
  obtain ⟨e, he⟩ : ∃ e, (solveA x a).2.2.2 = e := ⟨_, rfl⟩
  have ST : Hid (solveA x a = (l, m, r, e)) := Lib.hid (by rw [← hl, ← hm, ← hr, ← he])
  rw [hl, hm, hr, he]
  clear hl hm hr he
  unfold askedV
  unfold RA.cells at B0 XC
  by_cases hbad : Bad x a
  · have R : Hid (l = 0 ∧ m = 0 ∧ r = 0 ∧ e = 2) := Lib.hid (by
      have h := ST.out
      unfold solveA at h
      rw [if_pos hbad] at h
      cases h
      exact ⟨rfl, rfl, rfl, rfl⟩)
    obtain ⟨is, width, least, most, left, right, al, ar, edges⟩ := a
    dsimp only at B0 XC ⊢
    have HB : Hid (x < 0 ∨ least < 0 ∨ most < 0 ∨ edges < 0 ∨ (is = true ∧ width < 0)) := Lib.hid hbad
    clear hbad XC
    go_enter Try.func13, Try.ntmps13
    by_cases h0 : x < 0
    · go_wp2_with fail
      refine bodyPost_ret (results_tmp4' rfl _ _ _) rfl ?_
      obtain ⟨rfl, rfl, rfl, rfl⟩ := R.out
      exact ⟨rfl, B0.out⟩
    · have _ := B0
      by_cases h1 : least < 0
      · go_wp2_with fail
        refine bodyPost_ret (results_tmp4' rfl _ _ _) rfl ?_
        obtain ⟨rfl, rfl, rfl, rfl⟩ := R.out
        exact ⟨rfl, B0.out⟩
      · have _ := B0
        by_cases h2 : most < 0
        · go_wp2_with fail
          refine bodyPost_ret (results_tmp4' rfl _ _ _) rfl ?_
          obtain ⟨rfl, rfl, rfl, rfl⟩ := R.out
          exact ⟨rfl, B0.out⟩
        · have _ := B0
          by_cases h3 : edges < 0
          · go_wp2_with fail
            refine bodyPost_ret (results_tmp4' rfl _ _ _) rfl ?_
            obtain ⟨rfl, rfl, rfl, rfl⟩ := R.out
            exact ⟨rfl, B0.out⟩
          · have h4 : is = true ∧ width < 0 := by
              rcases HB.out with h | h | h | h | h
              · exact absurd h (by assumption)
              · exact absurd h (by assumption)
              · exact absurd h (by assumption)
              · exact absurd h (by assumption)
              · exact h
            obtain ⟨rfl, h4⟩ := h4
            go_wp2_with fail
            refine bodyPost_ret (results_tmp4' rfl _ _ _) rfl ?_
            obtain ⟨rfl, rfl, rfl, rfl⟩ := R.out
            exact ⟨rfl, B0.out⟩
  · have B1 := B0
    obtain ⟨fA, hfA⟩ : ∃ b, decide (FitA x a) = b := ⟨_, rfl⟩
    have AL := Lib.hid (askedL_fit x a)
    have BD : Hid (∀ y ∈ askedL x a, -9223372036854775808 ≤ y ∧ y ≤ 9223372036854775807) := Lib.hid (by
      intro y hy
      unfold askedL at hy
      simp only [List.mem_append, List.mem_cons, List.not_mem_nil, or_false] at hy
      rcases hy with (rfl | rfl | rfl | rfl | rfl | rfl) | hy
      · exact hx
      · exact ha.least
      · exact ha.most
      · exact ha.left
      · exact ha.right
      · exact ha.edges
      · by_cases h : a.is = true
        · rw [if_pos h] at hy
          simp only [List.mem_cons, List.not_mem_nil, or_false] at hy
          rw [hy]
          exact ha.width
        · rw [if_neg h] at hy
          cases hy)
    have NB := Lib.hid hbad
    have HF := Lib.hid hfA
    have c0 : decide (x < 0) = false := decide_eq_false (fun h => hbad (.inl h))
    have c1 : decide (a.least < 0) = false := decide_eq_false (fun h => hbad (.inr (.inl h)))
    have c2 : decide (a.most < 0) = false := decide_eq_false (fun h => hbad (.inr (.inr (.inl h))))
    have c3 : decide (a.edges < 0) = false := decide_eq_false (fun h => hbad (.inr (.inr (.inr (.inl h)))))
    have c4 : Hid (a.is = true → decide (a.width < 0) = false) := Lib.hid (fun hi => decide_eq_false (fun h => hbad (.inr (.inr (.inr (.inr ⟨hi, h⟩))))))
    obtain ⟨is, width, least, most, left, right, al, ar, edges⟩ := a
    dsimp only at B0 XC c0 c1 c2 c3 c4 ⊢
    clear hbad hfA hx ha
    go_enter Try.func13, Try.ntmps13
    go_upto_region 1 with fail
    generalize w.alloc (.cells #[.bool is, .int .i64 width, .int .i64 least, .int .i64 most, .int .i64 left, .int .i64 right, .bool al, .bool ar, .int .i64 edges] 29) = w0 at XC B0 B1 ⊢
    obtain ⟨y0, y1, y2, y3, y4, y5, y6, y7, y8⟩ := XC.out w0 (Below.refl _ _)
    go_cut [38] from 13 (fun p38 wx => p38 = .bool false ∧ wx = w0)
    case first =>
      as_aux_lemma =>
        cases is
        · go_wp2_with fail
          go_meet
          exact ⟨rfl, rfl⟩
        · have c5 := c4.out rfl
          go_wp2_with fail
          go_meet
          exact ⟨rfl, rfl⟩
    case rest =>
      obtain ⟨rfl, hw⟩ := hcut
      obtain rfl := hw.symm
      clear c0 c1 c2 c3 c4 hw
      go_upto_region 4 with fail
      have O4 : Hid ((w0.alloc (.cells #[.int .i64 x, .int .i64 least, .int .i64 most, .int .i64 left, .int .i64 right, .int .i64 edges] 3)).ownsRow w0.heap.size 3 1 (.slice (some ⟨w0.heap.size, 0, none⟩) 6 6) [x, least, most, left, right, edges].length ([x, least, most, left, right, edges].map (Value.int .i64))) := Lib.hid (own_new12 w0 w0.heap.size (Nat.le_refl _) [x, least, most, left, right, edges] (by simp))
      have B4 : Hid (Below w0.heap.size w0 (w0.alloc (.cells #[.int .i64 x, .int .i64 least, .int .i64 most, .int .i64 left, .int .i64 right, .int .i64 edges] 3))) := Lib.hid ((Below.refl _ w0).alloc (Nat.le_refl _) _)
      generalize w0.alloc (.cells #[.int .i64 x, .int .i64 least, .int .i64 most, .int .i64 left, .int .i64 right, .int .i64 edges] 3) = w4 at O4 B4 ⊢
      obtain ⟨h4, eh4⟩ : ∃ h4, w0.heap.size = h4 := ⟨_, rfl⟩
      rw [eh4] at O4 ⊢
      have S4 : Hid (h4 ≤ w4.heap.size) := Lib.hid (by rw [← eh4]; exact B4.out.size)
      have E4 := Lib.hid eh4.symm
      clear eh4 y0 y1 y2 y3 y4 y5 y6 y7 y8
      obtain ⟨y0, y1, y2, y3, y4, y5, y6, y7, y8⟩ := XC.out w4 B4.out
      go_upto_if 52 with fail
      go_cut [8] from 13 (fun p8 wx => ∃ (A : Option Addr) (n c : Nat) (f : Nat → Int), p8 = .slice A n c ∧ n ≤ 7 ∧ Hid (Ints wx A n f) ∧ Hid (allFit f n = fA) ∧ Hid (Below w0.heap.size w0 wx))
      case first =>
        as_aux_lemma =>
          cases is with
          | false =>
            have I6 := Lib.hid (Ints.of_own O4.out (fun i hi => pickI_at [x, least, most, left, right, edges] i hi) (fun i hi => BD.out _ (show _ ∈ [x, least, most, left, right, edges] from List.mem_of_getElem? (pickI_at [x, least, most, left, right, edges] i hi))))
            have F6 : Hid (allFit (pickI [x, least, most, left, right, edges]) 6 = fA) := Lib.hid ((all_picked [x, least, most, left, right, edges]).trans (AL.out.trans HF.out))
            clear O4 AL HF BD XC
            go_wp2_with fail
            go_meet
            exact ⟨_, _, _, _, rfl, by omega, I6, F6, B4⟩
          | true =>
            have BD7 : Hid (∀ y ∈ [x, least, most, left, right, edges, width], -9223372036854775808 ≤ y ∧ y ≤ 9223372036854775807) := BD
            have F7 : Hid (allFit (pickI [x, least, most, left, right, edges, width]) 7 = fA) := Lib.hid ((all_picked [x, least, most, left, right, edges, width]).trans (AL.out.trans HF.out))
            clear AL HF BD XC
            go_wp2_with ((with_reducible change wpList _ _ _ (Oper.mk (some 57) _ _ _ _ _ :: _) _ _); refine wpList_append_int rfl _ _ rfl h4 _ [x, least, most, left, right, edges] rfl O4.out width _ rfl (by simp) S4.out ?_; intro v' w' hO hB; obtain ⟨A', c', rfl⟩ := own_slice12 hO)
            have I7 : Hid (Ints w' A' 7 (pickI [x, least, most, left, right, edges, width])) := Lib.hid (Ints.of_own hO (fun i hi => pickI_at [x, least, most, left, right, edges, width] i hi) (fun i hi => BD7.out _ (List.mem_of_getElem? (pickI_at [x, least, most, left, right, edges, width] i hi))))
            have B7 : Hid (Below w0.heap.size w0 w') := Lib.hid (by rw [E4.out] at hB; exact B4.out.trans hB)
            clear hO hB O4
            go_meet
            exact ⟨_, _, _, _, rfl, by omega, I7, F7, B7⟩
      case rest =>
        obtain ⟨A, n, c, f, rfl, hn, HI, HFf, HB⟩ := hcut
        obtain ⟨w5, hw5⟩ : ∃ w5, w5 = wc := ⟨_, rfl⟩
        subst hw5
        clear y0 y1 y2 y3 y4 y5 y6 y7 y8 O4 B4 S4 E4 AL BD
        obtain ⟨y0, y1, y2, y3, y4, y5, y6, y7, y8⟩ := XC.out w5 HB.out
        have KA := Lib.hid (all_any A n c f w5 HI.out (by omega) fA HFf.out)
        have BE : Hid (Below w.heap.size w w5) := Lib.hid (B0.out.trans (HB.out.mono B0.out.size))
        clear HI HFf HB hn
        cases fA with
        | false =>
          have R : Hid (l = 0 ∧ m = 0 ∧ r = 0 ∧ e = 10) := Lib.hid (by
            have h := ST.out
            unfold solveA at h
            rw [if_neg NB.out, if_pos (of_decide_eq_false HF.out)] at h
            cases h
            exact ⟨rfl, rfl, rfl, rfl⟩)
          clear HF NB ST
          go_wp2_with (go_at_call 29; (with_reducible refine KA.out.mono ?_); rintro e6 w' ⟨rfl, rfl⟩)
          refine bodyPost_ret (results_tmp4' rfl _ _ _) rfl ?_
          obtain ⟨rfl, rfl, rfl, rfl⟩ := R.out
          exact ⟨rfl, BE.out⟩
        | true =>
          have GD := Lib.hid (good_of NB.out (of_decide_eq_true HF.out))
          have ST2 : Hid ((if FitT x (⟨is, width, least, most, left, right, al, ar, edges⟩ : RA) then (leftA x (⟨is, width, least, most, left, right, al, ar, edges⟩ : RA), wideA x (⟨is, width, least, most, left, right, al, ar, edges⟩ : RA), rightA x (⟨is, width, least, most, left, right, al, ar, edges⟩ : RA), 0) else (0, 0, 0, 10)) = (l, m, r, e)) := Lib.hid (by
            have h := ST.out
            unfold solveA at h
            rwa [if_neg NB.out, if_neg (fun c => c (of_decide_eq_true HF.out))] at h)
          have l0 := left0_in GD.out
          have r0 := right0_in GD.out
          have w0i := wide0_in GD.out
          have wai := wideA_in GD.out
          have fri := freeA_in GD.out
          have hxx := GD.out.x
          have hee := GD.out.edges
          obtain ⟨L0, hL0⟩ : ∃ y, left0 (⟨is, width, least, most, left, right, al, ar, edges⟩ : RA) = y := ⟨_, rfl⟩
          obtain ⟨R0, hR0⟩ : ∃ y, right0 (⟨is, width, least, most, left, right, al, ar, edges⟩ : RA) = y := ⟨_, rfl⟩
          obtain ⟨W0, hW0⟩ : ∃ y, wide0 x (⟨is, width, least, most, left, right, al, ar, edges⟩ : RA) = y := ⟨_, rfl⟩
          obtain ⟨WA, hWA⟩ : ∃ y, wideA x (⟨is, width, least, most, left, right, al, ar, edges⟩ : RA) = y := ⟨_, rfl⟩
          obtain ⟨FR, hFR⟩ : ∃ y, freeA x (⟨is, width, least, most, left, right, al, ar, edges⟩ : RA) = y := ⟨_, rfl⟩
          obtain ⟨LA, hLA⟩ : ∃ y, leftA x (⟨is, width, least, most, left, right, al, ar, edges⟩ : RA) = y := ⟨_, rfl⟩
          obtain ⟨RB, hRB⟩ : ∃ y, rightA x (⟨is, width, least, most, left, right, al, ar, edges⟩ : RA) = y := ⟨_, rfl⟩
          have EL0 := Lib.hid hL0
          have ER0 := Lib.hid hR0
          have EW0 : Hid (W0 = if is = true then width else x - L0 - R0 - edges) := Lib.hid (by rw [← hW0, ← hL0, ← hR0]; rfl)
          have EWA : Hid (clampV (if W0 < 0 then 0 else W0) least most = WA) := Lib.hid (by rw [← hWA, ← hW0]; rfl)
          have EFR : Hid (FR = x - L0 - edges - WA - R0) := Lib.hid (by rw [← hFR, ← hL0, ← hWA, ← hR0]; rfl)
          have ELA : Hid (LA = if FR < 0 ∨ (al = false ∧ ar = false) then L0 else if al = true ∧ ar = true then FR / 2 else if al = true then FR else L0) := Lib.hid (by rw [← hLA, ← hL0, ← hFR]; rfl)
          have ERB : Hid (RB = if FR < 0 ∨ (al = false ∧ ar = false) then R0 + FR else if al = true ∧ ar = true then FR - FR / 2 else if al = true then R0 else FR) := Lib.hid (by rw [← hRB, ← hR0, ← hFR]; rfl)
          have ST3 : Hid ((if Fit LA ∧ Fit WA ∧ Fit RB then (LA, WA, RB, 0) else (0, 0, 0, 10)) = (l, m, r, e)) := Lib.hid (by
            have h := ST2.out
            rw [hLA, hWA, hRB] at h
            by_cases c : FitT x (⟨is, width, least, most, left, right, al, ar, edges⟩ : RA)
            · rw [if_pos c] at h
              rw [if_pos (by unfold FitT at c; rwa [hLA, hWA, hRB] at c)]
              exact h
            · rw [if_neg c] at h
              rw [if_neg (by unfold FitT at c; rwa [hLA, hWA, hRB] at c)]
              exact h)
          rw [hL0] at l0
          rw [hR0] at r0
          rw [hW0] at w0i
          rw [hWA] at wai
          rw [hFR] at fri
          have BND := Lib.hid (And.intro l0 (And.intro r0 (And.intro w0i (And.intro wai (And.intro fri (And.intro hxx hee))))))
          clear hL0 hR0 hW0 hWA hFR hLA hRB ST ST2 HF NB GD l0 r0 w0i wai fri hxx hee
          go_upto_if 63 with (go_at_call 29; (with_reducible refine KA.out.mono ?_); rintro e6 w' ⟨rfl, rfl⟩)
          clear KA
          go_cut [9] from 13 (fun p wx => p = .int .i64 L0 ∧ wx = w5)
          case first =>
            as_aux_lemma =>
              cases al with
              | false =>
                have E0 : Hid (L0 = left) := Lib.hid (by rw [← EL0.out]; rfl)
                go_wp2_with fail
                go_meet
                exact ⟨by rw [E0.out], rfl⟩
              | true =>
                have E0 : Hid (L0 = 0) := Lib.hid (by rw [← EL0.out]; rfl)
                go_wp2_with fail
                go_meet
                exact ⟨by rw [E0.out], rfl⟩
          case rest =>
            obtain ⟨rfl, hw⟩ := hcut
            obtain rfl := hw.symm
            clear hw
            go_upto_if 68 with fail
            go_cut [10] from 13 (fun p wx => p = .int .i64 R0 ∧ wx = w5)
            case first =>
              as_aux_lemma =>
                cases ar with
                | false =>
                  have E0 : Hid (R0 = right) := Lib.hid (by rw [← ER0.out]; rfl)
                  go_wp2_with fail
                  go_meet
                  exact ⟨by rw [E0.out], rfl⟩
                | true =>
                  have E0 : Hid (R0 = 0) := Lib.hid (by rw [← ER0.out]; rfl)
                  go_wp2_with fail
                  go_meet
                  exact ⟨by rw [E0.out], rfl⟩
            case rest =>
              obtain ⟨rfl, hw⟩ := hcut
              obtain rfl := hw.symm
              clear hw EL0 ER0
              have b1 : IntKind.i64.wrap (x - L0) = x - L0 := IntWalk.i64_in _ (by have := BND.out; omega)
              have b2 : IntKind.i64.wrap (x - L0 - R0) = x - L0 - R0 := IntWalk.i64_in _ (by have := BND.out; omega)
              have b3 : IntKind.i64.wrap (x - L0 - R0 - edges) = x - L0 - R0 - edges := IntWalk.i64_in _ (by have := BND.out; omega)
              go_upto_if 80 with fail
              clear b1 b2 b3
              go_cut [11] from 13 (fun p wx => p = .int .i64 W0 ∧ wx = w5)
              case first =>
                as_aux_lemma =>
                  cases is with
                  | false =>
                    have E0 : Hid (W0 = x - L0 - R0 - edges) := Lib.hid (by rw [EW0.out]; rfl)
                    go_wp2_with fail
                    go_meet
                    exact ⟨by rw [E0.out], rfl⟩
                  | true =>
                    have E0 : Hid (W0 = width) := Lib.hid (by rw [EW0.out]; rfl)
                    go_wp2_with fail
                    go_meet
                    exact ⟨by rw [E0.out], rfl⟩
              case rest =>
                obtain ⟨rfl, hw⟩ := hcut
                obtain rfl := hw.symm
                clear hw EW0
                obtain ⟨W1, hW1⟩ : ∃ y, (if W0 < 0 then 0 else W0) = y := ⟨_, rfl⟩
                rw [hW1] at EWA
                have EW1 := Lib.hid hW1
                clear hW1
                go_upto_if 84 with fail
                go_cut [11] from 13 (fun p wx => p = .int .i64 W1 ∧ wx = w5)
                case first =>
                  as_aux_lemma =>
                    by_cases h : W0 < 0
                    · have E0 : Hid (W1 = 0) := Lib.hid (by rw [← EW1.out, if_pos h])
                      go_wp2_with fail
                      go_meet
                      exact ⟨by rw [E0.out], rfl⟩
                    · have E0 : Hid (W1 = W0) := Lib.hid (by rw [← EW1.out, if_neg h])
                      go_wp2_with fail
                      go_meet
                      exact ⟨by rw [E0.out], rfl⟩
                case rest =>
                  obtain ⟨rfl, hw⟩ := hcut
                  obtain rfl := hw.symm
                  clear hw EW1
                  have KC := Lib.hid (refClamp_any W1 least most w5 WA EWA.out)
                  have b1 : IntKind.i64.wrap (x - L0) = x - L0 := IntWalk.i64_in _ (by have := BND.out; omega)
                  have b2 : IntKind.i64.wrap (x - L0 - edges) = x - L0 - edges := IntWalk.i64_in _ (by have := BND.out; omega)
                  have b3 : IntKind.i64.wrap (x - L0 - edges - WA) = x - L0 - edges - WA := IntWalk.i64_in _ (by have := BND.out; omega)
                  have b4 : IntKind.i64.wrap (x - L0 - edges - WA - R0) = FR := by rw [← EFR.out]; exact IntWalk.i64_in _ (by have := BND.out; omega)
                  go_upto_region 20 with (go_at_call 30; (with_reducible refine KC.out.mono ?_); rintro e6 w' ⟨rfl, rfl⟩)
                  clear b1 b2 b3 b4 KC EWA EFR
                  obtain ⟨t1, ht1⟩ : ∃ b, decide (FR < 0 ∨ (al = false ∧ ar = false)) = b := ⟨_, rfl⟩
                  have ET1 := Lib.hid ht1
                  clear ht1
                  go_cut [112] from 13 (fun p wx => p = .bool t1 ∧ wx = w5)
                  case first =>
                    as_aux_lemma =>
                      by_cases h : FR < 0
                      · have E0 : Hid (t1 = true) := Lib.hid (by rw [← ET1.out]; simp [h])
                        go_wp2_with fail
                        go_meet
                        exact ⟨by rw [E0.out], rfl⟩
                      · cases al with
                        | true =>
                          have E0 : Hid (t1 = false) := Lib.hid (by rw [← ET1.out]; simp [h])
                          go_wp2_with fail
                          go_meet
                          exact ⟨by rw [E0.out], rfl⟩
                        | false =>
                          cases ar with
                          | true =>
                            have E0 : Hid (t1 = false) := Lib.hid (by rw [← ET1.out]; simp [h])
                            go_wp2_with fail
                            go_meet
                            exact ⟨by rw [E0.out], rfl⟩
                          | false =>
                            have E0 : Hid (t1 = true) := Lib.hid (by rw [← ET1.out]; simp)
                            go_wp2_with fail
                            go_meet
                            exact ⟨by rw [E0.out], rfl⟩
                  case rest =>
                    obtain ⟨rfl, hw⟩ := hcut
                    obtain rfl := hw.symm
                    clear hw
                    go_upto_if 112 with fail
                    go_cut [9, 10] from 13 (fun p q wx => p = .int .i64 LA ∧ q = .int .i64 RB ∧ wx = w5)
                    case first =>
                      as_aux_lemma =>
                        cases t1 with
                        | true =>
                          have hc := of_decide_eq_true ET1.out
                          have E1 : Hid (LA = L0) := Lib.hid (by rw [ELA.out, if_pos hc])
                          have E2 : Hid (RB = R0 + FR) := Lib.hid (by rw [ERB.out, if_pos hc])
                          have b1 : IntKind.i64.wrap (R0 + FR) = R0 + FR := IntWalk.i64_in _ (by have := BND.out; omega)
                          clear hc
                          go_wp2_with fail
                          go_meet
                          exact ⟨by rw [E1.out], by rw [E2.out], rfl⟩
                        | false =>
                          have hc := of_decide_eq_false ET1.out
                          have hf : 0 ≤ FR := Int.not_lt.1 (fun h => hc (.inl h))
                          have e1 := ELA.out
                          have e2 := ERB.out
                          rw [if_neg hc] at e1 e2
                          have q1 : IntKind.i64.wrap (FR.tdiv 2) = FR / 2 := by
                            rw [Int.tdiv_eq_ediv_of_nonneg (by omega)]
                            exact IntWalk.i64_in _ (by have := BND.out; omega)
                          have q2 : IntKind.i64.wrap (FR - FR / 2) = FR - FR / 2 := IntWalk.i64_in _ (by have := BND.out; omega)
                          cases al with
                          | true =>
                            cases ar with
                            | true =>
                              have E1 : Hid (LA = FR / 2) := Lib.hid (by rw [e1]; rfl)
                              have E2 : Hid (RB = FR - FR / 2) := Lib.hid (by rw [e2]; rfl)
                              clear hc e1 e2
                              go_wp2_with fail
                              go_meet
                              exact ⟨by rw [E1.out], by rw [E2.out], rfl⟩
                            | false =>
                              have E1 : Hid (LA = FR) := Lib.hid (by rw [e1]; rfl)
                              have E2 : Hid (RB = R0) := Lib.hid (by rw [e2]; rfl)
                              clear hc e1 e2
                              go_wp2_with fail
                              go_meet
                              exact ⟨by rw [E1.out], by rw [E2.out], rfl⟩
                          | false =>
                            have E1 : Hid (LA = L0) := Lib.hid (by rw [e1]; rfl)
                            have E2 : Hid (RB = FR) := Lib.hid (by rw [e2]; rfl)
                            clear hc e1 e2
                            go_wp2_with fail
                            go_meet
                            exact ⟨by rw [E1.out], by rw [E2.out], rfl⟩
                    case rest =>
                      obtain ⟨rfl, rfl, hw⟩ := hcut
                      obtain rfl := hw.symm
                      clear hw ET1
                      have BL : Hid (∀ y ∈ [LA, WA, RB], -9223372036854775808 ≤ y ∧ y ≤ 9223372036854775807) := Lib.hid (by
                        have h := BND.out
                        have e1 := ELA.out
                        have e2 := ERB.out
                        intro y hy
                        simp only [List.mem_cons, List.not_mem_nil, or_false] at hy
                        rcases hy with rfl | rfl | rfl
                        · rw [e1]; repeat' split
                          all_goals omega
                        · omega
                        · rw [e2]; repeat' split
                          all_goals omega)
                      obtain ⟨fT, hfT⟩ : ∃ b, decide (∀ y ∈ [LA, WA, RB], Fit y) = b := ⟨_, rfl⟩
                      have I3 := Lib.hid (picked_new w5 3 [LA, WA, RB] BL.out)
                      have K3 := Lib.hid (all_any _ _ 3 _ _ I3.out (by simp) fT ((all_picked [LA, WA, RB]).trans hfT))
                      have HT := Lib.hid hfT
                      have B5 : Hid (Below w.heap.size w (w5.alloc (.cells #[.int .i64 LA, .int .i64 WA, .int .i64 RB] 3))) := Lib.hid (BE.out.alloc BE.out.size _)
                      clear hfT BL I3 ELA ERB BND XC y0 y1 y2 y3 y4 y5 y6 y7 y8
                      cases fT with
                      | true =>
                        have R : Hid (l = LA ∧ m = WA ∧ r = RB ∧ e = 0) := Lib.hid (by
                          have h := ST3.out
                          have h2 := of_decide_eq_true HT.out
                          rw [if_pos ⟨h2 LA (by simp), h2 WA (by simp), h2 RB (by simp)⟩] at h
                          cases h
                          exact ⟨rfl, rfl, rfl, rfl⟩)
                        clear ST3 HT
                        go_wp2_with (go_at_call 29; refine K3.out.mono ?_; rintro e6 w' ⟨rfl, hw'⟩; have B6 : Hid (Below w.heap.size w w') := Lib.hid (by rw [← hw']; exact B5.out); clear hw')
                        refine bodyPost_ret (results_tmp4' rfl _ _ _) rfl ?_
                        obtain ⟨rfl, rfl, rfl, rfl⟩ := R.out
                        exact ⟨rfl, B6.out⟩
                      | false =>
                        have R : Hid (l = 0 ∧ m = 0 ∧ r = 0 ∧ e = 10) := Lib.hid (by
                          have h := ST3.out
                          have h2 := of_decide_eq_false HT.out
                          rw [if_neg (fun c => h2 (by simpa using c))] at h
                          cases h
                          exact ⟨rfl, rfl, rfl, rfl⟩)
                        clear ST3 HT
                        go_wp2_with (go_at_call 29; refine K3.out.mono ?_; rintro e6 w' ⟨rfl, hw'⟩; have B6 : Hid (Below w.heap.size w w') := Lib.hid (by rw [← hw']; exact B5.out); clear hw')
                        refine bodyPost_ret (results_tmp4' rfl _ _ _) rfl ?_
                        obtain ⟨rfl, rfl, rfl, rfl⟩ := R.out
                        exact ⟨rfl, B6.out⟩
set_option maxHeartbeats 1000000 in
theorem refFit_any12 (n m r : Int) (w : World) : Calls Try.prog 15 #[.int .i64 n, .int .i64 m, .int .i64 r] w fun e w' => e = .returned (.int .i64 (fitW n m r)) ∧ Below w.heap.size w w' := by
  obtain ⟨y, hy⟩ : ∃ y, fitW n m r = y := ⟨_, rfl⟩
  rw [hy]
  have Y := Lib.hid hy
  clear hy
  by_cases h1 : r < n
  · by_cases h2 : m < n
    · have R : Hid (y = m) := Lib.hid (by rw [← Y.out]; unfold fitW; omega)
      go_enter Try.func15, Try.ntmps15
      go_wp2_with fail
      go_ret
      exact ⟨by rw [R.out]; rfl, Below.refl _ _⟩
    · have R : Hid (y = n) := Lib.hid (by rw [← Y.out]; unfold fitW; omega)
      go_enter Try.func15, Try.ntmps15
      go_wp2_with fail
      go_ret
      exact ⟨by rw [R.out]; rfl, Below.refl _ _⟩
  · by_cases h2 : m < r
    · have R : Hid (y = m) := Lib.hid (by rw [← Y.out]; unfold fitW; omega)
      go_enter Try.func15, Try.ntmps15
      go_wp2_with fail
      go_ret
      exact ⟨by rw [R.out]; rfl, Below.refl _ _⟩
    · have R : Hid (y = r) := Lib.hid (by rw [← Y.out]; unfold fitW; omega)
      go_enter Try.func15, Try.ntmps15
      go_wp2_with fail
      go_ret
      exact ⟨by rw [R.out]; rfl, Below.refl _ _⟩
end Go.Proofs.Ytdadlhkbngopaaa
