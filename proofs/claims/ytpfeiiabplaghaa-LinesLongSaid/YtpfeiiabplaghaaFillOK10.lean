/-
  Fill of the landed code: the lines, in a row of the call's own.
-/
import Derived.Test.YtpfeiiabplaghaaFillNo10
import Derived.Test.YtpfeiiabplaghaaFilled10
import Derived.Deep.AppendLies
import Derived.RangeFuncCalls
namespace Go.Proofs.Ytpfeiiabplaghaa
open Go.RowKit Go.Shelf
attribute [local go_sem] Oper.semAt_some
attribute [local go_sem] wide_fn10

theorem not_apart {T : TypeId} {cs : Array Value} {t : TypeId} {z : Nat × Nat} (h : t ≠ T) : ¬ Apart T (.cells cs t z) := by
  rintro (h1 | ⟨cs', z', h1⟩)
  · cases h1
  · cases h1; exact h rfl
theorem boxed_cur {X Y : World} {B b : Nat} {t T : TypeId} {v : Value} {row : Option Nat} (h : Boxed X b t v) (ht : t ≠ T) (hg : X.grownBy Y row) (hr : ∀ r, row = some r → B ≤ r ∧ ∃ o : Obj, X.heap[r]? = some o ∧ Apart T o) : Boxed Y b t v :=
  h.kept hg (fun e => by
    obtain ⟨-, o, h1, h2⟩ := hr b e.symm
    rw [show X.heap[b]? = _ from h] at h1
    cases h1
    exact not_apart ht h2)
theorem Res.cur {w X Y : World} {B : Nat} {v : Value} {f : Int} {row : Option Nat} (h : Res w X v f) (hB : w.heap.size ≤ B) (hg : X.grownBy Y row) (hr : ∀ r, row = some r → B ≤ r ∧ ∃ o : Obj, X.heap[r]? = some o ∧ Apart 56 o) : Res w Y v f :=
  ⟨boxed_cur h.b1 (by decide) hg hr, boxed_cur h.b2 (by decide) hg hr, h.below.grown hg h.below.size (fun k e => Nat.le_trans hB (hr k e).1)⟩
theorem ownsL_cells {X : World} {base : Nat} {v : Value} {d : List Ln} (h : ownsL X base v d) {k : Nat} (hk : v.ownBlock = some k) : ∃ c fz, X.heap[k]? = some (.cells c 34 fz) := by
  rcases h.2 with ⟨rfl, _⟩ | ⟨g, cap, cur, rfl, _, hg, _⟩
  · cases hk
  · cases hk
    exact ⟨_, _, hg⟩
/-- where Fill's loop stands: its results' variables, the variable that holds the row, the row -/
structure FillIt (w : World) (T : Nat) (d : List Ln) (X : World) : Prop where
  res : Res w X (.slice none 0 0) 0
  tb : ∃ v, Boxed X T 24 v ∧ ownsL X w.heap.size v d
  fit : ∀ y ∈ d, Fit y.2.2
  r1 : ∃ u, Boxed X (T + 1) 22 u
  r2 : ∃ u, Boxed X (T + 1 + 1) 3 u
  lo : w.heap.size + 2 ≤ T
theorem FillIt.cur {w : World} {T B : Nat} (hB : w.heap.size ≤ B) : CurFrom 56 B (FillIt w T) := fun d X Y row h hg hr => by
  obtain ⟨v, h1, h2⟩ := h.tb
  refine ⟨h.res.cur hB hg hr, ⟨v, boxed_cur h1 (by decide) hg hr, World.ownsRow.kept h2 hg ?_⟩, h.fit, h.r1.imp (fun _ k => boxed_cur k (by decide) hg hr), h.r2.imp (fun _ k => boxed_cur k (by decide) hg hr), h.lo⟩
  cases hv : v.ownBlock with
  | none => exact .inl rfl
  | some g =>
    obtain ⟨c, fz, hc⟩ := ownsL_cells h2 hv
    refine .inr (fun e => ?_)
    obtain ⟨-, o, q1, q2⟩ := hr g e.symm
    rw [hc] at q1
    cases q1
    exact not_apart (by decide) q2
def FillEx (w : World) (d : List Ln) (X : World) : Prop := Res w X (.slice none 0 0) 10 ∧ ∃ y ∈ d, ¬ Fit y.2.2
theorem FillEx.cur {w : World} {B : Nat} (hB : w.heap.size ≤ B) : CurFrom 56 B (FillEx w) := fun _ _ _ _ h hg hr => ⟨h.1.cur hB hg hr, h.2⟩
theorem KeepC.of {T : TypeId} {S : Nat → Prop} {H : Nat} {X Y : World} {row : Option Nat} (hg : X.grownBy Y row) (hr : ∀ r, row = some r → ¬ S r ∧ ∀ o, X.heap[r]? = some o → ¬ Apart T o) : KeepC T S H X Y :=
  ⟨hg.size, fun k hk hi => hg.block k hk (fun e => by
    obtain ⟨h1, h2⟩ := hr k e.symm
    rcases hi with h | ⟨-, o, h3, h4⟩
    · exact h1 h
    · exact h2 o h3 h4)⟩

theorem boxed_put10 {W : World} {B : Nat} {t : TypeId} {v : Value} (h : Boxed W B t v) {D : Nat} {o o' : Obj} (hk : W.heap[D]? = some o) (ho : o.isCells = false) : Boxed (W.putObj D o') B t v :=
  h.kept (grownBy_putObj' W D o') (fun e => by
    cases e
    rw [show W.heap[B]? = _ from h] at hk
    cases hk
    cases ho)
theorem reads_no {T H : Nat} {A : Option Addr} {l : List It} (hA : l ≠ [] → ∀ b off, A = some ⟨b, off, none⟩ → b < H) {k : Nat} (h1 : H ≤ k) (h2 : k ≠ T + 1) (h3 : k ≠ T + 1 + 1) : ¬ Reads (T + 1) (T + 1 + 1) A l k := by
  rintro (h | h | ⟨h, off, e⟩)
  · exact h2 h
  · exact h3 h
  · have := hA h _ _ e; omega
theorem wpListIn_append_ln {F : Fence} {n : Nat} {w : World} {ops : Array Oper} {rest : List Oper} {o : Oper} {a : Act} {Q : Exit → Act → World → Prop} (hg : o.guard = none) (s x : Operand)
    (hop : o.op = .call { callee := .builtin .append, args := #[s, x], argTypes := #[24, 24] })
    (base : Nat) (v : Value) (ps : List Ln) (hs : a.eval s = v) (hown : ownsL w base v ps) (p : Ln) (ad : Addr) (hx : a.eval x = .slice (some ad) 1 1) (hc : ∀ j u, (cellsL [p])[j]? = some u → w.cell? (ad.add j) = some u)
    (hb : ps.length ≤ 100000) (hbase : base ≤ w.heap.size)
    (hK : ∀ g cap w', ownsL w' base (.slice (some ⟨g, 0, none⟩) (ps.length + 1) cap) (ps ++ [p]) → w.grownBy w' v.ownBlock → (v.ownBlock = some g ∨ g = w.heap.size) → g < w'.heap.size → wpListIn F n Try.prog ops Q rest (a.put o.dst (.slice (some ⟨g, 0, none⟩) (ps.length + 1) cap)) w') :
    wpListIn F n Try.prog ops Q (o :: rest) a w := by
  obtain ⟨i0, hi, hz0, hz1, hz2⟩ := info_parts10 Try.infoLn
  obtain ⟨g, cap, w', hrun, r1, r2, r3, r4⟩ := run_append_lies (P := Try.prog) w 24 o.type base 34 i0 _ 3 24 Try.underlying24 hi hz0 hz1 hz2 rfl (by decide) v ps.length _ hown ad 1 1 (cellsL [p]) (cellsL_len [p]) hc (cellsL_one [p]) (by decide) (by unfold maxLen; omega) (by omega) hbase _ rfl
  refine wpListIn_plain hg fun K hK' => ?_
  unfold Oper.wpIn
  refine ⟨?_, ?_⟩
  · simp [Oper.about, hop, resolve, Target.leads, Sem.run_pure]
  · rw [Oper.semAt_plain F _ _ (by rw [hop]; intro c hc'; cases hc')]
    simp [execOp, hop, resolve, invoke, builtin, hs, hx, hrun, Result.andThen]
    exact hK' _ _ (hK g cap w' (by unfold ownsL; rw [cellsL_append, List.length_append]; exact r1) r2 r3 r4)

set_option maxRecDepth 100000 in
set_option maxHeartbeats 8000000 in
theorem fill_loop (l : List It) (v : Value) (x : Int) (w : World) (hv : ItIn w v l) (hn : l.length ≤ 2048) (hk : decide (∀ i, i < l.length → kd l i ≤ 3) = true) (hx : 0 ≤ x) (hl : decide (∀ i, i < l.length → Fit (wd l i)) = true) (hf : Fit x) :
    Calls Try.prog 11 #[v, .int .i64 x] w (FillEnd l x w) := by
  have HG : Hid (Good l) := Lib.hid (fun i hi => of_decide_eq_true hk i hi)
  have HW : Hid (Within l 1099511627776) := Lib.hid (fun i hi => of_decide_eq_true hl i hi)
  have R : Hid (fillA l x = if ∃ y ∈ linesT l x, ¬ Fit y.2.2 then ([], 10) else (linesT l x, 0)) := Lib.hid (by
    unfold fillA
    rw [if_neg (by omega), if_neg, if_neg]
    · rintro (h | ⟨i, hi, h⟩)
      · exact h hf
      · exact h (of_decide_eq_true hl i hi)
    · rintro ⟨i, hi, h3⟩
      have := of_decide_eq_true hk i hi
      omega)
  have K := Lib.hid (fun W (hW : ItIn W v l) => kinds10_any l v W hW (by omega) true hk)
  have KL := Lib.hid (fun W (hW : ItIn W v l) => lengths10_any l v W hW (by omega) true hl)
  have KF := Lib.hid (fun b W hc => fits10_any b x W hc true (by simpa using hf))
  have HV0 := Lib.hid (hv)
  have HV := Lib.hid (hv.keep (Res.new w).below)
  have S0 := Lib.hid (Res.new w)
  obtain ⟨A, c, rfl, -, -⟩ := hv
  have TL := Lib.hid (fun B1 B2 W h1 h2 hI => filled_tell l A c x B1 B2 W h1 h2 hI (by omega) HG.out HW.out)
  obtain ⟨n, en⟩ : ∃ n, l.length = n := ⟨_, rfl⟩
  have EN := Lib.hid en
  rw [en] at hn K KL HV HV0 TL ⊢
  have KI := Lib.hid (fun W => filled_any A n c x W)
  have hz : ¬ (2048 : Int) < n := by omega
  have hx' : decide (x < 0) = false := decide_eq_false (by omega)
  clear hk hl en hf
  refine (callsIn_wide (n := 6)).1 ?_
  refine callsIn_of_wp_marks Try.func11 rfl trivial ?_ rfl
  simp only [Try.ntmps11, List.size_toArray, List.length_cons, List.length_nil, Nat.reduceAdd, Nat.reduceSub, Array.replicate_succ, Array.replicate_zero, List.push_toArray, List.append_toArray, List.nil_append, List.cons_append]
  gi_wp2_with (first
    | (gi_at_call 23; (with_reducible refine (callsIn_wide.2 (K.out _ HV.out)).mono ?_); rintro e w1 ⟨rfl, hg⟩; have S1 := Lib.hid (S0.out.grow hg); have V1 := Lib.hid (HV0.out.keep S1.out.below); clear hg)
    | (gi_at_call 24; (with_reducible refine (callsIn_wide.2 (KL.out _ V1.out)).mono ?_); rintro e w2 ⟨rfl, hg⟩; have S2 := Lib.hid (S1.out.grow hg); clear hg)
    | (gi_at_call 25; refine (callsIn_wide.2 (KF.out _ _ (by simp))).mono ?_; rintro e w3 ⟨rfl, hw⟩; have S3 := Lib.hid (S2.out.grow (World.grownBy_alloc w2 (.cells #[.int .i64 x] 3) none)); rw [hw] at S3; clear hw)
    | (gi_at_call 26; (with_reducible refine (callsIn_wide.2 (KI.out _)).mono ?_); rintro e w4 ⟨rfl, hw⟩; have HW4 := Lib.hid hw; clear hw))
  obtain ⟨T, hT⟩ : ∃ T, w3.heap.size = T := ⟨_, rfl⟩
  have hT2 : w.heap.size + 2 ≤ T := by have := S3.out.b2.lt; omega
  have hAI : l ≠ [] → ∀ b off, A = some ⟨b, off, none⟩ → b < w.heap.size := fun hl b off e => by
    have h1 := HV0.out
    rw [← EN.out] at h1
    exact h1.block_lt hl e
  have gT := (World.grownBy_alloc w3 (.cells #[.slice none 0 0] 24) (none : Option Nat))
  have b0 := Boxed.new w3 24 (.slice none 0 0)
  have b1 := Boxed.new (w3.alloc (.cells #[.slice none 0 0] 24)) 22 (.slice A n c)
  have b2 := Boxed.new ((w3.alloc (.cells #[.slice none 0 0] 24)).alloc (.cells #[.slice A n c] 22)) 3 (.int .i64 x)
  have S4 : Res w w4 (.slice none 0 0) 0 := by
    rw [HW4.out]
    exact ((S3.out.grow gT).grow (World.grownBy_alloc _ _ none)).grow (World.grownBy_alloc _ _ none)
  have B0 : Boxed w4 T 24 (.slice none 0 0) := by rw [HW4.out, ← hT]; exact (b0.alloc _).alloc _
  have B1 : Boxed w4 (T + 1) 22 (.slice A n c) := by rw [HW4.out, ← hT]; rw [World.size_alloc] at b1; exact b1.alloc _
  have B2 : Boxed w4 (T + 1 + 1) 3 (.int .i64 x) := by rw [HW4.out, ← hT]; rw [World.size_alloc, World.size_alloc] at b2; exact b2
  have V4 : ItIn w4 (.slice A n c) l := HV0.out.keep S4.below
  have LT4 := B2.lt
  have I0 := Lib.hid (show FillIt w T [] w4 from ⟨S4, ⟨_, B0, ownsL.nil _ _⟩, fun y hy => absurd hy (by simp), ⟨_, B1⟩, ⟨_, B2⟩, hT2⟩)
  have LL := Lib.hid (fill_len (l := l) x (behind l 0))
  have AI := Lib.hid hAI
  rw [hT]
  refine wpIn_tellsC (k := 3) (T := 56) (w := w4) (w0 := w4) (gf := 29) (lb := #[.pointer (some ⟨T + 1, 0, none⟩), .pointer (some ⟨T + 1 + 1, 0, none⟩)]) rfl (enters_of Try.func29 (by kernel_rfl) rfl)
    (TL.out _ _ w4 B1.cell B2.cell V4) (Below.refl _ _) (fun k hk => ?reads) (fun _ => rfl)
    (FillIt w T) (FillEx w) (FillIt.cur (by omega)) (FillEx.cur (by omega)) I0.out
    (fun pre y a' X => ∃ Bp, X.heap[Bp]? = some (.cells #[.int .i64 (y.1 : Nat), .int .i64 (y.2.1 : Nat), .int .i64 y.2.2] 34 (0, 0)) ∧ a' = { tmps := #[.slice A n c, .int .i64 x, undef, undef, .pointer (some ⟨w.heap.size, 0, none⟩), .pointer (some ⟨w.heap.size + 1, 0, none⟩), .pointer (some ⟨T, 0, none⟩), .pointer (some ⟨Bp, 0, none⟩), .slice A n c, .int .i64 (n : Nat), .bool false, .bool false, .slice A n c, .bool true, .bool false, .bool false, .bool false, .int .i64 x, .bool false, .bool false, .slice A n c, .bool true, .bool false, .bool false, .int .i64 x, .slice (some ⟨w2.heap.size, 0, none⟩) 1 1, .bool true, .bool false, .bool false, .slice A n c, .int .i64 x, .func (.func 29) #[] #[.pointer (some ⟨T + 1, 0, none⟩), .pointer (some ⟨T + 1 + 1, 0, none⟩)], .agg #[.int .i64 (y.1 : Nat), .int .i64 (y.2.1 : Nat), .int .i64 y.2.2], undef, undef, undef, undef, undef, undef, undef, undef, undef, undef], defers := [] })
    (fun pre y a' => ?ax) ?assign ?body ?done ?stop
  case reads =>
    rcases hk with h | h | ⟨h, off, e⟩
    · omega
    · omega
    · have := hAI h _ _ e; have := S4.below.size; omega
  case ax =>
    rintro _ X Y row ⟨Bp, h2, h3⟩ hg hr
    exact ⟨Bp, (hg.block Bp (Array.getElem?_eq_some_iff.1 h2).1 (fun e => by
      obtain ⟨-, o, q1, q2⟩ := hr Bp e.symm
      rw [h2] at q1
      cases q1
      exact not_apart (by decide) q2)).trans h2, h3⟩
  case assign =>
    intro l' pre y X K hi hpre hK
    have g := World.grownBy_alloc X (.cells #[.int .i64 (y.1 : Nat), .int .i64 (y.2.1 : Nat), .int .i64 y.2.2] 34) (none : Option Nat)
    have KK := hK _ _ (KeepC.of g (fun r e => by cases e)) (FillIt.cur (Nat.le_refl _) _ _ _ none hi g (fun r e => by cases e)) ⟨X.heap.size, World.alloc_heap_new X _, rfl⟩
    dsimp only [encL]
    gi_wp2
    simpa using KK
  case body =>
    rintro l' pre ⟨a, t, sw⟩ a' X hl' hi ⟨Bp, hp, rfl⟩ hpre
    have c0 : X.cell? ⟨Bp, 0, none⟩ = some (.int .i64 (a : Nat)) := by simp [World.cell?, hp]
    have c1 : X.cell? ⟨Bp, 1, none⟩ = some (.int .i64 (t : Nat)) := by simp [World.cell?, hp]
    have c2 : X.cell? ⟨Bp, 2, none⟩ = some (.int .i64 sw) := by simp [World.cell?, hp]
    have g1 := World.grownBy_alloc X (.cells #[.int .i64 sw] 3) (none : Option Nat)
    have HI1 := Lib.hid (FillIt.cur (B := w.heap.size) (Nat.le_refl _) _ _ _ none hi g1 (fun r e => by cases e))
    have K1 := Lib.hid (KeepC.of (T := 56) (S := Reads (T + 1) (T + 1 + 1) A l) (H := w4.heap.size) g1 (fun r e => by cases e))
    have HP := Lib.hid (show (X.alloc (.cells #[.int .i64 sw] 3)).heap[Bp]? = some (.cells #[.int .i64 (a : Nat), .int .i64 (t : Nat), .int .i64 sw] 34 (0, 0)) from (g1.block Bp (Array.getElem?_eq_some_iff.1 hp).1 (by simp)).trans hp)
    have DL : pre.length ≤ 90000 := by
      have h1 := hpre.length_le
      rw [List.length_append] at h1
      have h2 := LL.out
      unfold linesT at h1
      have h3 := EN.out
      omega
    have PR := Lib.hid hpre
    clear hi hp hpre g1
    by_cases hfs : Fit sw
    · have KFs := Lib.hid (fun b W hc => fits10_any b sw W hc true (by simpa using hfs))
      have HFS := Lib.hid hfs
      clear hfs
      obtain ⟨v, hv, ho⟩ := HI1.out.tb
      have HV1 := Lib.hid hv
      have HO1 := Lib.hid ho
      have hBs := HI1.out.res.below.size
      have HO2 : Hid (ownsL ((X.alloc (.cells #[.int .i64 sw] 3)).alloc (.cells #[.int .i64 (a : Nat), .int .i64 (t : Nat), .int .i64 sw] 34)) w.heap.size v pre) := Lib.hid (ho.keep ((Below.refl _ _).alloc (Nat.le_refl _) _))
      clear hv ho
      gi_wp2_with (first
        | (gi_at_call 25; refine (CallsIn.inRound l' (callsIn_wide.2 (KFs.out _ _ (by simp)))).mono ?_; rintro e X1 ⟨rfl, hw⟩; rw [hw] at HI1 K1 HP HV1 HO1 HO2 hBs; clear hw c0 c1 c2; have c0 : X1.cell? ⟨Bp, 0, none⟩ = some (.int .i64 (a : Nat)) := (by simp [World.cell?, HP.out]); have c1 : X1.cell? ⟨Bp, 1, none⟩ = some (.int .i64 (t : Nat)) := (by simp [World.cell?, HP.out]); have c2 : X1.cell? ⟨Bp, 2, none⟩ = some (.int .i64 sw) := (by simp [World.cell?, HP.out]); have cv := HV1.out.cell)
        | (gi_at_builtin; (with_reducible change wpListIn _ _ _ _ _ (Oper.mk (some 41) _ _ _ _ _ :: _) _ _); refine wpListIn_append_ln rfl _ _ rfl w.heap.size v pre rfl HO2.out (a, t, sw) ⟨X1.heap.size, 0, none⟩ rfl (fun j u h => ln_cells (a, t, sw) j u h) (by omega) (by rw [World.size_alloc]; omega) ?_; intro g cap w5 hown' hgrow _ _; obtain ⟨hv1, hv2, hr2, -, hb2⟩ := Boxed.appended HV1.out (by decide) HO1.out hBs (by omega) hown' hgrow; have hc1 := hv1.cell; have hf1 := hv1.frozen; have V2 := Lib.hid hv2; have R2 := Lib.hid hr2; have B2' := Lib.hid hb2; have GG := Lib.hid hgrow; clear hv1 hv2 hr2 hb2 hown' hgrow))
      have keep : ∀ {b : Nat} {ty : TypeId} {u : Value}, Boxed X1 b ty u → ty ≠ 34 → b ≠ T → Boxed (w5.setCell ⟨T, 0, none⟩ (.slice (some ⟨g, 0, none⟩) (pre.length + 1) cap)) b ty u := fun h h1 h2 => ((h.alloc _).kept GG.out (h.not_row h1 HO1.out)).other h2 _
      obtain ⟨u1, hu1⟩ := HI1.out.r1
      obtain ⟨u2, hu2⟩ := HI1.out.r2
      refine ⟨?_, ⟨⟨keep HI1.out.res.b1 (by decide) (by omega), keep HI1.out.res.b2 (by decide) (by omega), HI1.out.res.below.trans B2'.out⟩, ⟨_, V2.out, ?_⟩, ?_, ⟨_, keep hu1 (by decide) (by omega)⟩, ⟨_, keep hu2 (by decide) (by omega)⟩, hT2⟩⟩
      · refine ((K1.out.trans (KeepC.of (World.grownBy_alloc X1 (.cells #[.int .i64 (a : Nat), .int .i64 (t : Nat), .int .i64 sw] 34) none) (fun r e => by cases e))).trans (KeepC.of GG.out (fun r e => ⟨reads_no AI.out (World.ownsRow.lt HO1.out r e).1 (fun e' => hu1.not_row (by decide) HO1.out (by rw [e, e'])) (fun e' => hu2.not_row (by decide) HO1.out (by rw [e, e'])), fun o ho => ?_⟩))).trans (KeepC.of (grownBy_setCell' w5 T _) (fun r e => ?_))
        · obtain ⟨cc, fz, hcc⟩ := ownsL_cells HO2.out e
          rw [hcc] at ho
          cases ho
          exact not_apart (by decide)
        · cases e
          refine ⟨reads_no AI.out (by omega) (by omega) (by omega), fun o ho => ?_⟩
          have h5 := (HV1.out.alloc (.cells #[.int .i64 (a : Nat), .int .i64 (t : Nat), .int .i64 sw] 34)).kept GG.out (HV1.out.not_row (by decide) HO1.out)
          rw [show w5.heap[T]? = _ from h5] at ho
          cases ho
          exact not_apart (by decide)
      · exact R2.out
      · intro y hy
        rcases List.mem_append.1 hy with h | h
        · exact HI1.out.fit y h
        · obtain rfl : y = (a, t, sw) := by simpa using h
          exact HFS.out
    · have KFs := Lib.hid (fun b W hc => fits10_any b sw W hc false (by simpa using hfs))
      have HFS := Lib.hid hfs
      clear hfs
      gi_wp2_with (gi_at_call 25; refine (CallsIn.inRound l' (callsIn_wide.2 (KFs.out _ _ (by simp)))).mono ?_; rintro e X1 ⟨rfl, hw⟩; rw [hw] at HI1 K1 HP; clear hw c0 c1 c2; have ok1 := HI1.out.res.b1.cell; have ok2 := HI1.out.res.b2.cell; have fk1 := HI1.out.res.b1.frozen; have fk2 := HI1.out.res.b2.frozen)
      exact ⟨(K1.out.trans (KeepC.of (grownBy_setCell' X1 w.heap.size _) (fun r e => by
          cases e
          refine ⟨reads_no AI.out (by omega) (by omega) (by omega), fun o ho => ?_⟩
          rw [show X1.heap[w.heap.size]? = _ from HI1.out.res.b1] at ho
          cases ho
          exact not_apart (by decide)))).trans (KeepC.of (grownBy_setCell' _ (w.heap.size + 1) _) (fun r e => by
          cases e
          refine ⟨reads_no AI.out (by omega) (by omega) (by omega), fun o ho => ?_⟩
          have h5 := HI1.out.res.b2.other (B' := w.heap.size) (by omega) (.slice none 0 0)
          rw [show (X1.setCell ⟨w.heap.size, 0, none⟩ (.slice none 0 0)).heap[w.heap.size + 1]? = _ from h5] at ho
          cases ho
          exact not_apart (by decide))), HI1.out.res.put (.slice none 0 0) 10, (a, t, sw), by simp, HFS.out⟩
  case done =>
    rintro D X hD hi hK
    obtain ⟨v, hv, ho⟩ := hi.tb
    obtain ⟨A2, c2, rfl, -⟩ := own_form ho
    generalize (linesT l x).length = m2 at hv ho
    have cv := hv.cell
    have ok1 := hi.res.b1.cell
    have ok2 := hi.res.b2.cell
    have fk1 := hi.res.b1.frozen
    have fk2 := hi.res.b2.frozen
    have P := Lib.hid (hi.res.put (.slice A2 m2 c2) 0)
    have RR : Hid (fillA l x = (linesT l x, 0)) := Lib.hid (by
      rw [R.out, if_neg]
      rintro ⟨y, hy, h⟩
      exact h (hi.fit y hy))
    have O2 : Hid (ownsL ((X.setCell ⟨w.heap.size, 0, none⟩ (.slice A2 m2 c2)).setCell ⟨w.heap.size + 1, 0, none⟩ (.int .i64 0)) w.heap.size (.slice A2 m2 c2) (linesT l x)) := Lib.hid (by
      have o1 := World.ownsRow.kept ho (grownBy_setCell' X w.heap.size (.slice A2 m2 c2)) (.inr (hi.res.b1.not_row (by decide) ho).symm)
      exact World.ownsRow.kept o1 (grownBy_setCell' (X.setCell ⟨w.heap.size, 0, none⟩ (.slice A2 m2 c2)) (w.heap.size + 1) (.int .i64 0)) (.inr (hi.res.b2.not_row (by decide) ho).symm))
    have hK2 : Hid (((X.setCell ⟨w.heap.size, 0, none⟩ (.slice A2 m2 c2)).setCell ⟨w.heap.size + 1, 0, none⟩ (.int .i64 0)).heap[D]? = some (.deferred (some []))) := Lib.hid ((KeepsOthers.setCell _ _ _).same D _ ((KeepsOthers.setCell X ⟨w.heap.size, 0, none⟩ (.slice A2 m2 c2)).same D _ hK rfl) rfl)
    have hB := Lib.hid hi.res.below.size
    clear hi hv ho
    gi_wp2
    refine ⟨by simp, .inl ⟨_, _, rfl, run_takeDeferred hK2.out, ?_⟩⟩
    refine ⟨_, results_cells10 rfl _ _ w.heap.size (w.heap.size + 1) _ _ rfl (boxed_put10 P.out.b1 hK2.out rfl) rfl (boxed_put10 P.out.b2 hK2.out rfl), _, by rw [RR.out]; rfl, by rw [RR.out]; exact ownsRow_putObj O2.out _ hK2.out rfl, P.out.below.trans (belowK_b (w := w) (Nat.le_refl _) _ D _ _ (by have := S4.below.size; omega) hK2.out rfl rfl)⟩
  case stop =>
    rintro D pre X hD hp ⟨hr, y, hy, hny⟩ hK
    have RR : Hid (fillA l x = ([], 10)) := Lib.hid (by
      rw [R.out, if_pos]
      exact ⟨y, hp.subset hy, hny⟩)
    have P := Lib.hid hr
    have hK2 := Lib.hid hK
    clear hr
    gi_wp2
    refine ⟨by simp, .inl ⟨_, _, rfl, run_takeDeferred hK2.out, ?_⟩⟩
    exact ⟨_, results_cells10 rfl _ _ w.heap.size (w.heap.size + 1) _ _ rfl (boxed_put10 P.out.b1 hK2.out rfl) rfl (boxed_put10 P.out.b2 hK2.out rfl), _, by rw [RR.out]; rfl, by rw [RR.out]; exact ownsL.nil _ _, P.out.below.trans (belowK_b (w := w) (Nat.le_refl _) _ D _ _ (by have := S4.below.size; omega) hK2.out rfl rfl)⟩

theorem fill_ok : FillOK 11 := by
  intro l v x w hv hn hx _
  by_cases h1 : 2048 < l.length ∨ decide (∀ i, i < l.length → kd l i ≤ 3) = false ∨ x < 0
  · exact fill_arg l v x w hv hn _ rfl h1
  · have h2 : decide (∀ i, i < l.length → kd l i ≤ 3) = true := by
      rcases Bool.eq_false_or_eq_true (decide (∀ i, i < l.length → kd l i ≤ 3)) with h | h
      · exact h
      · exact absurd (.inr (.inl h)) h1
    by_cases h3 : decide (∀ i, i < l.length → Fit (wd l i)) = false ∨ ¬ Fit x
    · exact fill_over l v x w hv (by omega) h2 (by omega) _ rfl h3
    · have h4 : decide (∀ i, i < l.length → Fit (wd l i)) = true := by
        rcases Bool.eq_false_or_eq_true (decide (∀ i, i < l.length → Fit (wd l i))) with h | h
        · exact h
        · exact absurd (.inl h) h3
      exact fill_loop l v x w hv (by omega) h2 (by omega) h4 (Classical.byContradiction (fun c => h3 (.inr c)))
end Go.Proofs.Ytpfeiiabplaghaa
