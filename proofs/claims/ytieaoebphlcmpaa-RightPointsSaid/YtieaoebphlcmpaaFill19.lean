/-
  The landed Fill.
-/
import Derived.Test.YtieaoebphlcmpaaHit19
import Derived.Stop.RegionWithIn
import Derived.Sort.QuietIn
namespace Go.Proofs.Ytieaoebphlcmpaa
open Go.RowKit Go.Shelf
attribute [local go_sem] Oper.semAt_some
attribute [local go_sem] wide_fn19

/-- where Fill's loop stands -/
structure FillIt19 (w : World) (C : Nat) (d : List (Nat × Fr)) (X : World) : Prop where
  below : Below w.heap.size w X
  c : ArB X C (foldA d)
  lo : w.heap.size ≤ C
theorem FillIt19.cur {w : World} {C B : Nat} (hB : w.heap.size ≤ B) : CurFrom noT B (FillIt19 w C) := fun _ _ _ _ h hg hr =>
  ⟨h.below.grown hg h.below.size (fun k e => Nat.le_trans hB (hr k e).1), (hg.block C h.c.lt (fun e => by
    obtain ⟨-, o, h1, h2⟩ := hr C e.symm
    rw [show _ = _ from h.c] at h1
    cases h1
    exact not_apart19 (by decide) h2)).trans h.c, h.lo⟩
theorem FillIt19.keep {w X Y : World} {C : Nat} {d : List (Nat × Fr)} (h : FillIt19 w C d X) (hb : Below X.heap.size X Y) : FillIt19 w C d Y :=
  ⟨b_nx19 h.below hb, h.c.keep hb, h.lo⟩
theorem KeepC.put19 {S : Nat → Prop} {H : Nat} {W : World} {C : Nat} {a : Ar} (h : ArB W C a) (hS : ¬ S C) (x y r s : Int) :
    KeepC noT S H W ((((W.setCell ⟨C, 0, none⟩ (.int .i64 x)).setCell ⟨C, 1, none⟩ (.int .i64 y)).setCell ⟨C, 2, none⟩ (.int .i64 r)).setCell ⟨C, 3, none⟩ (.int .i64 s)) :=
  ⟨by simp [World.setCell], fun k _ hi => by
    have hne : C ≠ k := by
      rintro rfl
      rcases hi with h1 | ⟨-, o, h2, h3⟩
      · exact hS h1
      · rw [show _ = _ from h] at h2
        cases h2
        exact not_apart19 (by decide) h3
    simp [World.setCell, Array.getElem?_modify, hne]⟩
theorem none_cur19 {B : Nat} : CurFrom noT B (fun (_ : List (Nat × Fr)) (_ : World) => False) := fun _ _ _ _ h _ _ => h
set_option maxRecDepth 100000 in
set_option maxHeartbeats 8000000 in
theorem fill19_no (l : List Fr) (A : Option Addr) (n c : Nat) (w : World) (hF : FrIn w (.slice A n c) l) (hl : l.length = n) (hn : n ≤ 4096) (hB : BigsF l) (h0 : lastP oddF l l.length ≠ -1) :
    Calls Try.prog 4 #[.slice A n c] w fun e w' => e = .returned (.tuple #[.int .i64 (fillZ l).1, .int .i64 (fillZ l).2.1, .int .i64 (fillZ l).2.2.1, .int .i64 (fillZ l).2.2.2]) ∧ Below w.heap.size w w' := by
  have RR : Hid (fillZ l = (0, 0, 0, 0)) := Lib.hid (if_neg h0)
  have big : ∀ f, f ∈ l → BigF f := fun f hf => by
    obtain ⟨i, hi, rfl⟩ := List.getElem_of_mem hf
    have := hB i hi
    rwa [frA_get hi] at this
  have K := Lib.hid (lastOf19 l A n c oddF 9 #[] w hF hl hn (enters_of Try.func9 (by kernel_rfl) rfl) (fun f hf W b _ hb => fill1_19 f W b hb (big f hf)))
  obtain ⟨z, hz⟩ : ∃ z, lastP oddF l n = z := ⟨_, rfl⟩
  rw [hl] at h0
  rw [hz] at K h0
  have h1 : decide (z = -1) = false := decide_eq_false h0
  have h2 : (z == -1) = false := h1
  have h3 : (z != -1) = true := by simpa using h0
  clear hF hl hB big hz h0
  go_enter Try.func4, Try.ntmps4
  go_wp2_with (go_at_call 8; (with_reducible refine K.out.mono ?_); rintro e w1 ⟨rfl, hb1⟩; have B1 := Lib.hid hb1; clear hb1)
  refine bodyPost_ret (results_tmp4_19 rfl _ _ _) rfl ?_
  exact ⟨by rw [RR.out]; rfl, B1.out⟩
set_option maxRecDepth 100000 in
set_option maxHeartbeats 8000000 in
theorem fill19_yes (l : List Fr) (A : Option Addr) (n c : Nat) (w : World) (hF : FrIn w (.slice A n c) l) (hl : l.length = n) (hn : n ≤ 4096) (hB : BigsF l) (h0 : lastP oddF l l.length = -1) :
    Calls Try.prog 4 #[.slice A n c] w fun e w' => e = .returned (.tuple #[.int .i64 (fillZ l).1, .int .i64 (fillZ l).2.1, .int .i64 (fillZ l).2.2.1, .int .i64 (fillZ l).2.2.2]) ∧ Below w.heap.size w w' := by
  have RR : Hid (fillZ l = ((fillAr l).l, (fillAr l).t, (fillAr l).r - (fillAr l).l, (fillAr l).b - (fillAr l).t)) := Lib.hid (if_pos h0)
  have NA := Lib.hid (fill_near h0)
  have FT : Hid (∀ x ∈ behF l n, fitF x.2 = true) := Lib.hid (fun x hx => by
    obtain ⟨h1, h2⟩ := behF_mem hx
    have := lastP_none.1 h0 x.1 (by rw [hl]; exact h1)
    rw [h2]
    unfold oddF at this
    simpa using this)
  have big : ∀ f, f ∈ l → BigF f := fun f hf => by
    obtain ⟨i, hi, rfl⟩ := List.getElem_of_mem hf
    have := hB i hi
    rwa [frA_get hi] at this
  have AI : Hid (∀ b, (0 < n ∧ ∃ off, A = some ⟨b, off, none⟩) → b < w.heap.size) := Lib.hid (by
    rintro b ⟨hn0, off, rfl⟩
    obtain ⟨b', off', e, hb, -⟩ := hF.at_ (i := 0) (by omega)
    cases e
    exact hb)
  have K : Hid (Calls Try.prog 8 #[.slice A n c, .func (.func 9) #[] #[]] w fun e w' => e = .returned (.int .i64 (-1)) ∧ Below w.heap.size w w') := Lib.hid (by
    rw [hl] at h0
    have := lastOf19 l A n c oddF 9 #[] w hF hl hn (enters_of Try.func9 (by kernel_rfl) rfl) (fun f hf W b _ hb => fill1_19 f W b hb (big f hf))
    rwa [h0] at this)
  have TL := Lib.hid (fun B W h1 hI => behind_tell l A n c B W h1 hI hl hn)
  have FA : Hid (fillAr l = foldA (behF l n)) := Lib.hid (by unfold fillAr; rw [hl])
  have HF := Lib.hid hF
  clear hF hl hB big h0
  refine (callsIn_wide (n := 6)).1 ?_
  refine callsIn_of_wp_marks Try.func4 rfl trivial ?_ rfl
  simp only [Try.ntmps4, List.size_toArray, List.length_cons, List.length_nil, Nat.reduceAdd, Nat.reduceSub, Array.replicate_succ, Array.replicate_zero, List.push_toArray, List.append_toArray, List.nil_append, List.cons_append]
  gi_wp2_with (first
    | (gi_at_call 8; (with_reducible refine (callsIn_wide.2 K.out).mono ?_); rintro e w1 ⟨rfl, hb1⟩; have B1 := Lib.hid hb1; clear hb1)
    | (gi_at_call 11; refine (callsIn_wide.2 (fromBehind19 A n c _)).mono ?_; rintro e w4 ⟨rfl, hw⟩; have HW4 := Lib.hid hw; clear hw))
  have HC0 : Hid (FillIt19 w w1.heap.size [] (w1.alloc (.cells #[.int .i64 0, .int .i64 0, .int .i64 0, .int .i64 0] 33))) := Lib.hid ⟨B1.out.alloc B1.out.size _, ArB.new w1 arZ, B1.out.size⟩
  have HC := Lib.hid (HC0.out.keep ((Below.refl _ _).alloc (Nat.le_refl _) (.cells #[.slice A n c] 22)))
  have B2 : Hid (Boxed ((w1.alloc (.cells #[.int .i64 0, .int .i64 0, .int .i64 0, .int .i64 0] 33)).alloc (.cells #[.slice A n c] 22)) (w1.heap.size + 1) 22 (.slice A n c)) := Lib.hid (by
    have := Boxed.new (w1.alloc (.cells #[.int .i64 0, .int .i64 0, .int .i64 0, .int .i64 0] 33)) 22 (.slice A n c)
    rwa [World.size_alloc] at this)
  have S4 : Hid (w4.heap.size = w1.heap.size + 1 + 1) := Lib.hid (by rw [← HW4.out]; simp only [World.size_alloc])
  rw [HW4.out] at HC B2
  have SZ := Lib.hid B1.out.size
  have F4 := HF.out.keep HC.out.below
  obtain ⟨C, hC⟩ : ∃ C, w1.heap.size = C := ⟨_, rfl⟩
  rw [hC] at HC B2 S4 SZ ⊢
  clear HC0 HW4 B1 hC
  refine wpIn_tellsC (k := 3) (T := noT) (w := w4) (w0 := w4) (gf := 17) (lb := #[.pointer (some ⟨C + 1, 0, none⟩)]) rfl (enters_of Try.func17 (by kernel_rfl) rfl)
    (TL.out _ w4 B2.out.cell F4) (Below.refl _ _) (fun k hk => ?reads) (fun _ => rfl)
    (FillIt19 w C) (fun _ _ => False) (FillIt19.cur (by have := S4.out; have := SZ.out; omega)) none_cur19 HC.out
    (fun pre y a' X => ∃ Bp, X.heap[Bp]? = some (.cells (frCells y.2).toArray 29 (0, 0)) ∧ a' = { tmps := #[.slice A n c, undef, .int .i64 0, .int .i64 0, .int .i64 0, .int .i64 0, .pointer (some ⟨C, 0, none⟩), undef, .pointer (some ⟨Bp, 0, none⟩), .slice A n c, .int .i64 (-1), .bool false, .slice A n c, .func (.func 17) #[] #[.pointer (some ⟨C + 1, 0, none⟩)], .int .i64 (y.1 : Nat), frV y.2, undef, undef, undef, undef, undef, undef, undef, undef, undef, undef, undef, undef, undef, undef, undef, undef, undef, undef], defers := [] })
    (fun pre y a' => ?ax) ?assign ?body ?done ?stop
  case reads =>
    have := S4.out
    have := SZ.out
    rcases hk with rfl | h
    · omega
    · have := AI.out k h; omega
  case ax =>
    rintro _ X Y row ⟨Bp, h2, h3⟩ hg hr
    exact ⟨Bp, (hg.block Bp (Array.getElem?_eq_some_iff.1 h2).1 (fun e => by
      obtain ⟨-, o, q1, q2⟩ := hr Bp e.symm
      rw [h2] at q1
      cases q1
      exact not_apart19 (by decide) q2)).trans h2, h3⟩
  case assign =>
    intro l' pre y X K hi hpre hK
    have hb : Below X.heap.size X (X.alloc (.cells (frCells y.2).toArray 29)) := (Below.refl _ X).alloc (Nat.le_refl _) _
    have KK := hK _ _ (KeepC.below19 hb) (hi.keep hb) ⟨X.heap.size, World.alloc_heap_new X _, rfl⟩
    unfold frCells at KK
    unfold frV at KK
    dsimp only [encB]
    unfold frV
    gi_wp2
    simpa using KK
  case body =>
    rintro l' pre ⟨k, f⟩ a' X hl' hi ⟨Bp, hp, rfl⟩ hpre
    dsimp only at hp
    have hfit : fitF f = true := FT.out (k, f) (hpre.subset (List.mem_append_right _ (List.mem_singleton.2 rfl)))
    have KA := Lib.hid (fun W => areaOf19 f W hfit)
    have KW := Lib.hid (fun W => with19 (foldA pre) (arOf f) W)
    have FS := Lib.hid (foldA_snoc pre (k, f))
    have HI := Lib.hid hi
    have hfr : FrAt X Bp 0 f := FrAt.of fun i u hi' hu => by
      rw [Nat.zero_add]
      simp [World.cell?, hp, hu]
    have hlp : Bp < X.heap.size := (Array.getElem?_eq_some_iff.1 hp).1
    obtain ⟨r, hr⟩ : ∃ r, withA (foldA pre) (arOf f) = r := ⟨_, rfl⟩
    dsimp only at FS
    rw [hr] at KW FS
    have HFR := Lib.hid hfr
    obtain ⟨a, ha⟩ : ∃ a, foldA pre = a := ⟨_, rfl⟩
    rw [ha] at KW
    have hc := hi.c
    rw [ha] at hc
    have HC := Lib.hid hc
    obtain ⟨c0, c1, c2, c3⟩ := hc.cell
    obtain ⟨f0, f1, f2, fx, fy, fw, fh, f7⟩ := f
    obtain ⟨d0, d1, d2, d3, d4, d5, d6, d7⟩ := hfr
    simp only [Nat.zero_add] at d0 d1 d2 d3 d4 d5 d6 d7
    obtain ⟨al, at_, ar, ab⟩ := a
    obtain ⟨rl, rt, rr, rb⟩ := r
    unfold frV at KA ⊢
    unfold arOf at KA KW
    unfold arV at KA KW
    dsimp only at KA KW c0 c1 c2 c3 ⊢
    clear hr ha hi hp hpre hfit hc
    gi_wp2
    gi_region_with (first
      | (gi_at_call 13; refine (CallsIn.inRound l' (callsIn_wide.2 (KA.out _))).mono ?_; rintro e w5 ⟨rfl, hb5⟩; have B5 : Below X.heap.size X w5 := ((Below.refl X.heap.size X).drew.trans hb5); have X5 := Lib.hid B5; have H5 := Lib.hid (HC.out.keep B5); obtain ⟨e0, e1, e2, e3⟩ := H5.out.cell; dsimp only at e0 e1 e2 e3)
      | (gi_at_call 12; refine (CallsIn.inRound l' (callsIn_wide.2 (KW.out _))).mono ?_; rintro e w6 ⟨rfl, hb6⟩; have H6 := Lib.hid (H5.out.keep hb6); obtain ⟨g0, g1, g2, g3⟩ := H6.out.cell; obtain ⟨z0, z1, z2, z3⟩ := H6.out.frozen; dsimp only at g0 g1 g2 g3))
    all_goals
      refine ⟨?_, ?_, ?_, HI.out.lo⟩
      · refine ((KeepC.below19 X5.out).trans (KeepC.below19 hb6)).trans ?_
        exact KeepC.put19 H6.out (by
          have := SZ.out
          rintro (h | h)
          · omega
          · have := AI.out _ h; omega) rl rt rr rb
      · have B7 := b_nx19 (b_nx19 HI.out.below X5.out) hb6
        exact (((B7.setCell (p := ⟨C, 0, none⟩) HI.out.lo _).setCell (p := ⟨C, 1, none⟩) HI.out.lo _).setCell (p := ⟨C, 2, none⟩) HI.out.lo _).setCell (p := ⟨C, 3, none⟩) HI.out.lo _
      · rw [FS.out]
        exact H6.out.put rl rt rr rb
  case done =>
    rintro D X hD hi hK
    have NA2 := NA.out
    have FA2 := FA.out
    have hc := hi.c
    rw [← FA2] at hc
    have hb := Lib.hid hi.below
    unfold NearA at NA2
    obtain ⟨a, ha⟩ : ∃ a, fillAr l = a := ⟨_, rfl⟩
    rw [ha] at hc NA2 RR
    obtain ⟨al, at_, ar, ab⟩ := a
    obtain ⟨c0, c1, c2, c3⟩ := hc.cell
    dsimp only at c0 c1 c2 c3 NA2 RR
    obtain ⟨n1, n2, n3, n4⟩ := NA2
    have HK := Lib.hid hK
    clear ha FA2 hc hi hK NA FA
    gi_wp2
    gi_quiet (fail)
    gi_wp2
    have hK2 : (X.drewN nq).heap[D]? = some (.deferred (some [])) := HK.out
    refine ⟨by simp, .inl ⟨_, _, rfl, run_takeDeferred hK2, ?_⟩⟩
    refine ⟨_, results_tmp4_19 rfl _ _ _, ?_, (below_drewN19 hb.out _).trans (belowK_b (w := w) (Nat.le_refl _) _ D _ _ (by have := S4.out; have := SZ.out; omega) hK2 rfl rfl)⟩
    rw [RR.out]
    rfl
  case stop =>
    rintro D pre X hD hp hf hK
    exact hf.elim
end Go.Proofs.Ytieaoebphlcmpaa
