/-
  The landed lastOf, Hit, Fill.
-/
import Derived.Test.YtieaoebphlcmpaaBehind19
import Derived.RangeFuncOwn
import Derived.RangeFuncKeeps
namespace Go.Proofs.Ytieaoebphlcmpaa
open Go.RowKit Go.Shelf
attribute [local go_sem] Oper.semAt_some
attribute [local go_sem] wide_fn19

theorem fromBehind19 (A : Option Addr) (n c : Nat) (w : World) :
    Calls Try.prog 11 #[.slice A n c] w fun e w' => e = .returned (.func (.func 17) #[] #[.pointer (some ⟨w.heap.size, 0, none⟩)]) ∧ w.alloc (.cells #[.slice A n c] 22) = w' := by
  go_enter Try.func11, Try.ntmps11
  go_wp2
  go_ret
  exact ⟨rfl, rfl⟩
theorem results_box19 {fn : Func} {p : Tmp} (h : fn.results = #[.cell p 3]) (tmps : Array Value) (w : World) (g : Nat) (v : Int) (hp : tmps.getD p undef = .pointer (some ⟨g, 0, none⟩)) (hb : Boxed w g 3 (.int .i64 v)) :
    (results fn tmps).run Try.prog w = .ok (.int .i64 v) w := by
  have hc := hb.cell
  have hp' : tmps[p]?.getD undef = .pointer (some ⟨g, 0, none⟩) := by simpa using hp
  simp [results, h, hp', go_sem, hc]
theorem boxed_put19 {W : World} {B : Nat} {t : TypeId} {v : Value} (h : Boxed W B t v) {D : Nat} {o o' : Obj} (hk : W.heap[D]? = some o) (ho : o.isCells = false) : Boxed (W.putObj D o') B t v :=
  h.kept (grownBy_putObj' W D o') (fun e => by
    cases e
    rw [show W.heap[B]? = _ from h] at hk
    cases hk
    cases ho)
/-- where lastOf's loop stands -/
structure LastIt (w : World) (p : Fr → Bool) (hv : Value) (d : List (Nat × Fr)) (X : World) : Prop where
  below : Below w.heap.size w X
  h : Boxed X w.heap.size 31 hv
  r : Boxed X (w.heap.size + 1) 3 (.int .i64 0)
  no : ∀ q ∈ d, p q.2 = false
structure LastEx (w : World) (p : Fr → Bool) (d : List (Nat × Fr)) (X : World) : Prop where
  below : Below w.heap.size w X
  ex : ∃ qs x, d = qs ++ [x] ∧ p x.2 = true ∧ (∀ q ∈ qs, p q.2 = false) ∧ Boxed X (w.heap.size + 1) 3 (.int .i64 (x.1 : Nat))
theorem LastIt.cur {w : World} {p : Fr → Bool} {hv : Value} {B : Nat} (hB : w.heap.size ≤ B) : CurFrom noT B (LastIt w p hv) := fun _ _ _ _ h hg hr =>
  ⟨h.below.grown hg h.below.size (fun k e => Nat.le_trans hB (hr k e).1), boxed_cur19 h.h (by decide) hg hr, boxed_cur19 h.r (by decide) hg hr, h.no⟩
theorem LastEx.cur {w : World} {p : Fr → Bool} {B : Nat} (hB : w.heap.size ≤ B) : CurFrom noT B (LastEx w p) := fun _ _ _ _ h hg hr =>
  ⟨h.below.grown hg h.below.size (fun k e => Nat.le_trans hB (hr k e).1), by
    obtain ⟨qs, x, h1, h2, h3, h4⟩ := h.ex
    exact ⟨qs, x, h1, h2, h3, boxed_cur19 h4 (by decide) hg hr⟩⟩
theorem LastIt.keep {w X Y : World} {p : Fr → Bool} {hv : Value} {d : List (Nat × Fr)} (h : LastIt w p hv d X) (hb : Below X.heap.size X Y) : LastIt w p hv d Y :=
  ⟨b_nx19 h.below hb, (hb.block _ h.h.lt).trans h.h, (hb.block _ h.r.lt).trans h.r, h.no⟩

set_option maxRecDepth 100000 in
set_option maxHeartbeats 8000000 in
theorem lastOf19 (l : List Fr) (A : Option Addr) (n c : Nat) (p : Fr → Bool) (g : Nat) (lb : Array Value) (w : World) (hF : FrIn w (.slice A n c) l) (hl : l.length = n) (hn : n ≤ 4096)
    (hg : ∀ args w, (callFunc g args).run Try.prog w = .ok (.enter g args) w)
    (hH : ∀ x, x ∈ l → ∀ W b, Below w.heap.size w W → p x = b → Calls Try.prog g (#[frV x] ++ lb) W fun e w' => e = .returned (.bool b) ∧ Below W.heap.size W w') :
    Calls Try.prog 8 #[.slice A n c, .func (.func g) #[] lb] w fun e w' => e = .returned (.int .i64 (lastP p l n)) ∧ Below w.heap.size w w' := by
  have HH := Lib.hid hH
  have HL := Lib.hid hl
  have HF := Lib.hid hF
  have AI : Hid (∀ b, (0 < n ∧ ∃ off, A = some ⟨b, off, none⟩) → b < w.heap.size) := Lib.hid (by
    rintro b ⟨hn0, off, rfl⟩
    obtain ⟨b', off', e, hb, -⟩ := hF.at_ (i := 0) (by omega)
    cases e
    exact hb)
  have b0 := Boxed.new w 31 (.func (.func g) #[] lb)
  have b1 := Boxed.new (w.alloc (.cells #[.func (.func g) #[] lb] 31)) 3 (.int .i64 0)
  have b2 := Boxed.new ((w.alloc (.cells #[.func (.func g) #[] lb] 31)).alloc (.cells #[.int .i64 0] 3)) 22 (.slice A n c)
  have I0 : Hid (LastIt w p (.func (.func g) #[] lb) [] (((w.alloc (.cells #[.func (.func g) #[] lb] 31)).alloc (.cells #[.int .i64 0] 3)).alloc (.cells #[.slice A n c] 22))) := Lib.hid (by
    rw [World.size_alloc] at b1
    exact ⟨(((Below.refl _ w).alloc (Nat.le_refl _) _).alloc (by rw [World.size_alloc]; omega) _).alloc (by simp only [World.size_alloc]; omega) _, (b0.alloc _).alloc _, b1.alloc _, fun q hq => by cases hq⟩)
  have B2 : Hid (Boxed (((w.alloc (.cells #[.func (.func g) #[] lb] 31)).alloc (.cells #[.int .i64 0] 3)).alloc (.cells #[.slice A n c] 22)) (w.heap.size + 1 + 1) 22 (.slice A n c)) := Lib.hid (by
    simp only [World.size_alloc] at b2
    exact b2)
  have TL := Lib.hid (fun B W h1 hI => behind_tell l A n c B W h1 hI hl hn)
  clear hH hF hl b0 b1 b2
  refine (callsIn_wide (n := 6)).1 ?_
  refine callsIn_of_wp_marks Try.func8 rfl trivial ?_ rfl
  simp only [Try.ntmps8, List.size_toArray, List.length_cons, List.length_nil, Nat.reduceAdd, Nat.reduceSub, Array.replicate_succ, Array.replicate_zero, List.push_toArray, List.append_toArray, List.nil_append, List.cons_append]
  gi_wp2_with (gi_at_call 11; refine (callsIn_wide.2 (fromBehind19 A n c _)).mono ?_; rintro e w4 ⟨rfl, hw⟩; have HW4 := Lib.hid hw; clear hw)
  rw [HW4.out] at I0 B2
  have S4 : Hid (w4.heap.size = w.heap.size + 1 + 1 + 1) := Lib.hid (by rw [← HW4.out]; simp only [World.size_alloc])
  have F4 := HF.out.keep I0.out.below
  refine wpIn_tellsC (k := 3) (T := noT) (w := w4) (w0 := w4) (gf := 17) (lb := #[.pointer (some ⟨w.heap.size + 1 + 1, 0, none⟩)]) rfl (enters_of Try.func17 (by kernel_rfl) rfl)
    (TL.out _ w4 B2.out.cell F4) (Below.refl _ _) (fun k hk => ?reads) (fun _ => rfl)
    (LastIt w p (.func (.func g) #[] lb)) (LastEx w p) (LastIt.cur (by have := S4.out; omega)) (LastEx.cur (by have := S4.out; omega)) I0.out
    (fun pre y a' X => ∃ Bp, X.heap[Bp]? = some (.cells (frCells y.2).toArray 29 (0, 0)) ∧ a' = { tmps := #[.slice A n c, .func (.func g) #[] lb, undef, .pointer (some ⟨w.heap.size, 0, none⟩), .pointer (some ⟨w.heap.size + 1, 0, none⟩), .int .i64 (y.1 : Nat), .pointer (some ⟨Bp, 0, none⟩), .slice A n c, .func (.func 17) #[] #[.pointer (some ⟨w.heap.size + 1 + 1, 0, none⟩)], .int .i64 (y.1 : Nat), frV y.2, undef, undef, undef, undef], defers := [] })
    (fun pre y a' => ?ax) ?assign ?body ?done ?stop
  case reads =>
    have := S4.out
    rcases hk with rfl | h
    · omega
    · have := AI.out k h; omega
  case ax =>
    rintro _ X Y row ⟨Bp, h2, h3⟩ hg hr
    exact ⟨Bp, (hg.block Bp (Array.getElem?_eq_some_iff.1 h2).1 (fun e => by
      obtain ⟨-, o, q1, q2⟩ := hr Bp e.symm
      rw [h2] at q1
      cases q1
      exact not_apart19 (by decide) q2)).trans h2, h3⟩
  case assign =>
    intro l' pre y X K hi hpre hK
    have hb : Below X.heap.size X (X.alloc (.cells (frCells y.2).toArray 29)) := (Below.refl _ X).alloc (Nat.le_refl _) _
    have KK := hK _ _ (KeepC.below19 hb) (hi.keep hb) ⟨X.heap.size, World.alloc_heap_new X _, rfl⟩
    unfold frCells at KK
    unfold frV at KK
    dsimp only [encB]
    unfold frV
    gi_wp2
    simpa using KK
  case body =>
    rintro l' pre ⟨k, f⟩ a' X hl' hi ⟨Bp, hp, rfl⟩ hpre
    dsimp only at hp
    have hm : f ∈ l := by
      have h1 := behF_mem (hpre.subset (List.mem_append_right _ (List.mem_singleton.2 rfl)))
      have h2 : k < l.length := by rw [HL.out]; exact h1.1
      rw [show f = frA l k from h1.2, frA_get h2]
      exact List.getElem_mem h2
    have hlt : k < n := (behF_mem (hpre.subset (List.mem_append_right _ (List.mem_singleton.2 rfl)))).1
    have ch := hi.h.cell
    have cr := hi.r.cell
    have HI := Lib.hid hi
    have HP := Lib.hid hp
    have PR := Lib.hid hpre
    have K0 := HH.out f hm X
    have hfr : FrAt X Bp 0 f := FrAt.of fun i u hi' hu => by
      rw [Nat.zero_add]
      simp [World.cell?, hp, hu]
    obtain ⟨f0, f1, f2, f3, f4, f5, f6, f7⟩ := f
    obtain ⟨d0, d1, d2, d3, d4, d5, d6, d7⟩ := hfr
    simp only [Nat.zero_add] at d0 d1 d2 d3 d4 d5 d6 d7
    unfold frV at K0 ⊢
    dsimp only at K0 ⊢
    cases hpf : p ⟨f0, f1, f2, f3, f4, f5, f6, f7⟩ with
    | false =>
      have K := Lib.hid (K0 false hi.below hpf)
      have NP := Lib.hid hpf
      clear K0 hm hi hp hpre hpf
      gi_wp2_with (gi_at_fn g; refine (CallsIn.inRound l' (callsIn_wide.2 K.out)).mono ?_; rintro e w5 ⟨rfl, hb5⟩; have B5 := Lib.hid hb5; clear hb5)
      refine ⟨KeepC.below19 B5.out, HI.out.keep B5.out |>.below, (HI.out.keep B5.out).h, (HI.out.keep B5.out).r, fun q hq => ?_⟩
      rcases List.mem_append.1 hq with h | h
      · exact HI.out.no q h
      · obtain rfl : q = (k, ⟨f0, f1, f2, f3, f4, f5, f6, f7⟩) := by simpa using h
        exact NP.out
    | true =>
      have K := Lib.hid (K0 true hi.below hpf)
      have NP := Lib.hid hpf
      clear K0 hm hi hp hpre hpf
      gi_wp2_with (gi_at_fn g; refine (CallsIn.inRound l' (callsIn_wide.2 K.out)).mono ?_; rintro e w5 ⟨rfl, hb5⟩; have B5 := Lib.hid hb5; have I5 := Lib.hid (HI.out.keep hb5); have cr5 := I5.out.r.cell; have fr5 := I5.out.r.frozen; clear hb5 cr)
      refine ⟨(KeepC.below19 B5.out).trans (KeepC.of19 (grownBy_setCell' w5 (w.heap.size + 1) _) (fun r e => ?_)), ⟨I5.out.below.setCell (p := ⟨w.heap.size + 1, 0, none⟩) (by show w.heap.size ≤ w.heap.size + 1; omega) _, pre, _, rfl, NP.out, HI.out.no, I5.out.r.set _⟩⟩
      cases e
      refine ⟨?_, fun o ho => ?_⟩
      · rintro (h | h)
        · omega
        · have := AI.out _ h; omega
      · rw [show w5.heap[w.heap.size + 1]? = _ from I5.out.r] at ho
        cases ho
        exact not_apart19 (by decide)
  case done =>
    rintro D X hD hi hK
    have cr := hi.r.cell
    have fr := hi.r.frozen
    have HI := Lib.hid hi
    have hK2 : Hid ((X.setCell ⟨w.heap.size + 1, 0, none⟩ (.int .i64 (-1))).heap[D]? = some (.deferred (some []))) := Lib.hid ((KeepsOthers.setCell X ⟨w.heap.size + 1, 0, none⟩ (.int .i64 (-1))).same D _ hK rfl)
    have RR := Lib.hid (last_none hi.no)
    clear hi
    gi_wp2
    refine ⟨by simp, .inl ⟨_, _, rfl, run_takeDeferred hK2.out, ?_⟩⟩
    refine ⟨_, results_box19 rfl _ _ (w.heap.size + 1) (-1) rfl (boxed_put19 (HI.out.r.set _) hK2.out rfl), by rw [RR.out], (HI.out.below.setCell (p := ⟨w.heap.size + 1, 0, none⟩) (by show w.heap.size ≤ w.heap.size + 1; omega) _).trans (belowK_b (w := w) (Nat.le_refl _) _ D _ _ (by have := S4.out; omega) hK2.out rfl rfl)⟩
  case stop =>
    rintro D pre X hD hp ⟨hb, qs, x, rfl, h2, h3, h4⟩ hK
    have RR := Lib.hid (last_stop hp h3 h2)
    have hK2 := Lib.hid hK
    have H4 := Lib.hid h4
    clear h2 h3 h4 hp
    gi_wp2
    refine ⟨by simp, .inl ⟨_, _, rfl, run_takeDeferred hK2.out, ?_⟩⟩
    exact ⟨_, results_box19 rfl _ _ (w.heap.size + 1) (x.1 : Nat) rfl (boxed_put19 H4.out hK2.out rfl), by rw [RR.out], hb.trans (belowK_b (w := w) (Nat.le_refl _) _ D _ _ (by have := S4.out; omega) hK2.out rfl rfl)⟩
end Go.Proofs.Ytieaoebphlcmpaa
