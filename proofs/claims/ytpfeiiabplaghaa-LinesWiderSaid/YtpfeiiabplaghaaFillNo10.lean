/-
  Fill of the landed code where it refuses its items or the width.
-/
import Derived.Test.YtpfeiiabplaghaaParts10
import Derived.RangeFuncBox
namespace Go.Proofs.Ytpfeiiabplaghaa
open Go.RowKit Go.Shelf

theorem results_cells10 {fn : Func} {p q : Tmp} (h : fn.results = #[.cell p 24, .cell q 27]) (tmps : Array Value) (w : World) (g1 g2 : Nat) (v : Value) (f : Int)
    (hp : tmps.getD p undef = .pointer (some ⟨g1, 0, none⟩)) (hg : Boxed w g1 24 v)
    (hq : tmps.getD q undef = .pointer (some ⟨g2, 0, none⟩)) (he : Boxed w g2 27 (.int .i64 f)) :
    (results fn tmps).run Try.prog w = .ok (.tuple #[v, .int .i64 f]) w := by
  have hp' : tmps[p]?.getD undef = .pointer (some ⟨g1, 0, none⟩) := by simpa using hp
  have hq' : tmps[q]?.getD undef = .pointer (some ⟨g2, 0, none⟩) := by simpa using hq
  have h1 : (loadVar 24 ⟨g1, 0, none⟩).run Try.prog w = .ok v w := by
    have := hg.cell
    simp [go_sem, this]
  have h2 : (loadVar 27 ⟨g2, 0, none⟩).run Try.prog w = .ok (.int .i64 f) w := by
    have := he.cell
    simp [go_sem, this]
  simp only [results, h]
  simp [Sem.run_bind, Result.andThen]
  rw [hp', hq']
  simp [asAddr, h1, h2]
/-- where Fill's walk stands ahead of its loop: its results' variables -/
structure Res (w X : World) (v : Value) (f : Int) : Prop where
  b1 : Boxed X w.heap.size 24 v
  b2 : Boxed X (w.heap.size + 1) 27 (.int .i64 f)
  below : Below w.heap.size w X
theorem Res.made (w : World) (f : Int) : Res w ((w.alloc (.cells #[.slice none 0 0] 24)).alloc (.cells #[.int .i64 f] 27)) (.slice none 0 0) f := by
  refine ⟨(Boxed.new w _ _).alloc _, ?_, ((Below.refl _ w).alloc (Nat.le_refl _) _).alloc (by simp) _⟩
  have := Boxed.new (w.alloc (.cells #[.slice none 0 0] 24)) 27 (.int .i64 f)
  rwa [World.size_alloc] at this
theorem Res.new (w : World) : Res w ((w.alloc (.cells #[.slice none 0 0] 24)).alloc (.cells #[.int .i64 0] 27)) (.slice none 0 0) 0 := Res.made w 0
theorem Res.grow {w X Y : World} {v : Value} {f : Int} (h : Res w X v f) (hg : X.grownBy Y none) : Res w Y v f :=
  ⟨h.b1.kept hg (by simp), h.b2.kept hg (by simp), h.below.trans ⟨hg.os, hg.tape, hg.output, hg.size, fun k hk => hg.block k (by have := h.below.size; omega) (by simp)⟩⟩
theorem Res.put {w X : World} {v : Value} {f : Int} (h : Res w X v f) (u : Value) (g : Int) : Res w ((X.setCell ⟨w.heap.size, 0, none⟩ u).setCell ⟨w.heap.size + 1, 0, none⟩ (.int .i64 g)) u g :=
  ⟨(h.b1.set u).other (by omega) _, (h.b2.other (by omega) _).set _, (h.below.setCell (p := ⟨w.heap.size, 0, none⟩) (Nat.le_refl _) _).setCell (p := ⟨w.heap.size + 1, 0, none⟩) (by show w.heap.size ≤ w.heap.size + 1; omega) _⟩

set_option maxRecDepth 100000 in
set_option maxHeartbeats 4000000 in
theorem fill_arg (l : List It) (v : Value) (x : Int) (w : World) (hv : ItIn w v l) (hn : l.length ≤ 2100) (kOK : Bool) (hk : decide (∀ i, i < l.length → kd l i ≤ 3) = kOK) (h : 2048 < l.length ∨ kOK = false ∨ x < 0) :
    Calls Try.prog 11 #[v, .int .i64 x] w (FillEnd l x w) := by
  have R : Hid (fillA l x = ([], 2)) := Lib.hid (by
    unfold fillA
    by_cases h1 : 2048 < l.length ∨ x < 0
    · rw [if_pos h1]
    · rw [if_neg h1, if_pos]
      refine Classical.byContradiction (fun c => ?_)
      have : kOK = true := by
        rw [← hk]
        refine decide_eq_true (fun i hi => Nat.le_of_not_lt (fun h3 => c ⟨i, hi, h3⟩))
      rw [this] at h
      simp at h
      omega)
  have K := Lib.hid (fun W (hW : ItIn W v l) => kinds10_any l v W hW (by omega) kOK hk)
  have NO : Hid (∀ Y, Res w Y (.slice none 0 0) 2 → FillEnd l x w (.returned (.tuple #[.slice none 0 0, .int .i64 2])) Y) := Lib.hid (fun Y hY => ⟨_, by rw [R.out]; rfl, by rw [R.out]; exact ownsL.nil _ _, hY.below⟩)
  have HV := Lib.hid (hv.keep (Res.new w).below)
  have S0 := Lib.hid (Res.new w)
  obtain ⟨A, c, rfl, -, -⟩ := hv
  obtain ⟨n, en⟩ : ∃ n, l.length = n := ⟨_, rfl⟩
  rw [en] at h hn K HV ⊢
  clear R hk en
  by_cases h1 : 2048 < n
  · have hz : (2048 : Int) < n := by omega
    clear h
    go_enter Try.func11, Try.ntmps11
    go_wp2_with fail
    refine bodyPost_ret (results_cells10 rfl _ _ w.heap.size (w.heap.size + 1) _ _ rfl (Res.made w 2).b1 rfl (Res.made w 2).b2) rfl ?_
    exact NO.out _ (Res.made w 2)
  · have hz : ¬ (2048 : Int) < n := by omega
    cases kOK with
    | false =>
      clear h
      go_enter Try.func11, Try.ntmps11
      go_wp2_with (go_at_call 23; (with_reducible refine (K.out _ HV.out).mono ?_); rintro e w1 ⟨rfl, hg⟩; have S1 := Lib.hid (S0.out.grow hg); have ok1 := S1.out.b1.cell; have ok2 := S1.out.b2.cell; have fk1 := S1.out.b1.frozen; have fk2 := S1.out.b2.frozen; clear hg)
      have P := S1.out.put (.slice none 0 0) 2
      refine bodyPost_ret (results_cells10 rfl _ _ w.heap.size (w.heap.size + 1) _ _ rfl P.b1 rfl P.b2) rfl ?_
      exact NO.out _ P
    | true =>
      have hx : x < 0 := by simpa [h1] using h
      clear h
      go_enter Try.func11, Try.ntmps11
      go_wp2_with (go_at_call 23; (with_reducible refine (K.out _ HV.out).mono ?_); rintro e w1 ⟨rfl, hg⟩; have S1 := Lib.hid (S0.out.grow hg); have ok1 := S1.out.b1.cell; have ok2 := S1.out.b2.cell; have fk1 := S1.out.b1.frozen; have fk2 := S1.out.b2.frozen; clear hg)
      have P := S1.out.put (.slice none 0 0) 2
      refine bodyPost_ret (results_cells10 rfl _ _ w.heap.size (w.heap.size + 1) _ _ rfl P.b1 rfl P.b2) rfl ?_
      exact NO.out _ P

set_option maxRecDepth 100000 in
set_option maxHeartbeats 4000000 in
theorem fill_over (l : List It) (v : Value) (x : Int) (w : World) (hv : ItIn w v l) (hn : l.length ≤ 2048) (hk : decide (∀ i, i < l.length → kd l i ≤ 3) = true) (hx : 0 ≤ x) (lOK : Bool) (hl : decide (∀ i, i < l.length → Fit (wd l i)) = lOK) (h : lOK = false ∨ ¬ Fit x) :
    Calls Try.prog 11 #[v, .int .i64 x] w (FillEnd l x w) := by
  have R : Hid (fillA l x = ([], 10)) := Lib.hid (by
    unfold fillA
    rw [if_neg (by omega), if_neg, if_pos]
    · rcases h with h | h
      · refine .inr (Classical.byContradiction (fun c => ?_))
        rw [h] at hl
        refine (of_decide_eq_false hl) (fun i hi => Classical.byContradiction (fun d => c ⟨i, hi, d⟩))
      · exact .inl h
    · rintro ⟨i, hi, h3⟩
      have := of_decide_eq_true hk i hi
      omega)
  have K := Lib.hid (fun W (hW : ItIn W v l) => kinds10_any l v W hW (by omega) true hk)
  have KL := Lib.hid (fun W (hW : ItIn W v l) => lengths10_any l v W hW (by omega) lOK hl)
  have NO : Hid (∀ Y, Res w Y (.slice none 0 0) 10 → FillEnd l x w (.returned (.tuple #[.slice none 0 0, .int .i64 10])) Y) := Lib.hid (fun Y hY => ⟨_, by rw [R.out]; rfl, by rw [R.out]; exact ownsL.nil _ _, hY.below⟩)
  have HV0 := Lib.hid (hv)
  have HV := Lib.hid (hv.keep (Res.new w).below)
  have S0 := Lib.hid (Res.new w)
  obtain ⟨A, c, rfl, -, -⟩ := hv
  obtain ⟨n, en⟩ : ∃ n, l.length = n := ⟨_, rfl⟩
  rw [en] at hn K KL HV HV0 ⊢
  have hz : ¬ (2048 : Int) < n := by omega
  have hx' : ¬ x < 0 := by omega
  clear R hk hl en
  cases lOK with
  | false =>
    clear h
    go_enter Try.func11, Try.ntmps11
    go_wp2_with (first
      | (go_at_call 23; (with_reducible refine (K.out _ HV.out).mono ?_); rintro e w1 ⟨rfl, hg⟩; have S1 := Lib.hid (S0.out.grow hg); have V1 := Lib.hid (HV0.out.keep S1.out.below); clear hg)
      | (go_at_call 24; (with_reducible refine (KL.out _ V1.out).mono ?_); rintro e w2 ⟨rfl, hg⟩; have S2 := Lib.hid (S1.out.grow hg); have ok1 := S2.out.b1.cell; have ok2 := S2.out.b2.cell; have fk1 := S2.out.b1.frozen; have fk2 := S2.out.b2.frozen; clear hg))
    have P := S2.out.put (.slice none 0 0) 10
    refine bodyPost_ret (results_cells10 rfl _ _ w.heap.size (w.heap.size + 1) _ _ rfl P.b1 rfl P.b2) rfl ?_
    exact NO.out _ P
  | true =>
    have hf : decide (Fit x) = false := by simpa using h
    have KF := Lib.hid (fun b W hc => fits10_any b x W hc false hf)
    clear h hf
    go_enter Try.func11, Try.ntmps11
    go_wp2_with (first
      | (go_at_call 23; (with_reducible refine (K.out _ HV.out).mono ?_); rintro e w1 ⟨rfl, hg⟩; have S1 := Lib.hid (S0.out.grow hg); have V1 := Lib.hid (HV0.out.keep S1.out.below); clear hg)
      | (go_at_call 24; (with_reducible refine (KL.out _ V1.out).mono ?_); rintro e w2 ⟨rfl, hg⟩; have S2 := Lib.hid (S1.out.grow hg); clear hg)
      | (go_at_call 25; refine (KF.out _ _ (by simp)).mono ?_; rintro e w3 ⟨rfl, hw⟩; have S3 := Lib.hid (S2.out.grow (World.grownBy_alloc w2 (.cells #[.int .i64 x] 3) none)); rw [hw] at S3; have ok1 := S3.out.b1.cell; have ok2 := S3.out.b2.cell; have fk1 := S3.out.b1.frozen; have fk2 := S3.out.b2.frozen; clear hw))
    have P := S3.out.put (.slice none 0 0) 10
    refine bodyPost_ret (results_cells10 rfl _ _ w.heap.size (w.heap.size + 1) _ _ rfl P.b1 rfl P.b2) rfl ?_
    exact NO.out _ P
end Go.Proofs.Ytpfeiiabplaghaa
