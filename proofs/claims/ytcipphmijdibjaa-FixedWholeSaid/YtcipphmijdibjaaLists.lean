/-
  What the document's Add, Copy and Same answer: the sum of numbers, if all are lengths and it is one; a list in memory of its own; whether two lists are the same.
-/
import Derived.Test.YtcipphmijdibjaaAdd
import Derived.Laws.AppendOwnNone
import Derived.BigQuiet
import Derived.Deep.QuietTactic
namespace Go.Proofs.Ytcipphmijdibjaa
open Go.RowKit

theorem sum_bd (f : Nat → Int) (k : Nat) (h : ∀ i, i < k → Fit (f i)) : -1099511627776 * k ≤ sumI f k ∧ sumI f k ≤ 1099511627776 * k := by
  induction k with
  | zero => simp [sumI]
  | succ k ih =>
    have := ih fun i hi => h i (by omega)
    have hk := h k (by omega)
    simp only [sumI, Fit] at *
    omega
theorem sum_step (f : Nat → Int) (k : Nat) : sumI f (k + 1) = sumI f k + f k := rfl
theorem refAdd_no (A : Option Addr) (n c : Nat) (f : Nat → Int) (w : World) (h : Ints w A n f) (hn : n ≤ 1048576) (hf : allFit f n = false) :
    Calls Try.prog 14 #[.slice A n c] w fun e w' => e = .returned (.tuple #[.int .i64 0, .int .i64 10]) ∧ w = w' := by
  have H := Lib.hid h
  have F := Lib.hid hf
  clear h hf
  go_enter Try.func14, Try.ntmps14
  go_wp2_with (go_at_call 16; refine (all_any _ _ _ f _ H.out (by omega) false F.out).mono ?_; rintro e w' ⟨rfl, rfl⟩)
  go_ret2
  exact ⟨rfl, rfl⟩
theorem refAdd_yes (A : Option Addr) (n c : Nat) (f : Nat → Int) (w : World) (h : Ints w A n f) (hn : n ≤ 1048576) (hf : allFit f n = true) (p : Int × Int) (hp : pair (sumI f n) = p) :
    Calls Try.prog 14 #[.slice A n c] w fun e w' => e = .returned (.tuple #[.int .i64 p.1, .int .i64 p.2]) ∧ w = w' := by
  have H := Lib.hid h
  have F := Lib.hid hf
  have G : Hid (∀ i, i < n → Fit (f i)) := Lib.hid (by simpa [allFit] using hf)
  have PP := Lib.hid hp
  clear h hf hp
  go_enter Try.func14, Try.ntmps14
  go_wp2_with (go_at_call 16; refine (all_any _ _ _ f _ H.out (by omega) true F.out).mono ?_; rintro e w' ⟨rfl, rfl⟩)
  go_loop [4, 5] (fun a i => ∃ k : Nat, k ≤ n ∧ a = .int .i64 (sumI f k) ∧ i = .int .i64 k) (fun _ i => n - (intOf i).toNat)
  case atStart => exact ⟨0, by omega, rfl, rfl⟩
  case round =>
    obtain ⟨k, hk, rfl, rfl⟩ := hrel
    by_cases hlt : k < n
    · obtain ⟨b, off, rfl, hb, hc⟩ := H.out.at_ hlt
      have bu := sum_bd f k (fun i hi => G.out i (by omega))
      have bk : Fit (f k) := G.out k hlt
      have S1 : Hid _ := Lib.hid (sum_step f k)
      unfold Fit at bk
      generalize hu : sumI f k = u at bu S1 ⊢
      generalize hx : f k = x at hc bk S1
      clear hu hx hb
      go_wp2
      go_round
      case rel => exact ⟨k + 1, by omega, by rw [S1.out], by go_num⟩
      case measure => simp [intOf]; omega
    · obtain rfl : k = n := by omega
      have bu := sum_bd f k (fun i hi => G.out i (by omega))
      clear G F
      generalize sumI f k = u at bu PP ⊢
      by_cases hU : Fit u
      · have D : Hid (decide (Fit u) = true) := Lib.hid (by simpa using hU)
        have Q : Hid (p = (u, 0)) := Lib.hid (by rw [← PP.out]; exact pair_yes hU)
        clear hU PP
        go_wp2_with (go_at_call 32; refine (refFits_any _ _ true D.out).mono ?_; rintro e w' ⟨rfl, rfl⟩)
        go_ret2
        exact ⟨by rw [Q.out]; rfl, rfl⟩
      · have D : Hid (decide (Fit u) = false) := Lib.hid (by simpa using hU)
        have Q : Hid (p = (0, 10)) := Lib.hid (by rw [← PP.out]; exact pair_no hU)
        clear hU PP
        go_wp2_with (go_at_call 32; refine (refFits_any _ _ false D.out).mono ?_; rintro e w' ⟨rfl, rfl⟩)
        go_ret2
        exact ⟨by rw [Q.out]; rfl, rfl⟩
theorem refAdd_any (A : Option Addr) (n c : Nat) (f : Nat → Int) (w : World) (h : Ints w A n f) (hn : n ≤ 1048576) (p : Int × Int) (hp : addRes f n = p) :
    Calls Try.prog 14 #[.slice A n c] w fun e w' => e = .returned (.tuple #[.int .i64 p.1, .int .i64 p.2]) ∧ w = w' := by
  subst hp
  unfold addRes
  by_cases hf : allFit f n = true
  · rw [if_pos hf]
    exact refAdd_yes A n c f w h hn hf _ rfl
  · rw [if_neg hf]
    exact refAdd_no A n c f w h hn (by simpa using hf)

theorem info_int : (Try.prog.info? 3).map (fun i => (i.zero, i.size, i.bytes)) = some (some (.int .i64 0), 1, 8) := by kernel_rfl
/-- a slice, of which nothing more is said than that it reads so -/
def Made (f : Nat → Int) (n : Nat) (w : World) (e : Ending) (w' : World) : Prop := ∃ A c, e = .returned (.slice A n c) ∧ Ints w' A n f ∧ Below w.heap.size w w' ∧ (∀ b off sp, A = some ⟨b, off, sp⟩ → w.heap.size ≤ b)
theorem copy_any (A : Option Addr) (n c : Nat) (f : Nat → Int) (w : World) (h : Ints w A n f) (hn : n ≤ 1048576) (hA : A = none → n = 0 ∧ c = 0) :
    Calls Try.prog 12 #[.slice A n c] w (Made f n w) := by
  obtain ⟨i0, hi, hz0, hz1, hz2⟩ := info_parts info_int
  have H := Lib.hid h
  cases A with
  | none =>
    obtain ⟨rfl, rfl⟩ := hA rfl
    clear hA h
    go_enter Try.func12, Try.ntmps12
    go_wp2_with (at_builtin; refine wpList_append_own_none rfl _ _ 22 rfl w.heap.size 3 i0 1 Try.underlying22 hi _ 0 [] rfl (World.ownsRow_nil _ _ _ _) rfl ?_)
    go_ret
    exact ⟨none, 0, rfl, Ints.zero _ _, Below.refl _ _, fun _ _ _ e => by cases e⟩
  | some ad =>
    have hcells : ∀ j u, ((List.range n).map (fun i => Value.int .i64 (f i)))[j]? = some u → w.cell? (ad.add j) = some u := by
      intro j u hj
      have hlt : j < n := by
        have := List.getElem?_eq_some_iff.1 hj
        obtain ⟨h1, _⟩ := this
        simpa using h1
      obtain ⟨b, off, e, _, hc⟩ := h.at_ hlt
      injection e with e
      subst e
      simp [hlt] at hj
      subst hj
      have e : (Addr.add ⟨b, off, none⟩ j) = ⟨b, off + j, none⟩ := by unfold Addr.add; split <;> simp_all
      rw [e]
      exact hc
    have h1 : ∀ u ∈ (List.range n).map (fun i => Value.int .i64 (f i)), u.oneCell' = true := by
      intro u hu
      simp at hu
      obtain ⟨i, _, rfl⟩ := hu
      rfl
    have hl : ((List.range n).map (fun i => Value.int .i64 (f i))).length = n * 1 := by simp
    have C1 := Lib.hid hcells
    have C2 := Lib.hid h1
    have C3 := Lib.hid hl
    clear hcells h1 hl hA h
    go_enter Try.func12, Try.ntmps12
    go_wp2_with (at_builtin; refine wpList_append_own _ rfl _ _ 22 rfl w.heap.size 3 i0 (.int .i64 0) 1 8 Try.underlying22 hi hz0 hz1 hz2 rfl (by decide) _ 0 [] rfl (World.ownsRow_nil _ _ _ _) ad n c _ rfl C3.out C1.out C2.out (by unfold maxLen; omega) (by omega) (Nat.le_refl _) ?_)
    intro v' w1 hown hg hnil
    have R : Hid (Made f n w (.returned v') w1) := Lib.hid (by
      try simp only [Nat.zero_add, List.nil_append] at hown
      have hb : Below w.heap.size w w1 := (Below.refl _ _).grown hg (Nat.le_refl _) (fun k e => by cases e)
      rcases Nat.eq_zero_or_pos n with rfl | hp
      · rcases hown.2 with ⟨rfl, _⟩ | ⟨g, cap, cur, rfl, hge, _⟩
        · exact ⟨none, 0, rfl, Ints.zero _ _, hb, fun _ _ _ e => by cases e⟩
        · exact ⟨some ⟨g, 0, none⟩, cap, rfl, Ints.zero _ _, hb, fun _ _ _ e => by cases e; exact hge⟩
      · obtain ⟨g, cap, rfl, hge, _⟩ := hown.form hp
        refine ⟨some ⟨g, 0, none⟩, cap, rfl, ?_, hb, fun _ _ _ e => by cases e; exact hge⟩
        have e : (List.range n).map (fun i => Value.int .i64 (f i)) = ((List.range n).map f).map (Value.int .i64) := by simp
        rw [e] at hown
        exact Ints.of_own hown (fun i hi => by simp [hi]) (fun i hi => H.out.bd hi))
    clear hown hg hnil
    go_wp2
    go_ret
    exact R.out
end Go.Proofs.Ytcipphmijdibjaa
