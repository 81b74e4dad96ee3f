/-
  What the document's Add, Copy and Same answer: the sum of numbers, if all are lengths and it is one; a list in memory of its own; whether two lists are the same.
-/
import Derived.Test.YtpjhhndjbpegcaaAdd
import Derived.Laws.AppendOwnNone
import Derived.BigQuiet
import Derived.Deep.QuietTactic
namespace Go.Proofs.Ytpjhhndjbpegcaa
open Go.RowKit

theorem sum_bd (f : Nat → Int) (k : Nat) (h : ∀ i, i < k → Fit (f i)) : -1099511627776 * k ≤ sumI f k ∧ sumI f k ≤ 1099511627776 * k := by
  induction k with
  | zero => simp [sumI]
  | succ k ih =>
    have := ih fun i hi => h i (by omega)
    have hk := h k (by omega)
    simp only [sumI, Fit] at *
    omega
theorem sum_step (f : Nat → Int) (k : Nat) : sumI f (k + 1) = sumI f k + f k := rfl
theorem info_int : (Try.prog.info? 3).map (fun i => (i.zero, i.size, i.bytes)) = some (some (.int .i64 0), 1, 8) := by kernel_rfl
/-- a slice, of which nothing more is said than that it reads so -/
def Made (f : Nat → Int) (n : Nat) (w : World) (e : Ending) (w' : World) : Prop := ∃ A c, e = .returned (.slice A n c) ∧ Ints w' A n f ∧ Below w.heap.size w w' ∧ (∀ b off sp, A = some ⟨b, off, sp⟩ → w.heap.size ≤ b)
theorem copy_any (A : Option Addr) (n c : Nat) (f : Nat → Int) (w : World) (h : Ints w A n f) (hn : n ≤ 1048576) (hA : A = none → n = 0 ∧ c = 0) :
    Calls Try.prog 10 #[.slice A n c] w (Made f n w) := by
  obtain ⟨i0, hi, hz0, hz1, hz2⟩ := info_parts info_int
  have H := Lib.hid h
  cases A with
  | none =>
    obtain ⟨rfl, rfl⟩ := hA rfl
    clear hA h
    go_enter Try.func10, Try.ntmps10
    go_wp2_with (at_builtin; refine wpList_append_own_none rfl _ _ 22 rfl w.heap.size 3 i0 1 Try.underlying22 hi _ 0 [] rfl (World.ownsRow_nil _ _ _ _) rfl ?_)
    go_ret
    exact ⟨none, 0, rfl, Ints.zero _ _, Below.refl _ _, fun _ _ _ e => by cases e⟩
  | some ad =>
    have hcells : ∀ j u, ((List.range n).map (fun i => Value.int .i64 (f i)))[j]? = some u → w.cell? (ad.add j) = some u := by
      intro j u hj
      have hlt : j < n := by
        have := List.getElem?_eq_some_iff.1 hj
        obtain ⟨h1, _⟩ := this
        simpa using h1
      obtain ⟨b, off, e, _, hc⟩ := h.at_ hlt
      injection e with e
      subst e
      simp [hlt] at hj
      subst hj
      have e : (Addr.add ⟨b, off, none⟩ j) = ⟨b, off + j, none⟩ := by unfold Addr.add; split <;> simp_all
      rw [e]
      exact hc
    have h1 : ∀ u ∈ (List.range n).map (fun i => Value.int .i64 (f i)), u.oneCell' = true := by
      intro u hu
      simp at hu
      obtain ⟨i, _, rfl⟩ := hu
      rfl
    have hl : ((List.range n).map (fun i => Value.int .i64 (f i))).length = n * 1 := by simp
    have C1 := Lib.hid hcells
    have C2 := Lib.hid h1
    have C3 := Lib.hid hl
    clear hcells h1 hl hA h
    go_enter Try.func10, Try.ntmps10
    go_wp2_with (at_builtin; refine wpList_append_own _ rfl _ _ 22 rfl w.heap.size 3 i0 (.int .i64 0) 1 8 Try.underlying22 hi hz0 hz1 hz2 rfl (by decide) _ 0 [] rfl (World.ownsRow_nil _ _ _ _) ad n c _ rfl C3.out C1.out C2.out (by unfold maxLen; omega) (by omega) (Nat.le_refl _) ?_)
    intro v' w1 hown hg hnil
    have R : Hid (Made f n w (.returned v') w1) := Lib.hid (by
      try simp only [Nat.zero_add, List.nil_append] at hown
      have hb : Below w.heap.size w w1 := (Below.refl _ _).grown hg (Nat.le_refl _) (fun k e => by cases e)
      rcases Nat.eq_zero_or_pos n with rfl | hp
      · rcases hown.2 with ⟨rfl, _⟩ | ⟨g, cap, cur, rfl, hge, _⟩
        · exact ⟨none, 0, rfl, Ints.zero _ _, hb, fun _ _ _ e => by cases e⟩
        · exact ⟨some ⟨g, 0, none⟩, cap, rfl, Ints.zero _ _, hb, fun _ _ _ e => by cases e; exact hge⟩
      · obtain ⟨g, cap, rfl, hge, _⟩ := hown.form hp
        refine ⟨some ⟨g, 0, none⟩, cap, rfl, ?_, hb, fun _ _ _ e => by cases e; exact hge⟩
        have e : (List.range n).map (fun i => Value.int .i64 (f i)) = ((List.range n).map f).map (Value.int .i64) := by simp
        rw [e] at hown
        exact Ints.of_own hown (fun i hi => by simp [hi]) (fun i hi => H.out.bd hi))
    clear hown hg hnil
    go_wp2
    go_ret
    exact R.out
end Go.Proofs.Ytpjhhndjbpegcaa
