/-
  Which styles lie in which blocks of the call's own.
-/
import Derived.Test.YtdadlhkbngopaaaStyleVars
import Derived.Test.YtdadlhkbngopaaaStyleEdges
namespace Go.Proofs.Ytdadlhkbngopaaa
open Go.RowKit

/-- each of these blocks is the call's own, holds that style, and is no other one of them -/
structure Blocks (w W : World) (l : List (Nat × RS)) : Prop where
  below : Below w.heap.size w W
  all : ∀ p ∈ l, Box27 W p.1 p.2.cells.toArray ∧ w.heap.size ≤ p.1
  apart : l.Pairwise fun p q => p.1 ≠ q.1
theorem Blocks.nil (w : World) : Blocks w w [] := ⟨Below.refl _ _, (fun _ h => by cases h), List.Pairwise.nil⟩
theorem Blocks.grew {w W W' : World} {l : List (Nat × RS)} {g : Nat} {X : Array Value} (h : Blocks w W l) (hg : Grew W W' g X) (s : RS) (hs : X = s.cells.toArray) : Blocks w W' ((g, s) :: l) := by
  subst hs
  refine ⟨hg.below _ _ h.below.size h.below, fun p hp => ?_, List.Pairwise.cons (fun p hp => ?_) h.apart⟩
  · rcases List.mem_cons.1 hp with rfl | hp
    · exact ⟨hg.box, by have := h.below.size; have := hg.at_; show _ ≤ g; omega⟩
    · exact ⟨hg.other _ _ (h.all p hp).1, (h.all p hp).2⟩
  · have := (h.all p hp).1.1
    have := hg.at_
    show g ≠ p.1
    omega
theorem Blocks.call {w W W' : World} {l : List (Nat × RS)} (h : Blocks w W l) (hb : Below W.heap.size W W') : Blocks w W' l :=
  ⟨h.below.trans (hb.mono h.below.size), fun p hp => ⟨(h.all p hp).1.below hb, (h.all p hp).2⟩, h.apart⟩
theorem Blocks.drew {w W : World} {l : List (Nat × RS)} (h : Blocks w W l) : Blocks w W.drew l := ⟨h.below.drew, fun p hp => h.all p hp, h.apart⟩
theorem Blocks.drewN {w W : World} {l : List (Nat × RS)} (h : Blocks w W l) (n : Nat) : Blocks w (W.drewN n) l := ⟨below_q h.below n, fun p hp => h.all p hp, h.apart⟩
theorem Blocks.box {w W : World} {l : List (Nat × RS)} (h : Blocks w W l) (k : Nat) {g : Nat} {s : RS} (hk : l[k]? = some (g, s)) : Box27 W g s.cells.toArray := (h.all _ (List.mem_of_getElem? hk)).1
theorem Blocks.lo {w W : World} {l : List (Nat × RS)} (h : Blocks w W l) (k : Nat) {g : Nat} {s : RS} (hk : l[k]? = some (g, s)) : w.heap.size ≤ g := (h.all _ (List.mem_of_getElem? hk)).2
theorem Blocks.wrote {w W W' : World} {l : List (Nat × RS)} {g : Nat} {X : Array Value} (h : Blocks w W l) (hw : Wrote W W' g X) (k : Nat) {s : RS} (hk : l[k]? = some (g, s)) (s' : RS) (hs : X = s'.cells.toArray) : Blocks w W' (l.set k (g, s')) := by
  subst hs
  have hlt : k < l.length := (List.getElem?_eq_some_iff.1 hk).1
  have hg : l[k] = (g, s) := (List.getElem?_eq_some_iff.1 hk).2
  have ap := h.apart
  rw [List.pairwise_iff_getElem] at ap
  refine ⟨hw.below _ _ (h.lo k hk) h.below, fun p hp => ?_, ?_⟩
  · obtain ⟨i, hi, rfl⟩ := List.mem_iff_getElem.1 hp
    rw [List.length_set] at hi
    by_cases e : k = i
    · subst e; rw [List.getElem_set_self]; exact ⟨hw.box, h.lo k hk⟩
    · rw [List.getElem_set_ne e]
      have hm := h.all _ (List.getElem_mem hi)
      refine ⟨hw.other _ _ ?_ hm.1, hm.2⟩
      rcases Nat.lt_or_gt_of_ne e with c | c
      · have := ap k i hlt hi c; rw [hg] at this; exact fun e => this e.symm
      · have := ap i k hi hlt c; rw [hg] at this; exact this
  · rw [List.pairwise_iff_getElem]
    intro i j hi hj hij
    rw [List.length_set] at hi hj
    have := ap i j hi hj hij
    rw [List.getElem_set, List.getElem_set]
    split
    · next e => subst e; rw [hg] at this; split <;> first | exact this | (next e2 => omega)
    · split
      · next e => subst e; rw [hg] at this; exact this
      · exact this
theorem Blocks.swap {w W : World} {l : List (Nat × RS)} {p q : Nat × RS} (h : Blocks w W (p :: q :: l)) : Blocks w W (q :: p :: l) := by
  refine ⟨h.below, fun x hx => h.all x ?_, ?_⟩
  · simp only [List.mem_cons] at hx ⊢; rcases hx with h | h | h <;> simp [h]
  · have := h.apart
    simp only [List.pairwise_cons, List.mem_cons] at this ⊢
    obtain ⟨h1, h2, h3⟩ := this
    exact ⟨fun x hx => by rcases hx with rfl | hx; exact fun e => h1 q (.inl rfl) e.symm; exact h2 x hx, fun x hx => h1 x (.inr hx), h3⟩
theorem Blocks.swap1 {w W : World} {l : List (Nat × RS)} {x p q : Nat × RS} (h : Blocks w W (x :: p :: q :: l)) : Blocks w W (x :: q :: p :: l) := by
  refine ⟨h.below, fun y hy => h.all y ?_, ?_⟩
  · simp only [List.mem_cons] at hy ⊢; rcases hy with h | h | h | h <;> simp [h]
  · have := h.apart
    simp only [List.pairwise_cons, List.mem_cons] at this ⊢
    obtain ⟨h0, h1, h2, h3⟩ := this
    exact ⟨fun y hy => by rcases hy with rfl | rfl | hy; exact h0 y (.inr (.inl rfl)); exact h0 y (.inl rfl); exact h0 y (.inr (.inr hy)),
      fun y hy => by rcases hy with rfl | hy; exact fun e => h1 q (.inl rfl) e.symm; exact h2 y hy, fun y hy => h1 y (.inr hy), h3⟩
theorem style_cellsz (s : RS) : s.cells.toArray.size = 47 ∧ ∀ v ∈ s.cells.toArray.toList, v.oneCell' = true := ⟨by simp [s.len], fun v hv => style_one s v (by simpa using hv)⟩
end Go.Proofs.Ytdadlhkbngopaaa
