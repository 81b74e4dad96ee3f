/-
  tree.May of the landed code.
-/
import Derived.Test.YtmodegkpfdlccaaKeys5
namespace Go.Proofs.Ytmodegkpfdlccaa
open Go.RowKit

set_option maxRecDepth 100000 in
theorem shape_iff {N : Nat → RN} {n : Nat} {x : Int} : Shape n x N ↔ 0 < n ∧ n ≤ 300 ∧ DepthsOK N n ∧ KeysOK N n x ∧ ContentsOK N n := by
  constructor
  · intro h
    refine ⟨h.some_, h.most, ⟨h.steps.1, h.first, fun i h0 hi => ?_⟩, ⟨h.key, h.next, h.once⟩, fun i hi => ?_, h.bytes⟩
    · have h1 := h.steps.2 i h0 hi
      have h2 := h.deep i hi
      unfold dps at h1
      refine ⟨h1.1, ?_⟩
      unfold mostBehind
      split
      · rename_i hk
        have h3 := h.behind (i - 1) (by omega) hk
        rwa [show i - 1 + 1 = i by omega] at h3
      · split <;> omega
    · rcases h.kind i hi with hk | hk
      · exact .inl ⟨hk, h.box i hi hk⟩
      · exact .inr ⟨hk, h.text i hi hk⟩
  · rintro ⟨h0, h1, ⟨d0, k0, hd⟩, ⟨hk, hx, ho⟩, hc, hb⟩
    have bd := hd.bd d0
    have hm : ∀ i, 0 < i → i < n → (N i).depth ≤ mostBehind (N (i - 1)) := fun i a b => (hd i a b).2
    refine ⟨h0, h1, hx, ⟨d0, fun i a b => ⟨(hd i a b).1, ?_⟩⟩, fun i hi => (bd i hi).2, fun i hi => ?_, k0, fun i hi hkk => ?_, hk, ho, fun i hi hkk => ?_, fun i hi hkk => ?_, hb⟩
    · have := hm i a b
      unfold dps
      unfold mostBehind at this
      split at this
      · omega
      · split at this <;> omega
    · rcases hc i hi with h | h
      · exact .inl h.1
      · exact .inr h.1
    · have := hm (i + 1) (by omega) hi
      rw [Nat.add_sub_cancel] at this
      unfold mostBehind at this
      rwa [if_pos hkk] at this
    · rcases hc i hi with h | h
      · exact h.2
      · exact absurd (h.1.symm.trans hkk) (by omega)
    · rcases hc i hi with h | h
      · exact absurd (h.1.symm.trans hkk) (by omega)
      · exact h.2

set_option maxRecDepth 100000 in
set_option maxHeartbeats 4000000 in
theorem may_any : MayOK := by
  intro A n c x N w hD
  show Calls Try.prog 26 #[docV A n c x] w (ToldB (Shape n x N) w)
  have hn : n ≤ 140737488351232 := by have := hD.1.2.2.2; omega
  have hc := hD.1.2.2.1
  unfold docV
  have B0 : Hid (Below w.heap.size w (w.alloc (.cells #[.slice A n c, .int .i64 x] 24))) := Lib.hid ((Below.refl _ w).alloc (Nat.le_refl _) _)
  have DD := Lib.hid (hD.below B0.out)
  have D0 : Hid (DocBox (w.alloc (.cells #[.slice A n c, .int .i64 x] 24)) w.heap.size (.slice A n c) (.int .i64 x)) := Lib.hid (heap_alloc_new w _)
  clear hD
  by_cases h0 : 0 < n
  · have h0z : (0 : Int) < n := by omega
    by_cases h3 : n ≤ 300
    · have h3z : (n : Int) ≤ 300 := by omega
      go_enter Try.func26, Try.ntmps26
      go_wp2_with fail
      generalize w.alloc (.cells #[.slice A n c, .int .i64 x] 24) = W0 at B0 DD D0 ⊢
      refine (depths_any A n c N W0 DD.out.1.1 h0 h3 hc.1 hc.2).mono ?_
      rintro e w1 ⟨g, rfl, hg, hb⟩
      have B1 := Lib.hid (B0.out.trans (hb.mono B0.out.size))
      have D1 := Lib.hid (D0.out.keep (hb.block _ D0.out.lt))
      have DD1 := Lib.hid (DD.out.below hb)
      have d0 := D1.out.c0
      have d1 := D1.out.c1
      clear hb
      cases g
      · have G := Lib.hid hg
        clear hg
        go_wp2_with fail
        go_ret
        exact told_no (fun h => by have h2 := G.out.2 (shape_iff.1 h).2.2.1; cases h2) B1.out
      · have G1 := Lib.hid (hg.1 rfl)
        clear hg
        go_wp2_with fail
        refine (keys_any A n c x N w1 DD1.out h0 h3).mono ?_
        rintro e w2 ⟨g, rfl, hg, hb⟩
        have B2 := Lib.hid (B1.out.trans (hb.mono B1.out.size))
        have D2 := Lib.hid (D1.out.keep (hb.block _ D1.out.lt))
        have DD2 := Lib.hid (DD1.out.below hb)
        clear hb d0 d1
        have d0 := D2.out.c0
        have d1 := D2.out.c1
        cases g
        · have G := Lib.hid hg
          clear hg
          go_wp2_with fail
          go_ret
          exact told_no (fun h => by have h2 := G.out.2 (shape_iff.1 h).2.2.2.1; cases h2) B2.out
        · have G2 := Lib.hid (hg.1 rfl)
          clear hg
          go_wp2_with fail
          refine (contents_any A n c N w2 DD2.out.1.1 h0 h3).mono ?_
          rintro e w3 ⟨g, rfl, hg, hb⟩
          have B3 := Lib.hid (B2.out.trans (hb.mono B2.out.size))
          have G3 := Lib.hid hg
          clear hb d0 d1 hg
          go_wp2_with fail
          go_ret
          exact toldB (b := g) (G3.out.trans ⟨fun h => shape_iff.2 ⟨h0, h3, G1.out, G2.out, h⟩, fun h => (shape_iff.1 h).2.2.2.2⟩) B3.out
    · have h3z : ¬ ((n : Int) ≤ 300) := by omega
      have h3d : decide ((n : Int) ≤ 300) = false := by simpa using h3z
      go_enter Try.func26, Try.ntmps26
      go_wp2_with fail
      go_ret
      exact told_no (fun h => h3 (shape_iff.1 h).2.1) B0.out
  · have h0z : ¬ ((0 : Int) < n) := by omega
    obtain rfl : n = 0 := by omega
    go_enter Try.func26, Try.ntmps26
    go_wp2_with fail
    go_ret
    exact told_no (fun h => absurd (shape_iff.1 h).1 (by omega)) B0.out
end Go.Proofs.Ytmodegkpfdlccaa
