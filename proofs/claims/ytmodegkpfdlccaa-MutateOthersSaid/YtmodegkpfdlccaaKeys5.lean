/-
  tree.keysMay of the landed code.
-/
import Derived.Test.YtmodegkpfdlccaaKeysMath
import Derived.Test.YtmodegkpfdlccaaShelf5
import Derived.Test.YtmodegkpfdlccaaContents
import Derived.Test.YtmodegkpfdlccaaFind
import Derived.Test.YtmodegkpfdlccaaKids
import Derived.Sort.OwnSortedInts
import Derived.Deep.RegionWith
import Derived.BigQuiet
import Derived.Deep.QuietTactic
namespace Go.Proofs.Ytmodegkpfdlccaa
open Go.RowKit Go.Sort

set_option maxRecDepth 100000 in
theorem sort_ints (g cap : Nat) (zs : List Int) (w : World) (hH : Holds (Value.int .i64) w g 0 zs.toArray) (hg : g < w.heap.size) (hl : zs.length < 4611686018427387904) :
    Calls Try.prog 74 #[.slice (some ⟨g, 0, none⟩) zs.length cap] w fun e w' => e = .returned (.tuple #[]) ∧ Holds (Value.int .i64) w' g 0 (srt zs).toArray ∧ w.grownBy w' (some g) := by
  refine (Try.slices_Sort_int g 0 cap zs w hH hg hl).mono ?_
  rintro e w' ⟨rfl, n, os, rfl⟩
  exact ⟨rfl, holds_grow _ _ os g 0 _ (by simpa [putRow, mapBlock, Sort.ahead] using hg) (holds_putRow _ _ g 0 _ _ (holds_ahead _ w n g 0 _ hH) (by simp)), grownBy_sortedI _⟩
set_option maxRecDepth 100000 in
theorem compact_ints (g cap : Nat) (zs : List Int) (w : World) (hH : Holds (Value.int .i64) w g 0 zs.toArray) (hl : zs.length ≤ 9223372036854775807) (hc : zs.length ≤ cap) :
    Calls Try.prog 75 #[.slice (some ⟨g, 0, none⟩) zs.length cap] w fun e w' => e = .returned (.slice (some ⟨g, 0, none⟩) (Lib.compact zs).length cap) ∧ w.grownBy w' (some g) := by
  refine (Try.slices_Compact_int g 0 cap zs w hH hl hc).mono ?_
  rintro e w' ⟨rfl, q, rfl⟩
  refine ⟨rfl, ?_⟩
  have := grownBy_sortedI (w := w) (g := g) (n := q) (os := #[]) (Lib.compact zs ++ List.replicate (zs.length - (Lib.compact zs).length) 0).toArray
  rwa [grow_empty] at this

def keysL (N : Nat → RN) (n : Nat) : List Int := (List.range n).map fun j => (N j).key
set_option maxRecDepth 100000 in
theorem keysL_len (N : Nat → RN) (n : Nat) : (keysL N n).length = n := by simp [keysL]
def KeysOK (N : Nat → RN) (n : Nat) (x : Int) : Prop := (∀ i, i < n → 1 ≤ (N i).key ∧ (N i).key < x) ∧ x ≤ 1073741825 ∧ ∀ i j, i < j → j < n → (N i).key ≠ (N j).key
set_option maxRecDepth 100000 in
theorem keys_iff {N : Nat → RN} {n : Nat} {x lo hi : Int} {cl : Nat} (h0 : (srt (keysL N n))[0]? = some lo) (h1 : (srt (keysL N n))[n - 1]? = some hi) (hc : cl = (Lib.compact (srt (keysL N n))).length) :
    KeysOK N n x ↔ 1 ≤ lo ∧ hi < x ∧ x ≤ 1073741825 ∧ cl = n := by
  have hl := keysL_len N n
  have h2 := least_iff (b := 1) h0
  have h3 := most_iff (b := x) (by rw [hl]; exact h1)
  have h4 := compact_iff (keysL N n)
  rw [hl, ← hc] at h4
  rw [h2, h3, h4]
  unfold keysL KeysOK
  rw [all_map (p := fun a => 1 ≤ a), all_map (p := fun a => a < x), nodup_map]
  exact ⟨fun ⟨a, b, c⟩ => ⟨fun i hi => (a i hi).1, fun i hi => (a i hi).2, b, c⟩, fun ⟨a, b, c, d⟩ => ⟨fun i hi => ⟨a i hi, b i hi⟩, c, d⟩⟩

/-- a row of numbers of the call's own, filled so far -/
structure KeysRow (W : World) (g n k : Nat) (N : Nat → RN) : Prop where
  there : ∀ j, j < n → (W.cell? ⟨g, j, none⟩).isSome = true ∧ W.frozen? ⟨g, j, none⟩ = false
  done : ∀ j, j < k → W.cell? ⟨g, j, none⟩ = some (.int .i64 (N j).key)
set_option maxRecDepth 100000 in
theorem KeysRow.put {W : World} {g n k : Nat} {N : Nat → RN} (h : KeysRow W g n k N) (hk : k < n) : KeysRow (W.setCell ⟨g, k, none⟩ (.int .i64 (N k).key)) g n (k + 1) N := by
  refine ⟨fun j hj => ⟨?_, by rw [World.frozen?_setCell]; exact (h.there j hj).2⟩, fun j hj => ?_⟩
  · by_cases e : j = k
    · subst e
      obtain ⟨u, hu⟩ := Option.isSome_iff_exists.1 (h.there j hj).1
      simp [World.cell?_setCell_same _ _ _ hu]
    · rw [World.cell?_setCell_other _ _ _ _ (fun e' => by injection e'; omega)]
      exact (h.there j hj).1
  · by_cases e : j = k
    · subst e
      obtain ⟨u, hu⟩ := Option.isSome_iff_exists.1 (h.there j hk).1
      exact World.cell?_setCell_same _ _ _ hu
    · rw [World.cell?_setCell_other _ _ _ _ (fun e' => by injection e'; omega)]
      exact h.done j (by omega)
set_option maxRecDepth 100000 in
theorem KeysRow.holds {W : World} {g n : Nat} {N : Nat → RN} (h : KeysRow W g n n N) : Holds (Value.int .i64) W g 0 (keysL N n).toArray := by
  intro j hj
  have hj' : j < n := by simpa [keysL] using hj
  rw [Nat.zero_add]
  refine ⟨?_, (h.there j hj').2⟩
  rw [h.done j hj']
  simp [keysL, hj']
set_option maxRecDepth 100000 in
theorem KeysRow.of_own {W : World} {base g n : Nat} {xs : List Value} {N : Nat → RN} (h : W.ownsRow base 3 1 (.slice (some ⟨g, 0, none⟩) n n) n xs) : KeysRow W g n 0 N := by
  obtain ⟨cur, hc, hs⟩ := own_cells h
  exact ⟨fun j hj => ⟨by simp [World.cell?, hc]; omega, by simp [World.frozen?, hc]⟩, fun j hj => absurd hj (by omega)⟩

set_option maxRecDepth 100000 in
set_option maxHeartbeats 8000000 in
theorem keys_any (A : Option Addr) (n c : Nat) (x : Int) (N : Nat → RN) (w : World) (hD : DocIn w A n c x N) (h0 : 0 < n) (hn : n ≤ 300) :
    Calls Try.prog 44 #[docV A n c x] w (ToldB (KeysOK N n x) w) := by
  obtain ⟨i0, hi0, hz0, hz1, hz2⟩ := info_parts Try.info27
  unfold docV
  have B0 : Hid (Below w.heap.size w (w.alloc (.cells #[.slice A n c, .int .i64 x] 24))) := Lib.hid ((Below.refl _ w).alloc (Nat.le_refl _) _)
  have D0 : Hid (DocBox (w.alloc (.cells #[.slice A n c, .int .i64 x] 24)) w.heap.size (.slice A n c) (.int .i64 x)) := Lib.hid (heap_alloc_new w _)
  have Z0 : Hid ((w.alloc (.cells #[.slice A n c, .int .i64 x] 24)).heap.size = w.heap.size + 1) := Lib.hid (by simp)
  have hx := hD.2
  have HNw := Lib.hid hD.1.1
  clear hD
  go_enter Try.func44, Try.ntmps44
  go_wp2_with ((with_reducible change wpList _ _ _ (Oper.mk (some 10) _ _ _ _ _ :: _) _ _); refine wpList_make_full _ rfl _ _ 43 rfl (w.heap.size + 1) 3 i0 _ 1 Try.underlying43 hi0 hz0 hz1 .i64 .i64 n n n rfl rfl rfl rfl (by rw [hz2]; omega) (by unfold maxLen; omega) (by simp) ?_; intro w1 hown hgrow; have D1 := Lib.hid (D0.out.keep (hgrow.block _ (by rw [Z0.out]; omega) (by simp))); have B1 := Lib.hid (B0.out.grown hgrow (by rw [Z0.out]; omega) (fun k e => by cases e)); have d0 := D1.out.c0; rw [Z0.out] at hown; have K1 := Lib.hid (KeysRow.of_own (N := N) hown); clear hown hgrow)
  go_loopg [14] n (fun g1 v wr => ∃ k : Nat, v = .int .i64 k ∧ k ≤ n ∧ n - k ≤ g1 ∧ Hid (KeysRow wr (w.heap.size + 1) n k N) ∧ Hid (Below w.heap.size w wr) ∧ Hid (DocBox wr w.heap.size (.slice A n c) (.int .i64 x)))
  case atStart => exact ⟨0, rfl, by omega, by omega, K1, B1, D1⟩
  case round =>
    obtain ⟨k, rfl, hk, hg1, KR, BW, DW⟩ := hrel
    clear d0 K1 B1 D1
    have d0 := DW.out.c0
    have d1 := DW.out.c1
    by_cases hlt : k < n
    · have hltz : (k : Int) < n := by omega
      have hk0 : (0 : Int) ≤ k := by omega
      obtain ⟨b, off, rfl, hb, kc⟩ := key_cell (HNw.out.below BW.out) hlt
      obtain ⟨u, hu⟩ := Option.isSome_iff_exists.1 (KR.out.there k hlt).1
      have hf := (KR.out.there k hlt).2
      go_wp2
      go_roundg (n - (k + 1))
      case measure => omega
      case rel => exact ⟨k + 1, by go_num, by omega, Nat.le_refl _, Lib.hid (KR.out.put hlt), Lib.hid (BW.out.setCell (p := ⟨w.heap.size + 1, k, none⟩) (by show w.heap.size ≤ w.heap.size + 1; omega) _), Lib.hid (DW.out.keep (Below.heap_setCell _ _ _ _ (by show w.heap.size ≠ w.heap.size + 1; omega)))⟩
    · obtain rfl : k = n := by omega
      have KH := Lib.hid KR.out.holds
      have SL : Hid ((srt (keysL N k)).length = k) := Lib.hid (by rw [srt_len, keysL_len])
      have hgl : w.heap.size + 1 < wr.heap.size := lt_of_cell (KR.out.done 0 h0)
      have SC := sort_ints (w.heap.size + 1) k (keysL N k) wr KH.out hgl (by rw [keysL_len]; omega)
      rw [keysL_len] at SC
      have SC := Lib.hid SC
      go_wp2_with fail
      refine SC.out.mono ?_
      rintro e w2 ⟨rfl, h2, hg2⟩
      clear SC KH d0 d1
      have B2 : Hid (Below w.heap.size w w2) := Lib.hid (BW.out.grown hg2 (by omega) (fun j e => by cases e; omega))
      have D2 : Hid (DocBox w2 w.heap.size (.slice A k c) (.int .i64 x)) := Lib.hid (DW.out.keep (hg2.block _ (by omega) (by simp)))
      have d0 := D2.out.c0
      have d1 := D2.out.c1
      obtain ⟨lo, hlo⟩ : ∃ lo, (srt (keysL N k))[0]? = some lo := ⟨_, List.getElem?_eq_getElem (by rw [SL.out]; exact h0)⟩
      obtain ⟨hi, hhi⟩ : ∃ hi, (srt (keysL N k))[k - 1]? = some hi := ⟨_, List.getElem?_eq_getElem (by rw [SL.out]; omega)⟩
      have s0 : w2.cell? ⟨w.heap.size + 1, 0, none⟩ = some (.int .i64 lo) := by
        have := (h2 0 (by rw [List.size_toArray, SL.out]; exact h0)).1
        rw [this]
        simp [hlo]
      have s1 : w2.cell? ⟨w.heap.size + 1, k - 1, none⟩ = some (.int .i64 hi) := by
        have := (h2 (k - 1) (by rw [List.size_toArray, SL.out]; omega)).1
        rw [Nat.zero_add] at this
        rw [this]
        simp [hhi]
      obtain ⟨m, hm⟩ : ∃ m, m = k - 1 := ⟨_, rfl⟩
      rw [← hm] at s1
      have hw : IntKind.i64.wrap ((k : Int) - 1) = (m : Nat) := by rw [IntKind.wrap_i64]; omega
      have hm1 : (m : Int) < k := by omega
      have hm0 : (0 : Int) ≤ m := by omega
      have HMk := Lib.hid hm
      have HL := Lib.hid hlo
      have HH := Lib.hid hhi
      have H2 := Lib.hid h2
      clear hm
      clear hlo hhi h2
      go_wp2
      refine wp_region_still_d (by kernel_rfl) (by kernel_rfl) ?_
      repeat still_step
      refine wpStill_nil ?_
      go_simp
      obtain ⟨w3, hw3⟩ : ∃ w3, w2.drew = w3 := ⟨_, rfl⟩
      have H3 : Hid (Holds (Value.int .i64) w3 (w.heap.size + 1) 0 (srt (keysL N k)).toArray) := Lib.hid (by rw [← hw3]; exact H2.out)
      have D3 : Hid (DocBox w3 w.heap.size (.slice A k c) (.int .i64 x)) := Lib.hid (by rw [← hw3]; exact D2.out)
      have B3 : Hid (Below w.heap.size w w3) := Lib.hid (by rw [← hw3]; exact B2.out.drew)
      have hg3 : w.heap.size + 1 < w3.heap.size := by rw [← hw3]; exact Nat.lt_of_lt_of_le hgl hg2.size
      rw [hw3]
      clear hw3 d0 d1 s0 s1 H2 D2 B2 hg2 hw KR BW DW
      have d0 := D3.out.c0
      have d1 := D3.out.c1
      have KI : Hid (KeysOK N k x ↔ 1 ≤ lo ∧ hi < x ∧ x ≤ 1073741825 ∧ (Lib.compact (srt (keysL N k))).length = k) := Lib.hid (keys_iff HL.out HH.out rfl)
      go_wp2
      by_cases g1 : 1 ≤ lo
      · have g1' : decide (1 ≤ lo) = true := by simpa using g1
        by_cases g2 : hi < x
        · have g2' : decide (hi < x) = true := by simpa using g2
          by_cases g3 : x ≤ 1073741825
          · have g3' : decide (x ≤ 1073741825) = true := by simpa using g3
            have G := Lib.hid (And.intro g1 (And.intro g2 g3))
            have CC : Hid (Calls Try.prog 75 #[.slice (some ⟨w.heap.size + 1, 0, none⟩) k k] w3.drew fun e w' => e = .returned (.slice (some ⟨w.heap.size + 1, 0, none⟩) (Lib.compact (srt (keysL N k))).length k) ∧ w3.drew.grownBy w' (some (w.heap.size + 1))) := Lib.hid (by
              have := compact_ints (w.heap.size + 1) k (srt (keysL N k)) w3.drew H3.out (by rw [SL.out]; omega) (by rw [SL.out]; exact Nat.le_refl _)
              rwa [SL.out] at this)
            clear g1 g2 g3
            have hcl : (Lib.compact (srt (keysL N k))).length ≤ k := by have := compact_le (srt (keysL N k)); rw [SL.out] at this; exact this
            generalize (Lib.compact (srt (keysL N k))).length = cl at CC KI hcl
            go_region_with (go_at_call 75; refine CC.out.mono ?_; rintro e w4 ⟨rfl, hg4⟩; have D4 := Lib.hid (D3.out.keep (hg4.block _ (by show w.heap.size < w3.heap.size; omega) (by simp))); have B4 := Lib.hid (B3.out.drew.grown hg4 (by show w.heap.size ≤ w3.heap.size; omega) (fun j e => by cases e; omega)); have e0 := D4.out.c0; clear hg4)
            all_goals
              go_simp
              go_wp2
              go_ret
              refine toldB (b := ((cl : Int) == (k : Int))) ?_ (by first | exact B4.out | exact B4.out.drew)
              rw [KI.out, beq_iff_eq]
              exact ⟨fun h => ⟨G.out.1, G.out.2.1, G.out.2.2, by omega⟩, fun h => by omega⟩
          · have g3' : decide (x ≤ 1073741825) = false := by simpa using g3
            have G := Lib.hid g3
            clear g1 g2 g3
            go_quiet (fail)
            go_wp2
            go_ret
            exact told_no (fun h => by have h2 := (KI.out.1 h).2.2.1; have h3 := G.out; omega) (below_drew B3.out _)
        · have g2' : decide (hi < x) = false := by simpa using g2
          have G := Lib.hid g2
          clear g1 g2
          go_quiet (fail)
          go_wp2
          go_ret
          exact told_no (fun h => by have h2 := (KI.out.1 h).2.1; have h3 := G.out; omega) (below_drew B3.out _)
      · have g1' : decide (1 ≤ lo) = false := by simpa using g1
        have G := Lib.hid g1
        clear g1
        go_quiet (fail)
        go_wp2
        go_ret
        exact told_no (fun h => by have h2 := (KI.out.1 h).1; have h3 := G.out; omega) (below_drew B3.out _)
end Go.Proofs.Ytmodegkpfdlccaa
