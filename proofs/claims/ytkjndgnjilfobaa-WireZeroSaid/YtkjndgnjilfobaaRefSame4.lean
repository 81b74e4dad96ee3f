/-
  The document's same, Same: are values the same?
-/
import Derived.Test.YtkjndgnjilfobaaRefOne
import Derived.StillTailTactics
namespace Go.Proofs.Ytkjndgnjilfobaa
open Go.RowKit

theorem mean_eq {u v : RV} : u.mean = v.mean ↔ u.n = v.n ∧ u.i = v.i ∧ u.f = v.f ∧ seg u.bf 0 u.bn = seg v.bf 0 v.bn ∧ seg u.lf 0 u.ln = seg v.lf 0 v.ln := by
  unfold RV.mean
  simp

theorem two_boxes (w : World) (c1 c2 : Array Value) (T : TypeId) (j : Nat) : ((w.alloc (.cells c1 T)).alloc (.cells c2 T)).cell? ⟨w.heap.size, j, none⟩ = c1[j]? ∧ ((w.alloc (.cells c1 T)).alloc (.cells c2 T)).cell? ⟨w.heap.size + 1, j, none⟩ = c2[j]? := by
  constructor
  · rw [World.cell?_alloc_lt _ _ _ (by simp)]
    exact World.cell?_alloc_mark w c1 T (0, 0) j
  · have := World.cell?_alloc_mark (w.alloc (.cells c1 T)) c2 T (0, 0) j
    rwa [World.size_alloc] at this

set_option maxRecDepth 100000 in
set_option maxHeartbeats 8000000 in
theorem refSame_one (u v : RV) (w : World) (hu : u.ok w) (hv : v.ok w) :
    Calls Try.prog 32 #[u.val, v.val] w fun e w' => e = .returned (.bool (decide (u.mean = v.mean))) ∧ Below w.heap.size w w' := by
  obtain ⟨-, -, ⟨ub, -, ub2, ub3⟩, ⟨ul, -, ul2, ul3⟩⟩ := hu
  obtain ⟨-, -, ⟨vb, -, vb2, vb3⟩, ⟨vl, -, vl2, vl3⟩⟩ := hv
  have ME := Lib.hid (mean_eq (u := u) (v := v))
  generalize hd : decide (u.mean = v.mean) = d
  have HD := Lib.hid hd
  clear hd
  obtain ⟨un, ui, uf, ubA, ubn, ubc, ubf, ulA, uln, ulc, ulf⟩ := u
  obtain ⟨vn, vi, vf, vbA, vbn, vbc, vbf, vlA, vln, vlc, vlf⟩ := v
  dsimp only at ub ub2 ub3 ul ul2 ul3 vb vb2 vb3 vl vl2 vl3 ME
  have UB := Lib.hid ub
  have VB := Lib.hid vb
  have UL := Lib.hid ul
  have VL := Lib.hid vl
  clear ub vb ul vl
  unfold RV.val
  dsimp only
  have BB : Hid (Below w.heap.size w ((w.alloc (.cells #[.int .u64 (un : Nat), .int .i64 ui, .bool uf, .slice ubA ubn ubc, .slice ulA uln ulc] 42)).alloc (.cells #[.int .u64 (vn : Nat), .int .i64 vi, .bool vf, .slice vbA vbn vbc, .slice vlA vln vlc] 42))) := Lib.hid (((Below.refl _ w).alloc (Nat.le_refl _) _).alloc (by simp) _)
  by_cases h1 : un = vn
  · subst h1
    have x1 : ((un : Int) != (un : Int)) = false := by simp
    by_cases h2 : ui = vi
    · subst h2
      have x2 : (ui != ui) = false := by simp
      by_cases h3 : uf = vf
      · subst h3
        have x3 : (uf != uf) = false := by simp
        have UB2 := Lib.hid (UB.out.below BB.out)
        have VB2 := Lib.hid (VB.out.below BB.out)
        have CU : Hid (((w.alloc (.cells #[.int .u64 (un : Nat), .int .i64 ui, .bool uf, .slice ubA ubn ubc, .slice ulA uln ulc] 42)).alloc (.cells #[.int .u64 (un : Nat), .int .i64 ui, .bool uf, .slice vbA vbn vbc, .slice vlA vln vlc] 42)).cell? ⟨w.heap.size, 4, none⟩ = some (.slice ulA uln ulc)) := Lib.hid (two_boxes _ _ _ _ _).1
        have CV : Hid (((w.alloc (.cells #[.int .u64 (un : Nat), .int .i64 ui, .bool uf, .slice ubA ubn ubc, .slice ulA uln ulc] 42)).alloc (.cells #[.int .u64 (un : Nat), .int .i64 ui, .bool uf, .slice vbA vbn vbc, .slice vlA vln vlc] 42)).cell? ⟨w.heap.size + 1, 4, none⟩ = some (.slice vlA vln vlc)) := Lib.hid (two_boxes _ _ _ _ _).2
        by_cases h4 : seg ubf 0 ubn = seg vbf 0 vbn
        · by_cases h5 : uln = vln
          · subst h5
            have x5 : ((uln : Int) != (uln : Int)) = false := by simp
            have UL2 := Lib.hid (UL.out.below BB.out)
            have VL2 := Lib.hid (VL.out.below BB.out)
            have H4 := Lib.hid h4
            clear h4
            go_enter Try.func32, Try.ntmps32
            go_wp2_with fail
            refine (same_any ubA vbA ubn vbn ubc vbc ubf vbf _ UB2.out VB2.out (by omega) (by omega) true ⟨fun _ => H4.out, fun _ => rfl⟩).mono ?_
            rintro e w2 ⟨rfl, hd⟩
            have B2 := Lib.hid (BB.out.trans (hd.below.mono BB.out.size))
            have CU2 := Lib.hid ((hd.below.cell (p := ⟨w.heap.size, 4, none⟩) (by simp; omega)).trans CU.out)
            have CV2 := Lib.hid ((hd.below.cell (p := ⟨w.heap.size + 1, 4, none⟩) (by simp)).trans CV.out)
            have UL3 := Lib.hid (UL2.out.below hd.below)
            have VL3 := Lib.hid (VL2.out.below hd.below)
            clear hd CU CV UL2 VL2 UB2 VB2 BB
            have cu := CU2.out
            have cv := CV2.out
            go_wp2
            clear cu cv
            go_loopg [5] uln (fun g1 vi wr => ∃ k : Nat, vi = .int .i64 k ∧ k ≤ uln ∧ uln - k ≤ g1 ∧ Hid (∀ j, j < k → ulf j = vlf j) ∧ Hid (Drawn w2 wr))
            case atStart => exact ⟨0, rfl, by omega, by omega, Lib.hid (fun j hj => by omega), Lib.hid ⟨0, rfl⟩⟩
            case round =>
              obtain ⟨k, rfl, hk, hg1, EQ, D⟩ := hrel
              obtain ⟨q, rfl⟩ := D.out
              have cu := CU2.out
              have cv := CV2.out
              by_cases hlt : k < uln
              · have hkz : (k : Int) < uln := by omega
                have hk0 : (0 : Int) ≤ k := by omega
                obtain ⟨b, off, rfl, -, hc⟩ := UL3.out.at_ hlt
                obtain ⟨b', off', rfl, -, hc'⟩ := VL3.out.at_ hlt
                by_cases he : ulf k = vlf k
                · have EQ2 : Hid (∀ j, j < k + 1 → ulf j = vlf j) := Lib.hid (fun j hj => by
                    rcases Nat.lt_or_ge j k with h | h
                    · exact EQ.out j h
                    · obtain rfl : j = k := by omega
                      exact he)
                  rw [← he] at hc'
                  clear he EQ
                  generalize ulf k = x at hc hc'
                  have hx : ((x : Int) != (x : Int)) = false := by simp
                  go_wp2_with fail
                  go_quiet (fail)
                  go_wp2
                  go_roundg (uln - (k + 1))
                  case measure => omega
                  case rel => exact ⟨k + 1, by go_num, by omega, Nat.le_refl _, EQ2, Lib.hid ⟨_, rfl⟩⟩
                · have d0 : d = false := by
                    rw [← HD.out, decide_eq_false_iff_not, ME.out]
                    intro h
                    have := seg_inj h.2.2.2.2 hlt
                    simp only [Nat.zero_add] at this
                    exact he this
                  subst d0
                  have hx : ((ulf k : Int) != (vlf k : Int)) = true := bne_iff_ne.2 (by omega)
                  clear he EQ
                  generalize ulf k = x at hc hx
                  generalize vlf k = y at hc' hx
                  go_wp2_with fail
                  go_quiet (fail)
                  go_wp2
                  go_ret
                  exact ⟨rfl, below_drewN (below_drewN B2.out _) _⟩
              · obtain rfl : k = uln := by omega
                have d0 : d = true := by
                  rw [← HD.out, decide_eq_true_eq, ME.out]
                  refine ⟨by trivial, by trivial, by trivial, H4.out, seg_congr fun j hj => by rw [Nat.zero_add]; exact EQ.out j hj⟩
                subst d0
                go_wp2
                go_ret
                exact ⟨rfl, below_drewN B2.out _⟩
          · have x5 : ((uln : Int) != (vln : Int)) = true := bne_iff_ne.2 (by omega)
            have d0 : d = false := by
              rw [← HD.out, decide_eq_false_iff_not, ME.out]
              intro h
              have := congrArg List.length h.2.2.2.2
              rw [seg_len, seg_len] at this
              exact h5 this
            subst d0
            have H4 := Lib.hid h4
            clear h4 h5
            go_enter Try.func32, Try.ntmps32
            go_wp2_with fail
            refine (same_any ubA vbA ubn vbn ubc vbc ubf vbf _ UB2.out VB2.out (by omega) (by omega) true ⟨fun _ => H4.out, fun _ => rfl⟩).mono ?_
            rintro e w2 ⟨rfl, hd⟩
            have B2 := Lib.hid (BB.out.trans (hd.below.mono BB.out.size))
            obtain ⟨q, rfl⟩ := hd
            go_wp2
            go_ret
            exact ⟨rfl, B2.out⟩
        · have d0 : d = false := by rw [← HD.out, decide_eq_false_iff_not, ME.out]; exact fun h => h4 h.2.2.2.1
          subst d0
          have H4 := Lib.hid h4
          clear h4
          go_enter Try.func32, Try.ntmps32
          go_wp2_with fail
          refine (same_any ubA vbA ubn vbn ubc vbc ubf vbf _ UB2.out VB2.out (by omega) (by omega) false ⟨(fun e => by cases e), fun e => absurd e H4.out⟩).mono ?_
          rintro e w2 ⟨rfl, hd⟩
          have B2 := Lib.hid (BB.out.trans (hd.below.mono BB.out.size))
          clear hd
          go_wp2
          go_ret
          exact ⟨rfl, B2.out⟩
      · have d0 : d = false := by rw [← HD.out, decide_eq_false_iff_not, ME.out]; exact fun h => h3 h.2.2.1
        subst d0
        cases uf <;> cases vf
        · exact absurd rfl h3
        · clear h3
          go_enter Try.func32, Try.ntmps32
          go_wp2
          go_ret
          exact ⟨rfl, BB.out⟩
        · clear h3
          go_enter Try.func32, Try.ntmps32
          go_wp2
          go_ret
          exact ⟨rfl, BB.out⟩
        · exact absurd rfl h3
    · have x2 : (ui != vi) = true := bne_iff_ne.2 h2
      have d0 : d = false := by rw [← HD.out, decide_eq_false_iff_not, ME.out]; exact fun h => h2 h.2.1
      subst d0
      clear h2
      go_enter Try.func32, Try.ntmps32
      go_wp2
      go_ret
      exact ⟨rfl, BB.out⟩
  · have x1 : ((un : Int) != (vn : Int)) = true := bne_iff_ne.2 (by omega)
    have d0 : d = false := by rw [← HD.out, decide_eq_false_iff_not, ME.out]; exact fun h => h1 h.1
    subst d0
    clear h1
    go_enter Try.func32, Try.ntmps32
    go_wp2
    go_ret
    exact ⟨rfl, BB.out⟩

theorem means_eq {U V : Nat → RV} {n : Nat} : means U n = means V n ↔ ∀ j, j < n → (U j).mean = (V j).mean := by
  constructor
  · intro h j hj
    have h1 := means_get U n j hj
    rw [h, means_get V n j hj] at h1
    exact (Option.some.inj h1).symm
  · intro h
    unfold means
    exact List.map_congr_left fun j hj => h j (List.mem_range.1 hj)

set_option maxRecDepth 100000 in
set_option maxHeartbeats 8000000 in
theorem refSame4_any (A B : Option Addr) (n m c d : Nat) (U V : Nat → RV) (w : World) (h : ValsIn w A n c U) (h' : ValsIn w B m d V) :
    Calls Try.prog 15 #[.slice A n c, .slice B m d] w fun e w' => e = .returned (.bool (decide (means U n = means V m))) ∧ Below w.heap.size w w' := by
  have HU := Lib.hid h.1
  have HV := Lib.hid h'.1
  have hn : n ≤ 140737488351232 := h.2.2.2
  have hm : m ≤ 140737488351232 := h'.2.2.2
  clear h h'
  generalize hr : decide (means U n = means V m) = r
  have HR := Lib.hid hr
  clear hr
  by_cases hnm : n = m
  · subst hnm
    have x1 : ((n : Int) != (n : Int)) = false := by simp
    go_enter Try.func15, Try.ntmps15
    go_wp2
    go_loopg [5] n (fun g1 vi wr => ∃ k : Nat, vi = .int .i64 k ∧ k ≤ n ∧ n - k ≤ g1 ∧ Hid (∀ j, j < k → (U j).mean = (V j).mean) ∧ Hid (Below w.heap.size w wr))
    case atStart => exact ⟨0, rfl, by omega, by omega, Lib.hid (fun j hj => by omega), Lib.hid (Below.refl _ _)⟩
    case round =>
      rename World => W
      obtain ⟨k, rfl, hk, hg1, EQ, K⟩ := hrel
      by_cases hlt : k < n
      · have hkz : (k : Int) < n := by omega
        have hk0 : (0 : Int) ≤ k := by omega
        obtain ⟨b, off, rfl, -, h1, h2, h3, h4, h5⟩ := (HU.out.below K.out).at_ hlt
        obtain ⟨b', off', rfl, -, g1', g2, g3, g4, g5⟩ := (HV.out.below K.out).at_ hlt
        have OK1 := Lib.hid ((HU.out.below K.out).1 k hlt)
        have OK2 := Lib.hid ((HV.out.below K.out).1 k hlt)
        have BD : Hid (Below w.heap.size w W.drew) := Lib.hid K.out.drew
        have SO : Hid (Calls Try.prog 32 #[(U k).val, (V k).val] W.drew fun e w' => e = .returned (.bool (decide ((U k).mean = (V k).mean))) ∧ Below W.drew.heap.size W.drew w') := Lib.hid (refSame_one (U k) (V k) W.drew (OK1.out.below (Below.refl _ _).drew) (OK2.out.below (Below.refl _ _).drew))
        by_cases he : (U k).mean = (V k).mean
        · have EQ2 : Hid (∀ j, j < k + 1 → (U j).mean = (V j).mean) := Lib.hid (fun j hj => by
            rcases Nat.lt_or_ge j k with h | h
            · exact EQ.out j h
            · obtain rfl : j = k := by omega
              exact he)
          have e1 : decide ((U k).mean = (V k).mean) = true := by simpa using he
          rw [e1] at SO
          clear e1 he EQ OK1 OK2
          generalize U k = u at h1 h2 h3 h4 h5 SO
          generalize V k = v at g1' g2 g3 g4 g5 SO
          go_wp2_with fail
          go_still_tail 8, (by kernel_rfl)
          change wpList _ _ _ _ _ W.drew
          generalize W.drew = W0 at BD SO ⊢
          unfold RV.val at SO
          go_wp2_with fail
          refine SO.out.mono ?_
          rintro e w2 ⟨rfl, hbel⟩
          have K2 := Lib.hid (BD.out.trans (hbel.mono BD.out.size))
          clear hbel SO BD
          go_wp2
          go_roundg (n - (k + 1))
          case measure => omega
          case rel => exact ⟨k + 1, by go_num, by omega, Nat.le_refl _, EQ2, K2⟩
        · have r0 : r = false := by
            rw [← HR.out, decide_eq_false_iff_not, means_eq]
            exact fun h => he (h k hlt)
          subst r0
          have e1 : decide ((U k).mean = (V k).mean) = false := by simpa using he
          rw [e1] at SO
          clear e1 he EQ OK1 OK2
          generalize U k = u at h1 h2 h3 h4 h5 SO
          generalize V k = v at g1' g2 g3 g4 g5 SO
          go_wp2_with fail
          go_still_tail 8, (by kernel_rfl)
          change wpList _ _ _ _ _ W.drew
          generalize W.drew = W0 at BD SO ⊢
          unfold RV.val at SO
          go_wp2_with fail
          refine SO.out.mono ?_
          rintro e w2 ⟨rfl, hbel⟩
          have K2 := Lib.hid (BD.out.trans (hbel.mono BD.out.size))
          clear hbel SO BD
          go_wp2
          go_ret
          exact ⟨rfl, K2.out⟩
      · obtain rfl : k = n := by omega
        have r0 : r = true := by rw [← HR.out, decide_eq_true_eq, means_eq]; exact EQ.out
        subst r0
        go_wp2
        go_ret
        exact ⟨rfl, K.out⟩
  · have x1 : ((n : Int) != (m : Int)) = true := bne_iff_ne.2 (by omega)
    have r0 : r = false := by
      rw [← HR.out, decide_eq_false_iff_not]
      intro h
      have := congrArg List.length h
      rw [means_len, means_len] at this
      exact hnm this
    subst r0
    go_enter Try.func15, Try.ntmps15
    go_wp2
    go_ret
    exact ⟨rfl, Below.refl _ _⟩
end Go.Proofs.Ytkjndgnjilfobaa
