/-
  The law TreeLess, of any program that answers as is asked.
-/
import Derived.Test.YtlkcmfohmkblfaaLessPut
import Derived.Deep.Cut
namespace Go.Proofs.Ytlkcmfohmkblfaa
open Go.RowKit

set_option maxRecDepth 100000 in
set_option maxHeartbeats 4000000 in
theorem less5 (hM : MayOK) (hS : SameOK5) (hC : CopyOK5) (hF : FindOK) (hE : EndOK) (hP : ParentOK) (hK : KidsOK)
    (a0 : Option Addr) (len0 cap0 : Nat) (x0 : Int) (z0 : Nat → RN) (a1 a2 : Int) (w : World) (w0 : DocIn w a0 len0 cap0 x0 z0) (w1 : (Lit.int .i64 a1).wf = true) (w2 : (Lit.int .i64 a2).wf = true) :
    Calls Try.prog 6 #[docV a0 len0 cap0 x0, .int .i64 a1, .int .i64 a2] w fun e w' => e = .returned (.bool true) ∧ Below w.heap.size w w' := by
  have AW := Lib.hid (awake5_any hM hS hC hF hE hP hK)
  have KE := Lib.hid hE
  have KM := Lib.hid hM
  have KC := Lib.hid hC
  have b1 := i64_in w1
  have b2 := i64_in w2
  have D0 := Lib.hid w0
  clear hM hS hC hF hE hP hK w0 w1 w2
  unfold docV
  go_enter Try.func6, Try.ntmps6
  go_wp2_with fail
  have T0 := Lib.hid (one_start D0.out)
  clear D0
  refine (AW.out _).mono ?_
  rintro e v1 ⟨rfl, hb⟩
  have T1 := Lib.hid (T0.out.next hb)
  clear hb T0 AW
  obtain ⟨-, -, -, q0, q1⟩ := T1.out
  go_wp2_with fail
  clear q0 q1
  refine (great_call _ T1.out.doc).mono ?_
  rintro e v2 ⟨g, rfl, hg, hb⟩
  have T2 := Lib.hid (T1.out.next hb)
  clear hb T1
  cases g
  case true =>
    go_wp2_with fail
    go_ret
    exact ⟨rfl, T2.out.below⟩
  have hn := (hg rfl).1
  clear hg
  obtain ⟨-, -, -, q0, q1⟩ := T2.out
  go_wp2_with fail
  clear q0 q1
  refine (KM.out _ _ _ _ _ _ T2.out.doc).mono ?_
  rintro e v3 ⟨g, rfl, hg, hb⟩
  have T3 := Lib.hid (T2.out.next hb)
  clear hb T2
  obtain ⟨-, -, -, q0, q1⟩ := T3.out
  cases g
  case false =>
    go_wp2_with fail
    go_ret
    exact ⟨rfl, T3.out.below⟩
  have SH := Lib.hid (hg.1 rfl)
  clear hg
  by_cases c1 : a1 < 1
  · go_wp2_with fail
    go_ret
    exact ⟨rfl, T3.out.below⟩
  by_cases c3 : (len0 : Int) ≤ a1
  · go_wp2_with fail
    go_ret
    exact ⟨rfl, T3.out.below⟩
  by_cases c4 : a2 < 0
  · go_wp2_with fail
    go_ret
    exact ⟨rfl, T3.out.below⟩
  by_cases c5 : (len0 : Int) ≤ a2
  · go_wp2_with fail
    go_ret
    exact ⟨rfl, T3.out.below⟩
  by_cases c6 : a2 = a1
  · have c6b : (a2 == a1) = true := by simpa using c6
    go_wp2_with fail
    go_ret
    exact ⟨rfl, T3.out.below⟩
  have c6b : (a2 == a1) = false := by simpa using c6
  obtain ⟨i0, rfl⟩ := Int.eq_ofNat_of_zero_le (show 0 ≤ a1 by omega)
  obtain ⟨j0, rfl⟩ := Int.eq_ofNat_of_zero_le (show 0 ≤ a2 by omega)
  have hi : i0 < len0 := by omega
  have hj : j0 < len0 := by omega
  have h0 : 0 < i0 := by omega
  have hij : j0 ≠ i0 := by omega
  have hlen : len0 ≤ 300 := SH.out.most
  obtain ⟨bA, oA, rfl, hbA, nA⟩ := T3.out.doc.1.1.2 (by omega)
  have hcap : len0 ≤ cap0 := T3.out.doc.1.2.2.1.1
  have s1 := nodes_to (some ⟨bA, oA, none⟩) len0 cap0 i0 (by omega)
  go_wp2_with fail
  have C0 := Lib.hid (cut_start v3 (.slice none 0 0) x0)
  generalize v3.alloc (.cells #[.slice none 0 0, .int .i64 x0] 24) = W0 at C0 ⊢
  clear q0 q1
  obtain ⟨-, q0, q1, q3⟩ := cut_S C0.out T3.out
  have q2 := C0.out.box.c0
  have N1 := Lib.hid ((T3.out.next C0.out.drew.below).doc.1.1.take (show i0 ≤ len0 by omega))
  have Z1 := Lib.hid (Cut.size C0.out.drew)
  have C1 := Lib.hid C0.out.drew
  go_still_tail 6, (by kernel_rfl)
  change wpList _ _ _ _ _ W0.drew
  generalize W0.drew = W1 at N1 Z1 C1 ⊢
  clear C0 q0 q1 q2 q3
  go_wp2_with (first
    | (refine wpList_append_nodes (o := ⟨some 55, _, _, _, _, _⟩) rfl _ _ rfl (v3.heap.size + 1) _ 0 [] rfl (World.ownsRow_nil _ _ _ _) ⟨bA, oA, none⟩ i0 cap0 z0 rfl N1.out i0 (Nat.zero_add _) h0 (by omega) Z1.out ?_; intro g1 cap1 w5 hown hbel; have C2 := Lib.hid (Cut.app C1.out hbel); have O2 := Lib.hid hown; have q2 := C2.out.box.c0; have q3 := C2.out.box.f0; clear hown hbel))
  have C3 := Lib.hid (C2.out.put (.slice (some ⟨g1, 0, none⟩) i0 cap1))
  have O3 := Lib.hid (ownsRow_setCell_below O2.out (a := ⟨v3.heap.size, 0, none⟩) (by show v3.heap.size < v3.heap.size + 1; omega) (.slice (some ⟨g1, 0, none⟩) i0 cap1))
  generalize w5.setCell ⟨v3.heap.size, 0, none⟩ (.slice (some ⟨g1, 0, none⟩) i0 cap1) = W2 at C3 O3 ⊢
  clear C2 O2 C1 N1 Z1 q2 q3 s1 nA
  obtain ⟨he1, he2⟩ := endOf_gt (dps z0) hi
  have EE : Hid (∃ e, e = endOf (dps z0) len0 i0) := Lib.hid ⟨_, rfl⟩
  obtain ⟨e0, hee⟩ := EE.out
  clear EE
  rw [← hee] at he1 he2
  have v2' : endAns z0 len0 i0 = (e0 : Nat) := by unfold endAns; rw [if_pos ⟨by omega, by omega⟩, hee]; rfl
  have HE := Lib.hid hee
  clear hee
  have E1 := Lib.hid (end_one KE.out b1 (H := w.heap.size) (p := w.heap.size) (A := some ⟨bA, oA, none⟩) (c := cap0) (x := x0) (w := w) v2')
  clear v2'
  obtain ⟨ad, hsl, hns⟩ := nodes_from bA oA len0 cap0 e0 he2 hcap
  have NS := Lib.hid hns
  clear hns
  obtain ⟨kk, hkk⟩ : ∃ kk, i0 + (len0 - e0) = kk := ⟨_, rfl⟩
  have HK := Lib.hid hkk
  have hk0 : 0 < kk := by omega
  have hk6 : kk ≤ 600 := by omega
  clear hkk
  have CD := Lib.hid C3.out.drew
  have OD := Lib.hid (own_below O3.out (Below.refl _ _).drew)
  have TD := Lib.hid (T3.out.next CD.out.below)
  obtain ⟨-, p0, p1, p3⟩ := cut_S CD.out T3.out
  have p2 := CD.out.box.c0
  clear C3 O3
  go_cut [] from 57 (fun wx => ∃ g2 cap2 : Nat, Hid (Lying v3 w wx (some ⟨bA, oA, none⟩) len0 cap0 x0 z0 g2 kk cap2 (cutN z0 i0 e0)))
  case first =>
    go_region_law (first
      | (refine step_append_nodes (by rfl) _ _ (by rfl) (v3.heap.size + 1) _ i0 (rowCells z0 i0) (by rfl) O4.out ad (len0 - e0) (cap0 - e0) (fun i => z0 (e0 + i)) (by rfl) N4.out kk HK.out hk0 hk6 Z4.out ?_; intro g2 cap2 w7 hown hbel; have C5 := Lib.hid (Cut.app C4.out hbel); have O5 := Lib.hid hown; have s3 := C5.out.box.f0; have s2 := C5.out.box.c0; clear hown hbel)
      | (go_simp; go_at_call 14; (with_reducible refine (E1.out _ TD.out).mono ?_); rintro e w6 ⟨rfl, hb⟩; have C4 := Lib.hid (CD.out.next hb); have O4 := Lib.hid (own_below OD.out hb); have N4 := Lib.hid (NS.out _ _ (T3.out.next C4.out.below).doc.1.1); have Z4 := Lib.hid C4.out.size; have r0 := (T3.out.next C4.out.below).x0; have r1 := (T3.out.next C4.out.below).x1; have r2 := C4.out.box.c0; have r3 := C4.out.box.f0; clear hb))
    all_goals
      have L3 := Lib.hid (lying_of (A := some ⟨bA, oA, none⟩) (n := len0) (c := cap0) (N := z0) T3.out C5.out O5.out HK.out (by omega) he2 hk6)
      go_wp2_with fail
      go_meet
      exact ⟨g2, cap2, L3⟩
  case rest =>
    obtain ⟨g2, cap2, L3⟩ := hcut
    obtain ⟨wd, hwd⟩ : ∃ wd, wd = wc := ⟨_, rfl⟩
    subst hwd
    clear OD CD TD p0 p1 p2 p3 NS hsl E1 KE
    have C2 := Lib.hid (copy_three KC.out (show 0 < len0 by omega) L3.out.one.doc)
    clear KC
    go_upto_region 8 with fail
    go_cut [8, 9] from 67 (fun p8 p9 wx => ∃ q8 q9 b8 o8 d8 b9 o9 d9 : Nat, p8 = .pointer (some ⟨q8, 0, none⟩) ∧ p9 = .pointer (some ⟨q9, 0, none⟩) ∧ Hid (Three wd wx q8 q9 b8 o8 d8 b9 o9 d9 len0 x0 z0 z0))
    case first =>
      go_region_held3 (fun W' => Below wd.heap.size wd W' ∧ W'.cell? ⟨w.heap.size, 0, none⟩ = some (.slice (some ⟨bA, oA, none⟩) len0 cap0) ∧ W'.cell? ⟨w.heap.size, 1, none⟩ = some (.int .i64 x0))
        (first | (((with_reducible refine lying_S L3.out ?_)); (repeat (first
          | (with_reducible exact (Below.refl _ _).drew)
          | (with_reducible exact Below.refl _ _)
          | (with_reducible exact F6.out)
          | (with_reducible exact F5.out)
          | (with_reducible refine Below.drew ?_)
          | (with_reducible refine below_alloc ?_ _)
          | (with_reducible refine Below.setCell ?_ (by show wd.heap.size ≤ _; first | omega | (simp; done) | (simp; omega)) _)))))
        (first
        | (go_at_call 15; (have _ := K5.out); (with_reducible refine (C2.out _ (And.left (by assumption))).mono ?_); rintro e w6 ⟨b9, o9, d9, rfl, g6, k6, h6⟩; have F6 : Hid (Below wd.heap.size wd w6) := Lib.hid (Below.trans (And.left (by assumption)) (h6.mono (Below.size (And.left (by assumption))))); have K6 := Lib.hid k6; have H6 := Lib.hid h6; have G6 := Lib.hid g6; have M6 := Lib.hid h6.size; have Z6 := F6.out.size; (try (have a6 : Hid (DocBox w6 wd.heap.size (.slice none 0 0) (.int .i64 0)) := Lib.hid (DocBox.below (by first | ((repeat (first | (with_reducible exact a5.out) | ((with_reducible apply docBox_new); first | (with_reducible rfl) | (simp; done)) | (with_reducible apply DocBox.drew) | (with_reducible apply DocBox.alloc))); done) | fail) h6); have a60 := a6.out.c0; have a61 := a6.out.c1; have a6f0 := a6.out.f0; have a6f1 := a6.out.f1)); (try (have b6 : Hid (DocBox w6 (wd.heap.size + 1) (.slice none 0 0) (.int .i64 0)) := Lib.hid (DocBox.below (by first | ((repeat (first | (with_reducible exact b5.out) | ((with_reducible apply docBox_new); first | (with_reducible rfl) | (simp; done)) | (with_reducible apply DocBox.drew) | (with_reducible apply DocBox.alloc))); done) | fail) h6); have b60 := b6.out.c0; have b61 := b6.out.c1; have b6f0 := b6.out.f0; have b6f1 := b6.out.f1)); (try (have c6 : Hid (DocBox w6 w5.heap.size (.slice none 0 0) (.int .i64 0)) := Lib.hid (DocBox.below (by first | ((repeat (first | ((with_reducible apply docBox_new); first | (with_reducible rfl) | (simp; done)) | (with_reducible apply DocBox.drew) | (with_reducible apply DocBox.alloc))); done) | fail) h6); have c60 := c6.out.c0; have c61 := c6.out.c1; have c6f0 := c6.out.f0; have c6f1 := c6.out.f1)); (try (have d6 : Hid (DocBox w6 (w5.heap.size + 1) (.slice none 0 0) (.int .i64 0)) := Lib.hid (DocBox.below (by first | ((repeat (first | ((with_reducible apply docBox_new); first | (with_reducible rfl) | (simp; done)) | (with_reducible apply DocBox.drew) | (with_reducible apply DocBox.alloc))); done) | fail) h6); have d60 := d6.out.c0; have d61 := d6.out.c1; have d6f0 := d6.out.f0; have d6f1 := d6.out.f1)); (try (have al6 := a6.out.lt)); (try (have bl6 := b6.out.lt)); (try (have cl6 := c6.out.lt)); (try (have dl6 := d6.out.lt)); clear k6 h6 g6)
        | (go_at_call 15; (with_reducible refine (C2.out _ (And.left (by assumption))).mono ?_); rintro e w5 ⟨b8, o8, d8, rfl, g5, k5, h5⟩; have F5 : Hid (Below wd.heap.size wd w5) := Lib.hid (Below.trans (And.left (by assumption)) (h5.mono (Below.size (And.left (by assumption))))); have K5 := Lib.hid k5; have H5 := Lib.hid h5; have G5 := Lib.hid g5; have M5 := Lib.hid h5.size; have Z5 := F5.out.size; (try (have a5 : Hid (DocBox w5 wd.heap.size (.slice none 0 0) (.int .i64 0)) := Lib.hid (DocBox.below (by first | ((repeat (first | ((with_reducible apply docBox_new); first | (with_reducible rfl) | (simp; done)) | (with_reducible apply DocBox.drew) | (with_reducible apply DocBox.alloc))); done) | fail) h5); have a50 := a5.out.c0; have a51 := a5.out.c1; have a5f0 := a5.out.f0; have a5f1 := a5.out.f1)); (try (have b5 : Hid (DocBox w5 (wd.heap.size + 1) (.slice none 0 0) (.int .i64 0)) := Lib.hid (DocBox.below (by first | ((repeat (first | ((with_reducible apply docBox_new); first | (with_reducible rfl) | (simp; done)) | (with_reducible apply DocBox.drew) | (with_reducible apply DocBox.alloc))); done) | fail) h5); have b50 := b5.out.c0; have b51 := b5.out.c1; have b5f0 := b5.out.f0; have b5f1 := b5.out.f1)); (try (have al5 := a5.out.lt)); (try (have bl5 := b5.out.lt)); clear k5 h5 g5))
      all_goals (go_wp2_with fail; go_meet)
      all_goals
        have g5 := G5.out
        have g6 := G6.out
        have k5 := K5.out.lt
        have k6 := K6.out.lt
        have m5 := H5.out.size
        have m6 := H6.out.size
        try simp at g5
        try simp at g6
        try simp at m5
        try simp at m6
        refine ⟨_, _, b8, o8, d8, b9, o9, d9, rfl, rfl, Lib.hid ⟨?_, ?_, ?_, ?_, ?_, ?_, ?_, ?_⟩⟩
        · repeat (first
            | (with_reducible exact (Below.refl _ _).drew)
            | (with_reducible exact Below.refl _ _)
            | (with_reducible exact F6.out)
            | (with_reducible exact F5.out)
            | (with_reducible refine Below.drew ?_)
            | (with_reducible refine below_alloc ?_ _)
            | (with_reducible refine Below.setCell ?_ (by show wd.heap.size ≤ _; first | omega | (simp; done) | (simp; omega)) _))
        iterate 2
          · repeat (first
              | ((with_reducible apply docBox_new); first | (with_reducible rfl) | (simp; done))
              | (with_reducible apply DocBox.putb)
              | (with_reducible refine DocBox.set ?_ (by first | (simp; done) | (simp; omega)) _)
              | (with_reducible apply DocBox.drew)
              | (with_reducible apply DocBox.alloc)
              | (exact ⟨_, _, a6.out⟩) | (exact ⟨_, _, b6.out⟩) | (exact ⟨_, _, c6.out⟩) | (exact ⟨_, _, d6.out⟩)
              | ((with_reducible apply boxAt_new); first | (with_reducible rfl) | (simp; done))
              | (with_reducible refine BoxAt.set ?_ (by first | (simp; done) | (simp; omega)) _)
              | (with_reducible apply BoxAt.drew)
              | (with_reducible apply BoxAt.alloc))
        iterate 2
          · repeat (first
              | (with_reducible exact K6.out)
              | (with_reducible exact K5.out)
              | (with_reducible refine Copied.below ?_ H6.out)
              | (with_reducible refine Copied.set ?_ (by first | (simp; done) | (simp; omega)) _)
              | (with_reducible apply Copied.drew)
              | (with_reducible refine Copied.alloc ?_ _))
        all_goals omega
    case rest =>
      obtain ⟨q8, q9, b8, o8, d8, b9, o9, d9, rfl, rfl, TH⟩ := hcut
      clear C2
      have LY := Lib.hid (L3.out.next TH.out.below)
      have c80 := TH.out.box8.c0
      have c90 := TH.out.box9.c0
      have c30 := LY.out.one.x0
      go_wp2_with fail
      obtain ⟨bq, oq, eq, -, nq⟩ := LY.out.one.doc.1.1.2 (by omega)
      cases eq
      have cj : wc.cell? ⟨bA, oA + j0 * 51, none⟩ = some (.int .i64 (z0 j0).key) := nq j0 hj 0 (by omega)
      clear nq
      have T4 := Lib.hid (TH.out.next (Below.refl _ _).drew)
      go_still_tail 9, (by kernel_rfl)
      change wpList _ _ _ _ _ wc.drew
      generalize wc.drew = W3 at T4 ⊢
      clear c80 c90 c30 cj LY TH
      have c8 : W3.cell? ⟨b8, o8 + i0 * 51, none⟩ = some (.int .i64 (z0 i0).key) := T4.out.c8.cell hi (k := 0) (by omega)
      have f8 : W3.frozen? ⟨b8, o8 + i0 * 51, none⟩ = false := T4.out.c8.free _
      go_upto_region 12 with fail
      have kz := (L3.out.one.doc.1.1.1 j0 hj).key
      have T5 := Lib.hid (T4.out.key hi kz)
      generalize W3.setCell ⟨b8, o8 + i0 * 51, none⟩ (.int .i64 (z0 j0).key) = W4 at T5 ⊢
      clear c8 f8 T4
      have c90 := T5.out.box9.c0
      have c9 : W4.cell? ⟨b9, o9 + i0 * 51 + 1, none⟩ = some (.int .i64 (z0 i0).depth) := T5.out.c9.cell hi (k := 1) (by omega)
      have f9 : W4.frozen? ⟨b9, o9 + i0 * 51 + 1, none⟩ = false := T5.out.c9.free _
      go_upto_region 13 with fail
      have T6 := Lib.hid (T5.out.depth hi (k := 0) ⟨by omega, by omega⟩)
      generalize W4.setCell ⟨b9, o9 + i0 * 51 + 1, none⟩ (.int .i64 0) = W5 at T6 ⊢
      clear c9 f9 T5 c90
      have LZ := Lib.hid (L3.out.next T6.out.below)
      have SC : Shape kk x0 (cutN z0 i0 e0) := by
        have h := shape_cut SH.out h0 hi
        rw [← HE.out, HK.out] at h
        exact h
      have M7 := Lib.hid (may_yes KM.out LZ.out.doc SC)
      have M8 := Lib.hid (may_no KM.out T6.out.c8.doc (no_twice hi hj hij))
      have M9 := Lib.hid (may_no KM.out T6.out.c9.doc (no_flat h0 hi))
      clear KM SC
      obtain ⟨-, d70, d71, d80, d81, d90, d91⟩ := last_S LZ.out.box T6.out.box8 T6.out.box9 (Below.refl _ _)
      go_wp2_with fail
      clear d70 d71 d80 d81 d90 d91
      refine (M7.out _ (Below.refl _ _)).mono ?_
      rintro e w7 ⟨rfl, hb⟩
      have K7 := Lib.hid (hb)
      clear hb
      obtain ⟨-, d70, d71, d80, d81, d90, d91⟩ := last_S LZ.out.box T6.out.box8 T6.out.box9 K7.out
      go_wp2_with fail
      clear d70 d71 d80 d81 d90 d91
      refine (M8.out _ K7.out).mono ?_
      rintro e w8 ⟨rfl, hb⟩
      have K8 := Lib.hid (K7.out.trans (hb.mono K7.out.size))
      clear hb
      obtain ⟨-, d70, d71, d80, d81, d90, d91⟩ := last_S LZ.out.box T6.out.box8 T6.out.box9 K8.out
      go_wp2_with fail
      clear d70 d71 d80 d81 d90 d91
      refine (M9.out _ K8.out).mono ?_
      rintro e w9 ⟨rfl, hb⟩
      have KB := Lib.hid (K8.out.trans (hb.mono K8.out.size))
      clear hb
      obtain ⟨-, d70, d71, d80, d81, d90, d91⟩ := last_S LZ.out.box T6.out.box8 T6.out.box9 KB.out
      go_wp2_with fail
      go_ret
      exact ⟨rfl, (LZ.out.one.next KB.out).below⟩
end Go.Proofs.Ytlkcmfohmkblfaa
