/-
  The document's Put: the form of values by a schema, or none.
-/
import Derived.Test.YtkjndgnjilfobaaRefOne
import Derived.StillTailTactics
namespace Go.Proofs.Ytkjndgnjilfobaa
open Go.RowKit

/-- the schema is one, and each value fits its letter -/
def Good (s : List Nat) (l : List WV) : Prop := Schema s ∧ AllFit s l
theorem allFit_iff (s : List Nat) (V : Nat → RV) (n : Nat) : AllFit s (means V n) ↔ s.length = n ∧ ∀ j, j < n → Fits (s.getD j 0) (V j).mean := by
  induction s generalizing V n with
  | nil =>
    cases n with
    | zero => simp [means, AllFit]
    | succ n => simp [means, List.range_succ_eq_map, AllFit]
  | cons c s ih =>
    cases n with
    | zero => simp [means, AllFit]
    | succ n =>
      have e : means V (n + 1) = (V 0).mean :: means (fun j => V (j + 1)) n := by simp [means, List.range_succ_eq_map, List.map_map, Function.comp_def]
      rw [e]
      show Fits c (V 0).mean ∧ AllFit s (means (fun j => V (j + 1)) n) ↔ _
      rw [ih]
      constructor
      · rintro ⟨h0, h1, h2⟩
        refine ⟨by simp [h1], fun j hj => ?_⟩
        match j, hj with
        | 0, _ => simpa using h0
        | j + 1, hj => simpa using h2 j (by omega)
      · rintro ⟨h1, h2⟩
        exact ⟨by simpa using h2 0 (by omega), by simpa using h1, fun j hj => by simpa using h2 (j + 1) (by omega)⟩
theorem flat_le (ns : List Nat) (h : ∀ n ∈ ns, n < 18446744073709551616) : (ns.flatMap word).length ≤ 10 * ns.length := (flat_len ns h).2
theorem form_le {w : World} {v : RV} (hv : v.ok w) (c : Nat) : (form c v.mean).length ≤ 10 * (10 + v.bn + v.ln) := by
  obtain ⟨h1, h2, ⟨h3, -, h4, h5⟩, ⟨h6, -, h7, h8⟩⟩ := hv
  have w1 := word_ten h1
  have w2 := word_ten (foldN_lt h2)
  have w3 := word_ten (n := v.bn) (by omega)
  have w4 := word_ten (n := v.ln) (by omega)
  have w5 := flat_le (seg v.lf 0 v.ln) (longs_lt h6)
  unfold form RV.mean
  dsimp only
  rw [seg_len, seg_len]
  rw [seg_len] at w5
  split
  · omega
  · split
    · omega
    · split
      · simp; omega
      · split
        · rw [List.length_append, seg_len]; omega
        · rw [List.length_append]; omega
theorem forms_le {w : World} {V : Nat → RV} {s : List Nat} : ∀ (k : Nat), k ≤ s.length → (∀ j, j < k → (V j).ok w) → (forms (s.take k) (means V k)).length ≤ 10 * worth V k
  | 0, _, _ => by simp [forms]
  | k + 1, hk, h => by
    have e1 : s.take (k + 1) = s.take k ++ [s.getD k 0] := by rw [List.take_add_one]; simp [List.getD, show k < s.length by omega]
    have e2 : means V (k + 1) = means V k ++ [(V k).mean] := by simp [means, List.range_succ]
    rw [e1, e2, forms_append (s := s.take k) (l := means V k) (by rw [List.length_take, means_len]; omega), List.length_append]
    have h1 := forms_le (w := w) (V := V) (s := s) k (by omega) (fun j hj => h j (by omega))
    have h2 := form_le (h k (by omega)) (s.getD k 0)
    show _ ≤ 10 * (worth V k + 10 + (V k).bn + (V k).ln)
    have e3 : forms [s.getD k 0] [(V k).mean] = form (s.getD k 0) (V k).mean := by simp [forms]
    rw [e3]
    omega
theorem forms_next {V : Nat → RV} {s : List Nat} {k : Nat} (hk : k < s.length) : forms (s.take (k + 1)) (means V (k + 1)) = forms (s.take k) (means V k) ++ form (s.getD k 0) (V k).mean := by
  have e1 : s.take (k + 1) = s.take k ++ [s.getD k 0] := by rw [List.take_add_one]; simp [List.getD, hk]
  have e2 : means V (k + 1) = means V k ++ [(V k).mean] := by simp [means, List.range_succ]
  rw [e1, e2, forms_append (by rw [List.length_take, means_len]; omega)]
  simp [forms]
theorem form_byte {w : World} {v : RV} (hv : v.ok w) (c : Nat) : ∀ x ∈ form c v.mean, x < 256 := by
  unfold form RV.mean
  dsimp only
  split
  · exact word_byte _
  · split
    · exact word_byte _
    · split
      · intro x hx
        rw [List.mem_singleton] at hx
        subst hx
        split <;> omega
      · split
        · intro x hx
          rcases List.mem_append.1 hx with h | h
          · exact word_byte _ x h
          · exact bytes_lt hv.2.2.1.1 x h
        · intro x hx
          rcases List.mem_append.1 hx with h | h
          · exact word_byte _ x h
          · exact flat_byte _ x h
theorem forms_byte {w : World} {V : Nat → RV} {s : List Nat} {n : Nat} (h : ∀ j, j < n → (V j).ok w) : ∀ x ∈ forms s (means V n), x < 256 := by
  have key : ∀ (s : List Nat) (l : List WV), (∀ v ∈ l, ∀ c, ∀ x ∈ form c v, x < 256) → ∀ x ∈ forms s l, x < 256 := by
    intro s
    induction s with
    | nil => intro l _ x hx; simp [forms] at hx
    | cons c s ih =>
      intro l hl x hx
      cases l with
      | nil => simp [forms] at hx
      | cons v l =>
        simp only [forms, List.mem_append] at hx
        rcases hx with e | e
        · exact hl v (by simp) c x e
        · exact ih l (fun u hu => hl u (by simp [hu])) x e
  refine key s _ (fun v hv c => ?_)
  obtain ⟨j, hj, rfl⟩ := List.mem_map.1 hv
  exact form_byte (h j (List.mem_range.1 hj)) c
theorem worth_one (V : Nat → RV) {k n : Nat} (h : k < n) : 10 + (V k).bn + (V k).ln ≤ worth V n := by
  have := worth_mono V (show k + 1 ≤ n from h)
  have e : worth V (k + 1) = worth V k + 10 + (V k).bn + (V k).ln := rfl
  omega

/-- what the document's Put answers, of values that are worth at most 4000 -/
def PutPost (s : List Nat) (l : List WV) (w : World) (e : Ending) (w' : World) : Prop :=
  Below w.heap.size w w' ∧ ((¬ Good s l ∧ e = .returned (.tuple #[.slice none 0 0, .int .i64 2])) ∨
    (Good s l ∧ ∃ A c, e = .returned (.tuple #[.slice A (forms s l).length c, .int .i64 0]) ∧ Bytes w' A (forms s l).length (pick (forms s l))))

set_option maxRecDepth 100000 in
set_option maxHeartbeats 8000000 in
theorem refPut4_any (s : ByteArray) (A : Option Addr) (n c : Nat) (V : Nat → RV) (w : World) (hs : s.size ≤ 9223372036854775807) (h : ValsIn w A n c V) (hw : worth V n ≤ 4000) :
    Calls Try.prog 13 #[.string s, .slice A n c] w (PutPost (letters s) (means V n) w) := by
  have H := Lib.hid h.1
  have hn : 10 * n ≤ 4000 := Nat.le_trans (worth_ten V n) hw
  have SC := Lib.hid (fun W => refSchema_any s W hs)
  have LS := Lib.hid (letters_len s)
  clear h
  by_cases hsc : Schema (letters s)
  · by_cases hln : n = s.size
    · subst hln
      have e0 : decide (Schema (letters s)) = true := by simpa using hsc
      rw [e0] at SC
      clear e0
      have hx : ((s.size : Int) != (s.size : Int)) = false := by simp
      go_enter Try.func13, Try.ntmps13
      go_wp2_with fail
      refine (SC.out w).mono ?_
      rintro e w1 ⟨rfl, rfl⟩
      go_wp2
      go_loopg [6] s.size (fun g1 vi wr => ∃ k : Nat, vi = .int .i64 k ∧ k ≤ s.size ∧ s.size - k ≤ g1 ∧ Hid (∀ j, j < k → Fits ((letters s).getD j 0) (V j).mean) ∧ Hid (Below w1.heap.size w1 wr))
      case atStart => exact ⟨0, rfl, by omega, by omega, Lib.hid (fun j hj => by omega), Lib.hid (Below.refl _ _)⟩
      case round =>
        rename World => W
        obtain ⟨k, rfl, hk, hg1, FT, B⟩ := hrel
        by_cases hlt : k < s.size
        · have hkz : (k : Int) < s.size := by omega
          have hk0 : (0 : Int) ≤ k := by omega
          obtain ⟨b, off, rfl, hb, h1, h2, h3, h4, h5⟩ := (H.out.below B.out).at_ hlt
          have FV := Lib.hid (refFits_any s[k].toNat (V k))
          have GX : Hid ((letters s).getD k 0 = s[k].toNat) := Lib.hid (by simp [List.getD, letters_get s hlt])
          go_wp2_with fail
          go_still_tail 7, (by kernel_rfl)
          change wpList _ _ _ _ _ W.drew
          have BD : Hid (Below w1.heap.size w1 W.drew) := Lib.hid B.out.drew
          generalize W.drew = W0 at BD ⊢
          by_cases hf : Fits s[k].toNat (V k).mean
          · have e1 : decide (Fits s[k].toNat (V k).mean) = true := by simpa using hf
            rw [e1] at FV
            have FT2 : Hid (∀ j, j < k + 1 → Fits ((letters s).getD j 0) (V j).mean) := Lib.hid (fun j hj => by
              rcases Nat.lt_or_ge j k with h | h
              · exact FT.out j h
              · obtain rfl : j = k := by omega
                rw [GX.out]; exact hf)
            clear e1 hf FT GX
            go_wp2_with fail
            refine (FV.out W0).mono ?_
            rintro e w2 ⟨rfl, hbel⟩
            have B2 := Lib.hid (BD.out.trans (hbel.mono BD.out.size))
            clear hbel BD FV
            go_wp2
            go_roundg (s.size - (k + 1))
            case measure => omega
            case rel => exact ⟨k + 1, by go_num, by omega, Nat.le_refl _, FT2, B2⟩
          · have e1 : decide (Fits s[k].toNat (V k).mean) = false := by simpa using hf
            rw [e1] at FV
            have NG : Hid (¬ Good (letters s) (means V s.size)) := Lib.hid (fun hG => hf (by
              have := ((allFit_iff _ _ _).1 hG.2).2 k hlt
              rwa [GX.out] at this))
            clear e1 hf FT GX
            go_wp2_with fail
            refine (FV.out W0).mono ?_
            rintro e w2 ⟨rfl, hbel⟩
            have B2 := Lib.hid (BD.out.trans (hbel.mono BD.out.size))
            clear hbel BD FV
            go_wp2
            go_ret2
            exact ⟨B2.out, .inl ⟨NG.out, rfl⟩⟩
        · obtain rfl : s.size = k := by omega
          have GD : Hid (Good (letters s) (means V s.size)) := Lib.hid ⟨hsc, (allFit_iff _ _ _).2 ⟨LS.out, FT.out⟩⟩
          clear FT
          go_wp2
          go_loopg [7] s.size (fun g1 vi wr => ∃ k : Nat, vi = .int .i64 k ∧ k ≤ s.size ∧ s.size - k ≤ g1 ∧ Hid (wr = W))
          case atStart => exact ⟨0, rfl, by omega, by omega, Lib.hid rfl⟩
          case round =>
            obtain ⟨k, rfl, hk, hg1, E⟩ := hrel
            obtain rfl := E.out
            clear E
            by_cases hlt : k < s.size
            · have hkz : (k : Int) < s.size := by omega
              have hk0 : (0 : Int) ≤ k := by omega
              obtain ⟨b, off, rfl, hb, h1, h2, h3, h4, h5⟩ := (H.out.below B.out).at_ hlt
              have hone := worth_one V hlt
              have q1 : ¬ ((262144 : Int) < ((V k).bn : Nat)) := by omega
              have q2 : ¬ ((4096 : Int) < ((V k).ln : Nat)) := by omega
              generalize V k = v at h4 h5 q1 q2
              clear h1 h2 h3 hone
              go_wp2
              go_roundg (s.size - (k + 1))
              case measure => omega
              case rel => exact ⟨k + 1, by go_num, by omega, Nat.le_refl _, Lib.hid rfl⟩
            · obtain rfl : s.size = k := by omega
              have LB := Lib.hid (fun (j : Nat) (hj : j ≤ s.size) => forms_le (w := w1) (V := V) (s := letters s) j (by rw [LS.out]; exact hj) (fun i hi => H.out.1 i (by omega)))
              go_wp2
              go_loopg [8, 9] s.size (fun g1 vo vi wr => ∃ k : Nat, vi = .int .i64 k ∧ k ≤ s.size ∧ s.size - k ≤ g1 ∧ Hid (owns wr w1.heap.size 5 .u8 vo (forms ((letters s).take k) (means V k))) ∧ Hid (Below w1.heap.size w1 wr))
              case atStart => exact ⟨0, rfl, by omega, by omega, Lib.hid (World.ownsRow_nil _ _ _ _), B⟩
              case round =>
                clear B
                rename World => W2
                obtain ⟨k, rfl, hk, hg1, O, B⟩ := hrel
                by_cases hlt : k < s.size
                · have hkz : (k : Int) < s.size := by omega
                  have hk0 : (0 : Int) ≤ k := by omega
                  have HB := Lib.hid (H.out.below B.out)
                  obtain ⟨b, off, rfl, hb, hfive⟩ := H.out.at_ hlt
                  have FA : Hid (∀ W', Below w1.heap.size w1 W' → FiveAt W' b (off + k * 5) (V k)) := Lib.hid (fun W' hW => hfive.keep fun o => hW.cell (p := ⟨b, o, none⟩) hb)
                  obtain ⟨h1, h2, h3, h4, h5⟩ := FA.out _ B.out
                  clear hfive
                  have hone := worth_one V hlt
                  have LT : Hid (Letter s[k].toNat) := Lib.hid (GD.out.1.1 _ (letters_mem s hlt))
                  have OV := Lib.hid (fun (W' : World) (hW : Below W2.heap.size W2 W') => refOne_any s[k].toNat LT.out (V k) W' ((HB.out.1 k hlt).below hW) (by omega))
                  have GX : Hid ((letters s).getD k 0 = s[k].toNat) := Lib.hid (by simp [List.getD, letters_get s hlt])
                  have NX := Lib.hid (forms_next (V := V) (s := letters s) (k := k) (by rw [LS.out]; exact hlt))
                  have L1 := Lib.hid (Nat.le_trans (LB.out (k + 1) hlt) (Nat.mul_le_mul_left 10 (worth_mono V (show k + 1 ≤ s.size from hlt))))
                  rw [GX.out] at NX
                  obtain ⟨P1, hP1⟩ : ∃ P1, forms ((letters s).take k) (means V k) = P1 := ⟨_, rfl⟩
                  obtain ⟨Q1, hQ1⟩ : ∃ Q1, form s[k].toNat (V k).mean = Q1 := ⟨_, rfl⟩
                  rw [hP1] at O NX
                  rw [hQ1] at OV NX
                  have L2 : Hid (P1.length + Q1.length ≤ 4194304) := Lib.hid (by have := L1.out; rw [NX.out, List.length_append] at this; omega)
                  clear hP1 hQ1 L1 LT GX hone
                  have BD : Hid (Below w1.heap.size w1 W2.drew) := Lib.hid B.out.drew
                  have S0 : Hid (Below W2.heap.size W2 W2.drew) := Lib.hid (Below.refl _ W2).drew
                  have C1 := Lib.hid h1
                  have C2 := Lib.hid h2
                  have C3 := Lib.hid h3
                  have C4 := Lib.hid h4
                  have C5 := Lib.hid h5
                  clear h1 h2 h3 h4 h5
                  generalize V k = v at OV C1 C2 C3 C4 C5 FA
                  unfold RV.val at OV
                  go_wp2_with fail
                  go_region_held3 (fun W' => W'.cell? ⟨b, off + k * 5, none⟩ = some (.int .u64 (v.n : Nat)) ∧ W'.cell? ⟨b, off + k * 5 + 1, none⟩ = some (.int .i64 v.i) ∧ W'.cell? ⟨b, off + k * 5 + 2, none⟩ = some (.bool v.f) ∧ W'.cell? ⟨b, off + k * 5 + 3, none⟩ = some (.slice v.bA v.bn v.bc) ∧ W'.cell? ⟨b, off + k * 5 + 4, none⟩ = some (.slice v.lA v.ln v.lc))
                    (first | exact ⟨C1.out, C2.out, C3.out, C4.out, C5.out⟩ | exact FA.out _ B3.out | exact FA.out _ B4.out)
                    (first
                    | (go_at_call 31; (with_reducible refine (OV.out _ S0.out).mono ?_); rintro e w3 ⟨A3, c3, rfl, q1, q2, q3, hB, hO, hbel⟩; have K3 : Hid (Below W2.heap.size W2 w3) := Lib.hid (S0.out.trans hbel); have O3 : Hid (owns w3 w1.heap.size 5 .u8 u8 P1) := Lib.hid (O.out.keep K3.out); have H3 := Lib.hid hB; have N3 := Lib.hid q3; have S3 : Hid (w1.heap.size ≤ w3.heap.size) := Lib.hid (Nat.le_trans B.out.size K3.out.size); have B3 : Hid (Below w1.heap.size w1 w3) := Lib.hid (B.out.trans (K3.out.mono B.out.size)); clear q1 q2 q3 hB hO hbel)
                    | ((refine step_append_more (by rfl) _ _ (by rfl) w1.heap.size u8 P1 (by rfl) O3.out A3 Q1.length c3 (pick Q1) (by rfl) N3.out H3.out L2.out S3.out ?_); intro A4 c4 w4 hown k1 k2 hbel; have B4 : Hid (Below w1.heap.size w1 w4) := Lib.hid (B3.out.trans hbel)))
                  rw [pick_seg] at hown
                  have O4 : Hid (owns w4 w1.heap.size 5 .u8 (.slice A4 (P1.length + Q1.length) c4) (forms ((letters s).take (k + 1)) (means V (k + 1)))) := Lib.hid (by rw [NX.out]; exact hown)
                  clear hown k1 k2 hbel O3 H3 N3 B3 K3 C1 C2 C3 C4 C5 FA OV
                  go_wp2
                  go_roundg (s.size - (k + 1))
                  case measure => omega
                  case rel => exact ⟨k + 1, by go_num, by omega, Nat.le_refl _, O4, B4⟩
                · obtain rfl : s.size = k := by omega
                  have e3 : (letters s).take s.size = letters s := List.take_of_length_le (by rw [LS.out]; omega)
                  rw [e3] at O
                  have FB : Hid (∀ x ∈ forms (letters s) (means V s.size), x < 256) := Lib.hid (forms_byte (fun j hj => H.out.1 j hj))
                  obtain ⟨A9, c9, rfl, k1, k2, k3⟩ := O.out.form
                  have R : Hid (PutPost (letters s) (means V s.size) w1 (.returned (.tuple #[.slice A9 (forms (letters s) (means V s.size)).length c9, .int .i64 0])) W2) := Lib.hid ⟨B.out, .inr ⟨GD.out, A9, c9, rfl, O.out.nums FB.out⟩⟩
                  clear O B
                  go_wp2
                  go_ret2
                  exact R.out
    · have e0 : decide (Schema (letters s)) = true := by simpa using hsc
      rw [e0] at SC
      have NG : Hid (¬ Good (letters s) (means V n)) := Lib.hid (fun hG => hln (by have := ((allFit_iff _ _ _).1 hG.2).1; rw [LS.out] at this; exact this.symm))
      have hx : ((n : Int) != (s.size : Int)) = true := bne_iff_ne.2 (by omega)
      clear e0 hsc
      go_enter Try.func13, Try.ntmps13
      go_wp2_with fail
      refine (SC.out w).mono ?_
      rintro e w1 ⟨rfl, rfl⟩
      go_wp2
      go_ret2
      exact ⟨Below.refl _ _, .inl ⟨NG.out, rfl⟩⟩
  · have e0 : decide (Schema (letters s)) = false := by simpa using hsc
    rw [e0] at SC
    have NG : Hid (¬ Good (letters s) (means V n)) := Lib.hid (fun hG => hsc hG.1)
    clear e0 hsc
    go_enter Try.func13, Try.ntmps13
    go_wp2_with fail
    refine (SC.out w).mono ?_
    rintro e w1 ⟨rfl, rfl⟩
    go_wp2
    go_ret2
    exact ⟨Below.refl _ _, .inl ⟨NG.out, rfl⟩⟩
end Go.Proofs.Ytkjndgnjilfobaa
