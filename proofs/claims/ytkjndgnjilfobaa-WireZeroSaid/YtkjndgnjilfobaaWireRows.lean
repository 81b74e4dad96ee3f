/-
  The law WireRows, of any program whose Put, Take, Whole, Same answer as is asked: by two schemas, one behind the other, values have the forms by each of them, one behind the other.
-/
import Derived.Test.YtkjndgnjilfobaaOwnVals
namespace Go.Proofs.Ytkjndgnjilfobaa
open Go.RowKit

theorem slice_from (A : Option Addr) (n c k : Nat) (f : Nat → Nat) (hk : k ≤ n) (hn : n ≤ c) (hA : A = none → n = 0 ∧ c = 0) :
    ∃ A', (∀ W : World, (Instr.slice 25 (.slice A n c) (some (.int .i64 (k : Nat))) none none).run Try.prog W = .ok (.slice A' (n - k) (c - k)) W) ∧ (A' = none → n - k = 0 ∧ c - k = 0) ∧ ∀ W, Bytes W A n f → Bytes W A' (n - k) (fun i => f (k + i)) := by
  refine ⟨if c = k then A else A.map (·.add (k * 1)), fun W => ?_, fun e => ?_, fun W h => ?_⟩
  · have hsz : ∀ W : World, (sizeOf (Try.prog.elem 25)).run Try.prog W = .ok 1 W := fun W => by kernel_rfl
    rw [run_slice_l W 25 A n c (by kernel_rfl) .i64 (k : Nat) (by omega) (by omega), hsz]
    simp [Result.andThen, sliced]
  · split at e
    · have := hA e; omega
    · cases A with
      | none => have := hA rfl; omega
      | some a => cases e
  · split
    · rw [show n - k = 0 by omega]; exact Nums.zero _ _
    · by_cases h0 : n - k = 0
      · rw [h0]; exact Nums.zero _ _
      · obtain ⟨b, off, rfl, -, -⟩ := h.at_ (show 0 < n by omega)
        have := Nums.from_ h (k := k) (m := n - k) (by omega)
        rw [Nat.mul_one]
        show Bytes W (some (Addr.add ⟨b, off, none⟩ k)) _ _
        rw [Go.WideShapes.add_plain]
        exact this
theorem letters_append (s t : ByteArray) : letters (s ++ t) = letters s ++ letters t := by
  simp [letters, ByteArray.data_append]
theorem seg_back (a b : List Nat) : seg (fun i => pick (a ++ b) (a.length + i)) 0 ((a ++ b).length - a.length) = b := by
  rw [seg_shift, Nat.add_zero]
  have e := pick_seg (a ++ b)
  have : seg (pick (a ++ b)) 0 (a ++ b).length = seg (pick (a ++ b)) 0 a.length ++ seg (pick (a ++ b)) (0 + a.length) ((a ++ b).length - a.length) := by
    rw [← seg_add, show a.length + ((a ++ b).length - a.length) = (a ++ b).length by rw [List.length_append]; omega]
  rw [this, Nat.zero_add] at e
  exact (List.append_inj e (by rw [seg_len])).2
theorem forms_bound {w : World} {V : Nat → RV} {n : Nat} {s : List Nat} (h : ∀ j, j < n → (V j).ok w) (hw : worth V n ≤ 4000) (hG : Good s (means V n)) : (forms s (means V n)).length ≤ 40000 := by
  have hl := ((allFit_iff _ _ _).1 hG.2).1
  have := forms_le (w := w) (V := V) (s := s) n (by omega) h
  rw [List.take_of_length_le (by omega)] at this
  omega

set_option maxRecDepth 100000 in
set_option maxHeartbeats 32000000 in
theorem rows_walk (hP : PutOK) (hT : TakeOK) (hW : WholeOK4) (hS : SameOK) (s t : ByteArray) (A : Option Addr) (n c : Nat) (V : Nat → RV) (C : Option Addr) (m d : Nat) (U : Nat → RV) (w : World) (hs : s.size ≤ 9223372036854775807) (ht : t.size ≤ 9223372036854775807) (h : ValsIn w A n c V) (h' : ValsIn w C m d U) :
    Calls Try.prog 7 #[.string s, .string t, .slice A n c, .slice C m d] w fun e w' => e = .returned (.bool true) ∧ Below w.heap.size w w' := by
  have KP := Lib.hid hP
  have KT := Lib.hid hT
  have KW := Lib.hid hW
  have KS := Lib.hid hS
  have H := Lib.hid h
  have G := Lib.hid h'
  have AW := Lib.hid (awake4_any hP hT hW w)
  clear hP hT hW hS h h'
  by_cases hb1 : 32 < s.size
  · have d1 : (32 : Int) < s.size := by omega
    go_enter Try.func7, Try.ntmps7
    go_wp2_with fail
    refine AW.out.mono ?_
    rintro e w1 ⟨rfl, hb⟩
    go_wp2
    go_ret
    exact ⟨rfl, hb⟩
  · have d1 : ¬ (32 : Int) < s.size := by omega
    by_cases hb2 : 32 < t.size
    · have d2 : (32 : Int) < t.size := by omega
      go_enter Try.func7, Try.ntmps7
      go_wp2_with fail
      refine AW.out.mono ?_
      rintro e w1 ⟨rfl, hb⟩
      go_wp2
      go_ret
      exact ⟨rfl, hb⟩
    · have d2 : ¬ (32 : Int) < t.size := by omega
      go_enter Try.func7, Try.ntmps7
      go_wp2_with fail
      refine AW.out.mono ?_
      rintro e w1 ⟨rfl, hb⟩
      have K1 := Lib.hid hb
      have H1 : Hid (ValsIn w1 A n c V) := Lib.hid ⟨H.out.1.below hb, H.out.2⟩
      have G1 : Hid (ValsIn w1 C m d U) := Lib.hid ⟨G.out.1.below hb, G.out.2⟩
      clear hb H AW G
      go_wp2_with fail
      refine (great_any A n c V w1 H1.out).mono ?_
      rintro e w2 ⟨rfl, hd⟩
      have K2 := Lib.hid (K1.out.trans (hd.below.mono K1.out.size))
      have H2 : Hid (ValsIn w2 A n c V) := Lib.hid ⟨H1.out.1.below hd.below, H1.out.2⟩
      have G2 : Hid (ValsIn w2 C m d U) := Lib.hid ⟨G1.out.1.below hd.below, G1.out.2⟩
      clear hd H1 K1 G1
      by_cases hg : 4000 < worth V n
      · have e1 : decide (4000 < worth V n) = true := by simpa using hg
        rw [e1]
        clear hg e1
        go_wp2
        go_ret
        exact ⟨rfl, K2.out⟩
      · have e1 : decide (4000 < worth V n) = false := by simpa using hg
        rw [e1]
        clear e1
        go_wp2_with fail
        refine (great_any C m d U w2 G2.out).mono ?_
        rintro e w3 ⟨rfl, hd⟩
        have K3 := Lib.hid (K2.out.trans (hd.below.mono K2.out.size))
        have H3 : Hid (ValsIn w3 A n c V) := Lib.hid ⟨H2.out.1.below hd.below, H2.out.2⟩
        have G3 : Hid (ValsIn w3 C m d U) := Lib.hid ⟨G2.out.1.below hd.below, G2.out.2⟩
        clear hd H2 K2 G2
        by_cases hg2 : 4000 < worth U m
        · have e1 : decide (4000 < worth U m) = true := by simpa using hg2
          rw [e1]
          clear hg hg2 e1
          go_wp2
          go_ret
          exact ⟨rfl, K3.out⟩
        · have e1 : decide (4000 < worth U m) = false := by simpa using hg2
          rw [e1]
          have W1 : Hid (worth V n ≤ 4000) := Lib.hid (by omega)
          have W2 : Hid (worth U m ≤ 4000) := Lib.hid (by omega)
          clear hg hg2 e1
          go_wp2_with fail
          refine (KP.out s A n c V w3 (by omega) H3.out).mono ?_
          rintro e w4 ⟨hb, ho⟩
          have K4 := Lib.hid (K3.out.trans (hb.mono K3.out.size))
          have H4 : Hid (ValsIn w4 A n c V) := Lib.hid ⟨H3.out.1.below hb, H3.out.2⟩
          have G4 : Hid (ValsIn w4 C m d U) := Lib.hid ⟨G3.out.1.below hb, G3.out.2⟩
          clear hb H3 K3 G3
          rcases ho with ⟨-, rfl⟩ | ⟨-, hno, -⟩ | ⟨hG, hSh, B, dB, rfl, hn1, hn2, hn3, hB⟩
          · go_wp2_with fail
            refine (KP.out t C m d U w4 (by omega) G4.out).mono ?_
            rintro e w5 ⟨hb, ho⟩
            have K5 := Lib.hid (K4.out.trans (hb.mono K4.out.size))
            clear hb
            rcases ho with ⟨-, rfl⟩ | ⟨-, -, rfl⟩ | ⟨-, -, B, dB, rfl, -⟩ <;>
            · go_wp2
              go_ret
              exact ⟨rfl, K5.out⟩
          · exact absurd (worth_short W1.out) hno
          · have GD := Lib.hid hG
            have N1 := Lib.hid hn1
            have J4 := Lib.hid hB
            have FB1 : Hid (∀ y ∈ forms (letters s) (means V n), y < 256) := Lib.hid (forms_byte (fun j hj => H4.out.1.1 j hj))
            have L1 := Lib.hid (forms_bound (fun j hj => H4.out.1.1 j hj) W1.out hG)
            have RR1 := Lib.hid (vals_real H4.out.1)
            clear hG hn1 hB
            go_wp2_with fail
            refine (KP.out t C m d U w4 (by omega) G4.out).mono ?_
            rintro e w5 ⟨hb, ho⟩
            have K5 := Lib.hid (K4.out.trans (hb.mono K4.out.size))
            have H5 : Hid (ValsIn w5 A n c V) := Lib.hid ⟨H4.out.1.below hb, H4.out.2⟩
            have G5 : Hid (ValsIn w5 C m d U) := Lib.hid ⟨G4.out.1.below hb, G4.out.2⟩
            have J5 := Lib.hid (J4.out.below hb)
            clear hb K4 H4 G4 J4
            rcases ho with ⟨-, rfl⟩ | ⟨-, hno, -⟩ | ⟨hG, hSh2, E, dE, rfl, hm1, hm2, hm3, hE⟩
            · go_wp2
              go_ret
              exact ⟨rfl, K5.out⟩
            · exact absurd (worth_short W2.out) hno
            · have GE := Lib.hid hG
              have N2 := Lib.hid hm1
              have I5 := Lib.hid hE
              have FB2 : Hid (∀ y ∈ forms (letters t) (means U m), y < 256) := Lib.hid (forms_byte (fun j hj => G5.out.1.1 j hj))
              have L2 := Lib.hid (forms_bound (fun j hj => G5.out.1.1 j hj) W2.out hG)
              have RR2 := Lib.hid (vals_real G5.out.1)
              have hns : n ≤ 32 := by have := ((allFit_iff _ _ _).1 GD.out.2).1; rw [letters_len] at this; omega
              have hmt : m ≤ 32 := by have := ((allFit_iff _ _ _).1 GE.out.2).1; rw [letters_len] at this; omega
              clear hG hm1 hE W1 W2
              obtain ⟨w6, hmk, hown, hb6⟩ := made_vals w5 (fun _ => default)
              have O6 := Lib.hid hown
              have H6 := Lib.hid (H5.out.1.below hb6)
              have B6 := Lib.hid hb6
              have S6 := Lib.hid hb6.size
              clear hown hb6
              go_wp2_with (refine wpList_append_vals (o := ⟨some 61, _, _, _, _, _⟩) rfl _ _ rfl w5.heap.size _ (fun _ => default) 0 rfl O6.out A n c V rfl H5.out.2.1 H6.out (by omega) S6.out ?_)
              intro A7 c7 w7 hown hbel
              try rw [Nat.zero_add] at hown
              have O7 : Hid (ownsV w7 w5.heap.size (.slice A7 n c7) (joinV (fun _ => default) 0 V) n) := Lib.hid hown
              have B7 := Lib.hid (B6.out.trans hbel)
              have S7 := Lib.hid B7.out.size
              have G7 := Lib.hid (G5.out.1.below B7.out)
              clear hown hbel O6 H6 B6 S6 hmk
              try rw [Nat.zero_add]
              go_wp2_with (refine wpList_append_vals (o := ⟨some 64, _, _, _, _, _⟩) rfl _ _ rfl w5.heap.size _ (joinV (fun _ => default) 0 V) n rfl O7.out C m d U rfl G5.out.2.1 G7.out (by omega) S7.out ?_)
              intro A8 c8 w8 hown hbel
              have B8 := Lib.hid (B7.out.trans hbel)
              have K8 := Lib.hid (K5.out.trans (B8.out.mono K5.out.size))
              have H8 : Hid (ValsIn w8 A n c V) := Lib.hid ⟨H5.out.1.below B8.out, H5.out.2⟩
              have G8 : Hid (ValsIn w8 C m d U) := Lib.hid ⟨G5.out.1.below B8.out, G5.out.2⟩
              have J8 := Lib.hid (J5.out.below B8.out)
              have I8 := Lib.hid (I5.out.below B8.out)
              have AL : Hid (ValsIn w8 A8 (n + m) c8 (joinV (joinV (fun _ => default) 0 V) n U)) := Lib.hid (by
                obtain ⟨A', c', hv, q1, q2, q3⟩ := hown.form
                injection hv with v1 v2 v3
                subst v1 v3
                refine ⟨hown.vals (fun j hj => ?_), q3, ⟨q1, q2⟩, by omega⟩
                unfold joinV
                split
                · rw [if_neg (by omega)]; exact H8.out.1.1 _ (by omega)
                · exact G8.out.1.1 _ (by omega))
              have ME : Hid (means (joinV (joinV (fun _ => default) 0 V) n U) (n + m) = means V n ++ means U m) := Lib.hid (by
                rw [means_join]
                congr 1)
              clear hown hbel O7 B7 S7 G7 H5 G5 J5 I5
              generalize joinV (joinV (fun _ => default) 0 V) n U = V2 at AL ME
              have LA := Lib.hid (letters_append s t)
              have hsz : (s ++ t).size = s.size + t.size := ByteArray.size_append
              have GJ : Hid (Good (letters (s ++ t)) (means V2 (n + m))) := Lib.hid (by
                rw [LA.out, ME.out]
                refine ⟨⟨fun c hc => ?_, ?_⟩, AllFit.append GD.out.2 GE.out.2⟩
                · rcases List.mem_append.1 hc with h | h
                  · exact GD.out.1.1 c h
                  · exact GE.out.1.1 c h
                · rw [List.length_append, letters_len, letters_len]; omega)
              have SJ : Hid (AllShort (means V2 (n + m))) := Lib.hid (by
                rw [ME.out]
                intro v hv
                rcases List.mem_append.1 hv with h | h
                · exact hSh v h
                · exact hSh2 v h)
              have FJ : Hid (forms (letters (s ++ t)) (means V2 (n + m)) = forms (letters s) (means V n) ++ forms (letters t) (means U m)) := Lib.hid (by
                rw [LA.out, ME.out, forms_append (AllFit.len GD.out.2)])
              have PJ := Lib.hid (KP.out (s ++ t) A8 (n + m) c8 V2 w8 (by omega) AL.out)
              have V1 : Hid (Valid (letters s) (means V n)) := Lib.hid ⟨GD.out, hSh, RR1.out⟩
              have V2' : Hid (Valid (letters t) (means U m)) := Lib.hid ⟨GE.out, hSh2, RR2.out⟩
              unfold PutAns at PJ
              rw [FJ.out] at PJ
              clear AL ME LA FJ hSh hSh2 RR1 RR2
              generalize hfa : forms (letters s) (means V n) = fa at *
              generalize hfb : forms (letters t) (means U m) = fb at *
              have QA := Lib.hid hfa
              have QB := Lib.hid hfb
              clear hfa hfb
              go_wp2_with fail
              refine PJ.out.mono ?_
              rintro e w9 ⟨hb, ho⟩
              have K9 := Lib.hid (K8.out.trans (hb.mono K8.out.size))
              have H9 : Hid (ValsIn w9 A n c V) := Lib.hid ⟨H8.out.1.below hb, H8.out.2⟩
              have G9 : Hid (ValsIn w9 C m d U) := Lib.hid ⟨G8.out.1.below hb, G8.out.2⟩
              have J9 := Lib.hid (J8.out.below hb)
              have I9 := Lib.hid (I8.out.below hb)
              clear hb K8 H8 G8 J8 I8 PJ
              rcases ho with ⟨h, -⟩ | ⟨-, h, -⟩ | ⟨-, -, F, dF, rfl, f1, f2, f3, hF⟩
              · exact absurd GJ.out h
              · exact absurd SJ.out h
              · rw [List.length_append] at f1 f2 hF
                have F1 := Lib.hid f1
                have F9 := Lib.hid hF
                clear f1 hF GJ SJ
                have l1 := L1.out
                have l2 := L2.out
                go_wp2_with fail
                refine (copy_any B fa.length dB (pick fa) w9 J9.out (by omega) N1.out).mono ?_
                rintro e w10 ⟨D, cD, rfl, q1, q2, q3, -, hO, hbel⟩
                rw [pick_seg] at *
                have O10 := Lib.hid hO
                have I10 := Lib.hid (I9.out.below hbel)
                have B10 := Lib.hid hbel
                have S10 := Lib.hid hbel.size
                clear q1 q2 q3 hO hbel J9
                go_wp2_with (at_builtin; refine wpList_append_more rfl _ _ rfl w9.heap.size _ fa rfl O10.out E fb.length dE (pick fb) rfl N2.out I10.out (by omega) S10.out ?_)
                intro D2 cD2 w11 hown k1 k2 hbel
                rw [pick_seg] at hown
                have B11 := Lib.hid (B10.out.trans hbel)
                have K11 := Lib.hid (K9.out.trans (B11.out.mono K9.out.size))
                have H11 : Hid (ValsIn w11 A n c V) := Lib.hid ⟨H9.out.1.below B11.out, H9.out.2⟩
                have G11 : Hid (ValsIn w11 C m d U) := Lib.hid ⟨G9.out.1.below B11.out, G9.out.2⟩
                have F11 := Lib.hid (F9.out.below B11.out)
                have XB : Hid (∀ y ∈ fa ++ fb, y < 256) := Lib.hid (fun y hy => by
                  rcases List.mem_append.1 hy with h | h
                  · exact FB1.out y h
                  · exact FB2.out y h)
                have LN : Hid (fa.length + fb.length = (fa ++ fb).length) := Lib.hid (by rw [List.length_append])
                have D11 : Hid (Bytes w11 D2 (fa.length + fb.length) (pick (fa ++ fb))) := Lib.hid (by
                  have := hown
                  rw [LN.out] at this ⊢
                  exact this.nums XB.out)
                clear hown hbel O10 I10 B10 S10 K9 H9 G9 I9 F9
                have SGE : Hid (seg (pick (fa ++ fb)) 0 (fa.length + fb.length) = fa ++ fb) := Lib.hid (by rw [LN.out]; exact pick_seg _)
                go_wp2_with fail
                refine (KT.out s F (fa.length + fb.length) dF (pick (fa ++ fb)) w11 (by omega) F11.out F1.out f2 f3 (by omega)).mono ?_
                rw [SGE.out]
                rintro e w12 ⟨hb, ho⟩
                have K12 := Lib.hid (K11.out.trans (hb.mono K11.out.size))
                have H12 : Hid (ValsIn w12 A n c V) := Lib.hid ⟨H11.out.1.below hb, H11.out.2⟩
                have G12 : Hid (ValsIn w12 C m d U) := Lib.hid ⟨G11.out.1.below hb, G11.out.2⟩
                have F12 := Lib.hid (F11.out.below hb)
                have D12 := Lib.hid (D11.out.below hb)
                clear hb K11 H11 G11 F11 D11
                rcases ho with ⟨h, -⟩ | ⟨-, h, -⟩ | ⟨M, k, cM, Y, r, hv, hf, rfl, hin⟩
                · exact absurd GD.out.1 h
                · exact (h (means V n) fb V1.out (by rw [QA.out])).elim
                · obtain ⟨em, -⟩ := valid_uniq hv.1 GD.out (hf.trans (by rw [QA.out]))
                  have IN := Lib.hid hin
                  have EM := Lib.hid em
                  rw [em, QA.out]
                  clear hv hf hin em
                  obtain ⟨F2, hsl, hn0, hby⟩ := slice_from F (fa.length + fb.length) dF fa.length (pick (fa ++ fb)) (by omega) f2 F1.out
                  rw [Nat.add_sub_cancel_left] at hn0 hby
                  rw [Nat.add_sub_cancel_left] at hsl
                  have FN := Lib.hid hn0
                  have FBY := Lib.hid (hby w12 F12.out)
                  have x1 : ¬ ((fa.length : Int) < 0) := by omega
                  have x2 : decide ((fa.length : Int) < 0) = false := decide_eq_false x1
                  have x3 : ¬ ((fa.length : Int) + fb.length < (fa.length : Int)) := by omega
                  have x4 : decide ((fa.length : Int) + fb.length < (fa.length : Int)) = false := decide_eq_false x3
                  have SB : Hid (seg (fun i => pick (fa ++ fb) (fa.length + i)) 0 fb.length = fb) := Lib.hid (by
                    have := seg_back fa fb
                    rwa [List.length_append, Nat.add_sub_cancel_left] at this)
                  have hlen : fb.length ≤ dF - fa.length := by omega
                  clear hn0 hby
                  go_wp2_with fail
                  refine (KW.out t F2 fb.length (dF - fa.length) (fun i => pick (fa ++ fb) (fa.length + i)) w12 (by omega) FBY.out FN.out hlen (by omega) (by omega)).mono ?_
                  rw [SB.out]
                  rintro e w13 ⟨hb, ho⟩
                  have K13 := Lib.hid (K12.out.trans (hb.mono K12.out.size))
                  have H13 : Hid (ValsIn w13 A n c V) := Lib.hid ⟨H12.out.1.below hb, H12.out.2⟩
                  have G13 : Hid (ValsIn w13 C m d U) := Lib.hid ⟨G12.out.1.below hb, G12.out.2⟩
                  have F13 := Lib.hid (F12.out.below hb)
                  have D13 := Lib.hid (D12.out.below hb)
                  have IN13 : Hid (ValsIn w13 M k cM Y) := Lib.hid ⟨IN.out.1.below hb, IN.out.2⟩
                  clear hb K12 H12 G12 F12 D12 IN FBY FN hsl
                  rcases ho with ⟨h, -⟩ | ⟨-, h, -⟩ | ⟨P, kp, cP, Z, hv, hf, rfl, hin⟩
                  · exact absurd GE.out.1 h
                  · exact (h (means U m) V2'.out QB.out).elim
                  · have em : means Z kp = means U m := (valid_uniq hv.1 GE.out (r := []) (t := []) (by rw [List.append_nil, List.append_nil, hf, QB.out])).1
                    have PN := Lib.hid hin
                    have EM2 := Lib.hid em
                    clear hv hf hin em
                    go_wp2_with fail
                    refine (same_any F D2 (fa.length + fb.length) (fa.length + fb.length) dF cD2 (pick (fa ++ fb)) (pick (fa ++ fb)) w13 F13.out D13.out (by omega) (by omega) true ⟨fun _ => rfl, fun _ => rfl⟩).mono ?_
                    rintro e w14 ⟨rfl, hd⟩
                    have K14 := Lib.hid (K13.out.trans (hd.below.mono K13.out.size))
                    have H14 : Hid (ValsIn w14 A n c V) := Lib.hid ⟨H13.out.1.below hd.below, H13.out.2⟩
                    have G14 : Hid (ValsIn w14 C m d U) := Lib.hid ⟨G13.out.1.below hd.below, G13.out.2⟩
                    have IN14 : Hid (ValsIn w14 M k cM Y) := Lib.hid ⟨IN13.out.1.below hd.below, IN13.out.2⟩
                    have PN14 : Hid (ValsIn w14 P kp cP Z) := Lib.hid ⟨PN.out.1.below hd.below, PN.out.2⟩
                    clear hd K13 H13 G13 F13 D13 IN13 PN
                    have SM := Lib.hid (KS.out M A k n cM c Y V w14 IN14.out H14.out)
                    rw [show decide (means Y k = means V n) = true from decide_eq_true EM.out] at SM
                    go_wp2_with fail
                    refine SM.out.mono ?_
                    rintro e w15 ⟨rfl, hb⟩
                    have K15 := Lib.hid (K14.out.trans (hb.mono K14.out.size))
                    have G15 : Hid (ValsIn w15 C m d U) := Lib.hid ⟨G14.out.1.below hb, G14.out.2⟩
                    have PN15 : Hid (ValsIn w15 P kp cP Z) := Lib.hid ⟨PN14.out.1.below hb, PN14.out.2⟩
                    clear hb K14 H14 G14 IN14 PN14 SM
                    have SM2 := Lib.hid (KS.out P C kp m cP d Z U w15 PN15.out G15.out)
                    rw [show decide (means Z kp = means U m) = true from decide_eq_true EM2.out] at SM2
                    go_wp2_with fail
                    refine SM2.out.mono ?_
                    rintro e w16 ⟨rfl, hb⟩
                    have K16 := Lib.hid (K15.out.trans (hb.mono K15.out.size))
                    clear hb K15 G15 PN15 SM2
                    go_wp2
                    go_ret
                    exact ⟨rfl, K16.out⟩

theorem rowsOf (hP : PutOK) (hT : TakeOK) (hW : WholeOK4) (hS : SameOK) (a0 a1 : ByteArray) (a2 : Option Addr) (len2 cap2 : Nat) (z2 : Nat → RV) (a3 : Option Addr) (len3 cap3 : Nat) (z3 : Nat → RV) (w : World) (w0 : a0.size ≤ maxLen) (w1 : a1.size ≤ maxLen) (w2 : ValsIn w a2 len2 cap2 z2) (w3 : ValsIn w a3 len3 cap3 z3) :
    Calls Try.prog 7 #[.string a0, .string a1, .slice a2 len2 cap2, .slice a3 len3 cap3] w fun e w' => e = .returned (.bool true) ∧ Below w.heap.size w w' :=
  rows_walk hP hT hW hS a0 a1 a2 len2 cap2 z2 a3 len3 cap3 z3 w (by unfold maxLen at w0; omega) (by unfold maxLen at w1; omega) w2 w3
end Go.Proofs.Ytkjndgnjilfobaa
