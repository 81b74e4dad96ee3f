/-
  The law WirePuts, of any program whose Put and Same answer as is asked: any values by any schema have the form that the chapter says, or none; they stay.
-/
import Derived.Test.YtkjndgnjilfobaaRefCopy4
import Derived.Test.YtkjndgnjilfobaaGreat
import Derived.Test.YtkjndgnjilfobaaRefPut4
import Derived.Test.YtkjndgnjilfobaaRefSame4
import Derived.Test.YtkjndgnjilfobaaWireOK
namespace Go.Proofs.Ytkjndgnjilfobaa
open Go.RowKit

set_option maxRecDepth 100000 in
set_option maxHeartbeats 16000000 in
theorem puts_walk (hP : PutOK) (hS : SameOK) (s : ByteArray) (A : Option Addr) (n c : Nat) (V : Nat → RV) (B : Option Addr) (m d : Nat) (U : Nat → RV) (w : World) (hs : s.size ≤ 9223372036854775807) (h : ValsIn w A n c V) (h' : ValsIn w B m d U) :
    Calls Try.prog 3 #[.string s, .slice A n c, .slice B m d] w fun e w' => e = .returned (.bool true) ∧ Below w.heap.size w w' := by
  have KP := Lib.hid hP
  have KS := Lib.hid hS
  have H := Lib.hid h
  have G := Lib.hid h'
  clear hP hS h h'
  by_cases hbig : 100 < s.size
  · have d1 : (100 : Int) < s.size := by omega
    go_enter Try.func3, Try.ntmps3
    go_wp2
    go_ret
    exact ⟨rfl, Below.refl _ _⟩
  · have d1 : ¬ (100 : Int) < s.size := by omega
    go_enter Try.func3, Try.ntmps3
    go_wp2_with fail
    refine (great_any A n c V w H.out).mono ?_
    rintro e w1 ⟨rfl, hd⟩
    have K1 := Lib.hid hd.below
    have H1 : Hid (ValsIn w1 A n c V) := Lib.hid ⟨H.out.1.below hd.below, H.out.2⟩
    have G1 : Hid (ValsIn w1 B m d U) := Lib.hid ⟨G.out.1.below hd.below, G.out.2⟩
    clear hd H G
    by_cases hg : 4000 < worth V n
    · have e1 : decide (4000 < worth V n) = true := by simpa using hg
      rw [e1]
      clear hg e1
      go_wp2
      go_ret
      exact ⟨rfl, K1.out⟩
    · have e1 : decide (4000 < worth V n) = false := by simpa using hg
      rw [e1]
      go_wp2_with fail
      refine (great_any B m d U w1 G1.out).mono ?_
      rintro e w2 ⟨rfl, hd⟩
      have K2 := Lib.hid (K1.out.trans (hd.below.mono K1.out.size))
      have H2 : Hid (ValsIn w2 A n c V) := Lib.hid ⟨H1.out.1.below hd.below, H1.out.2⟩
      have G2 : Hid (ValsIn w2 B m d U) := Lib.hid ⟨G1.out.1.below hd.below, G1.out.2⟩
      clear hd H1 G1 K1 e1
      by_cases hg2 : 4000 < worth U m
      · have e1 : decide (4000 < worth U m) = true := by simpa using hg2
        rw [e1]
        clear hg hg2 e1
        go_wp2
        go_ret
        exact ⟨rfl, K2.out⟩
      · have e1 : decide (4000 < worth U m) = false := by simpa using hg2
        rw [e1]
        have nn : n ≤ 1000 := by have := worth_ten V n; omega
        have WV : Hid (worth V n ≤ 4000) := Lib.hid (by omega)
        have SH := Lib.hid (worth_short (V := V) (n := n) (by omega))
        have BD : Hid (∀ j, j < n → (V j).bn ≤ 100000 ∧ (V j).ln ≤ 100000) := Lib.hid (fun j hj => by have := worth_one V hj; omega)
        clear hg hg2 e1
        go_wp2_with fail
        refine (refCopy4_any A n c V w2 H2.out nn BD.out).mono ?_
        rintro e w3 ⟨C, cC, X, rfl, hin, hmean, hb⟩
        have K3 := Lib.hid (K2.out.trans (hb.mono K2.out.size))
        have H3 : Hid (ValsIn w3 A n c V) := Lib.hid ⟨H2.out.1.below hb, H2.out.2⟩
        have G3 : Hid (ValsIn w3 B m d U) := Lib.hid ⟨G2.out.1.below hb, G2.out.2⟩
        have I3 := Lib.hid hin
        have ME := Lib.hid hmean
        clear hb hin hmean K2 H2 G2
        go_wp2_with fail
        refine (KP.out s C n cC X w3 (by omega) I3.out).mono ?_
        rintro e w4 ⟨hb, ho⟩
        rw [ME.out] at ho
        have K4 := Lib.hid (K3.out.trans (hb.mono K3.out.size))
        have H4 : Hid (ValsIn w4 A n c V) := Lib.hid ⟨H3.out.1.below hb, H3.out.2⟩
        have G4 : Hid (ValsIn w4 B m d U) := Lib.hid ⟨G3.out.1.below hb, G3.out.2⟩
        have I4 : Hid (ValsIn w4 C n cC X) := Lib.hid ⟨I3.out.1.below hb, I3.out.2⟩
        clear hb K3 H3 G3 I3
        have FL : Hid (Good (letters s) (means V n) → (forms (letters s) (means V n)).length ≤ 40000) := Lib.hid (fun hG => by
          have hl := ((allFit_iff _ _ _).1 hG.2).1
          have := forms_le (w := w4) (V := V) (s := letters s) n (by omega) (fun j hj => H4.out.1.1 j hj)
          rw [List.take_of_length_le (by omega)] at this
          have := WV.out
          omega)
        rcases ho with ⟨hG, rfl⟩ | ⟨-, hno, -⟩ | ⟨hG, -, F, cF, rfl, -, -, -, hF⟩
        · go_wp2_with fail
          refine (refPut4_any s A n c V w4 (by omega) H4.out WV.out).mono ?_
          rintro e w5 ⟨hb, ho⟩
          have K5 := Lib.hid (K4.out.trans (hb.mono K4.out.size))
          have H5 : Hid (ValsIn w5 A n c V) := Lib.hid ⟨H4.out.1.below hb, H4.out.2⟩
          have G5 : Hid (ValsIn w5 B m d U) := Lib.hid ⟨G4.out.1.below hb, G4.out.2⟩
          have I5 : Hid (ValsIn w5 C n cC X) := Lib.hid ⟨I4.out.1.below hb, I4.out.2⟩
          clear hb K4 H4 G4 I4
          rcases ho with ⟨-, rfl⟩ | ⟨hG', -⟩
          · have RE : Hid (Bytes w5 none 0 (fun _ => 0)) := Lib.hid (Nums.zero _ _)
            go_wp2_with fail
            refine (same_any none none 0 0 0 0 (fun _ => 0) (fun _ => 0) w5 RE.out RE.out (by omega) (by omega) true ⟨fun _ => rfl, fun _ => rfl⟩).mono ?_
            rintro e w6 ⟨rfl, hd⟩
            have K6 := Lib.hid (K5.out.trans (hd.below.mono K5.out.size))
            have H6 : Hid (ValsIn w6 A n c V) := Lib.hid ⟨H5.out.1.below hd.below, H5.out.2⟩
            have G6 : Hid (ValsIn w6 B m d U) := Lib.hid ⟨G5.out.1.below hd.below, G5.out.2⟩
            have I6 : Hid (ValsIn w6 C n cC X) := Lib.hid ⟨I5.out.1.below hd.below, I5.out.2⟩
            clear hd K5 H5 G5 I5
            have D1 : decide (means X n = means V n) = true := by simpa using ME.out
            have D2 : decide (means V n = means X n) = true := by simpa using ME.out.symm
            go_wp2_with fail
            refine (refSame4_any C A n n cC c X V w6 I6.out H6.out).mono ?_
            rintro e w7 ⟨rfl, hb⟩
            rw [D1]
            have K7 := Lib.hid (K6.out.trans (hb.mono K6.out.size))
            have H7 : Hid (ValsIn w7 A n c V) := Lib.hid ⟨H6.out.1.below hb, H6.out.2⟩
            have G7 : Hid (ValsIn w7 B m d U) := Lib.hid ⟨G6.out.1.below hb, G6.out.2⟩
            have I7 : Hid (ValsIn w7 C n cC X) := Lib.hid ⟨I6.out.1.below hb, I6.out.2⟩
            clear hb K6 H6 G6 I6 D1
            go_wp2_with fail
            refine (KS.out A B n m c d V U w7 H7.out G7.out).mono ?_
            rintro e w8 ⟨rfl, hb⟩
            have K8 := Lib.hid (K7.out.trans (hb.mono K7.out.size))
            have H8 : Hid (ValsIn w8 A n c V) := Lib.hid ⟨H7.out.1.below hb, H7.out.2⟩
            have G8 : Hid (ValsIn w8 B m d U) := Lib.hid ⟨G7.out.1.below hb, G7.out.2⟩
            have I8 : Hid (ValsIn w8 C n cC X) := Lib.hid ⟨I7.out.1.below hb, I7.out.2⟩
            clear hb K7 H7 G7 I7
            go_wp2_with fail
            refine (refSame4_any A B n m c d V U w8 H8.out G8.out).mono ?_
            rintro e w9 ⟨rfl, hb⟩
            have K9 := Lib.hid (K8.out.trans (hb.mono K8.out.size))
            have H9 : Hid (ValsIn w9 A n c V) := Lib.hid ⟨H8.out.1.below hb, H8.out.2⟩
            have I9 : Hid (ValsIn w9 C n cC X) := Lib.hid ⟨I8.out.1.below hb, I8.out.2⟩
            clear hb K8 H8 G8 I8
            generalize decide (means V n = means U m) = bb
            have x1 : (bb == bb) = true := by simp
            go_wp2_with fail
            refine (KS.out A C n n c cC V X w9 H9.out I9.out).mono ?_
            rintro e w10 ⟨rfl, hb⟩
            rw [D2]
            have K10 := Lib.hid (K9.out.trans (hb.mono K9.out.size))
            go_wp2
            go_ret
            exact ⟨rfl, K10.out⟩
          · exact absurd hG' hG
        · exact absurd SH.out hno
        · have HF := Lib.hid hF
          clear hF
          go_wp2_with fail
          refine (refPut4_any s A n c V w4 (by omega) H4.out WV.out).mono ?_
          rintro e w5 ⟨hb, ho⟩
          have K5 := Lib.hid (K4.out.trans (hb.mono K4.out.size))
          have H5 : Hid (ValsIn w5 A n c V) := Lib.hid ⟨H4.out.1.below hb, H4.out.2⟩
          have G5 : Hid (ValsIn w5 B m d U) := Lib.hid ⟨G4.out.1.below hb, G4.out.2⟩
          have I5 : Hid (ValsIn w5 C n cC X) := Lib.hid ⟨I4.out.1.below hb, I4.out.2⟩
          have F5 := Lib.hid (HF.out.below hb)
          clear hb K4 H4 G4 I4 HF
          rcases ho with ⟨hG', -⟩ | ⟨-, D, cD, rfl, hD⟩
          · exact absurd hG hG'
          · have D5 := Lib.hid hD
            clear hD
            have LQ := FL.out hG
            clear FL hG
            generalize forms (letters s) (means V n) = fm at *
            go_wp2_with fail
            refine (same_any F D fm.length fm.length cF cD (pick fm) (pick fm) w5 F5.out D5.out (by omega) (by omega) true ⟨fun _ => rfl, fun _ => rfl⟩).mono ?_
            rintro e w6 ⟨rfl, hd⟩
            have K6 := Lib.hid (K5.out.trans (hd.below.mono K5.out.size))
            have H6 : Hid (ValsIn w6 A n c V) := Lib.hid ⟨H5.out.1.below hd.below, H5.out.2⟩
            have G6 : Hid (ValsIn w6 B m d U) := Lib.hid ⟨G5.out.1.below hd.below, G5.out.2⟩
            have I6 : Hid (ValsIn w6 C n cC X) := Lib.hid ⟨I5.out.1.below hd.below, I5.out.2⟩
            clear hd K5 H5 G5 I5
            have D1 : decide (means X n = means V n) = true := by simpa using ME.out
            have D2 : decide (means V n = means X n) = true := by simpa using ME.out.symm
            go_wp2_with fail
            refine (refSame4_any C A n n cC c X V w6 I6.out H6.out).mono ?_
            rintro e w7 ⟨rfl, hb⟩
            rw [D1]
            have K7 := Lib.hid (K6.out.trans (hb.mono K6.out.size))
            have H7 : Hid (ValsIn w7 A n c V) := Lib.hid ⟨H6.out.1.below hb, H6.out.2⟩
            have G7 : Hid (ValsIn w7 B m d U) := Lib.hid ⟨G6.out.1.below hb, G6.out.2⟩
            have I7 : Hid (ValsIn w7 C n cC X) := Lib.hid ⟨I6.out.1.below hb, I6.out.2⟩
            clear hb K6 H6 G6 I6 D1
            go_wp2_with fail
            refine (KS.out A B n m c d V U w7 H7.out G7.out).mono ?_
            rintro e w8 ⟨rfl, hb⟩
            have K8 := Lib.hid (K7.out.trans (hb.mono K7.out.size))
            have H8 : Hid (ValsIn w8 A n c V) := Lib.hid ⟨H7.out.1.below hb, H7.out.2⟩
            have G8 : Hid (ValsIn w8 B m d U) := Lib.hid ⟨G7.out.1.below hb, G7.out.2⟩
            have I8 : Hid (ValsIn w8 C n cC X) := Lib.hid ⟨I7.out.1.below hb, I7.out.2⟩
            clear hb K7 H7 G7 I7
            go_wp2_with fail
            refine (refSame4_any A B n m c d V U w8 H8.out G8.out).mono ?_
            rintro e w9 ⟨rfl, hb⟩
            have K9 := Lib.hid (K8.out.trans (hb.mono K8.out.size))
            have H9 : Hid (ValsIn w9 A n c V) := Lib.hid ⟨H8.out.1.below hb, H8.out.2⟩
            have I9 : Hid (ValsIn w9 C n cC X) := Lib.hid ⟨I8.out.1.below hb, I8.out.2⟩
            clear hb K8 H8 G8 I8
            generalize decide (means V n = means U m) = bb
            have x1 : (bb == bb) = true := by simp
            go_wp2_with fail
            refine (KS.out A C n n c cC V X w9 H9.out I9.out).mono ?_
            rintro e w10 ⟨rfl, hb⟩
            rw [D2]
            have K10 := Lib.hid (K9.out.trans (hb.mono K9.out.size))
            go_wp2
            go_ret
            exact ⟨rfl, K10.out⟩
theorem putsOf (hP : PutOK) (hS : SameOK) (a0 : ByteArray) (a1 : Option Addr) (len1 cap1 : Nat) (z1 : Nat → RV) (a2 : Option Addr) (len2 cap2 : Nat) (z2 : Nat → RV) (w : World) (w0 : a0.size ≤ maxLen) (w1 : ValsIn w a1 len1 cap1 z1) (w2 : ValsIn w a2 len2 cap2 z2) :
    Calls Try.prog 3 #[.string a0, .slice a1 len1 cap1, .slice a2 len2 cap2] w fun e w' => e = .returned (.bool true) ∧ Below w.heap.size w w' :=
  puts_walk hP hS a0 a1 len1 cap1 z1 a2 len2 cap2 z2 w (by unfold maxLen at w0; omega) w1 w2
end Go.Proofs.Ytkjndgnjilfobaa
