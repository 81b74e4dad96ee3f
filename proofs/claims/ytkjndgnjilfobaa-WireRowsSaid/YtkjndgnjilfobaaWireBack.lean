/-
  The law WireBack, of any program whose Put, Take, Whole, Same answer as is asked: what was put is taken as it was, whatever stands behind it; what is taken of any bytes is put as just those.
-/
import Derived.Test.YtkjndgnjilfobaaWireTorn
namespace Go.Proofs.Ytkjndgnjilfobaa
open Go.RowKit

theorem seg_front {g : Nat → Nat} {m : Nat} {a r : List Nat} (h : a ++ r = seg g 0 m) : seg g 0 a.length = a := by
  have hl := congrArg List.length h
  rw [seg_len, List.length_append] at hl
  have e : seg g 0 m = seg g 0 a.length ++ seg g (0 + a.length) r.length := by rw [← seg_add, hl]
  rw [e] at h
  exact (List.append_inj h (by rw [seg_len])).1.symm

set_option maxRecDepth 100000 in
set_option maxHeartbeats 16000000 in
theorem back_walk (hP : PutOK) (hT : TakeOK) (hW : WholeOK4) (hS : SameOK) (s : ByteArray) (A : Option Addr) (n c : Nat) (V : Nat → RV) (C : Option Addr) (m d : Nat) (g : Nat → Nat) (w : World) (hs : s.size ≤ 9223372036854775807) (h : ValsIn w A n c V)
    (h' : Bytes w C m g) (hC : C = none → m = 0 ∧ d = 0) (hmd : m ≤ d) (hdd : d ≤ 9223372036854775807) :
    Calls Try.prog 6 #[.string s, .slice A n c, .slice C m d] w fun e w' => e = .returned (.bool true) ∧ Below w.heap.size w w' := by
  have KP := Lib.hid hP
  have KT := Lib.hid hT
  have KS := Lib.hid hS
  have H := Lib.hid h
  have G := Lib.hid h'
  have NC := Lib.hid hC
  have AW := Lib.hid (awake4_any hP hT hW w)
  clear hP hT hW hS h h' hC
  by_cases hbig : 100 < s.size
  · have d1 : (100 : Int) < s.size := by omega
    go_enter Try.func6, Try.ntmps6
    go_wp2_with fail
    refine AW.out.mono ?_
    rintro e w1 ⟨rfl, hb⟩
    go_wp2
    go_ret
    exact ⟨rfl, hb⟩
  · have d1 : ¬ (100 : Int) < s.size := by omega
    go_enter Try.func6, Try.ntmps6
    go_wp2_with fail
    refine AW.out.mono ?_
    rintro e w1 ⟨rfl, hb⟩
    have K1 := Lib.hid hb
    have H1 : Hid (ValsIn w1 A n c V) := Lib.hid ⟨H.out.1.below hb, H.out.2⟩
    have G1 := Lib.hid (G.out.below hb)
    clear hb H AW G
    go_wp2_with fail
    refine (great_any A n c V w1 H1.out).mono ?_
    rintro e w2 ⟨rfl, hd⟩
    have K2 := Lib.hid (K1.out.trans (hd.below.mono K1.out.size))
    have H2 : Hid (ValsIn w2 A n c V) := Lib.hid ⟨H1.out.1.below hd.below, H1.out.2⟩
    have G2 := Lib.hid (G1.out.below hd.below)
    clear hd H1 K1 G1
    by_cases hg : 4000 < worth V n
    · have e1 : decide (4000 < worth V n) = true := by simpa using hg
      rw [e1]
      clear hg e1
      go_wp2
      go_ret
      exact ⟨rfl, K2.out⟩
    · have e1 : decide (4000 < worth V n) = false := by simpa using hg
      rw [e1]
      by_cases hm : 1000 < m
      · have d2 : (1000 : Int) < m := by omega
        go_wp2
        go_ret
        exact ⟨rfl, K2.out⟩
      · have d2 : ¬ (1000 : Int) < m := by omega
        have FL : Hid (Good (letters s) (means V n) → (forms (letters s) (means V n)).length ≤ 40000) := Lib.hid (fun hG => by
          have hl := ((allFit_iff _ _ _).1 hG.2).1
          have := forms_le (w := w2) (V := V) (s := letters s) n (by omega) (fun j hj => H2.out.1.1 j hj)
          rw [List.take_of_length_le (by omega)] at this
          omega)
        have SH := Lib.hid (worth_short (V := V) (n := n) (by omega))
        clear hg e1
        go_wp2_with fail
        refine (KP.out s A n c V w2 (by omega) H2.out).mono ?_
        rintro e w3 ⟨hb, ho⟩
        have K3 := Lib.hid (K2.out.trans (hb.mono K2.out.size))
        have G3 := Lib.hid (G2.out.below hb)
        have H3 : Hid (ValsIn w3 A n c V) := Lib.hid ⟨H2.out.1.below hb, H2.out.2⟩
        clear hb K2 H2 G2
        rcases ho with ⟨-, rfl⟩ | ⟨-, hno, -⟩ | ⟨hG, hS, B, dB, rfl, hn1, hn2, hn3, hB⟩
        · clear H3 FL SH
          go_wp2_with fail
          refine (KT.out s C m d g w3 (by omega) G3.out NC.out hmd hdd (by omega)).mono ?_
          rintro e y1 ⟨hb, ho⟩
          have Z1 := Lib.hid (K3.out.trans (hb.mono K3.out.size))
          have HZ1 := Lib.hid (G3.out.below hb)
          clear hb K3 G3
          rcases ho with ⟨-, rfl⟩ | ⟨-, -, rfl⟩ | ⟨D, k, cD, U, r, hv, hf, rfl, hin⟩
          · go_wp2
            go_ret
            exact ⟨rfl, Z1.out⟩
          · go_wp2
            go_ret
            exact ⟨rfl, Z1.out⟩
          · have VV := Lib.hid hv
            have FF := Lib.hid hf
            have IN := Lib.hid hin
            have LE : (forms (letters s) (means U k)).length ≤ m := by
              have := congrArg List.length hf
              rw [seg_len, List.length_append] at this
              omega
            have SG : Hid (seg g 0 (forms (letters s) (means U k)).length = forms (letters s) (means U k)) := Lib.hid (seg_front hf)
            clear hv hf hin
            go_wp2_with fail
            refine (KP.out s D k cD U y1 (by omega) IN.out).mono ?_
            rintro e y2 ⟨hb, ho⟩
            have Z2 := Lib.hid (Z1.out.trans (hb.mono Z1.out.size))
            have HZ2 := Lib.hid (HZ1.out.below hb)
            clear hb Z1 HZ1
            rcases ho with ⟨hG, -⟩ | ⟨-, hS, -⟩ | ⟨-, -, E, cE, rfl, hE1, hE2, hE3, hE⟩
            · exact absurd VV.out.1 hG
            · exact absurd VV.out.2.1 hS
            · have HE := Lib.hid hE
              clear hE VV FF
              generalize forms (letters s) (means U k) = fm at *
              have x1 : ((fm.length : Int) == (fm.length : Int)) = true := by simp
              have x2 : (fm.length : Int) ≤ (m : Int) := by omega
              have x3 : decide ((fm.length : Int) ≤ (m : Int)) = true := by simpa using x2
              have sl := slice_to C m d fm.length (by omega)
              have HL := Lib.hid (HZ2.out.less LE)
              go_wp2_with fail
              refine (same_any E C fm.length fm.length cE d (pick fm) g y2 HE.out HL.out (by omega) (by omega) true ⟨fun _ => by rw [SG.out]; exact pick_seg fm, fun _ => rfl⟩).mono ?_
              rintro e y3 ⟨rfl, hd⟩
              have Z3 := Lib.hid (Z2.out.trans (hd.below.mono Z2.out.size))
              clear hd
              go_wp2
              go_ret
              exact ⟨rfl, Z3.out⟩
        · exact absurd SH.out hno
        · have GD := Lib.hid hG
          have L : (forms (letters s) (means V n)).length ≤ 40000 := FL.out hG
          have FB : Hid (∀ y ∈ forms (letters s) (means V n), y < 256) := Lib.hid (forms_byte (fun j hj => H3.out.1.1 j hj))
          have RR := Lib.hid (vals_real H3.out.1)
          have N1 := Lib.hid hn1
          have J3 := Lib.hid hB
          clear hB hn1 hG FL
          go_wp2_with fail
          refine (copy_any B _ dB (pick (forms (letters s) (means V n))) w3 J3.out (by omega) N1.out).mono ?_
          rintro e w4 ⟨D, cD, rfl, q1, q2, q3, -, hO, hbel⟩
          rw [pick_seg] at *
          have O4 := Lib.hid hO
          have H4 : Hid (ValsIn w4 A n c V) := Lib.hid ⟨H3.out.1.below hbel, H3.out.2⟩
          have G4 := Lib.hid (G3.out.below hbel)
          have K4 := Lib.hid (K3.out.trans (hbel.mono K3.out.size))
          have S4 := Lib.hid hbel.size
          have B34 := Lib.hid hbel
          clear q1 q2 q3 hO hbel J3
          go_wp2_with (at_builtin; refine wpList_append_more rfl _ _ rfl w3.heap.size _ (forms (letters s) (means V n)) rfl O4.out C m d g rfl NC.out G4.out (by omega) S4.out ?_)
          intro E cE w5 hown k1 k2 hbel
          have B5 := Lib.hid (B34.out.trans hbel)
          have K5 := Lib.hid (K3.out.trans (B5.out.mono K3.out.size))
          have H5 : Hid (ValsIn w5 A n c V) := Lib.hid ⟨H3.out.1.below B5.out, H3.out.2⟩
          have G5 := Lib.hid (G3.out.below B5.out)
          have XB : Hid (∀ y ∈ forms (letters s) (means V n) ++ seg g 0 m, y < 256) := Lib.hid (fun y hy => by
            rcases List.mem_append.1 hy with h | h
            · exact FB.out y h
            · exact bytes_lt G3.out y h)
          have LN : Hid ((forms (letters s) (means V n)).length + m = (forms (letters s) (means V n) ++ seg g 0 m).length) := Lib.hid (by rw [List.length_append, seg_len])
          have JE : Hid (Bytes w5 E ((forms (letters s) (means V n)).length + m) (pick (forms (letters s) (means V n) ++ seg g 0 m))) := Lib.hid (by
            have := hown
            rw [LN.out] at this ⊢
            exact this.nums XB.out)
          have NE : Hid (E = none → (forms (letters s) (means V n)).length + m = 0 ∧ cE = 0) := Lib.hid (fun e => by
            obtain ⟨A', c', hv, -, -, hz⟩ := hown.form
            injection hv with h1 h2 h3
            subst h1 h3
            have := hz e
            exact ⟨by rw [h2]; exact this.1, this.2⟩)
          have SGE : Hid (seg (pick (forms (letters s) (means V n) ++ seg g 0 m)) 0 ((forms (letters s) (means V n)).length + m) = forms (letters s) (means V n) ++ seg g 0 m) := Lib.hid (by rw [LN.out]; exact pick_seg _)
          clear hown hbel O4 H4 G4 K4 K3 H3 G3 B34
          go_wp2_with fail
          refine (KT.out s E _ cE _ w5 (by omega) JE.out NE.out k1 k2 (by omega)).mono ?_
          rw [SGE.out]
          rintro e w6 ⟨hb, ho⟩
          have K6 := Lib.hid (K5.out.trans (hb.mono K5.out.size))
          have H6 : Hid (ValsIn w6 A n c V) := Lib.hid ⟨H5.out.1.below hb, H5.out.2⟩
          have G6 := Lib.hid (G5.out.below hb)
          clear hb K5 H5 G5 JE NE
          rcases ho with ⟨h, -⟩ | ⟨-, h, -⟩ | ⟨F, k, cF, U, r, hv, hf, rfl, hin⟩
          · exact absurd GD.out.1 h
          · exact absurd rfl (h (means V n) (seg g 0 m) ⟨GD.out, hS, RR.out⟩)
          · obtain ⟨em, -⟩ := valid_uniq hv.1 GD.out hf
            have IN := Lib.hid hin
            have e1 : decide (means V n = means U k) = true := by simpa using em.symm
            have SM := Lib.hid (KS.out A F n k c cF V U w6 H6.out IN.out)
            rw [e1] at SM
            rw [em]
            have x1 : (((forms (letters s) (means V n)).length : Int) != ((forms (letters s) (means V n)).length : Int)) = false := by simp
            clear hv hf hin em e1
            go_wp2_with fail
            refine SM.out.mono ?_
            rintro e w7 ⟨rfl, hb⟩
            have K7 := Lib.hid (K6.out.trans (hb.mono K6.out.size))
            have G7 := Lib.hid (G6.out.below hb)
            clear hb K6 H6 G6 SM IN
            go_wp2_with fail
            refine (KT.out s C m d g w7 (by omega) G7.out NC.out hmd hdd (by omega)).mono ?_
            rintro e y1 ⟨hb, ho⟩
            have Z1 := Lib.hid (K7.out.trans (hb.mono K7.out.size))
            have HZ1 := Lib.hid (G7.out.below hb)
            clear hb K7 G7
            rcases ho with ⟨-, rfl⟩ | ⟨-, -, rfl⟩ | ⟨D, k, cD, U, r, hv, hf, rfl, hin⟩
            · go_wp2
              go_ret
              exact ⟨rfl, Z1.out⟩
            · go_wp2
              go_ret
              exact ⟨rfl, Z1.out⟩
            · have VV := Lib.hid hv
              have FF := Lib.hid hf
              have IN := Lib.hid hin
              have LE : (forms (letters s) (means U k)).length ≤ m := by
                have := congrArg List.length hf
                rw [seg_len, List.length_append] at this
                omega
              have SG : Hid (seg g 0 (forms (letters s) (means U k)).length = forms (letters s) (means U k)) := Lib.hid (seg_front hf)
              clear hv hf hin
              go_wp2_with fail
              refine (KP.out s D k cD U y1 (by omega) IN.out).mono ?_
              rintro e y2 ⟨hb, ho⟩
              have Z2 := Lib.hid (Z1.out.trans (hb.mono Z1.out.size))
              have HZ2 := Lib.hid (HZ1.out.below hb)
              clear hb Z1 HZ1
              rcases ho with ⟨hG, -⟩ | ⟨-, hS, -⟩ | ⟨-, -, E, cE, rfl, hE1, hE2, hE3, hE⟩
              · exact absurd VV.out.1 hG
              · exact absurd VV.out.2.1 hS
              · have HE := Lib.hid hE
                clear hE VV FF
                generalize forms (letters s) (means U k) = fm at *
                have x1 : ((fm.length : Int) == (fm.length : Int)) = true := by simp
                have x2 : (fm.length : Int) ≤ (m : Int) := by omega
                have x3 : decide ((fm.length : Int) ≤ (m : Int)) = true := by simpa using x2
                have sl := slice_to C m d fm.length (by omega)
                have HL := Lib.hid (HZ2.out.less LE)
                go_wp2_with fail
                refine (same_any E C fm.length fm.length cE d (pick fm) g y2 HE.out HL.out (by omega) (by omega) true ⟨fun _ => by rw [SG.out]; exact pick_seg fm, fun _ => rfl⟩).mono ?_
                rintro e y3 ⟨rfl, hd⟩
                have Z3 := Lib.hid (Z2.out.trans (hd.below.mono Z2.out.size))
                clear hd
                go_wp2
                go_ret
                exact ⟨rfl, Z3.out⟩

theorem backOf (hP : PutOK) (hT : TakeOK) (hW : WholeOK4) (hS : SameOK) (a0 : ByteArray) (a1 : Option Addr) (len1 cap1 : Nat) (z1 : Nat → RV) (a2 : Option Addr) (len2 cap2 : Nat) (z2 : List Int) (w : World) (w0 : a0.size ≤ maxLen) (w1 : ValsIn w a1 len1 cap1 z1) (w2 : RowIn .u8 w a2 len2 cap2 z2) :
    Calls Try.prog 6 #[.string a0, .slice a1 len1 cap1, .slice a2 len2 cap2] w fun e w' => e = .returned (.bool true) ∧ Below w.heap.size w w' :=
  back_walk hP hT hW hS a0 a1 len1 cap1 z1 a2 len2 cap2 _ w (by unfold maxLen at w0; omega) w1 w2.bytes w2.nil w2.bd.1 w2.bd.2
end Go.Proofs.Ytkjndgnjilfobaa
