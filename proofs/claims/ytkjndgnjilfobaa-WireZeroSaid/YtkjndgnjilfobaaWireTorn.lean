/-
  The law WireTorn, of any program whose Put, Take, Whole answer as is asked: a form without its last bytes is none; one with a byte behind it is none as a whole.
-/
import Derived.Test.YtkjndgnjilfobaaAwake4
import Derived.Test.YtkjndgnjilfobaaAppendB
namespace Go.Proofs.Ytkjndgnjilfobaa
open Go.RowKit

theorem slice_to (A : Option Addr) (n c k : Nat) (hk : k ≤ c) (W : World) : (Instr.slice 25 (.slice A n c) none (some (.int .i64 (k : Nat))) none).run Try.prog W = .ok (.slice A k c) W := by
  have hsz : ∀ W : World, (sizeOf (Try.prog.elem 25)).run Try.prog W = .ok 1 W := fun W => by kernel_rfl
  rw [run_slice_h W 25 A n c (by kernel_rfl) .i64 (k : Nat) (by omega) (by omega), hsz]
  have e : A.map (·.add 0) = A := by
    cases A with
    | none => rfl
    | some a => simp [Addr.add]
  simp [Result.andThen, sliced, e]
theorem seg_take (l : List Nat) {k : Nat} (h : k ≤ l.length) : seg (pick l) 0 k = l.take k := by
  have e := pick_seg l
  have : seg (pick l) 0 l.length = seg (pick l) 0 k ++ seg (pick l) (0 + k) (l.length - k) := by rw [← seg_add, show k + (l.length - k) = l.length by omega]
  rw [e] at this
  conv => rhs; rw [this]
  rw [List.take_append_of_le_length (by rw [seg_len]; exact Nat.le_refl _), List.take_of_length_le (by rw [seg_len]; exact Nat.le_refl _)]

set_option maxRecDepth 100000 in
set_option maxHeartbeats 16000000 in
theorem torn_walk (hP : PutOK) (hT : TakeOK) (hW : WholeOK4) (s : ByteArray) (A : Option Addr) (n c : Nat) (V : Nat → RV) (missing : Int) (x : Nat) (w : World) (hs : s.size ≤ 9223372036854775807) (h : ValsIn w A n c V) (hx : x < 256) (hmi : -9223372036854775808 ≤ missing ∧ missing ≤ 9223372036854775807) :
    Calls Try.prog 8 #[.string s, .slice A n c, .int .i64 missing, .int .u8 (x : Nat)] w fun e w' => e = .returned (.bool true) ∧ Below w.heap.size w w' := by
  have KP := Lib.hid hP
  have KT := Lib.hid hT
  have KW := Lib.hid hW
  have H := Lib.hid h
  have AW := Lib.hid (awake4_any hP hT hW w)
  clear hP hT hW h
  by_cases hbig : 64 < s.size
  · have d1 : (64 : Int) < s.size := by omega
    go_enter Try.func8, Try.ntmps8
    go_wp2_with fail
    refine AW.out.mono ?_
    rintro e w1 ⟨rfl, hb⟩
    go_wp2
    go_ret
    exact ⟨rfl, hb⟩
  · have d1 : ¬ (64 : Int) < s.size := by omega
    go_enter Try.func8, Try.ntmps8
    go_wp2_with fail
    refine AW.out.mono ?_
    rintro e w1 ⟨rfl, hb⟩
    have K1 := Lib.hid hb
    have H1 : Hid (ValsIn w1 A n c V) := Lib.hid ⟨H.out.1.below hb, H.out.2⟩
    clear hb H AW
    go_wp2_with fail
    refine (great_any A n c V w1 H1.out).mono ?_
    rintro e w2 ⟨rfl, hd⟩
    have K2 := Lib.hid (K1.out.trans (hd.below.mono K1.out.size))
    have H2 : Hid (ValsIn w2 A n c V) := Lib.hid ⟨H1.out.1.below hd.below, H1.out.2⟩
    clear hd H1 K1
    by_cases hg : 4000 < worth V n
    · have e1 : decide (4000 < worth V n) = true := by simpa using hg
      rw [e1]
      clear hg e1
      go_wp2
      go_ret
      exact ⟨rfl, K2.out⟩
    · have e1 : decide (4000 < worth V n) = false := by simpa using hg
      rw [e1]
      have FL : Hid ((forms (letters s) (means V n)).length ≤ 40000 ∨ ¬ Good (letters s) (means V n)) := Lib.hid (by
        by_cases hG : Good (letters s) (means V n)
        · left
          have hl := ((allFit_iff _ _ _).1 hG.2).1
          have := forms_le (w := w2) (V := V) (s := letters s) n (by omega) (fun j hj => H2.out.1.1 j hj)
          rw [List.take_of_length_le (by omega)] at this
          omega
        · exact .inr hG)
      clear hg e1
      go_wp2_with fail
      refine (KP.out s A n c V w2 (by omega) H2.out).mono ?_
      rintro e w3 ⟨hb, ho⟩
      have K3 := Lib.hid (K2.out.trans (hb.mono K2.out.size))
      have FB : Hid (∀ y ∈ forms (letters s) (means V n), y < 256) := Lib.hid (forms_byte (fun j hj => H2.out.1.1 j hj))
      clear hb K2 H2
      rcases ho with ⟨-, rfl⟩ | ⟨-, -, rfl⟩ | ⟨hG, hS, B, d, rfl, hn1, hn2, hn3, hB⟩
      · go_wp2
        go_ret
        exact ⟨rfl, K3.out⟩
      · go_wp2
        go_ret
        exact ⟨rfl, K3.out⟩
      · have G := Lib.hid hG
        have L : (forms (letters s) (means V n)).length ≤ 40000 := FL.out.resolve_right (fun h => h hG)
        have NB := Lib.hid (none_behind (x := x) hG)
        have NT := Lib.hid (fun k (hk : k < _) => none_torn (k := k) hG hk)
        have N1 := Lib.hid hn1
        have J3 := Lib.hid hB
        clear hS hG FL hB hn1
        generalize forms (letters s) (means V n) = l at *
        go_wp2_with fail
        refine (copy_any B l.length d (pick l) w3 J3.out (by omega) N1.out).mono ?_
        rintro e w4 ⟨C, cC, rfl, q1, q2, q3, -, hO, hbel⟩
        have O4 : Hid (owns w4 w3.heap.size 5 .u8 (.slice C l.length cC) l) := Lib.hid (by rw [pick_seg] at hO; exact hO)
        have B34 := Lib.hid hbel
        have K4 := Lib.hid (K3.out.trans (hbel.mono K3.out.size))
        have S4 := Lib.hid hbel.size
        have S3 := Lib.hid K3.out.size
        rw [pick_seg]
        clear q1 q2 q3 hO hbel K3
        have OA : Hid (owns (w4.alloc (.cells #[.int .u8 (x : Nat)] 5)) w3.heap.size 5 .u8 (.slice C l.length cC) l) := Lib.hid (O4.out.keep ((Below.refl _ _).alloc (Nat.le_refl _) _))
        have BA : Hid (Bytes (w4.alloc (.cells #[.int .u8 (x : Nat)] 5)) (some ⟨w4.heap.size, 0, none⟩) 1 (pick [x])) := Lib.hid (lit_bytes w4 [x] (by simpa using hx) 5)
        have sz : Hid (w3.heap.size ≤ (w4.alloc (.cells #[.int .u8 (x : Nat)] 5)).heap.size) := Lib.hid (by rw [World.size_alloc]; have := S4.out; omega)
        have KA := Lib.hid (K4.out.alloc K4.out.size (.cells #[.int .u8 (x : Nat)] 5))
        have XB : Hid (∀ y ∈ l ++ [x], y < 256) := Lib.hid (fun y hy => by
          rcases List.mem_append.1 hy with h | h
          · exact FB.out y h
          · obtain rfl : y = x := by simpa using h
            exact hx)
        have B3A := Lib.hid (B34.out.alloc S4.out (.cells #[.int .u8 (x : Nat)] 5))
        clear K4 O4
        go_wp2_with (at_builtin; refine wpList_append_more rfl _ _ rfl w3.heap.size _ l rfl OA.out (some ⟨w4.heap.size, 0, none⟩) 1 1 (pick [x]) rfl (fun e => by cases e) BA.out (by omega) sz.out ?_)
        intro D cD w5 hown k1 k2 hbel
        have hown2 : owns w5 w3.heap.size 5 .u8 (.slice D (l.length + 1) cD) (l ++ [x]) := hown
        have ND : Hid (D = none → l.length + 1 = 0 ∧ cD = 0) := Lib.hid (fun e => by
          obtain ⟨g, hg, -⟩ := hown2.some1 (by simp)
          rw [e] at hg; cases hg)
        have JD : Hid (Bytes w5 D (l.length + 1) (pick (l ++ [x]))) := Lib.hid (by
          have := hown2
          rw [show l.length + 1 = (l ++ [x]).length by simp] at this ⊢
          exact this.nums XB.out)
        have K5 := Lib.hid (KA.out.trans (hbel.mono S3.out))
        have J5 := Lib.hid (J3.out.below (B3A.out.trans hbel))
        clear hown hown2 hbel OA BA J3 B34 B3A KA
        go_wp2_with fail
        refine (KW.out s D (l.length + 1) cD (pick (l ++ [x])) w5 (by omega) JD.out ND.out k1 k2 (by omega)).mono ?_
        have e6 : seg (pick (l ++ [x])) 0 (l.length + 1) = l ++ [x] := by
          rw [show l.length + 1 = (l ++ [x]).length by simp]; exact pick_seg _
        rw [e6]
        rintro e w6 ⟨hb, ho⟩
        have K6 := Lib.hid (K5.out.trans (hb.mono K5.out.size))
        have J6 := Lib.hid (J5.out.below hb)
        clear hb K5 J5 e6 JD
        rcases ho with ⟨h, -⟩ | ⟨-, -, rfl⟩ | ⟨_, _, _, U, hv, hf, -⟩
        · exact absurd G.out.1 h
        · by_cases hm : 1 ≤ missing ∧ missing ≤ l.length
          · obtain ⟨k, hk⟩ : ∃ k : Nat, (l.length : Int) - missing = k := ⟨((l.length : Int) - missing).toNat, by omega⟩
            have hkl : k < l.length := by omega
            have d2 : ¬ missing < 1 := by omega
            have d3 : ¬ ((l.length : Int) < missing) := by omega
            have v1 : IntKind.i64.wrap ((l.length : Int) - missing) = (k : Int) := by rw [hk]; exact IntWalk.i64_in _ (by omega)
            have sl := slice_to B l.length d k (by omega)
            have T := Lib.hid (NT.out k hkl)
            rw [← seg_take l (Nat.le_of_lt hkl)] at T
            have JL := Lib.hid (J6.out.less (Nat.le_of_lt hkl))
            have d4 : decide (missing < 1) = false := by simpa using d2
            have d5 : decide ((l.length : Int) < missing) = false := by simpa using d3
            clear hm J6
            go_wp2_with fail
            refine (KT.out s B k d (pick l) w6 (by omega) JL.out (fun e => ⟨by have := (N1.out e).1; omega, (N1.out e).2⟩) (by omega) hn3 (by omega)).mono ?_
            rintro e w7 ⟨hb, ho⟩
            have K7 := Lib.hid (K6.out.trans (hb.mono K6.out.size))
            clear hb K6 JL
            rcases ho with ⟨h, -⟩ | ⟨-, -, rfl⟩ | ⟨_, _, _, U, r, hv, hf, -⟩
            · exact absurd G.out.1 h
            · go_wp2
              go_ret
              exact ⟨rfl, K7.out⟩
            · exact absurd hf (T.out _ r hv)
          · by_cases h1 : missing < 1
            · have d4 : decide (missing < 1) = true := by simpa using h1
              go_wp2
              go_ret
              exact ⟨rfl, K6.out⟩
            · have d4 : decide (missing < 1) = false := by simpa using h1
              have h2 : (l.length : Int) < missing := by omega
              have d5 : decide ((l.length : Int) < missing) = true := by simpa using h2
              go_wp2
              go_ret
              exact ⟨rfl, K6.out⟩
        · exact absurd hf (NB.out _ hv)

theorem wf_i64' {a : Int} (h : (Lit.int .i64 a).wf = true) : -9223372036854775808 ≤ a ∧ a ≤ 9223372036854775807 := by
  have h1 : IntKind.i64.min = -9223372036854775808 := by decide
  have h2 : IntKind.i64.max = 9223372036854775807 := by decide
  simpa only [Lit.wf, h1, h2, Bool.and_eq_true, decide_eq_true_eq] using h
theorem wf_u8' {a : Int} (h : (Lit.int .u8 a).wf = true) : 0 ≤ a ∧ a ≤ 255 := by
  have h1 : IntKind.u8.min = 0 := by decide
  have h2 : IntKind.u8.max = 255 := by decide
  simpa only [Lit.wf, h1, h2, Bool.and_eq_true, decide_eq_true_eq] using h
theorem tornOf (hP : PutOK) (hT : TakeOK) (hW : WholeOK4) (a0 : ByteArray) (a1 : Option Addr) (len1 cap1 : Nat) (z1 : Nat → RV) (a2 : Int) (a3 : Int) (w : World) (w0 : a0.size ≤ maxLen) (w1 : ValsIn w a1 len1 cap1 z1) (w2 : (Lit.int .i64 a2).wf = true) (w3 : (Lit.int .u8 a3).wf = true) :
    Calls Try.prog 8 #[.string a0, .slice a1 len1 cap1, .int .i64 a2, .int .u8 a3] w fun e w' => e = .returned (.bool true) ∧ Below w.heap.size w w' := by
  obtain ⟨h1, h2⟩ := wf_u8' w3
  obtain ⟨x, rfl⟩ : ∃ x : Nat, a3 = x := ⟨a3.toNat, by omega⟩
  exact torn_walk hP hT hW a0 a1 len1 cap1 z1 a2 x w (by unfold maxLen at w0; omega) w1 (by omega) (wf_i64' w2)
end Go.Proofs.Ytkjndgnjilfobaa
