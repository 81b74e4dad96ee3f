/-
  The law BreaksCut: of any Cut and Shown that answer as is asked.
-/
import Derived.Test.YtgfiiohglgbdiaaSame9
namespace Go.Proofs.Ytgfiiohglgbdiaa
open Go.RowKit

theorem u8_in9 {a : Int} (h : (Lit.int .u8 a).wf = true) : 0 ≤ a ∧ a < 256 := by
  have h1 : IntKind.u8.min = 0 := by decide
  have h2 : IntKind.u8.max = 255 := by decide
  simp only [Lit.wf, h1, h2, Bool.and_eq_true, decide_eq_true_eq] at h
  omega
/-- a row of so many pieces of the call's own -/
def Spoil (base n : Nat) (v : Value) (w0 w : World) : Prop := ∃ ps : List Pc, ps.length = n ∧ ownsP w base v ps ∧ Below base w0 w
set_option maxRecDepth 100000 in
set_option maxHeartbeats 4000000 in
theorem cut9 (hC : CutOK 9) (hS : ShownOK 11) (s : ByteArray) (ws : Int) (w : World) (hw : 0 ≤ ws ∧ ws < 256) (_hm : s.size ≤ maxLen) :
    Calls Try.prog 3 #[.string s, .int .u8 ws] w fun e w' => e = .returned (.bool true) ∧ Below w.heap.size w w' := by
  unfold maxLen at _hm
  by_cases h : 3000 < s.size
  · have hz : (3000 : Int) < s.size := by omega
    clear h
    go_enter Try.func3, Try.ntmps3
    go_wp2_with fail
    go_ret
    exact ⟨rfl, Below.refl _ _⟩
  · have hz : ¬ (3000 : Int) < s.size := by omega
    have KR := Lib.hid (refCut9_any s ws w (by omega) hw)
    have KC := Lib.hid (fun W => hC s ws W (by omega) hw)
    have KS := Lib.hid (fun W => hS s ws W (by omega) hw)
    have KT := Lib.hid (fun W => refShown9_any s ws W (by omega) hw)
    have PL : Hid ((cutP ws s.data.toList).length ≤ 8192) := Lib.hid (by have := cutP_len ws s.data.toList; simp at this; omega)
    generalize cutP ws s.data.toList = ps at KR KC PL
    generalize (⟨(shownP ws s.data.toList).toArray⟩ : ByteArray) = out at KS KT
    clear h
    go_enter Try.func3, Try.ntmps3
    go_wp2_with (go_at_call 8; (with_reducible refine KR.out.mono ?_); rintro e w1 ⟨want, rfl, hO, hB⟩)
    have P := Lib.hid hO.pcs
    have B := Lib.hid hB
    clear hO hB
    go_wp2_with fail
    go_loopg [6] 2 (fun g1 vt wr => ∃ t : Nat, vt = .int .i64 t ∧ t ≤ 2 ∧ 2 - t ≤ g1 ∧ Hid (PcIn wr want ps) ∧ Hid (Below w.heap.size w wr))
    case atStart => exact ⟨0, rfl, by omega, by omega, P, B⟩
    case round =>
      obtain ⟨t, rfl, ht, hg1, hP, hB⟩ := hrel
      obtain ⟨wo, hwo⟩ : ∃ wo, wo = wr := ⟨_, rfl⟩
      subst hwo
      by_cases hlt : t < 2
      · have ht2 : (t : Int) < 2 := by omega
        have wt : IntKind.i64.wrap ((t : Int) + 1) = (t : Int) + 1 := IntWalk.i64_in _ (by omega)
        have KC1 := Lib.hid (KC.out wo)
        clear P B
        go_wp2_with (go_at_call 9; (with_reducible refine KC1.out.mono ?_); rintro e w2 ⟨v, rfl, hO, hB2⟩)
        have SE := Lib.hid (refSame9_any v want ps ps w2 hO.pcs (hP.out.keep hB2) PL.out)
        rw [decide_eq_true rfl] at SE
        have P2 := Lib.hid (hP.out.keep hB2)
        have O2 := Lib.hid hO
        have B2 := Lib.hid hB2
        clear hO hB2
        go_wp2_with (go_at_call 10; (with_reducible refine SE.out.mono ?_); rintro e w3 ⟨rfl, q, rfl⟩)
        have bq : Below wo.heap.size wo (w2.drewN q) := ⟨B2.out.os, B2.out.tape, B2.out.output, B2.out.size, B2.out.block⟩
        have bq2 : Below w2.heap.size w2 (w2.drewN q) := ⟨rfl, rfl, rfl, Nat.le_refl _, fun _ _ => rfl⟩
        have SP0 := Lib.hid (⟨ps, rfl, O2.out.keep bq2, bq⟩ : Spoil wo.heap.size ps.length v wo (w2.drewN q))
        obtain ⟨A, c, rfl, -, hcc, -⟩ := O2.out.form
        obtain ⟨n, hn⟩ : ∃ n, ps.length = n := ⟨_, rfl⟩
        have nl : n ≤ 8192 := by have := PL.out; omega
        rw [hn] at SP0 ⊢
        clear bq bq2 O2 P2 SE hn hcc B2
        go_wp2_with fail
        go_loopg [8] n (fun g2 vi wx => ∃ i : Nat, vi = .int .i64 i ∧ i ≤ n ∧ n - i ≤ g2 ∧ Hid (Spoil wo.heap.size n (.slice A n c) wo wx))
        case atStart => exact ⟨0, rfl, by omega, by omega, SP0⟩
        case round =>
          obtain ⟨i, rfl, hi, hg2, hSP⟩ := hrel
          clear SP0
          by_cases hin : i < n
          · have hz1 : (i : Int) < n := by omega
            have hz0 : (0 : Int) ≤ i := by omega
            have wi : IntKind.i64.wrap ((i : Int) + 1) = (i : Int) + 1 := IntWalk.i64_in _ (by omega)
            obtain ⟨qs, hq, hO, hBx⟩ := hSP.out
            obtain ⟨g, c', P⟩ := hO.at_ (by intro e; rw [e] at hq; simp at hq; omega)
            obtain ⟨rfl, rfl⟩ : A = some ⟨g, 0, none⟩ ∧ c' = c := by
              have := P.val
              injection this with h1 h2 h3
              exact ⟨h1, h3.symm⟩
            have hiq : i < qs.length := by omega
            obtain ⟨k, tx, hp⟩ : ∃ k t, qs[i] = (k, t) := ⟨_, _, rfl⟩
            have c1 := P.at1 i (k, tx) (by rw [List.getElem?_eq_getElem hiq, hp])
            have f1 := P.fro (i * 2 + 1)
            have sp : qs = qs.take i ++ (k, tx) :: qs.drop (i + 1) := by
              rw [← hp, ← List.drop_eq_getElem_cons hiq, List.take_append_drop]
            have hO2 : ownsP wr wo.heap.size (.slice (some ⟨g, 0, none⟩) qs.length c') qs := by rw [hq]; exact hO
            have st := hO2.set (qs.take i) k tx [115, 112, 111, 105, 108, 116] (qs.drop (i + 1)) sp
            have tl : (qs.take i).length = i := by rw [List.length_take]; omega
            rw [tl, hq] at st
            have ll : (qs.take i ++ (k, [115, 112, 111, 105, 108, 116]) :: qs.drop (i + 1)).length = n := by rw [List.length_append, List.length_cons, tl, List.length_drop]; omega
            have SP2 := Lib.hid (⟨_, ll, st.1, hBx.trans st.2⟩ : Spoil wo.heap.size n (.slice (some ⟨g, 0, none⟩) n c') wo (wr.setCell ⟨g, i * 2 + 1, none⟩ (.string ⟨[115, 112, 111, 105, 108, 116].toArray⟩)))
            clear hq hO hBx P hp sp hO2 st tl hiq hSP
            go_wp2_with fail
            go_roundg (n - (i + 1))
            case measure => omega
            case rel => exact ⟨i + 1, by go_num, by omega, Nat.le_refl _, SP2⟩
          · obtain rfl : i = n := by omega
            have hz1 : ¬ (i : Int) < i := by omega
            obtain ⟨qs, -, -, hBx⟩ := hSP.out
            have BX := Lib.hid hBx
            clear hBx hSP
            go_wp2_with fail
            go_roundg (2 - (t + 1))
            case measure => omega
            case rel => exact ⟨t + 1, by go_num, by omega, Nat.le_refl _, Lib.hid (hP.out.keep BX.out), Lib.hid (hB.out.trans (BX.out.mono hB.out.size))⟩
      · have ht2 : ¬ (t : Int) < 2 := by omega
        have BB := hB
        go_wp2_with (first
          | (go_at_call 11; (with_reducible refine (KS.out _).mono ?_); rintro e w' ⟨rfl, hb⟩; replace BB := Lib.hid (BB.out.trans (hb.mono BB.out.size)); clear hb)
          | (go_at_call 12; (with_reducible refine (KT.out _).mono ?_); rintro e w' ⟨rfl, hb⟩; replace BB := Lib.hid (BB.out.trans (hb.mono BB.out.size)); clear hb))
        go_ret
        exact ⟨by simp, BB.out⟩
end Go.Proofs.Ytgfiiohglgbdiaa
