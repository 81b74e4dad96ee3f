/-
  The law InlinePlaces: of any Place that answers as is asked.
-/
import Derived.Test.YtnhbegdoedbpeaaNearMath11
namespace Go.Proofs.Ytnhbegdoedbpeaa
open Go.RowKit

/-- a row of so many places' cells of the call's own, whatever they say -/
def SpoilP (base n : Nat) (v : Value) (w0 w : World) : Prop := ∃ cs : List Value, w.ownsRow base 35 2 v n cs ∧ Below base w0 w
set_option maxRecDepth 100000 in
set_option maxHeartbeats 8000000 in
theorem places11 (hP : PlaceOK 9) (l : List Sp) (v : Value) (x : RO) (w : World) (hv : SpIn w v l) (hnil : ∀ n c, v = .slice none n c → n = 0 ∧ c = 0) (hx : x.ok) :
    Calls Try.prog 3 #[v, ownV x] w fun e w' => e = .returned (.bool true) ∧ Below w.heap.size w w' := by
  by_cases h : 2100 < l.length
  · obtain ⟨A, c, rfl, -, -⟩ := hv
    obtain ⟨n, en⟩ : ∃ n, l.length = n := ⟨_, rfl⟩
    rw [en] at h ⊢
    have hz : (2100 : Int) < n := by omega
    clear h en
    unfold ownV
    go_enter Try.func3, Try.ntmps3
    go_wp2_with fail
    go_ret
    exact ⟨rfl, (Below.refl _ w).alloc (Nat.le_refl _) _⟩
  · have hn : l.length ≤ 1000000 := by omega
    have XC := Lib.hid (own_cells w x)
    obtain ⟨up, down, width, lines⟩ := x
    have hg : lines < 256 := hx.1
    dsimp only at XC
    have KR := Lib.hid (fun W (hW : SpIn W v l) => refPlace_any l v up down width lines hg W hW hn)
    have KC := Lib.hid (fun u W (hW : SpIn W u l) => hP l u up down width lines W hW hn hg)
    obtain ⟨R, hR⟩ : ∃ R, (placeA l up down width lines).1 = R := ⟨_, rfl⟩
    obtain ⟨hh, hhh⟩ : ∃ hh, (placeA l up down width lines).2.1 = hh := ⟨_, rfl⟩
    obtain ⟨bb, hbb⟩ : ∃ bb, (placeA l up down width lines).2.2.1 = bb := ⟨_, rfl⟩
    obtain ⟨f, hf⟩ : ∃ f, ((placeA l up down width lines).2.2.2 : Int) = f := ⟨_, rfl⟩
    have RL : Hid (R.length ≤ 2100) := Lib.hid (by
      rw [← hR]
      unfold placeA
      repeat' split
      all_goals first | (simp; done) | (dsimp only; rw [placesT_len]; omega))
    have FE : Hid (∀ W e W', PlaceEnd l up down width lines W e W' → ∃ u, e = .returned (.tuple #[u, .int .i64 hh, .int .i64 bb, .int .i64 f]) ∧ ownsP W' W.heap.size u R ∧ Below W.heap.size W W') := Lib.hid (by
      rw [← hR, ← hf, ← hhh, ← hbb]
      exact fun W e W' h => h)
    have B0 : Hid (Below w.heap.size w (w.alloc (.cells #[.int .i64 up, .int .i64 down, .int .i64 width, .int .u8 (lines : Nat)] 24))) := Lib.hid ((Below.refl _ w).alloc (Nat.le_refl _) _)
    have V0 := Lib.hid (hv.keep B0.out)
    have HV := Lib.hid hv
    obtain ⟨A, c, rfl, -, -⟩ := hv
    have HC : Hid (∀ W, SpIn W (.slice A l.length c) l → ∀ p, A = some p → ∀ j u, (cellsS l)[j]? = some u → W.cell? (p.add j) = some u) := Lib.hid (fun W h => h.cells rfl)
    have HNI : Hid (A = none → l = [] ∧ c = 0) := Lib.hid (fun e => by
      have := hnil l.length c (by rw [e])
      exact ⟨List.length_eq_zero_iff.1 this.1, this.2⟩)
    obtain ⟨n, en⟩ : ∃ n, l.length = n := ⟨_, rfl⟩
    have HN := Lib.hid en
    rw [en] at h HV V0 HC KR ⊢
    have hz : ¬ (2100 : Int) < n := by omega
    obtain ⟨gz, hgz⟩ : ∃ gz, ((lines : Nat) : Int) = gz := ⟨_, rfl⟩
    rw [hgz] at KR KC XC B0 V0
    unfold ownV
    dsimp only
    rw [hgz]
    clear hR hf hhh hbb hx hnil hg hgz
    go_enter Try.func3, Try.ntmps3
    go_upto_region 4 with fail
    have HB := Lib.hid (by have := B0.out.size; omega : w.heap.size ≤ (w.alloc (.cells #[.int .i64 up, .int .i64 down, .int .i64 width, .int .u8 gz] 24)).heap.size)
    have HLT := Lib.hid (show w.heap.size < (w.alloc (.cells #[.int .i64 up, .int .i64 down, .int .i64 width, .int .u8 gz] 24)).heap.size by rw [World.size_alloc]; omega)
    generalize w.alloc (.cells #[.int .i64 up, .int .i64 down, .int .i64 width, .int .u8 gz] 24) = w0 at XC B0 V0 HB HLT ⊢
    have HC0 := Lib.hid (HC.out w0 V0.out)
    clear HC
    obtain ⟨x0, x1, x2, x3⟩ := XC.out w0 (Below.refl _ _)
    go_upto_region 5 with ((with_reducible change wpList _ _ _ (Oper.mk (some 22) _ _ _ _ _ :: _) _ _); refine wpList_append_sps rfl _ _ rfl w0.heap.size (.slice none 0 0) [] rfl (ownsS.nil _ _) l A c (by rw [HN.out]; rfl) HC0.out HNI.out (by have := HN.out; simp only [List.length_nil]; omega) (Nat.le_refl _) ?_; intro mine w1 hO hB _)
    have B1 := Lib.hid hB
    have M1 := Lib.hid hO.sps
    rw [List.nil_append] at M1
    clear hB hO HC0 x0 x1 x2 x3 HNI
    obtain ⟨x0, x1, x2, x3⟩ := XC.out w1 B1.out
    have V1 := Lib.hid (V0.out.keep B1.out)
    clear V0
    go_upto_region 6 with (go_at_call 8; (with_reducible refine (KR.out _ V1.out).mono ?_); intro e w2 hE; obtain ⟨want, rfl, hO, hB⟩ := FE.out _ _ _ hE; have W2 := Lib.hid hO.pss; have M2 := Lib.hid (M1.out.keep hB); have B2 := Lib.hid (B1.out.trans (hB.mono B1.out.size)); clear hE hO hB)
    clear x0 x1 x2 x3 B1 M1 V1 KR
    obtain ⟨M', cm, em, -, -⟩ := M2.out
    rw [HN.out] at em
    subst em
    go_wp2_with fail
    go_loopg [10] 2 (fun g1 vt wr => ∃ t : Nat, vt = .int .i64 t ∧ t ≤ 2 ∧ 2 - t ≤ g1 ∧ Hid (SpIn wr (.slice M' n cm) l) ∧ Hid (PsIn wr want R) ∧ Hid (Below w0.heap.size w0 wr))
    case atStart => exact ⟨0, rfl, by omega, by omega, M2, W2, B2⟩
    case round =>
      obtain ⟨t, rfl, ht, hg1, hM, hL, hB⟩ := hrel
      obtain ⟨wo, hwo⟩ : ∃ wo, wo = wr := ⟨_, rfl⟩
      subst hwo
      clear M2 W2 B2
      by_cases hlt : t < 2
      · have ht2 : (t : Int) < 2 := by omega
        have wt : IntKind.i64.wrap ((t : Int) + 1) = (t : Int) + 1 := IntWalk.i64_in _ (by omega)
        obtain ⟨x0, x1, x2, x3⟩ := XC.out wo hB.out
        go_wp2_with (first
          | (go_at_call 9; (with_reducible refine (KC.out _ _ hM.out).mono ?_); intro e w2 hE; obtain ⟨out, rfl, hO, hB2⟩ := FE.out _ _ _ hE; have O2 := Lib.hid hO; have B2 := Lib.hid hB2; (have SE := Lib.hid (refSame11_any out want R R w2 hO.pss (hL.out.keep hB2) (by have := RL.out; omega))); rw [decide_eq_true rfl] at SE; clear hE hO hB2)
          | (go_at_call 10; (with_reducible refine SE.out.mono ?_); rintro e w3 ⟨rfl, q, rfl⟩))
        have D := drewN_below w2 q wo.heap.size
        have D2 := drewN_below w2 q w2.heap.size
        have BX := Lib.hid (B2.out.trans D)
        have SP0 := Lib.hid (⟨_, own_keep O2.out D2, BX.out⟩ : SpoilP wo.heap.size R.length out wo (w2.drewN q))
        have MX := Lib.hid (hM.out.keep BX.out)
        have VX := Lib.hid (HV.out.keep (B0.out.trans ((hB.out.trans (BX.out.mono hB.out.size)).mono B0.out.size)))
        obtain ⟨C, d, rfl, -, -, -⟩ := own_form O2.out
        obtain ⟨m, hm⟩ : ∃ m, R.length = m := ⟨_, rfl⟩
        have ml : m ≤ 2100 := by have := RL.out; omega
        rw [hm] at SP0 ⊢
        clear D D2 O2 SE hm B2 x0 x1 x2 x3
        generalize w2.drewN q = wy at BX SP0 MX VX ⊢
        go_wp2_with fail
        go_loopg [15] n (fun g2 vi wx => ∃ i q : Nat, vi = .int .i64 i ∧ i ≤ n ∧ n - i ≤ g2 ∧ wx = wy.drewN q)
        case atStart => exact ⟨0, 0, rfl, by omega, by omega, rfl⟩
        case round =>
          obtain ⟨i, q, rfl, hi, hg2, rfl⟩ := hrel
          by_cases hin : i < n
          · have hz1 : (i : Int) < n := by omega
            have hz0 : (0 : Int) ≤ i := by omega
            have wi : IntKind.i64.wrap ((i : Int) + 1) = (i : Int) + 1 := IntWalk.i64_in _ (by omega)
            obtain ⟨b, off, c1, e, a0, a1, a2, a3⟩ := MX.out.get (i := i) (by have := HN.out; omega)
            injection e with e1 e2 e3
            subst e1 e3
            clear e2
            obtain ⟨b', off', c2, e, d0, d1, d2, d3⟩ := VX.out.get (i := i) (by have := HN.out; omega)
            injection e with e1 e2 e3
            subst e1 e3
            clear e2
            generalize ((sa l i : Nat) : Int) = y at a3 d3
            generalize sw l i = z0 at a0 d0
            generalize su l i = z1 at a1 d1
            generalize sd l i = z2 at a2 d2
            go_wp2_with fail
            go_quiet (fail)
            go_wp2_with fail
            go_roundg (n - (i + 1))
            case measure => omega
            case rel => exact ⟨i + 1, q + nq, by go_num, by omega, Nat.le_refl _, rfl⟩
          · obtain rfl : i = n := by omega
            have hz1 : ¬ (i : Int) < i := by omega
            have SP1 : Hid (SpoilP wo.heap.size m (.slice C m d) wo (wy.drewN q)) := Lib.hid (by
              obtain ⟨cs, h1, h2⟩ := SP0.out
              exact ⟨cs, own_keep h1 (drewN_below wy q _), h2.trans (drewN_below wy q _)⟩)
            clear SP0 MX VX BX
            generalize wy.drewN q = wz at SP1 ⊢
            go_wp2_with fail
            go_loopg [16] m (fun g3 vi wx => ∃ i : Nat, vi = .int .i64 i ∧ i ≤ m ∧ m - i ≤ g3 ∧ Hid (SpoilP wo.heap.size m (.slice C m d) wo wx))
            case atStart => exact ⟨0, rfl, by omega, by omega, SP1⟩
            case round =>
              obtain ⟨j, rfl, hj, hg3, hSP⟩ := hrel
              clear SP1
              by_cases hjm : j < m
              · have hz1 : (j : Int) < m := by omega
                have hz0 : (0 : Int) ≤ j := by omega
                have wi : IntKind.i64.wrap ((j : Int) + 1) = (j : Int) + 1 := IntWalk.i64_in _ (by omega)
                obtain ⟨cs, hO, hBx⟩ := hSP.out
                obtain ⟨g, d', e, -, -, -, -, hc, hfr⟩ := own_at hO (by omega)
                injection e with e1 e2 e3
                subst e1 e3
                clear e2
                have hcl := hO.1
                obtain ⟨y0, hy0⟩ : ∃ y, cs[j * 2]? = some y := ⟨_, List.getElem?_eq_getElem (by rw [hcl]; omega)⟩
                have a0 := hc (j * 2) _ hy0
                have f0 := hfr (j * 2)
                have st := own_set hO (j * 2) (.int .i64 (-5))
                have SP2 := Lib.hid (⟨_, st.1, hBx.trans st.2⟩ : SpoilP wo.heap.size m (.slice (some ⟨g, 0, none⟩) m d) wo _)
                clear hO hBx hc hfr st hSP hcl hy0
                go_wp2_with fail
                go_roundg (m - (j + 1))
                case measure => omega
                case rel => exact ⟨j + 1, by go_num, by omega, Nat.le_refl _, SP2⟩
              · obtain rfl : j = m := by omega
                have hz1 : ¬ (j : Int) < j := by omega
                obtain ⟨cs, -, hBx⟩ := hSP.out
                have BZ := Lib.hid hBx
                clear hBx hSP
                go_wp2_with fail
                go_roundg (2 - (t + 1))
                case measure => omega
                case rel => exact ⟨t + 1, by go_num, by omega, Nat.le_refl _, Lib.hid (hM.out.keep BZ.out), Lib.hid (hL.out.keep BZ.out), Lib.hid (hB.out.trans (BZ.out.mono hB.out.size))⟩
      · have ht2 : ¬ (t : Int) < 2 := by omega
        have BB : Hid (Below w.heap.size w wo) := Lib.hid (B0.out.trans (hB.out.mono B0.out.size))
        go_wp2_with fail
        go_ret
        exact ⟨rfl, BB.out⟩
/-- the law's walk, of spots and a line's numbers that came in -/
theorem places11_in (hP : PlaceOK 9) (a0 : Option Addr) (len0 cap0 : Nat) (z0 : List Sp) (z1 : RO) (w : World) (w0 : SpotsIn w a0 len0 cap0 z0) (w1 : z1.ok) :
    Calls Try.prog 3 #[.slice a0 len0 cap0, ownV z1] w fun e w' => e = .returned (.bool true) ∧ Below w.heap.size w w' := by
  obtain ⟨h1, rfl, h3, h4, h5⟩ := w0
  exact places11 hP z0 _ z1 w h1 (fun n c e => by injection e with e1 e2 e3; subst e2 e3; exact h3 e1) w1
end Go.Proofs.Ytnhbegdoedbpeaa
