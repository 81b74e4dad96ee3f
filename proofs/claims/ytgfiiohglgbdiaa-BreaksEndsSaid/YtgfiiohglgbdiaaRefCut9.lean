/-
  The document's Cut: a text's pieces, byte by byte.
-/
import Derived.Test.YtgfiiohglgbdiaaPieces
import Derived.Laws.Strings2
import Derived.Laws.DeepStrings4
import Derived.Lib.Strings
import Derived.Deep.Cut
import Derived.Outline
namespace Go.Proofs.Ytgfiiohglgbdiaa
open Go.RowKit

theorem blank_any9 (b : UInt8) (w : World) (r : Bool) (hr : isB b = r) :
    Calls Try.prog 15 #[.int .u8 (b.toNat : Nat)] w fun e w' => e = .returned (.bool r) ∧ w' = w := by
  subst hr
  have e1 : (b == 32) = ((b.toNat : Int) == 32) := by
    by_cases h : b = 32
    · subst h; rfl
    · have : ¬ (b.toNat : Int) = 32 := fun e => h (UInt8.toNat_inj.1 (by show b.toNat = 32; omega))
      rw [beq_eq_false_iff_ne.2 h, beq_eq_false_iff_ne.2 this]
  have e2 : (b == 10) = ((b.toNat : Int) == 10) := by
    by_cases h : b = 10
    · subst h; rfl
    · have : ¬ (b.toNat : Int) = 10 := fun e => h (UInt8.toNat_inj.1 (by show b.toNat = 10; omega))
      rw [beq_eq_false_iff_ne.2 h, beq_eq_false_iff_ne.2 this]
  unfold isB
  rw [e1, e2]
  generalize (b.toNat : Int) = x
  cases h1 : (x == 32) <;> cases h2 : (x == 10)
  all_goals
    go_enter Try.func15, Try.ntmps15
    go_wp2_with fail
    go_ret
    exact ⟨rfl, rfl⟩
theorem index_byte (s : ByteArray) (i : Nat) (h : i < s.size) (W : World) : (Instr.index 9 (.string s) (.int .i64 (i : Nat))).run Try.prog W = .ok (.int .u8 ((s.data.toList[i]'(by simpa using h)).toNat : Nat)) W := by
  rw [run_index_string W _ _ _ _ Try.underlying9, dif_pos ⟨by omega, by omega⟩]
  rfl
theorem slice_byte (s : ByteArray) (i : Nat) (h : i < s.size) (W : World) : (Instr.slice 9 (.string s) (some (.int .i64 (i : Nat))) (some (.int .i64 ((i : Int) + 1))) none).run Try.prog W = .ok (.string ⟨#[s.data.toList[i]'(by simpa using h)]⟩) W := by
  rw [run_slice_string W _ _ _ _ _ _ Try.underlying9 (by omega) (by omega) (by omega)]
  congr 2
  apply ByteArray.ext
  apply Array.ext'
  have hl : i < s.data.toList.length := by simpa using h
  rw [Lib.extract_data, Int.toNat_natCast, show ((i : Int) + 1).toNat = i + 1 by omega, show i + 1 - i = 1 by omega, List.drop_eq_getElem_cons hl]
  rfl
/-- where a row of pieces stands -/
structure Row9 (w : World) (base : Nat) (ws : Int) (l : List UInt8) (v : Value) (wr : World) : Prop where
  below : Below base w wr
  owns : ownsP wr base v (cutP ws l)
theorem last_of {ps : List Pc} (h : ps ≠ []) : ∃ init k t, ps = init ++ [(k, t)] := by
  exact ⟨ps.dropLast, (ps.getLast h).1, (ps.getLast h).2, (List.dropLast_concat_getLast h).symm⟩
set_option maxRecDepth 100000 in
set_option maxHeartbeats 8000000 in
theorem refCut9_any (s : ByteArray) (ws : Int) (w : World) (hs : s.size ≤ 8192) (hw : 0 ≤ ws ∧ ws < 256) :
    Calls Try.prog 8 #[.string s, .int .u8 ws] w fun e w' => ∃ v, e = .returned v ∧ ownsP w' w.heap.size v (cutP ws s.data.toList) ∧ Below w.heap.size w w' := by
  have KB := Lib.hid (fun b W r hr => blank_any9 b W r hr)
  have SZ : s.data.toList.length = s.size := by simp
  obtain ⟨H, hH⟩ : ∃ H, w.heap.size = H := ⟨_, rfl⟩
  rw [hH]
  have st : Row9 w H ws (s.data.toList.take 0) (.slice none 0 0) w := ⟨by rw [← hH]; exact Below.refl _ _, by
    have e : cutP ws (s.data.toList.take 0) = [] := by unfold cutP; simp [cutN, cutS, cutK]
    rw [e]
    exact ownsP.nil _ _⟩
  have ST := Lib.hid st
  clear st
  go_enter Try.func8, Try.ntmps8
  go_wp2_with fail
  go_loopg [5, 6] s.size (fun g1 vl vi wr => ∃ i : Nat, vi = .int .i64 i ∧ i ≤ s.size ∧ s.size - i ≤ g1 ∧ Hid (Row9 w H ws (s.data.toList.take i) vl wr))
  case atStart => exact ⟨0, rfl, by omega, by omega, ST⟩
  case round =>
    obtain ⟨i, rfl, hi, hg1, hR⟩ := hrel
    by_cases hlt : i < s.size
    · have hz : (i : Int) < s.size := by omega
      have ix := index_byte s i hlt
      have sl := slice_byte s i hlt
      have wi : IntKind.i64.wrap ((i : Int) + 1) = (i : Int) + 1 := IntWalk.i64_in _ (by omega)
      have hbi : i < s.data.toList.length := by rw [SZ]; exact hlt
      obtain ⟨b, hb⟩ : ∃ b, s.data.toList[i] = b := ⟨_, rfl⟩
      have TK : s.data.toList.take (i + 1) = s.data.toList.take i ++ [b] := by rw [List.take_add_one, List.getElem?_eq_getElem hbi, hb]; rfl
      have LT : (s.data.toList.take i).length = i := by rw [List.length_take]; omega
      obtain ⟨l, hl⟩ : ∃ l, s.data.toList.take i = l := ⟨_, rfl⟩
      have LB : 0 < i → lastB l = isB (s.data.toList[i - 1]'(by omega)) := fun h => by
        have : l = s.data.toList.take (i - 1) ++ [s.data.toList[i - 1]'(by omega)] := by
          rw [← hl]
          conv => lhs; rw [show i = i - 1 + 1 by omega]
          rw [List.take_add_one, List.getElem?_eq_getElem (by omega)]
          rfl
        rw [this, lastB_snoc]
      rw [hl] at TK LT hR
      rw [hb] at ix sl
      have NX0 := Lib.hid (congrArg (cutP ws) TK)
      have PL : Hid (∀ p, p ∈ cutP ws l → p.2.length ≤ 8192) := Lib.hid (fun p hp => by have := piece_len hp; omega)
      have BW := Lib.hid hR.out.below
      have OW := Lib.hid hR.out.owns
      have HS : Hid (H ≤ wr.heap.size) := Lib.hid (by have := hR.out.below.size; omega)
      obtain ⟨bb, hbb⟩ : ∃ bb, isB b = bb := ⟨_, rfl⟩
      have K1 := Lib.hid (fun W => KB.out b W bb hbb)
      obtain ⟨A, c, rfl, -, hcc, hA⟩ := hR.out.owns.form
      obtain ⟨n, hn⟩ : ∃ n, (cutP ws l).length = n := ⟨_, rfl⟩
      have NLE : Hid (n ≤ 8192) := Lib.hid (by have := cutP_len ws l; omega)
      rw [hn] at OW ⊢
      have HN := Lib.hid hn
      clear hR hb hl TK hcc hA hn
      by_cases w0 : ws = 0
      · subst w0
        replace NX0 := Lib.hid (NX0.out.trans ((show cutP 0 (l ++ [b]) = cutN (l ++ [b]) from if_pos rfl).trans (cutN_snoc l b)))
        have KD := Lib.hid (fun p (hp : p ∈ cutN l) => cutN_kind hp)
        rw [show cutP 0 l = cutN l from if_pos rfl] at OW PL HN
        generalize cutN l = ps at OW PL HN NX0 KD
        clear LB LT
        by_cases hp : ps = []
        · subst hp
          obtain rfl : 0 = n := HN.out
          cases bb with
          | true =>
            have NX := Lib.hid (NX0.out.trans (show sN [] b = [] ++ [(1, [32])] by simp [sN, hbb]))
            clear hbb
            go_wp2_with (first | (go_at_call 15; (with_reducible refine (K1.out _).mono ?_); rintro e w' ⟨rfl, rfl⟩) | ((with_reducible change wpList _ _ _ (Oper.mk (some 45) _ _ _ _ _ :: _) _ _); refine wpList_append_pc rfl _ _ rfl H _ _ rfl OW.out (1, [32]) _ rfl (by have := NLE.out; have := HN.out; omega) HS.out ?_; intro v1 w1 hv1 hb1; have OW1 := Lib.hid hv1; have BW1 := Lib.hid (BW.out.trans hb1); clear hv1 hb1))
            go_roundg (s.size - (i + 1))
            case measure => omega
            case rel => exact ⟨i + 1, by go_num, by omega, Nat.le_refl _, Lib.hid ⟨BW1.out, by rw [NX.out]; exact OW1.out⟩⟩
          | false =>
            have NX := Lib.hid (NX0.out.trans (show sN [] b = [] ++ [(0, [b])] by simp [sN, hbb]))
            clear hbb
            go_wp2_with (first | (go_at_call 15; (with_reducible refine (K1.out _).mono ?_); rintro e w' ⟨rfl, rfl⟩) | ((with_reducible change wpList _ _ _ (Oper.mk (some 79) _ _ _ _ _ :: _) _ _); refine wpList_append_pc rfl _ _ rfl H _ _ rfl OW.out (0, [b]) _ rfl (by have := NLE.out; have := HN.out; omega) HS.out ?_; intro v1 w1 hv1 hb1; have OW1 := Lib.hid hv1; have BW1 := Lib.hid (BW.out.trans hb1); clear hv1 hb1))
            go_roundg (s.size - (i + 1))
            case measure => omega
            case rel => exact ⟨i + 1, by go_num, by omega, Nat.le_refl _, Lib.hid ⟨BW1.out, by rw [NX.out]; exact OW1.out⟩⟩
        · obtain ⟨init, k, t, rfl⟩ := last_of hp
          have kk := KD.out (k, t) (by simp)
          have SN := sN_pre init (k, t) [] b
          clear hp
          obtain ⟨g, c', P⟩ := OW.out.at_ (by simp)
          obtain ⟨rfl, rfl⟩ : A = some ⟨g, 0, none⟩ ∧ c' = c := by
            have := P.val
            injection this with h1 h2 h3
            exact ⟨h1, h3.symm⟩
          obtain ⟨L, hL⟩ : ∃ L, init.length = L := ⟨_, rfl⟩
          have nL : n = L + 1 := by rw [← HN.out, List.length_append, hL]; rfl
          have wl : IntKind.i64.wrap ((n : Int) - 1) = (L : Int) := by rw [nL, IntWalk.i64_in _ (by have := NLE.out; omega)]; omega
          have gL : ¬ (L : Int) < 0 := by omega
          have gL0 : (0 : Int) ≤ L := by omega
          have gLn : (L : Int) < n := by omega
          have c0 := P.at0 L (k, t) (by rw [← hL]; simp)
          have c1 := P.at1 L (k, t) (by rw [← hL]; simp)
          have f1 := P.fro (L * 2 + 1)
          have glt := P.lt
          have tl : t.length ≤ 8192 := PL.out (k, t) (by simp)
          have OW2 : ownsP wr H (.slice (some ⟨g, 0, none⟩) (init ++ [(k, t)]).length c') (init ++ [(k, t)]) := by rw [HN.out]; exact OW.out
          have ST : Hid (∀ u v, v = .slice (some ⟨g, 0, none⟩) n c' → ownsP (wr.setCell ⟨g, L * 2 + 1, none⟩ (.string ⟨u.toArray⟩)) H v (init ++ [(k, u)]) ∧ Below H wr (wr.setCell ⟨g, L * 2 + 1, none⟩ (.string ⟨u.toArray⟩))) := Lib.hid (fun u v e => by
            have := OW2.set init k t u [] rfl
            rw [HN.out, hL] at this
            rw [e]
            exact this)
          have ad : ∀ x W, (Op.stringOp .add ⟨t.toArray⟩ ⟨#[x]⟩).run Try.prog W = .ok (.string ⟨(t ++ [x]).toArray⟩) W := fun x W => run_string_add_lists W t [x] (by omega) (by show ((1 : Nat) : Int) ≤ _; omega)
          clear P hL nL tl OW2
          rcases kk with rfl | rfl
          · cases bb with
            | true =>
              have NX := Lib.hid (NX0.out.trans (SN.trans (show init ++ sN [(0, t)] b = init ++ [(0, t)] ++ [(1, [32])] by simp [sN, hbb])))
              clear hbb SN
              go_wp2_with (first | (go_at_call 15; (with_reducible refine (K1.out _).mono ?_); rintro e w' ⟨rfl, rfl⟩) | ((with_reducible change wpList _ _ _ (Oper.mk (some 45) _ _ _ _ _ :: _) _ _); refine wpList_append_pc rfl _ _ rfl H _ _ rfl OW.out (1, [32]) _ rfl (by have := NLE.out; have := HN.out; omega) HS.out ?_; intro v1 w1 hv1 hb1; have OW1 := Lib.hid hv1; have BW1 := Lib.hid (BW.out.trans hb1); clear hv1 hb1))
              go_roundg (s.size - (i + 1))
              case measure => omega
              case rel => exact ⟨i + 1, by go_num, by omega, Nat.le_refl _, Lib.hid ⟨BW1.out, by rw [NX.out]; exact OW1.out⟩⟩
            | false =>
              have NX := Lib.hid (NX0.out.trans (SN.trans (show init ++ sN [(0, t)] b = init ++ [(0, t ++ [b])] by simp [sN, hbb])))
              have ad := ad b
              clear hbb SN
              go_wp2_with (go_at_call 15; (with_reducible refine (K1.out _).mono ?_); rintro e w' ⟨rfl, rfl⟩)
              go_roundg (s.size - (i + 1))
              case measure => omega
              case rel => exact ⟨i + 1, by go_num, by omega, Nat.le_refl _, Lib.hid ⟨BW.out.trans (ST.out _ _ rfl).2, by rw [NX.out]; exact (ST.out _ _ rfl).1⟩⟩
          · cases bb with
            | true =>
              have NX := Lib.hid (NX0.out.trans (SN.trans (show init ++ sN [(1, t)] b = init ++ [(1, t)] by simp [sN, hbb])))
              clear hbb SN
              go_wp2_with (go_at_call 15; (with_reducible refine (K1.out _).mono ?_); rintro e w' ⟨rfl, rfl⟩)
              go_roundg (s.size - (i + 1))
              case measure => omega
              case rel => exact ⟨i + 1, by go_num, by omega, Nat.le_refl _, Lib.hid ⟨BW.out, by rw [NX.out]; exact OW.out⟩⟩
            | false =>
              have NX := Lib.hid (NX0.out.trans (SN.trans (show init ++ sN [(1, t)] b = init ++ [(1, t)] ++ [(0, [b])] by simp [sN, hbb])))
              clear hbb SN
              go_wp2_with (first | (go_at_call 15; (with_reducible refine (K1.out _).mono ?_); rintro e w' ⟨rfl, rfl⟩) | ((with_reducible change wpList _ _ _ (Oper.mk (some 79) _ _ _ _ _ :: _) _ _); refine wpList_append_pc rfl _ _ rfl H _ _ rfl OW.out (0, [b]) _ rfl (by have := NLE.out; have := HN.out; omega) HS.out ?_; intro v1 w1 hv1 hb1; have OW1 := Lib.hid hv1; have BW1 := Lib.hid (BW.out.trans hb1); clear hv1 hb1))
              go_roundg (s.size - (i + 1))
              case measure => omega
              case rel => exact ⟨i + 1, by go_num, by omega, Nat.le_refl _, Lib.hid ⟨BW1.out, by rw [NX.out]; exact OW1.out⟩⟩
      · by_cases w1 : ws = 1
        · subst w1
          replace NX0 := Lib.hid (NX0.out.trans (show cutP 1 (l ++ [b]) = cutS (l ++ [b]) by simp [cutP]))
          rw [show cutP 1 l = cutS l by simp [cutP]] at OW PL HN
          by_cases hl : l = []
          · subst hl
            have ie : ((i : Int) == 0) = true := by rw [← LT]; rfl
            obtain rfl : 0 = n := HN.out
            clear LB LT
            go_upto_region 18 with (first | (go_at_call 15; (with_reducible refine (K1.out _).mono ?_); rintro e w' ⟨rfl, rfl⟩) | ((with_reducible change wpList _ _ _ (Oper.mk (some 88) _ _ _ _ _ :: _) _ _); refine wpList_append_pc rfl _ _ rfl H _ _ rfl OW.out (0, []) _ rfl (by have := NLE.out; have := HN.out; omega) HS.out ?_; intro v1 w1 hv1 hb1; have OW1 := Lib.hid hv1; have BW1 := Lib.hid (BW.out.trans hb1); clear hv1 hb1))
            obtain ⟨g, c', P⟩ := OW1.out.at_ (by simp)
            have e1 : v1 = .slice (some ⟨g, 0, none⟩) 1 c' := P.val
            subst e1
            have c0 : w1.cell? ⟨g, 0, none⟩ = some (.int .u8 0) := P.at0 0 (0, []) rfl
            have c1 : w1.cell? ⟨g, 1, none⟩ = some (.string ⟨#[]⟩) := P.at1 0 (0, []) rfl
            have f1 := P.fro 1
            have glt := P.lt
            have ST : Hid (∀ u v, v = .slice (some ⟨g, 0, none⟩) 1 c' → ownsP (w1.setCell ⟨g, 1, none⟩ (.string ⟨u.toArray⟩)) H v [(0, u)] ∧ Below H w1 (w1.setCell ⟨g, 1, none⟩ (.string ⟨u.toArray⟩))) := Lib.hid (fun u v e => by
              rw [e]
              exact ownsP.set OW1.out [] 0 [] u [] rfl)
            have ad : ∀ x W, (Op.stringOp .add ⟨#[]⟩ ⟨#[x]⟩).run Try.prog W = .ok (.string ⟨[x].toArray⟩) W := fun x W => run_string_add_lists W [] [x] (by simp) (by show ((1 : Nat) : Int) ≤ _; omega)
            clear P
            cases bb with
            | true =>
              have NX := Lib.hid (NX0.out.trans (show cutS ([] ++ [b]) = [(0, [32])] by simp [cutS, squeeze, sq, hbb]))
              have ad := ad 32
              clear hbb
              go_wp2_with (go_at_call 15; (with_reducible refine (K1.out _).mono ?_); rintro e w' ⟨rfl, rfl⟩)
              go_roundg (s.size - (i + 1))
              case measure => omega
              case rel => exact ⟨i + 1, by go_num, by omega, Nat.le_refl _, Lib.hid ⟨BW1.out.trans (ST.out _ _ rfl).2, by rw [NX.out]; exact (ST.out _ _ rfl).1⟩⟩
            | false =>
              have NX := Lib.hid (NX0.out.trans (show cutS ([] ++ [b]) = [(0, [b])] by simp [cutS, squeeze, sq, hbb]))
              have ad := ad b
              clear hbb
              go_wp2_with (go_at_call 15; (with_reducible refine (K1.out _).mono ?_); rintro e w' ⟨rfl, rfl⟩)
              go_roundg (s.size - (i + 1))
              case measure => omega
              case rel => exact ⟨i + 1, by go_num, by omega, Nat.le_refl _, Lib.hid ⟨BW1.out.trans (ST.out _ _ rfl).2, by rw [NX.out]; exact (ST.out _ _ rfl).1⟩⟩
          · have i0 : i ≠ 0 := fun e => hl (List.length_eq_zero_iff.1 (LT.trans e))
            have LBB := LB (by omega)
            obtain ⟨b', hb'⟩ : ∃ b', s.data.toList[i - 1]'(by omega) = b' := ⟨_, rfl⟩
            have ix2 := index_byte s (i - 1) (by omega)
            rw [hb'] at ix2 LBB
            have wi2 : IntKind.i64.wrap ((i : Int) - 1) = ((i - 1 : Nat) : Int) := by rw [IntWalk.i64_in _ (by omega)]; omega
            obtain ⟨i1, hi1⟩ : ∃ i1, i - 1 = i1 := ⟨_, rfl⟩
            rw [hi1] at ix2 wi2
            have ie : ((i : Int) == 0) = false := by simp; omega
            obtain ⟨lb, hlb⟩ : ∃ lb, isB b' = lb := ⟨_, rfl⟩
            have K2 := Lib.hid (fun W => KB.out b' W lb hlb)
            rw [hlb] at LBB
            replace NX0 := Lib.hid (NX0.out.trans ((cutS_ne (s := l ++ [b]) (by simp)).trans (congrArg (fun z => [] ++ [(0, z)]) (squeeze_snoc l b))))
            rw [cutS_ne hl] at OW PL HN
            rw [hbb, LBB] at NX0
            obtain ⟨init, hinit⟩ : ∃ init : List Pc, init = [] := ⟨_, rfl⟩
            obtain ⟨k, hk⟩ : ∃ k : Nat, k = 0 := ⟨_, rfl⟩
            generalize squeeze l = t at OW PL HN NX0
            have e : ([] ++ [(0, t)] : List Pc) = init ++ [(k, t)] := by rw [hinit, hk]
            rw [e] at OW PL HN
            clear LB LBB hb' hlb hbb hi1 hl LT i0 e
            obtain ⟨g, c', P⟩ := OW.out.at_ (by simp)
            obtain ⟨rfl, rfl⟩ : A = some ⟨g, 0, none⟩ ∧ c' = c := by
              have := P.val
              injection this with h1 h2 h3
              exact ⟨h1, h3.symm⟩
            obtain ⟨L, hL⟩ : ∃ L, init.length = L := ⟨_, rfl⟩
            have nL : n = L + 1 := by rw [← HN.out, List.length_append, hL]; rfl
            have wl : IntKind.i64.wrap ((n : Int) - 1) = (L : Int) := by rw [nL, IntWalk.i64_in _ (by have := NLE.out; omega)]; omega
            have gL : ¬ (L : Int) < 0 := by omega
            have gL0 : (0 : Int) ≤ L := by omega
            have gLn : (L : Int) < n := by omega
            have c0 := P.at0 L (k, t) (by rw [← hL]; simp)
            have c1 := P.at1 L (k, t) (by rw [← hL]; simp)
            have f1 := P.fro (L * 2 + 1)
            have glt := P.lt
            have tl : t.length ≤ 8192 := PL.out (k, t) (by simp)
            have OW2 : ownsP wr H (.slice (some ⟨g, 0, none⟩) (init ++ [(k, t)]).length c') (init ++ [(k, t)]) := by rw [HN.out]; exact OW.out
            have ST : Hid (∀ u v, v = .slice (some ⟨g, 0, none⟩) n c' → ownsP (wr.setCell ⟨g, L * 2 + 1, none⟩ (.string ⟨u.toArray⟩)) H v (init ++ [(k, u)]) ∧ Below H wr (wr.setCell ⟨g, L * 2 + 1, none⟩ (.string ⟨u.toArray⟩))) := Lib.hid (fun u v e => by
              have := OW2.set init k t u [] rfl
              rw [HN.out, hL] at this
              rw [e]
              exact this)
            have ad : ∀ x W, (Op.stringOp .add ⟨t.toArray⟩ ⟨#[x]⟩).run Try.prog W = .ok (.string ⟨(t ++ [x]).toArray⟩) W := fun x W => run_string_add_lists W t [x] (by omega) (by show ((1 : Nat) : Int) ≤ _; omega)
            clear P hL nL tl OW2
            subst hk
            cases bb with
            | true =>
              cases lb with
              | true =>
                have NX := Lib.hid (NX0.out.trans (show _ = init ++ [(0, t)] by rw [hinit]; rfl))
                go_wp2_with (go_at_call 15; (first | with_reducible refine (K1.out _).mono ?_ | with_reducible refine (K2.out _).mono ?_); rintro e w' ⟨rfl, rfl⟩)
                go_roundg (s.size - (i + 1))
                case measure => omega
                case rel => exact ⟨i + 1, by go_num, by omega, Nat.le_refl _, Lib.hid ⟨BW.out, by rw [NX.out]; exact OW.out⟩⟩
              | false =>
                have NX := Lib.hid (NX0.out.trans (show _ = init ++ [(0, t ++ [32])] by rw [hinit]; rfl))
                have ad := ad 32
                go_wp2_with (go_at_call 15; (first | with_reducible refine (K1.out _).mono ?_ | with_reducible refine (K2.out _).mono ?_); rintro e w' ⟨rfl, rfl⟩)
                go_roundg (s.size - (i + 1))
                case measure => omega
                case rel => exact ⟨i + 1, by go_num, by omega, Nat.le_refl _, Lib.hid ⟨BW.out.trans (ST.out _ _ rfl).2, by rw [NX.out]; exact (ST.out _ _ rfl).1⟩⟩
            | false =>
              have NX := Lib.hid (NX0.out.trans (show _ = init ++ [(0, t ++ [b])] by rw [hinit]; rfl))
              have ad := ad b
              go_wp2_with (go_at_call 15; (with_reducible refine (K1.out _).mono ?_); rintro e w' ⟨rfl, rfl⟩)
              go_roundg (s.size - (i + 1))
              case measure => omega
              case rel => exact ⟨i + 1, by go_num, by omega, Nat.le_refl _, Lib.hid ⟨BW.out.trans (ST.out _ _ rfl).2, by rw [NX.out]; exact (ST.out _ _ rfl).1⟩⟩
        · by_cases w2 : ws = 2
          · subst w2
            replace NX0 := Lib.hid (NX0.out.trans ((show cutP 2 (l ++ [b]) = cutK (l ++ [b]) by simp [cutP]).trans (cutK_snoc l b)))
            have KD := Lib.hid (fun p (hp : p ∈ cutK l) => cutK_kind hp)
            rw [show cutP 2 l = cutK l by simp [cutP]] at OW PL HN
            generalize cutK l = ps at OW PL HN NX0 KD
            obtain ⟨h10, hh⟩ : ∃ h, (b == 10) = h := ⟨_, rfl⟩
            have q10 : ((b.toNat : Int) == 10) = h10 := by
              rw [← hh]
              by_cases h : b = 10
              · subst h; rfl
              · have : ¬ (b.toNat : Int) = 10 := fun e => h (UInt8.toNat_inj.1 (by show b.toNat = 10; omega))
                rw [beq_eq_false_iff_ne.2 h, beq_eq_false_iff_ne.2 this]
            clear LB LT hbb
            by_cases hp : ps = []
            · subst hp
              obtain rfl : 0 = n := HN.out
              cases h10 with
              | true =>
                have NX := Lib.hid (NX0.out.trans (show sK [] b = [] ++ [(2, [])] by simp [sK, hh]))
                clear hh
                go_wp2_with (first | (go_at_call 15; (with_reducible refine (K1.out _).mono ?_); rintro e w' ⟨rfl, rfl⟩) | ((with_reducible change wpList _ _ _ (Oper.mk (some 137) _ _ _ _ _ :: _) _ _); refine wpList_append_pc rfl _ _ rfl H _ _ rfl OW.out (2, []) _ rfl (by have := NLE.out; have := HN.out; omega) HS.out ?_; intro v1 w1 hv1 hb1; have OW1 := Lib.hid hv1; have BW1 := Lib.hid (BW.out.trans hb1); clear hv1 hb1))
                go_roundg (s.size - (i + 1))
                case measure => omega
                case rel => exact ⟨i + 1, by go_num, by omega, Nat.le_refl _, Lib.hid ⟨BW1.out, by rw [NX.out]; exact OW1.out⟩⟩
              | false =>
                have NX := Lib.hid (NX0.out.trans (show sK [] b = [] ++ [(0, [b])] by simp [sK, hh]))
                clear hh
                go_wp2_with (first | (go_at_call 15; (with_reducible refine (K1.out _).mono ?_); rintro e w' ⟨rfl, rfl⟩) | ((with_reducible change wpList _ _ _ (Oper.mk (some 171) _ _ _ _ _ :: _) _ _); refine wpList_append_pc rfl _ _ rfl H _ _ rfl OW.out (0, [b]) _ rfl (by have := NLE.out; have := HN.out; omega) HS.out ?_; intro v1 w1 hv1 hb1; have OW1 := Lib.hid hv1; have BW1 := Lib.hid (BW.out.trans hb1); clear hv1 hb1))
                go_roundg (s.size - (i + 1))
                case measure => omega
                case rel => exact ⟨i + 1, by go_num, by omega, Nat.le_refl _, Lib.hid ⟨BW1.out, by rw [NX.out]; exact OW1.out⟩⟩
            · obtain ⟨init, k, t, rfl⟩ := last_of hp
              have kk := KD.out (k, t) (by simp)
              have SN := sK_pre init (k, t) [] b
              clear hp
              obtain ⟨g, c', P⟩ := OW.out.at_ (by simp)
              obtain ⟨rfl, rfl⟩ : A = some ⟨g, 0, none⟩ ∧ c' = c := by
                have := P.val
                injection this with h1 h2 h3
                exact ⟨h1, h3.symm⟩
              obtain ⟨L, hL⟩ : ∃ L, init.length = L := ⟨_, rfl⟩
              have nL : n = L + 1 := by rw [← HN.out, List.length_append, hL]; rfl
              have wl : IntKind.i64.wrap ((n : Int) - 1) = (L : Int) := by rw [nL, IntWalk.i64_in _ (by have := NLE.out; omega)]; omega
              have gL : ¬ (L : Int) < 0 := by omega
              have gL0 : (0 : Int) ≤ L := by omega
              have gLn : (L : Int) < n := by omega
              have c0 := P.at0 L (k, t) (by rw [← hL]; simp)
              have c1 := P.at1 L (k, t) (by rw [← hL]; simp)
              have f1 := P.fro (L * 2 + 1)
              have glt := P.lt
              have tl : t.length ≤ 8192 := PL.out (k, t) (by simp)
              have OW2 : ownsP wr H (.slice (some ⟨g, 0, none⟩) (init ++ [(k, t)]).length c') (init ++ [(k, t)]) := by rw [HN.out]; exact OW.out
              have ST : Hid (∀ u v, v = .slice (some ⟨g, 0, none⟩) n c' → ownsP (wr.setCell ⟨g, L * 2 + 1, none⟩ (.string ⟨u.toArray⟩)) H v (init ++ [(k, u)]) ∧ Below H wr (wr.setCell ⟨g, L * 2 + 1, none⟩ (.string ⟨u.toArray⟩))) := Lib.hid (fun u v e => by
                have := OW2.set init k t u [] rfl
                rw [HN.out, hL] at this
                rw [e]
                exact this)
              have ad : ∀ x W, (Op.stringOp .add ⟨t.toArray⟩ ⟨#[x]⟩).run Try.prog W = .ok (.string ⟨(t ++ [x]).toArray⟩) W := fun x W => run_string_add_lists W t [x] (by omega) (by show ((1 : Nat) : Int) ≤ _; omega)
              clear P hL nL tl OW2
              rcases kk with rfl | rfl
              · cases h10 with
                | true =>
                  have NX := Lib.hid (NX0.out.trans (SN.trans (show init ++ sK [(0, t)] b = init ++ [(0, t)] ++ [(2, [])] by simp [sK, hh])))
                  clear hh SN
                  go_wp2_with (first | (go_at_call 15; (with_reducible refine (K1.out _).mono ?_); rintro e w' ⟨rfl, rfl⟩) | ((with_reducible change wpList _ _ _ (Oper.mk (some 137) _ _ _ _ _ :: _) _ _); refine wpList_append_pc rfl _ _ rfl H _ _ rfl OW.out (2, []) _ rfl (by have := NLE.out; have := HN.out; omega) HS.out ?_; intro v1 w1 hv1 hb1; have OW1 := Lib.hid hv1; have BW1 := Lib.hid (BW.out.trans hb1); clear hv1 hb1))
                  go_roundg (s.size - (i + 1))
                  case measure => omega
                  case rel => exact ⟨i + 1, by go_num, by omega, Nat.le_refl _, Lib.hid ⟨BW1.out, by rw [NX.out]; exact OW1.out⟩⟩
                | false =>
                  have NX := Lib.hid (NX0.out.trans (SN.trans (show init ++ sK [(0, t)] b = init ++ [(0, t ++ [b])] by simp [sK, hh])))
                  have ad := ad b
                  clear hh SN
                  go_wp2_with (go_at_call 15; (with_reducible refine (K1.out _).mono ?_); rintro e w' ⟨rfl, rfl⟩)
                  go_roundg (s.size - (i + 1))
                  case measure => omega
                  case rel => exact ⟨i + 1, by go_num, by omega, Nat.le_refl _, Lib.hid ⟨BW.out.trans (ST.out _ _ rfl).2, by rw [NX.out]; exact (ST.out _ _ rfl).1⟩⟩
              · cases h10 with
                | true =>
                  have NX := Lib.hid (NX0.out.trans (SN.trans (show init ++ sK [(2, t)] b = init ++ [(2, t)] ++ [(2, [])] by simp [sK, hh])))
                  clear hh SN
                  go_wp2_with (first | (go_at_call 15; (with_reducible refine (K1.out _).mono ?_); rintro e w' ⟨rfl, rfl⟩) | ((with_reducible change wpList _ _ _ (Oper.mk (some 137) _ _ _ _ _ :: _) _ _); refine wpList_append_pc rfl _ _ rfl H _ _ rfl OW.out (2, []) _ rfl (by have := NLE.out; have := HN.out; omega) HS.out ?_; intro v1 w1 hv1 hb1; have OW1 := Lib.hid hv1; have BW1 := Lib.hid (BW.out.trans hb1); clear hv1 hb1))
                  go_roundg (s.size - (i + 1))
                  case measure => omega
                  case rel => exact ⟨i + 1, by go_num, by omega, Nat.le_refl _, Lib.hid ⟨BW1.out, by rw [NX.out]; exact OW1.out⟩⟩
                | false =>
                  have NX := Lib.hid (NX0.out.trans (SN.trans (show init ++ sK [(2, t)] b = init ++ [(2, t)] ++ [(0, [b])] by simp [sK, hh])))
                  clear hh SN
                  go_wp2_with (first | (go_at_call 15; (with_reducible refine (K1.out _).mono ?_); rintro e w' ⟨rfl, rfl⟩) | ((with_reducible change wpList _ _ _ (Oper.mk (some 171) _ _ _ _ _ :: _) _ _); refine wpList_append_pc rfl _ _ rfl H _ _ rfl OW.out (0, [b]) _ rfl (by have := NLE.out; have := HN.out; omega) HS.out ?_; intro v1 w1 hv1 hb1; have OW1 := Lib.hid hv1; have BW1 := Lib.hid (BW.out.trans hb1); clear hv1 hb1))
                  go_roundg (s.size - (i + 1))
                  case measure => omega
                  case rel => exact ⟨i + 1, by go_num, by omega, Nat.le_refl _, Lib.hid ⟨BW1.out, by rw [NX.out]; exact OW1.out⟩⟩
          · have x0 : (ws == 0) = false := by simp [w0]
            have x1 : (ws == 1) = false := by simp [w1]
            have x2 : (ws == 2) = false := by simp [w2]
            have NX : Hid (cutP ws (s.data.toList.take (i + 1)) = cutP ws l) := Lib.hid (by simp [cutP, w0, w1, w2])
            clear NX0 LB LT hbb w0 w1 w2
            go_wp2_with (go_at_call 15; (with_reducible refine (K1.out _).mono ?_); rintro e w' ⟨rfl, rfl⟩)
            go_roundg (s.size - (i + 1))
            case measure => omega
            case rel => exact ⟨i + 1, by go_num, by omega, Nat.le_refl _, Lib.hid ⟨BW.out, by rw [NX.out]; exact OW.out⟩⟩
    · obtain rfl : i = s.size := by omega
      have hz : ¬ (s.size : Int) < s.size := by omega
      rw [← SZ, List.take_length] at hR
      go_wp2_with fail
      go_ret
      exact ⟨_, rfl, hR.out.owns, hR.out.below⟩
end Go.Proofs.Ytgfiiohglgbdiaa
