/-
  The law MutateFull: of any program whose May and Apply answer as is asked, and its walk.
-/
import Derived.Test.YtmodegkpfdlccaaChangeBox
import Derived.Test.YtmodegkpfdlccaaMutE
namespace Go.Proofs.Ytmodegkpfdlccaa
open Go.RowKit

/-- a text to be put first below a node -/
def exT (key : Int) (s : ByteArray) : RC := ⟨1, 0, key, 0, ⟨0, 0, 1, noStyle, s.data.toList⟩⟩
theorem ok_t {key : Int} {s : ByteArray} (hk : -9223372036854775808 ≤ key ∧ key ≤ 9223372036854775807) (hs : s.size ≤ 9223372036854775807) : (exT key s).ok :=
  ⟨by show (0 : Int) ≤ 1 ∧ (1 : Int) < 256; omega, by show -9223372036854775808 ≤ (0 : Int) ∧ (0 : Int) ≤ 9223372036854775807; omega, hk, by show -9223372036854775808 ≤ (0 : Int) ∧ (0 : Int) ≤ 9223372036854775807; omega,
    ok_of_parts noStyle_lits (by kernel_rfl) (by omega) (by omega) (by omega) (by simpa using hs)⟩
theorem build_t1 (s : ByteArray) (W : World) : (Instr.build 32 #[(2, .int .u8 1), (4, .string s)]).run Try.prog W = .ok (RN.val ⟨0, 0, 1, noStyle, s.data.toList⟩) W := by kernel_rfl
theorem build_t (key : Int) (s : ByteArray) (W : World) : (Instr.build 34 #[(0, .int .u8 1), (2, .int .i64 key), (4, RN.val ⟨0, 0, 1, noStyle, s.data.toList⟩)]).run Try.prog W = .ok (changeV (exT key s)) W := by kernel_rfl

theorem bytesTo_up (N : Nat → RN) {a : Nat} : ∀ m, bytesTo N a ≤ bytesTo N (a + m)
  | 0 => Nat.le_refl _
  | m + 1 => Nat.le_trans (bytesTo_up N m) (Nat.le_add_right _ _)
/-- what is to come -/
theorem full_out {Sty : List Lit → Prop} {n : Nat} {x : Int} {N : Nat → RN} {key : Int} {s : ByteArray} (h : MayD Sty n x N) {r : Int} (hr : FindIs N n key r) :
    (r = -1 ∧ applyN Sty N n x (exT key s) = .no 70) ∨ ∃ u : Nat, r = u ∧ u < n ∧ ((N u).kind = 1 ∧ applyN Sty N n x (exT key s) = .no 70 ∨ (N u).kind = 0 ∧
      (Fine N n x u s.data.toList ∧ applyN Sty N n x (exT key s) = .doc (n + 1) (x + 1) (putN N (u + 1) 1 fun _ => textN x ((N u).depth + 1) s.data.toList) ∨ ¬ Fine N n x u s.data.toList ∧ applyN Sty N n x (exT key s) = .no 4)) := by
  obtain ⟨h1, h2, h3⟩ := apply_text (c := exT key s) h rfl rfl rfl
  have e := FindIs.uniq hr (find_is N n key)
  cases f : findN N n key with
  | none =>
    rw [f] at e
    refine .inl ⟨e, h3 fun u hu => ?_⟩
    rw [show (exT key s).parent = key from rfl, f] at hu
    cases hu
  | some u =>
    rw [f] at e
    have hu := (find_some f).1
    refine .inr ⟨u, e, hu, ?_⟩
    by_cases hk : (N u).kind = 1
    · refine .inl ⟨hk, h3 fun u' hu' => ?_⟩
      rw [show (exT key s).parent = key from rfl, f] at hu'
      cases hu'
      omega
    · have h0 : (N u).kind = 0 := by
        have := h.shape.kind u hu
        omega
      refine .inr ⟨h0, ?_⟩
      by_cases hf : Fine N n x u s.data.toList
      · exact .inl ⟨hf, h1 u f h0 hf⟩
      · exact .inr ⟨hf, h2 u f h0 hf⟩

set_option maxRecDepth 100000 in
set_option maxHeartbeats 4000000 in
theorem full7 {Sty : List Lit → Prop} (st : Sty noStyle) (nq : ¬ Sty oddStyle) (hA : ApplyOK7 Sty 10) (hM : MayOK7 Sty 11) (A : Option Addr) (n c : Nat) (x : Int) (N : Nat → RN) (key : Int) (s : ByteArray) (w : World) (hD : DocIn w A n c x N)
    (hk : -9223372036854775808 ≤ key ∧ key ≤ 9223372036854775807) (hs : s.size ≤ 9223372036854775807) :
    Calls Try.prog 7 #[docV A n c x, .int .i64 key, .string s] w fun e w' => e = .returned (.bool true) ∧ Below w.heap.size w w' := by
  have KA := Lib.hid (fun W (h : DocIn W A n c x N) => hA A n c x N (exT key s) W h (ok_t hk hs))
  have KM := Lib.hid (hM A n c x N)
  have KW := Lib.hid (fun W => awake7_any st nq hA hM W)
  have KG := Lib.hid (fun W (h : DocIn W A n c x N) => great7_any A n c x N exZ W h ok_z)
  obtain ⟨r, hr⟩ : ∃ r, FindIs N n key r := ⟨_, find_is N n key⟩
  have KF := Lib.hid (fun W (h : DocIn W A n c x N) => refFind_any A n c x N key W h r hr)
  have OUT := Lib.hid (fun h : MayD Sty n x N => full_out (s := s) h hr)
  have V := Lib.hid (newDoc_var hD)
  have BW := Lib.hid (newDoc_below w A n c x)
  have L1 : Hid ((exT key s).cells.toArray.size = 55 ∧ ∀ v ∈ (exT key s).cells.toArray.toList, v.oneCell' = true) := Lib.hid ⟨by simp [(ok_t hk hs).len], by simpa using RC.cells_one _⟩
  have BT := Lib.hid (fun W => build_t key s W)
  clear hD hA hM hr
  unfold docV
  unfold newDoc at V BW
  unfold changeV at BT KA
  generalize applyN Sty N n x (exT key s) = R at *
  generalize (exT key s).cells.toArray = X at *
  go_enter Try.func7, Try.ntmps7
  go_wp2_with fail
  refine (KW.out _).mono ?_
  rintro e w1 ⟨rfl, hb⟩
  replace V := Lib.hid (V.out.next hb)
  replace BW := Lib.hid (BW.out.trans (hb.mono BW.out.size))
  clear hb
  obtain ⟨-, c0, c1, -⟩ := V.out
  go_wp2_with ((with_reducible change wpList _ _ _ (Oper.mk _ (Op.build _ _) _ _ _ _ :: _) _ _); refine wpList_build_it rfl _ _ rfl _ (by intro W; simp only [List.map_toArray, List.map_nil]; first | exact build_z W) ?_)
  clear c0 c1
  refine (KG.out _ V.out.doc).mono ?_
  rintro e w2 ⟨q, rfl, hq, hb⟩
  replace V := Lib.hid (V.out.next hb)
  replace BW := Lib.hid (BW.out.trans (hb.mono BW.out.size))
  clear hb
  cases q with
  | true =>
    go_wp2_with fail
    go_ret
    exact ⟨rfl, BW.out⟩
  | false =>
    obtain ⟨hn, hby, -⟩ := hq rfl
    clear hq
    obtain ⟨-, c0, c1, -⟩ := V.out
    go_wp2_with fail
    clear c0 c1
    refine (KM.out _ V.out.doc).mono ?_
    rintro e w3 ⟨q, rfl, hq, hb⟩
    replace V := Lib.hid (V.out.next hb)
    replace BW := Lib.hid (BW.out.trans (hb.mono BW.out.size))
    clear hb
    cases q with
    | false =>
      go_wp2_with fail
      go_ret
      exact ⟨rfl, BW.out⟩
    | true =>
      have HM := Lib.hid (hq.1 rfl)
      clear hq
      by_cases hl : s.size ≤ 5000
      · have hl' : (s.size : Int) ≤ 5000 := by omega
        obtain ⟨-, c0, c1, -⟩ := V.out
        go_wp2_with fail
        clear c0 c1
        refine (KF.out _ V.out.doc).mono ?_
        rintro e w4 ⟨rfl, hb⟩
        replace V := Lib.hid (V.out.next hb)
        replace BW := Lib.hid (BW.out.trans (hb.mono BW.out.size))
        clear hb
        have hW : Below w4.heap.size w4 (w4.alloc (.cells X 34)) := (Below.refl _ _).alloc (Nat.le_refl _) _
        obtain ⟨-, c0, c1, -⟩ := V.out
        replace V := Lib.hid (V.out.next hW)
        replace BW := Lib.hid (BW.out.trans (hW.mono BW.out.size))
        have B := Lib.hid (Box55.new w4 X)
        obtain ⟨-, d0, d1, -⟩ := V.out
        clear hW
        go_wp2_with (first
          | ((with_reducible change wpList _ _ _ (Oper.mk _ (Op.build _ _) _ _ _ _ :: _) _ _); refine wpList_build_it rfl _ _ rfl _ (by intro W; simp only [List.map_toArray, List.map_cons, List.map_nil]; first | exact build_t1 s W | exact BT.out W) ?_)
          | ((with_reducible change wpList _ _ _ (Oper.mk (some 8) _ _ _ _ _ :: _) _ _); refine wpList_alloc_change rfl rfl ?_)
          | ((with_reducible change wpList _ _ _ (Oper.mk none (.store 34 _ _) _ _ _ _ :: _) _ _); refine wpList_store_change rfl _ _ rfl X rfl rfl L1.out.1 L1.out.2 ?_)
          | ((with_reducible change wpList _ _ _ (Oper.mk (some 38) _ _ _ _ _ :: _) _ _); refine wpList_load_change rfl _ rfl _ rfl X B.out L1.out.1 ?_)
          | fail)
        clear c0 c1 d0 d1 B
        refine (KA.out _ V.out.doc).mono ?_
        have MO := Lib.hid (fun k (h : k < n) => show bytesTo N k + (N k).text.length ≤ 5000 from by
          have := bytesTo_up N (a := k + 1) (n - (k + 1))
          rw [show k + 1 + (n - (k + 1)) = n by omega] at this
          exact Nat.le_trans this hby)
        rintro e w5 ⟨ha, hb⟩
        rcases OUT.out HM.out with ⟨rfl, rfl⟩ | ⟨u, rfl, hu, ⟨ku, rfl⟩ | ⟨ku, ⟨hf, rfl⟩ | ⟨hf, rfl⟩⟩⟩
        · obtain rfl := ha
          have hn' := hb.trans ((newDoc_below w5 none 0 0 0).mono hb.size)
          replace V := Lib.hid (V.out.next hn')
          replace BW := Lib.hid (BW.out.trans (hn'.mono BW.out.size))
          have NV := Lib.hid (newDoc_var (W := w5) (A := none) (n := 0) (c := 0) (x := 0) (N := N) ⟨⟨Nodes.zero _ _ _, fun _ => ⟨rfl, rfl⟩, ⟨by omega, by omega⟩, by omega⟩, by omega, by omega⟩)
          clear hb hn'
          unfold docV
          obtain ⟨-, c0, c1, -⟩ := V.out
          obtain ⟨-, a0, a1, -⟩ := NV.out
          unfold newDoc at c0 c1 a0 a1
          go_wp2_with fail
          go_ret
          exact ⟨rfl, BW.out⟩
        · obtain rfl := ha
          have hn' := hb.trans ((newDoc_below w5 none 0 0 0).mono hb.size)
          replace V := Lib.hid (V.out.next hn')
          replace BW := Lib.hid (BW.out.trans (hn'.mono BW.out.size))
          have NV := Lib.hid (newDoc_var (W := w5) (A := none) (n := 0) (c := 0) (x := 0) (N := N) ⟨⟨Nodes.zero _ _ _, fun _ => ⟨rfl, rfl⟩, ⟨by omega, by omega⟩, by omega⟩, by omega, by omega⟩)
          clear hb hn'
          unfold docV
          obtain ⟨-, c0, c1, -⟩ := V.out
          obtain ⟨-, a0, a1, -⟩ := NV.out
          unfold newDoc at c0 c1 a0 a1
          obtain ⟨b, off, rfl, -, -, -, t2, -⟩ := node_told V.out.doc.1.1 hu
          unfold newDoc at t2
          rw [ku] at t2
          go_wp2_with fail
          go_ret
          exact ⟨rfl, BW.out⟩
        · obtain ⟨B', d', rfl, dM, -⟩ := ha
          have hn' := hb.trans ((newDoc_below w5 B' (n + 1) d' (x + 1)).mono hb.size)
          replace V := Lib.hid (V.out.next hn')
          replace BW := Lib.hid (BW.out.trans (hn'.mono BW.out.size))
          have NV := Lib.hid (newDoc_var dM)
          clear hb hn' dM
          unfold docV
          obtain ⟨-, c0, c1, -⟩ := V.out
          obtain ⟨-, a0, a1, -⟩ := NV.out
          unfold newDoc at c0 c1 a0 a1
          obtain ⟨b, off, rfl, -, -, t1, t2, t3, -⟩ := node_told V.out.doc.1.1 hu
          unfold newDoc at t1 t2 t3
          rw [ku] at t2
          obtain ⟨f1, f2, f3, f4, f5, f6⟩ := hf
          rw [Array.length_toList] at f2 f3
          have f2' : (s.size : Int) ≤ 200 := by show (s.data.size : Int) ≤ 200; omega
          have f3' : (s.size : Int) + (bytesTo N n : Nat) ≤ 1500 := by show (s.data.size : Int) + _ ≤ 1500; omega
          have f1' : (dispOf (N u) == 2) = false := by simpa using f1
          have f1'' : (dispOf (N u) != 2) = true := by simpa using f1
          have f5' : (n : Int) < 300 := by omega
          obtain ⟨B'', o'', e'', -, -, -, -, -, s50⟩ := node_told NV.out.doc.1.1 (show u + 1 < n + 1 by omega)
          subst e''
          rw [show putN N (u + 1) 1 (fun _ => textN x ((N u).depth + 1) s.data.toList) (u + 1) = textN x ((N u).depth + 1) s.data.toList from putN_in (i := 0) (by omega), show (textN x ((N u).depth + 1) s.data.toList).text.toArray = s.data from Array.toArray_toList] at s50
          unfold newDoc at s50
          clear f1 f2 f3 f5
          obtain ⟨dpt, hdd⟩ : ∃ d, (N u).depth = d := ⟨_, rfl⟩
          obtain ⟨dsp, hpp⟩ : ∃ d, dispOf (N u) = d := ⟨_, rfl⟩
          rw [hdd] at t1 f4
          rw [hpp] at t3 f1' f1''
          have HD := Lib.hid hdd
          have HP := Lib.hid hpp
          clear hdd hpp
          go_wp2_with fail
          go_loop [11, 12] (fun v11 v12 => ∃ k : Nat, v12 = .int .i64 k ∧ k ≤ n ∧ v11 = .int .i64 ((s.size : Int) + (bytesTo N k : Nat))) (fun _ v12 => n - (intOf v12).toNat)
          case atStart => exact ⟨0, rfl, by omega, by simp [bytesTo]⟩
          case round =>
            obtain ⟨k, rfl, hk', rfl⟩ := hrel
            by_cases hlt : k < n
            · have hltz : (k : Int) < n := by omega
              obtain ⟨b', o', e', -, -, -, -, -, t50⟩ := node_told V.out.doc.1.1 hlt
              obtain ⟨rfl, rfl⟩ : b = b' ∧ off = o' := by
                simp only [Option.some.injEq, Addr.mk.injEq, and_true] at e'
                exact e'
              unfold newDoc at t50
              have mo := MO.out k hlt
              have BY2 : Hid ((bytesTo N k : Int) + (N k).text.length = (bytesTo N (k + 1) : Nat)) := Lib.hid (by show _ = ((bytesTo N k + (N k).text.length : Nat) : Int); omega)
              generalize hY2 : bytesTo N (k + 1) = y2 at BY2
              have HY2 := Lib.hid hY2
              clear hY2
              generalize (N k).text = T at t50 mo BY2
              clear e'
              go_wp2_with fail
              go_round
              case rel => exact ⟨k + 1, by go_num, by omega, by rw [HY2.out, ← BY2.out, Int.add_assoc]⟩
              case measure => simp [intOf]; omega
            · obtain rfl : k = n := by omega
              go_wp2_with fail
              go_ret
              exact ⟨by simp, BW.out⟩
        · obtain rfl := ha
          have hn' := hb.trans ((newDoc_below w5 none 0 0 0).mono hb.size)
          replace V := Lib.hid (V.out.next hn')
          replace BW := Lib.hid (BW.out.trans (hn'.mono BW.out.size))
          have NV := Lib.hid (newDoc_var (W := w5) (A := none) (n := 0) (c := 0) (x := 0) (N := N) ⟨⟨Nodes.zero _ _ _, fun _ => ⟨rfl, rfl⟩, ⟨by omega, by omega⟩, by omega⟩, by omega, by omega⟩)
          clear hb hn'
          unfold docV
          obtain ⟨-, c0, c1, -⟩ := V.out
          obtain ⟨-, a0, a1, -⟩ := NV.out
          unfold newDoc at c0 c1 a0 a1
          obtain ⟨b, off, rfl, -, -, t1, t2, t3, -⟩ := node_told V.out.doc.1.1 hu
          unfold newDoc at t1 t2 t3
          rw [ku] at t2
          obtain ⟨dpt, hdd⟩ : ∃ d, (N u).depth = d := ⟨_, rfl⟩
          obtain ⟨dsp, hpp⟩ : ∃ d, dispOf (N u) = d := ⟨_, rfl⟩
          rw [hdd] at t1
          rw [hpp] at t3
          have HD := Lib.hid hdd
          have HP := Lib.hid hpp
          clear hdd hpp
          go_wp2_with fail
          go_loop [11, 12] (fun v11 v12 => ∃ k : Nat, v12 = .int .i64 k ∧ k ≤ n ∧ v11 = .int .i64 ((s.size : Int) + (bytesTo N k : Nat))) (fun _ v12 => n - (intOf v12).toNat)
          case atStart => exact ⟨0, rfl, by omega, by simp [bytesTo]⟩
          case round =>
            obtain ⟨k, rfl, hk', rfl⟩ := hrel
            by_cases hlt : k < n
            · have hltz : (k : Int) < n := by omega
              obtain ⟨b', o', e', -, -, -, -, -, t50⟩ := node_told V.out.doc.1.1 hlt
              obtain ⟨rfl, rfl⟩ : b = b' ∧ off = o' := by
                simp only [Option.some.injEq, Addr.mk.injEq, and_true] at e'
                exact e'
              unfold newDoc at t50
              have mo := MO.out k hlt
              have BY2 : Hid ((bytesTo N k : Int) + (N k).text.length = (bytesTo N (k + 1) : Nat)) := Lib.hid (by show _ = ((bytesTo N k + (N k).text.length : Nat) : Int); omega)
              generalize hY2 : bytesTo N (k + 1) = y2 at BY2
              have HY2 := Lib.hid hY2
              clear hY2
              generalize (N k).text = T at t50 mo BY2
              clear e'
              go_wp2_with fail
              go_round
              case rel => exact ⟨k + 1, by go_num, by omega, by rw [HY2.out, ← BY2.out, Int.add_assoc]⟩
              case measure => simp [intOf]; omega
            · obtain rfl : k = n := by omega
              have HF := Lib.hid hf
              clear hf MO
              by_cases g1 : dsp = 2
              · subst g1
                go_wp2_with fail
                go_ret
                exact ⟨rfl, BW.out⟩
              · have g1' : (dsp == 2) = false := by simpa using g1
                have g1'' : (dsp != 2) = true := by simpa using g1
                by_cases g2 : s.size ≤ 200
                · have g2' : (s.size : Int) ≤ 200 := by omega
                  by_cases g3 : s.size + bytesTo N k ≤ 1500
                  · have g3' : (s.size : Int) + (bytesTo N k : Nat) ≤ 1500 := by omega
                    by_cases g4 : dpt < 15
                    · have g4' : dpt < 15 := by omega
                      by_cases g5 : k < 300
                      · have g5' : (k : Int) < 300 := by omega
                        by_cases g6 : x ≤ 1073741824
                        · have g6' : x ≤ 1073741824 := by omega
                          exact absurd ⟨by rw [HP.out]; exact g1, by simpa using g2, by simp; omega, by rw [HD.out]; exact g4, g5, g6⟩ HF.out
                        · have g6' : ¬ (x ≤ 1073741824) := by omega
                          go_wp2_with fail
                          go_ret
                          exact ⟨rfl, BW.out⟩
                      · have g5' : ¬ ((k : Int) < 300) := by omega
                        go_wp2_with fail
                        go_ret
                        exact ⟨rfl, BW.out⟩
                    · have g4' : ¬ (dpt < 15) := by omega
                      go_wp2_with fail
                      go_ret
                      exact ⟨rfl, BW.out⟩
                  · have g3' : ¬ ((s.size : Int) + (bytesTo N k : Nat) ≤ 1500) := by omega
                    go_wp2_with fail
                    go_ret
                    exact ⟨rfl, BW.out⟩
                · have g2' : ¬ ((s.size : Int) ≤ 200) := by omega
                  go_wp2_with fail
                  go_ret
                  exact ⟨rfl, BW.out⟩
      · have hl' : 5000 < (s.size : Int) := by omega
        go_wp2_with fail
        go_ret
        exact ⟨rfl, BW.out⟩
theorem walkMutateFull (a0 : Option Addr) (len0 cap0 : Nat) (x0 : Int) (z0 : Nat → RN) (a1 : Int) (a2 : ByteArray) (w : World) (w0 : DocIn w a0 len0 cap0 x0 z0) (w1 : (Lit.int .i64 a1).wf = true) (w2 : a2.size ≤ maxLen) :
    Calls Try.prog 7 #[docV a0 len0 cap0 x0, .int .i64 a1, .string a2] w fun e w' => e = .returned (.bool true) ∧ Below w.heap.size w w' :=
  full7 sty_none not_odd7 apply_any mutMay_any a0 len0 cap0 x0 z0 a1 a2 w w0 (int64_in7 w1) (by unfold maxLen at w2; omega)
end Go.Proofs.Ytmodegkpfdlccaa
