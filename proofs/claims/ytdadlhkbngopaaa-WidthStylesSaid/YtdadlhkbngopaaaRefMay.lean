/-
  What the document's May answers.
-/
import Derived.Test.YtdadlhkbngopaaaMayMath
import Derived.Test.YtdadlhkbngopaaaRefAsk6
import Derived.Deep.Cut
namespace Go.Proofs.Ytdadlhkbngopaaa
open Go.RowKit

theorem len_wide {K N : Int} : LenMay ⟨K, N⟩ (-274877906944) ↔ LenMay ⟨K, N⟩ 0 ∨ K = 1 ∧ N < 0 ∧ -274877906944 ≤ N := by
  unfold LenMay; dsimp only; omega
set_option maxRecDepth 100000 in
set_option maxHeartbeats 16000000 in
theorem refMay_any (s : RS) (hs : s.ok) (w : World) (r : Bool) (hr : mayB s = r) :
    Calls Try.prog 22 #[.agg s.cells.toArray] w fun e w' => e = .returned (.bool r) ∧ Below w.heap.size w w' := by
  have BX := Lib.hid (Box27.new w s.cells.toArray)
  have RI : Hid (r = true ↔ MayS s) := Lib.hid (by rw [← hr]; exact may_iff s hs)
  have RN : Hid (¬ MayS s → r = false) := Lib.hid (fun h => by rw [Bool.eq_false_iff]; exact fun e => h (RI.out.1 e))
  have x0 : Hid (s.cells.toArray[0]? = some (.int .u8 s.display)) := Lib.hid rfl
  have x33 : Hid (s.cells.toArray[33]? = some (.int .u8 s.ws)) := Lib.hid rfl
  have x35 : Hid (s.cells.toArray[35]? = some (.int .u8 s.valign)) := Lib.hid rfl
  have x36 : Hid (s.cells.toArray[36]? = some (.int .u8 s.dir)) := Lib.hid rfl
  have x34 : Hid (s.cells.toArray[34]? = some (.int .u8 s.lines)) := Lib.hid rfl
  have x39 : Hid (s.cells.toArray[39]? = some (.int .u8 s.align)) := Lib.hid rfl
  have x37 : Hid (s.cells.toArray[37]? = some (.int .u8 s.justify)) := Lib.hid rfl
  have x2 : Hid (s.cells.toArray[2]? = some (.int .u8 s.width.kind)) := Lib.hid rfl
  have x3 : Hid (s.cells.toArray[3]? = some (.int .i64 s.width.n)) := Lib.hid rfl
  have x4 : Hid (s.cells.toArray[4]? = some (.int .u8 s.minW.kind)) := Lib.hid rfl
  have x5 : Hid (s.cells.toArray[5]? = some (.int .i64 s.minW.n)) := Lib.hid rfl
  have x6 : Hid (s.cells.toArray[6]? = some (.int .u8 s.maxW.kind)) := Lib.hid rfl
  have x7 : Hid (s.cells.toArray[7]? = some (.int .i64 s.maxW.n)) := Lib.hid rfl
  have x44 : Hid (s.cells.toArray[44]? = some (.int .u8 s.basis.kind)) := Lib.hid rfl
  have x45 : Hid (s.cells.toArray[45]? = some (.int .i64 s.basis.n)) := Lib.hid rfl
  have x8 : Hid (s.cells.toArray[8]? = some (.int .u8 s.height.kind)) := Lib.hid rfl
  have x9 : Hid (s.cells.toArray[9]? = some (.int .i64 s.height.n)) := Lib.hid rfl
  have x10 : Hid (s.cells.toArray[10]? = some (.int .u8 s.minH.kind)) := Lib.hid rfl
  have x11 : Hid (s.cells.toArray[11]? = some (.int .i64 s.minH.n)) := Lib.hid rfl
  have x12 : Hid (s.cells.toArray[12]? = some (.int .u8 s.maxH.kind)) := Lib.hid rfl
  have x13 : Hid (s.cells.toArray[13]? = some (.int .i64 s.maxH.n)) := Lib.hid rfl
  have x40 : Hid (s.cells.toArray[40]? = some (.int .i64 s.gap)) := Lib.hid rfl
  have x41 : Hid (s.cells.toArray[41]? = some (.int .i64 s.lineGap)) := Lib.hid rfl
  have x30 : Hid (s.cells.toArray[30]? = some (.int .i64 s.offX)) := Lib.hid rfl
  have x31 : Hid (s.cells.toArray[31]? = some (.int .i64 s.offY)) := Lib.hid rfl
  have x32 : Hid (s.cells.toArray[32]? = some (.int .i64 s.font)) := Lib.hid rfl
  have x42 : Hid (s.cells.toArray[42]? = some (.int .i64 s.grow)) := Lib.hid rfl
  have x43 : Hid (s.cells.toArray[43]? = some (.int .i64 s.shrink)) := Lib.hid rfl
  have x46 : Hid (s.cells.toArray[46]? = some (.int .i64 s.order)) := Lib.hid rfl
  have xm : Hid (∀ i, i < 4 → s.cells.toArray[14 + i * 2]? = some (.int .u8 (s.margin i).kind) ∧ s.cells.toArray[14 + i * 2 + 1]? = some (.int .i64 (s.margin i).n) ∧ s.cells.toArray[22 + i]? = some (.int .i64 (s.pad i)) ∧ s.cells.toArray[26 + i]? = some (.int .i64 (s.bord i))) := Lib.hid (fun i hi => by
    obtain rfl | rfl | rfl | rfl : i = 0 ∨ i = 1 ∨ i = 2 ∨ i = 3 := by omega
    all_goals exact ⟨rfl, rfl, rfl, rfl⟩)
  have OM := Lib.hid hs.margin
  obtain ⟨b1, hb1⟩ : ∃ b, decide (2 < s.display ∨ 2 < s.ws ∨ 2 < s.valign ∨ 3 < s.dir) = b := ⟨_, rfl⟩
  have Fb1 : Hid ((2 < s.display ∨ 2 < s.ws ∨ 2 < s.valign ∨ 3 < s.dir) → b1 = true) := Lib.hid (fun h => by rw [← hb1]; exact decide_eq_true h)
  have Nb1 : Hid (¬ (2 < s.display ∨ 2 < s.ws ∨ 2 < s.valign ∨ 3 < s.dir) → b1 = false) := Lib.hid (fun h => by rw [← hb1]; exact decide_eq_false h)
  have Tb1 : Hid (b1 = true → r = false) := Lib.hid (fun h => RN.out fun m => m.d1 (of_decide_eq_true (hb1.trans h)))
  have Gb1 : Hid (b1 = false → ¬ (2 < s.display ∨ 2 < s.ws ∨ 2 < s.valign ∨ 3 < s.dir)) := Lib.hid (fun h => of_decide_eq_false (hb1.trans h))
  clear hb1
  obtain ⟨b3, hb3⟩ : ∃ b, decide (s.lines ≠ 0 ∧ s.lines ≠ 1 ∧ s.lines ≠ 2) = b := ⟨_, rfl⟩
  have Fb3 : Hid ((s.lines ≠ 0 ∧ s.lines ≠ 1 ∧ s.lines ≠ 2) → b3 = true) := Lib.hid (fun h => by rw [← hb3]; exact decide_eq_true h)
  have Nb3 : Hid (¬ (s.lines ≠ 0 ∧ s.lines ≠ 1 ∧ s.lines ≠ 2) → b3 = false) := Lib.hid (fun h => by rw [← hb3]; exact decide_eq_false h)
  have Tb3 : Hid (b3 = true → r = false) := Lib.hid (fun h => RN.out fun m => m.d3 (of_decide_eq_true (hb3.trans h)))
  have Gb3 : Hid (b3 = false → ¬ (s.lines ≠ 0 ∧ s.lines ≠ 1 ∧ s.lines ≠ 2)) := Lib.hid (fun h => of_decide_eq_false (hb3.trans h))
  clear hb3
  obtain ⟨b5, hb5⟩ : ∃ b, decide (s.align ≠ 0 ∧ s.align ≠ 1 ∧ s.align ≠ 2 ∧ s.align ≠ 5) = b := ⟨_, rfl⟩
  have Fb5 : Hid ((s.align ≠ 0 ∧ s.align ≠ 1 ∧ s.align ≠ 2 ∧ s.align ≠ 5) → b5 = true) := Lib.hid (fun h => by rw [← hb5]; exact decide_eq_true h)
  have Nb5 : Hid (¬ (s.align ≠ 0 ∧ s.align ≠ 1 ∧ s.align ≠ 2 ∧ s.align ≠ 5) → b5 = false) := Lib.hid (fun h => by rw [← hb5]; exact decide_eq_false h)
  have Tb5 : Hid (b5 = true → r = false) := Lib.hid (fun h => RN.out fun m => m.d5 (of_decide_eq_true (hb5.trans h)))
  have Gb5 : Hid (b5 = false → ¬ (s.align ≠ 0 ∧ s.align ≠ 1 ∧ s.align ≠ 2 ∧ s.align ≠ 5)) := Lib.hid (fun h => of_decide_eq_false (hb5.trans h))
  clear hb5
  obtain ⟨b7, hb7⟩ : ∃ b, decide (s.justify ≠ 0 ∧ s.justify ≠ 1 ∧ s.justify ≠ 2 ∧ s.justify ≠ 3 ∧ s.justify ≠ 4) = b := ⟨_, rfl⟩
  have Fb7 : Hid ((s.justify ≠ 0 ∧ s.justify ≠ 1 ∧ s.justify ≠ 2 ∧ s.justify ≠ 3 ∧ s.justify ≠ 4) → b7 = true) := Lib.hid (fun h => by rw [← hb7]; exact decide_eq_true h)
  have Nb7 : Hid (¬ (s.justify ≠ 0 ∧ s.justify ≠ 1 ∧ s.justify ≠ 2 ∧ s.justify ≠ 3 ∧ s.justify ≠ 4) → b7 = false) := Lib.hid (fun h => by rw [← hb7]; exact decide_eq_false h)
  have Tb7 : Hid (b7 = true → r = false) := Lib.hid (fun h => RN.out fun m => m.d7 (of_decide_eq_true (hb7.trans h)))
  have Gb7 : Hid (b7 = false → ¬ (s.justify ≠ 0 ∧ s.justify ≠ 1 ∧ s.justify ≠ 2 ∧ s.justify ≠ 3 ∧ s.justify ≠ 4)) := Lib.hid (fun h => of_decide_eq_false (hb7.trans h))
  clear hb7
  obtain ⟨b11, hb11⟩ : ∃ b, decide (s.height.kind = 2 ∨ s.minH.kind = 2 ∨ s.maxH.kind = 2) = b := ⟨_, rfl⟩
  have Fb11 : Hid ((s.height.kind = 2 ∨ s.minH.kind = 2 ∨ s.maxH.kind = 2) → b11 = true) := Lib.hid (fun h => by rw [← hb11]; exact decide_eq_true h)
  have Nb11 : Hid (¬ (s.height.kind = 2 ∨ s.minH.kind = 2 ∨ s.maxH.kind = 2) → b11 = false) := Lib.hid (fun h => by rw [← hb11]; exact decide_eq_false h)
  have Tb11 : Hid (b11 = true → r = false) := Lib.hid (fun h => RN.out fun m => m.d11 (of_decide_eq_true (hb11.trans h)))
  have Gb11 : Hid (b11 = false → ¬ (s.height.kind = 2 ∨ s.minH.kind = 2 ∨ s.maxH.kind = 2)) := Lib.hid (fun h => of_decide_eq_false (hb11.trans h))
  clear hb11
  obtain ⟨l0, hl0⟩ : ∃ b, lenB ⟨s.width.kind, s.width.n⟩ 0 = b := ⟨_, rfl⟩
  have C0 := Lib.hid (fun W => refLength_at s.width.kind s.width.n W hs.width l0 hl0)
  have T0 : Hid (l0 = false → r = false) := Lib.hid (fun h => RN.out fun m => of_decide_eq_false (hl0.trans h) m.d9.1)
  have G0 : Hid (l0 = true → LenMay s.width 0) := Lib.hid (fun h => of_decide_eq_true (hl0.trans h))
  clear hl0
  obtain ⟨l1, hl1⟩ : ∃ b, lenB ⟨s.minW.kind, s.minW.n⟩ 0 = b := ⟨_, rfl⟩
  have C1 := Lib.hid (fun W => refLength_at s.minW.kind s.minW.n W hs.minW l1 hl1)
  have T1 : Hid (l1 = false → r = false) := Lib.hid (fun h => RN.out fun m => of_decide_eq_false (hl1.trans h) m.d9.2.1)
  have G1 : Hid (l1 = true → LenMay s.minW 0) := Lib.hid (fun h => of_decide_eq_true (hl1.trans h))
  clear hl1
  obtain ⟨l2, hl2⟩ : ∃ b, lenB ⟨s.maxW.kind, s.maxW.n⟩ 0 = b := ⟨_, rfl⟩
  have C2 := Lib.hid (fun W => refLength_at s.maxW.kind s.maxW.n W hs.maxW l2 hl2)
  have T2 : Hid (l2 = false → r = false) := Lib.hid (fun h => RN.out fun m => of_decide_eq_false (hl2.trans h) m.d9.2.2.1)
  have G2 : Hid (l2 = true → LenMay s.maxW 0) := Lib.hid (fun h => of_decide_eq_true (hl2.trans h))
  clear hl2
  obtain ⟨l3, hl3⟩ : ∃ b, lenB ⟨s.basis.kind, s.basis.n⟩ 0 = b := ⟨_, rfl⟩
  have C3 := Lib.hid (fun W => refLength_at s.basis.kind s.basis.n W hs.basis l3 hl3)
  have T3 : Hid (l3 = false → r = false) := Lib.hid (fun h => RN.out fun m => of_decide_eq_false (hl3.trans h) m.d9.2.2.2.1)
  have G3 : Hid (l3 = true → LenMay s.basis 0) := Lib.hid (fun h => of_decide_eq_true (hl3.trans h))
  clear hl3
  obtain ⟨l4, hl4⟩ : ∃ b, lenB ⟨s.height.kind, s.height.n⟩ 0 = b := ⟨_, rfl⟩
  have C4 := Lib.hid (fun W => refLength_at s.height.kind s.height.n W hs.height l4 hl4)
  have T4 : Hid (l4 = false → r = false) := Lib.hid (fun h => RN.out fun m => of_decide_eq_false (hl4.trans h) m.d9.2.2.2.2.1)
  have G4 : Hid (l4 = true → LenMay s.height 0) := Lib.hid (fun h => of_decide_eq_true (hl4.trans h))
  clear hl4
  obtain ⟨l5, hl5⟩ : ∃ b, lenB ⟨s.minH.kind, s.minH.n⟩ 0 = b := ⟨_, rfl⟩
  have C5 := Lib.hid (fun W => refLength_at s.minH.kind s.minH.n W hs.minH l5 hl5)
  have T5 : Hid (l5 = false → r = false) := Lib.hid (fun h => RN.out fun m => of_decide_eq_false (hl5.trans h) m.d9.2.2.2.2.2.1)
  have G5 : Hid (l5 = true → LenMay s.minH 0) := Lib.hid (fun h => of_decide_eq_true (hl5.trans h))
  clear hl5
  obtain ⟨l6, hl6⟩ : ∃ b, lenB ⟨s.maxH.kind, s.maxH.n⟩ 0 = b := ⟨_, rfl⟩
  have C6 := Lib.hid (fun W => refLength_at s.maxH.kind s.maxH.n W hs.maxH l6 hl6)
  have T6 : Hid (l6 = false → r = false) := Lib.hid (fun h => RN.out fun m => of_decide_eq_false (hl6.trans h) m.d9.2.2.2.2.2.2)
  have G6 : Hid (l6 = true → LenMay s.maxH 0) := Lib.hid (fun h => of_decide_eq_true (hl6.trans h))
  clear hl6
  have RL_ : Hid (∀ i, i < 4 → ¬ (LenMay (s.margin i) (-274877906944) ∧ Side (s.pad i) ∧ Side (s.bord i)) → r = false) := Lib.hid (fun i hi h => RN.out fun m => h ⟨m.dm i hi, m.dp i hi, m.db i hi⟩)
  clear hr hs
  generalize s.cells.toArray = X at *
  have B0 : Hid (Below w.heap.size w (w.alloc (.cells X 27))) := Lib.hid ((Below.refl _ _).alloc (Nat.le_refl _) _)
  have Z0 : Hid (Box27 (w.alloc (.cells X 27)) w.heap.size X ∧ Below w.heap.size w (w.alloc (.cells X 27))) := Lib.hid ⟨BX.out, B0.out⟩
  have c0 := BX.out.cell x0.out
  have c33 := BX.out.cell x33.out
  have c35 := BX.out.cell x35.out
  have c36 := BX.out.cell x36.out
  go_enter Try.func22, Try.ntmps22
  go_upto_region 1 with fail
  go_cut [21] from 4 (fun c wx => c = .bool b1 ∧ wx = w.alloc (.cells X 27))
  case first =>
    as_aux_lemma =>
      by_cases h0 : 2 < s.display
      · have V : Hid (b1 = true) := Lib.hid (Fb1.out (by omega))
        go_wp2_with fail
        go_meet
        exact ⟨by rw [V.out], rfl⟩
      · by_cases h1 : 2 < s.ws
        · have V : Hid (b1 = true) := Lib.hid (Fb1.out (by omega))
          go_wp2_with fail
          go_meet
          exact ⟨by rw [V.out], rfl⟩
        · by_cases h2 : 2 < s.valign
          · have V : Hid (b1 = true) := Lib.hid (Fb1.out (by omega))
            go_wp2_with fail
            go_meet
            exact ⟨by rw [V.out], rfl⟩
          · by_cases h3 : 3 < s.dir
            · have V : Hid (b1 = true) := Lib.hid (Fb1.out (by omega))
              go_wp2_with fail
              go_meet
              exact ⟨by rw [V.out], rfl⟩
            · have V : Hid (b1 = false) := Lib.hid (Nb1.out (by omega))
              go_wp2_with fail
              go_meet
              exact ⟨by rw [V.out], rfl⟩
  case rest =>
    obtain ⟨rfl, rfl⟩ := hcut
    cases b1 with
    | true =>
      go_wp2_with fail
      go_ret
      exact ⟨by rw [Tb1.out (by trivial)]; rfl, B0.out⟩
    | false =>
      go_upto_region 3 with fail
      go_cut [34] from 22 (fun c wx => c = .bool b3 ∧ wx = w.alloc (.cells X 27))
      case first =>
        as_aux_lemma =>
          have c34 := BX.out.cell x34.out
          generalize s.lines = y at c34 Fb3 Nb3
          by_cases h0 : y = 0
          · have e0 : (y != 0) = false := by simp [h0]
            have V : Hid (b3 = false) := Lib.hid (Nb3.out (by omega))
            clear h0
            go_wp2_with fail
            go_meet
            exact ⟨by rw [V.out], rfl⟩
          · have e0 : (y != 0) = true := by simpa using h0
            by_cases h1 : y = 1
            · have e1 : (y != 1) = false := by simp [h1]
              have V : Hid (b3 = false) := Lib.hid (Nb3.out (by omega))
              clear h1
              go_wp2_with fail
              go_meet
              exact ⟨by rw [V.out], rfl⟩
            · have e1 : (y != 1) = true := by simpa using h1
              by_cases h2 : y = 2
              · have e2 : (y != 2) = false := by simp [h2]
                have V : Hid (b3 = false) := Lib.hid (Nb3.out (by omega))
                clear h2
                go_wp2_with fail
                go_meet
                exact ⟨by rw [V.out], rfl⟩
              · have e2 : (y != 2) = true := by simpa using h2
                have V : Hid (b3 = true) := Lib.hid (Fb3.out (by omega))
                go_wp2_with fail
                go_meet
                exact ⟨by rw [V.out], rfl⟩
      case rest =>
        obtain ⟨rfl, rfl⟩ := hcut
        cases b3 with
        | true =>
          go_wp2_with fail
          go_ret
          exact ⟨by rw [Tb3.out (by trivial)]; rfl, B0.out⟩
        | false =>
          go_upto_region 5 with fail
          go_cut [52] from 35 (fun c wx => c = .bool b5 ∧ wx = w.alloc (.cells X 27))
          case first =>
            as_aux_lemma =>
              have c39 := BX.out.cell x39.out
              generalize s.align = y at c39 Fb5 Nb5
              by_cases h0 : y = 0
              · have e0 : (y != 0) = false := by simp [h0]
                have V : Hid (b5 = false) := Lib.hid (Nb5.out (by omega))
                clear h0
                go_wp2_with fail
                go_meet
                exact ⟨by rw [V.out], rfl⟩
              · have e0 : (y != 0) = true := by simpa using h0
                by_cases h1 : y = 1
                · have e1 : (y != 1) = false := by simp [h1]
                  have V : Hid (b5 = false) := Lib.hid (Nb5.out (by omega))
                  clear h1
                  go_wp2_with fail
                  go_meet
                  exact ⟨by rw [V.out], rfl⟩
                · have e1 : (y != 1) = true := by simpa using h1
                  by_cases h2 : y = 2
                  · have e2 : (y != 2) = false := by simp [h2]
                    have V : Hid (b5 = false) := Lib.hid (Nb5.out (by omega))
                    clear h2
                    go_wp2_with fail
                    go_meet
                    exact ⟨by rw [V.out], rfl⟩
                  · have e2 : (y != 2) = true := by simpa using h2
                    by_cases h3 : y = 5
                    · have e3 : (y != 5) = false := by simp [h3]
                      have V : Hid (b5 = false) := Lib.hid (Nb5.out (by omega))
                      clear h3
                      go_wp2_with fail
                      go_meet
                      exact ⟨by rw [V.out], rfl⟩
                    · have e3 : (y != 5) = true := by simpa using h3
                      have V : Hid (b5 = true) := Lib.hid (Fb5.out (by omega))
                      go_wp2_with fail
                      go_meet
                      exact ⟨by rw [V.out], rfl⟩
          case rest =>
            obtain ⟨rfl, rfl⟩ := hcut
            cases b5 with
            | true =>
              go_wp2_with fail
              go_ret
              exact ⟨by rw [Tb5.out (by trivial)]; rfl, B0.out⟩
            | false =>
              go_upto_region 7 with fail
              go_cut [75] from 53 (fun c wx => c = .bool b7 ∧ wx = w.alloc (.cells X 27))
              case first =>
                as_aux_lemma =>
                  have c37 := BX.out.cell x37.out
                  generalize s.justify = y at c37 Fb7 Nb7
                  by_cases h0 : y = 0
                  · have e0 : (y != 0) = false := by simp [h0]
                    have V : Hid (b7 = false) := Lib.hid (Nb7.out (by omega))
                    clear h0
                    go_wp2_with fail
                    go_meet
                    exact ⟨by rw [V.out], rfl⟩
                  · have e0 : (y != 0) = true := by simpa using h0
                    by_cases h1 : y = 1
                    · have e1 : (y != 1) = false := by simp [h1]
                      have V : Hid (b7 = false) := Lib.hid (Nb7.out (by omega))
                      clear h1
                      go_wp2_with fail
                      go_meet
                      exact ⟨by rw [V.out], rfl⟩
                    · have e1 : (y != 1) = true := by simpa using h1
                      by_cases h2 : y = 2
                      · have e2 : (y != 2) = false := by simp [h2]
                        have V : Hid (b7 = false) := Lib.hid (Nb7.out (by omega))
                        clear h2
                        go_wp2_with fail
                        go_meet
                        exact ⟨by rw [V.out], rfl⟩
                      · have e2 : (y != 2) = true := by simpa using h2
                        by_cases h3 : y = 3
                        · have e3 : (y != 3) = false := by simp [h3]
                          have V : Hid (b7 = false) := Lib.hid (Nb7.out (by omega))
                          clear h3
                          go_wp2_with fail
                          go_meet
                          exact ⟨by rw [V.out], rfl⟩
                        · have e3 : (y != 3) = true := by simpa using h3
                          by_cases h4 : y = 4
                          · have e4 : (y != 4) = false := by simp [h4]
                            have V : Hid (b7 = false) := Lib.hid (Nb7.out (by omega))
                            clear h4
                            go_wp2_with fail
                            go_meet
                            exact ⟨by rw [V.out], rfl⟩
                          · have e4 : (y != 4) = true := by simpa using h4
                            have V : Hid (b7 = true) := Lib.hid (Fb7.out (by omega))
                            go_wp2_with fail
                            go_meet
                            exact ⟨by rw [V.out], rfl⟩
              case rest =>
                obtain ⟨rfl, rfl⟩ := hcut
                cases b7 with
                | true =>
                  go_wp2_with fail
                  go_ret
                  exact ⟨by rw [Tb7.out (by trivial)]; rfl, B0.out⟩
                | false =>
                  go_upto_region 9 with fail
                  go_cut [115] from 76 (fun c wx => c = .bool (!(l0 && l1 && l2 && l3 && l4 && l5 && l6)) ∧ Box27 wx w.heap.size X ∧ Below w.heap.size w wx)
                  case first =>
                    as_aux_lemma =>
                      generalize s.width.kind = K0 at *
                      generalize s.width.n = N0 at *
                      generalize s.minW.kind = K1 at *
                      generalize s.minW.n = N1 at *
                      generalize s.maxW.kind = K2 at *
                      generalize s.maxW.n = N2 at *
                      generalize s.basis.kind = K3 at *
                      generalize s.basis.n = N3 at *
                      generalize s.height.kind = K4 at *
                      generalize s.height.n = N4 at *
                      generalize s.minH.kind = K5 at *
                      generalize s.minH.n = N5 at *
                      generalize s.maxH.kind = K6 at *
                      generalize s.maxH.n = N6 at *
                      have c2 := Z0.out.1.cell x2.out
                      have c3 := Z0.out.1.cell x3.out
                      go_wp2_with fail
                      refine (C0.out _).mono ?_
                      rintro e w1 ⟨rfl, hb1⟩
                      have Z1 : Hid (Box27 w1 w.heap.size X ∧ Below w.heap.size w w1) := Lib.hid ⟨Z0.out.1.below hb1, Z0.out.2.trans (hb1.mono Z0.out.2.size)⟩
                      clear hb1 c2 c3
                      cases l0 with
                      | false =>
                        go_wp2_with fail
                        go_meet
                        exact ⟨by simp, Z1.out⟩
                      | true =>
                        have c4 := Z1.out.1.cell x4.out
                        have c5 := Z1.out.1.cell x5.out
                        go_wp2_with fail
                        refine (C1.out _).mono ?_
                        rintro e w2 ⟨rfl, hb2⟩
                        have Z2 : Hid (Box27 w2 w.heap.size X ∧ Below w.heap.size w w2) := Lib.hid ⟨Z1.out.1.below hb2, Z1.out.2.trans (hb2.mono Z1.out.2.size)⟩
                        clear hb2 c4 c5
                        cases l1 with
                        | false =>
                          go_wp2_with fail
                          go_meet
                          exact ⟨by simp, Z2.out⟩
                        | true =>
                          have c6 := Z2.out.1.cell x6.out
                          have c7 := Z2.out.1.cell x7.out
                          go_wp2_with fail
                          refine (C2.out _).mono ?_
                          rintro e w3 ⟨rfl, hb3⟩
                          have Z3 : Hid (Box27 w3 w.heap.size X ∧ Below w.heap.size w w3) := Lib.hid ⟨Z2.out.1.below hb3, Z2.out.2.trans (hb3.mono Z2.out.2.size)⟩
                          clear hb3 c6 c7
                          cases l2 with
                          | false =>
                            go_wp2_with fail
                            go_meet
                            exact ⟨by simp, Z3.out⟩
                          | true =>
                            have c44 := Z3.out.1.cell x44.out
                            have c45 := Z3.out.1.cell x45.out
                            go_wp2_with fail
                            refine (C3.out _).mono ?_
                            rintro e w4 ⟨rfl, hb4⟩
                            have Z4 : Hid (Box27 w4 w.heap.size X ∧ Below w.heap.size w w4) := Lib.hid ⟨Z3.out.1.below hb4, Z3.out.2.trans (hb4.mono Z3.out.2.size)⟩
                            clear hb4 c44 c45
                            cases l3 with
                            | false =>
                              go_wp2_with fail
                              go_meet
                              exact ⟨by simp, Z4.out⟩
                            | true =>
                              have c8 := Z4.out.1.cell x8.out
                              have c9 := Z4.out.1.cell x9.out
                              go_wp2_with fail
                              refine (C4.out _).mono ?_
                              rintro e w5 ⟨rfl, hb5⟩
                              have Z5 : Hid (Box27 w5 w.heap.size X ∧ Below w.heap.size w w5) := Lib.hid ⟨Z4.out.1.below hb5, Z4.out.2.trans (hb5.mono Z4.out.2.size)⟩
                              clear hb5 c8 c9
                              cases l4 with
                              | false =>
                                go_wp2_with fail
                                go_meet
                                exact ⟨by simp, Z5.out⟩
                              | true =>
                                have c10 := Z5.out.1.cell x10.out
                                have c11 := Z5.out.1.cell x11.out
                                go_wp2_with fail
                                refine (C5.out _).mono ?_
                                rintro e w6 ⟨rfl, hb6⟩
                                have Z6 : Hid (Box27 w6 w.heap.size X ∧ Below w.heap.size w w6) := Lib.hid ⟨Z5.out.1.below hb6, Z5.out.2.trans (hb6.mono Z5.out.2.size)⟩
                                clear hb6 c10 c11
                                cases l5 with
                                | false =>
                                  go_wp2_with fail
                                  go_meet
                                  exact ⟨by simp, Z6.out⟩
                                | true =>
                                  have c12 := Z6.out.1.cell x12.out
                                  have c13 := Z6.out.1.cell x13.out
                                  go_wp2_with fail
                                  refine (C6.out _).mono ?_
                                  rintro e w7 ⟨rfl, hb7⟩
                                  have Z7 : Hid (Box27 w7 w.heap.size X ∧ Below w.heap.size w w7) := Lib.hid ⟨Z6.out.1.below hb7, Z6.out.2.trans (hb7.mono Z6.out.2.size)⟩
                                  clear hb7 c12 c13
                                  cases l6 with
                                  | false =>
                                    go_wp2_with fail
                                    go_meet
                                    exact ⟨by simp, Z7.out⟩
                                  | true =>
                                    go_wp2_with fail
                                    go_meet
                                    exact ⟨rfl, Z7.out⟩
                  case rest =>
                    obtain ⟨rfl, hZ⟩ := hcut
                    obtain ⟨wa, rfl⟩ : ∃ wo : World, wo = wc := ⟨_, rfl⟩
                    have ZA := Lib.hid hZ
                    clear hZ
                    by_cases hall : (l0 && l1 && l2 && l3 && l4 && l5 && l6) = true
                    case neg =>
                      have hall' : (!(l0 && l1 && l2 && l3 && l4 && l5 && l6)) = true := by rw [Bool.not_eq_true']; exact Bool.eq_false_iff.2 hall
                      have V : Hid (r = false) := Lib.hid (by
                        cases l0 with
                        | false => exact T0.out rfl
                        | true => cases l1 with
                          | false => exact T1.out rfl
                          | true => cases l2 with
                            | false => exact T2.out rfl
                            | true => cases l3 with
                              | false => exact T3.out rfl
                              | true => cases l4 with
                                | false => exact T4.out rfl
                                | true => cases l5 with
                                  | false => exact T5.out rfl
                                  | true => cases l6 with
                                    | false => exact T6.out rfl
                                    | true => exact absurd rfl hall)
                      clear hall
                      rw [hall']
                      go_wp2_with fail
                      go_ret
                      exact ⟨by rw [V.out]; rfl, ZA.out.2⟩
                    case pos =>
                      have hall' : (!(l0 && l1 && l2 && l3 && l4 && l5 && l6)) = false := by rw [hall]; rfl
                      rw [hall']
                      clear hall'
                      simp only [Bool.and_eq_true] at hall
                      have D9 := Lib.hid hall
                      clear hall
                      go_upto_region 11 with fail
                      go_cut [131] from 116 (fun c wx => c = .bool b11 ∧ wx = wa)
                      case first =>
                        as_aux_lemma =>
                          have c8 := ZA.out.1.cell x8.out
                          have c10 := ZA.out.1.cell x10.out
                          have c12 := ZA.out.1.cell x12.out
                          generalize s.height.kind = y0 at *
                          generalize s.minH.kind = y1 at *
                          generalize s.maxH.kind = y2 at *
                          by_cases h0 : y0 = 2
                          · have e0 : (y0 == 2) = true := by simpa using h0
                            have V : Hid (b11 = true) := Lib.hid (Fb11.out (.inl h0))
                            clear h0
                            go_wp2_with fail
                            go_meet
                            exact ⟨by rw [V.out], rfl⟩
                          · have e0 : (y0 == 2) = false := by simpa using h0
                            by_cases h1 : y1 = 2
                            · have e1 : (y1 == 2) = true := by simpa using h1
                              have V : Hid (b11 = true) := Lib.hid (Fb11.out (.inr (.inl h1)))
                              clear h0 h1
                              go_wp2_with fail
                              go_meet
                              exact ⟨by rw [V.out], rfl⟩
                            · have e1 : (y1 == 2) = false := by simpa using h1
                              by_cases h2 : y2 = 2
                              · have e2 : (y2 == 2) = true := by simpa using h2
                                have V : Hid (b11 = true) := Lib.hid (Fb11.out (.inr (.inr h2)))
                                clear h0 h1 h2
                                go_wp2_with fail
                                go_meet
                                exact ⟨by rw [V.out], rfl⟩
                              · have e2 : (y2 == 2) = false := by simpa using h2
                                have V : Hid (b11 = false) := Lib.hid (Nb11.out (by omega))
                                clear h0 h1 h2
                                go_wp2_with fail
                                go_meet
                                exact ⟨by rw [V.out], rfl⟩
                      case rest =>
                        obtain ⟨rfl, rfl⟩ := hcut
                        cases b11 with
                        | true =>
                          go_wp2_with fail
                          go_ret
                          exact ⟨by rw [Tb11.out (by trivial)]; rfl, ZA.out.2⟩
                        | false =>
                          go_wp2_with fail
                          go_loopw [3] (fun i wr => ∃ k : Nat, k ≤ 4 ∧ (∀ j, j < k → LenMay (s.margin j) (-274877906944) ∧ Side (s.pad j) ∧ Side (s.bord j)) ∧ Box27 wr w.heap.size X ∧ Below w.heap.size w wr ∧ i = .int .i64 k) (fun i _ => 4 - (intOf i).toNat)
                          case atStart => exact ⟨0, Nat.zero_le _, fun j hj => absurd hj (by omega), ZA.out.1, ZA.out.2, rfl⟩
                          case round =>
                            obtain ⟨k, hk, hall, hX, hB, rfl⟩ := hrel
                            have A := Lib.hid hall
                            have ZR : Hid (Box27 wr w.heap.size X ∧ Below w.heap.size w wr) := Lib.hid ⟨hX, hB⟩
                            clear hall hX hB
                            by_cases hlt : k < 4
                            · have RLk := Lib.hid (RL_.out k hlt)
                              have XK := Lib.hid (xm.out k hlt).1
                              have XN := Lib.hid (xm.out k hlt).2.1
                              have XP := Lib.hid (xm.out k hlt).2.2.1
                              have XQ := Lib.hid (xm.out k hlt).2.2.2
                              obtain ⟨m, hm⟩ : ∃ m, lenB ⟨(s.margin k).kind, (s.margin k).n⟩ 0 = m := ⟨_, rfl⟩
                              have CM := Lib.hid (fun W => refLength_at (s.margin k).kind (s.margin k).n W (OM.out k hlt) m hm)
                              obtain ⟨p, hp⟩ : ∃ p, decide (0 ≤ s.pad k ∧ s.pad k ≤ 274877906944) = p := ⟨_, rfl⟩
                              have CP := Lib.hid (fun W => natural_any (s.pad k) 274877906944 W p hp)
                              obtain ⟨q, hq⟩ : ∃ q, decide (0 ≤ s.bord k ∧ s.bord k ≤ 274877906944) = q := ⟨_, rfl⟩
                              have CQ := Lib.hid (fun W => natural_any (s.bord k) 274877906944 W q hq)
                              have HP : Hid (p = false → ¬ Side (s.pad k)) := Lib.hid (fun e => show ¬ (0 ≤ s.pad k ∧ s.pad k ≤ 274877906944) from of_decide_eq_false (hp.trans e))
                              have HQ : Hid (q = false → ¬ Side (s.bord k)) := Lib.hid (fun e => show ¬ (0 ≤ s.bord k ∧ s.bord k ≤ 274877906944) from of_decide_eq_false (hq.trans e))
                              have HP1 : Hid (p = true → Side (s.pad k)) := Lib.hid (fun e => show 0 ≤ s.pad k ∧ s.pad k ≤ 274877906944 from of_decide_eq_true (hp.trans e))
                              have HQ1 : Hid (q = true → Side (s.bord k)) := Lib.hid (fun e => show 0 ≤ s.bord k ∧ s.bord k ≤ 274877906944 from of_decide_eq_true (hq.trans e))
                              have AN : Hid (LenMay (s.margin k) (-274877906944) → Side (s.pad k) → Side (s.bord k) → ∀ j, j < k + 1 → LenMay (s.margin j) (-274877906944) ∧ Side (s.pad j) ∧ Side (s.bord j)) := Lib.hid (fun a b c j hj => by
                                by_cases e : j = k
                                · rw [e]; exact ⟨a, b, c⟩
                                · exact A.out j (by omega))
                              have HM : Hid (¬ (m = true ∨ (s.margin k).kind = 1 ∧ (s.margin k).n < 0 ∧ -274877906944 ≤ (s.margin k).n) → ¬ LenMay (s.margin k) (-274877906944)) := Lib.hid (fun h e => h (by
                                rcases len_wide.1 e with e | e
                                · exact .inl (by rw [← hm]; exact decide_eq_true e)
                                · exact .inr e))
                              have HM1 : Hid ((m = true ∨ (s.margin k).kind = 1 ∧ (s.margin k).n < 0 ∧ -274877906944 ≤ (s.margin k).n) → LenMay (s.margin k) (-274877906944)) := Lib.hid (fun h => by
                                refine len_wide.2 ?_
                                rcases h with e | e
                                · exact .inl (of_decide_eq_true (hm.trans e))
                                · exact .inr e)
                              clear hm hp hq
                              have c1 := ZR.out.1.cell XK.out
                              have c2 := ZR.out.1.cell XN.out
                              have c3 := ZR.out.1.cell XP.out
                              have c4 := ZR.out.1.cell XQ.out
                              generalize (s.margin k).kind = K at *
                              generalize (s.margin k).n = N at *
                              generalize s.pad k = P at *
                              generalize s.bord k = Q at *
                              go_wp2_with fail
                              refine (CM.out _).mono ?_
                              rintro e w1 ⟨rfl, hb1⟩
                              have Z1 : Hid (Box27 w1 w.heap.size X ∧ Below w.heap.size w w1) := Lib.hid ⟨ZR.out.1.below hb1, ZR.out.2.trans (hb1.mono ZR.out.2.size)⟩
                              clear hb1 c1 c2 c3 c4
                              have d1 := Z1.out.1.cell XK.out
                              have d2 := Z1.out.1.cell XN.out
                              have d3 := Z1.out.1.cell XP.out
                              have d4 := Z1.out.1.cell XQ.out
                              cases m with
                              | true =>
                                have MG := Lib.hid (HM1.out (.inl (by trivial)))
                                go_wp2_with fail
                                refine (CP.out _).mono ?_
                                rintro e w2 ⟨rfl, rfl⟩
                                cases p with
                                | false =>
                                  have V : Hid (r = false) := Lib.hid (RLk.out fun h => HP.out (by trivial) h.2.1)
                                  go_wp2_with fail
                                  go_ret
                                  exact ⟨by rw [V.out]; rfl, Z1.out.2⟩
                                | true =>
                                  go_wp2_with fail
                                  refine (CQ.out _).mono ?_
                                  rintro e w2 ⟨rfl, rfl⟩
                                  cases q with
                                  | false =>
                                    have V : Hid (r = false) := Lib.hid (RLk.out fun h => HQ.out (by trivial) h.2.2)
                                    go_wp2_with fail
                                    go_ret
                                    exact ⟨by rw [V.out]; rfl, Z1.out.2⟩
                                  | true =>
                                    have A1 := Lib.hid (AN.out MG.out (HP1.out (by trivial)) (HQ1.out (by trivial)))
                                    go_wp2_with fail
                                    go_roundw
                                    case rel => exact ⟨k + 1, by omega, A1.out, Z1.out.1, Z1.out.2, by go_num⟩
                                    case measure => simp [intOf]; omega
                              | false =>
                                by_cases h1 : K = 1
                                · have e1 : (K == 1) = true := by simpa using h1
                                  by_cases h2 : N < 0
                                  · by_cases h3 : -274877906944 ≤ N
                                    · have MG := Lib.hid (HM1.out (.inr ⟨h1, h2, h3⟩))
                                      clear h1
                                      go_wp2_with fail
                                      refine (CP.out _).mono ?_
                                      rintro e w2 ⟨rfl, rfl⟩
                                      cases p with
                                      | false =>
                                        have V : Hid (r = false) := Lib.hid (RLk.out fun h => HP.out (by trivial) h.2.1)
                                        go_wp2_with fail
                                        go_ret
                                        exact ⟨by rw [V.out]; rfl, Z1.out.2⟩
                                      | true =>
                                        go_wp2_with fail
                                        refine (CQ.out _).mono ?_
                                        rintro e w2 ⟨rfl, rfl⟩
                                        cases q with
                                        | false =>
                                          have V : Hid (r = false) := Lib.hid (RLk.out fun h => HQ.out (by trivial) h.2.2)
                                          go_wp2_with fail
                                          go_ret
                                          exact ⟨by rw [V.out]; rfl, Z1.out.2⟩
                                        | true =>
                                          have A1 := Lib.hid (AN.out MG.out (HP1.out (by trivial)) (HQ1.out (by trivial)))
                                          go_wp2_with fail
                                          go_roundw
                                          case rel => exact ⟨k + 1, by omega, A1.out, Z1.out.1, Z1.out.2, by go_num⟩
                                          case measure => simp [intOf]; omega
                                    · have e3 : decide (-274877906944 ≤ N) = false := decide_eq_false h3
                                      have e4 : N < -274877906944 := by omega
                                      have V : Hid (r = false) := Lib.hid (RLk.out fun h => HM.out (by simp; omega) h.1)
                                      clear h1
                                      go_wp2_with fail
                                      go_ret
                                      exact ⟨by rw [V.out]; rfl, Z1.out.2⟩
                                  · have V : Hid (r = false) := Lib.hid (RLk.out fun h => HM.out (by simp; omega) h.1)
                                    clear h1
                                    go_wp2_with fail
                                    go_ret
                                    exact ⟨by rw [V.out]; rfl, Z1.out.2⟩
                                · have e1 : (K == 1) = false := by simpa using h1
                                  have V : Hid (r = false) := Lib.hid (RLk.out fun h => HM.out (by simp; omega) h.1)
                                  clear h1
                                  go_wp2_with fail
                                  go_ret
                                  exact ⟨by rw [V.out]; rfl, Z1.out.2⟩
                            · have AA : Hid (∀ j, j < 4 → LenMay (s.margin j) (-274877906944) ∧ Side (s.pad j) ∧ Side (s.bord j)) := Lib.hid (fun j hj => A.out j (by omega))
                              clear A
                              have c40 := ZR.out.1.cell x40.out
                              obtain ⟨t0, ht0⟩ : ∃ b, decide (0 ≤ s.gap ∧ s.gap ≤ 274877906944) = b := ⟨_, rfl⟩
                              have C0 := Lib.hid (fun W => natural_any s.gap 274877906944 W t0 ht0)
                              have T0 : Hid (t0 = false → r = false) := Lib.hid (fun h => RN.out fun m => of_decide_eq_false (ht0.trans h) m.g1.1)
                              have G0_ : Hid (t0 = true → 0 ≤ s.gap ∧ s.gap ≤ 274877906944) := Lib.hid (fun h => of_decide_eq_true (ht0.trans h))
                              clear ht0
                              have c41 := ZR.out.1.cell x41.out
                              obtain ⟨t1, ht1⟩ : ∃ b, decide (0 ≤ s.lineGap ∧ s.lineGap ≤ 274877906944) = b := ⟨_, rfl⟩
                              have C1 := Lib.hid (fun W => natural_any s.lineGap 274877906944 W t1 ht1)
                              have T1 : Hid (t1 = false → r = false) := Lib.hid (fun h => RN.out fun m => of_decide_eq_false (ht1.trans h) m.g1.2)
                              have G1_ : Hid (t1 = true → 0 ≤ s.lineGap ∧ s.lineGap ≤ 274877906944) := Lib.hid (fun h => of_decide_eq_true (ht1.trans h))
                              clear ht1
                              have c30 := ZR.out.1.cell x30.out
                              obtain ⟨t2, ht2⟩ : ∃ b, decide (-274877906944 ≤ s.offX ∧ s.offX ≤ 274877906944) = b := ⟨_, rfl⟩
                              have C2 := Lib.hid (fun W => far_any s.offX 274877906944 (by omega) W t2 ht2)
                              have T2 : Hid (t2 = false → r = false) := Lib.hid (fun h => RN.out fun m => of_decide_eq_false (ht2.trans h) m.g2.1)
                              have G2_ : Hid (t2 = true → -274877906944 ≤ s.offX ∧ s.offX ≤ 274877906944) := Lib.hid (fun h => of_decide_eq_true (ht2.trans h))
                              clear ht2
                              have c31 := ZR.out.1.cell x31.out
                              obtain ⟨t3, ht3⟩ : ∃ b, decide (-274877906944 ≤ s.offY ∧ s.offY ≤ 274877906944) = b := ⟨_, rfl⟩
                              have C3 := Lib.hid (fun W => far_any s.offY 274877906944 (by omega) W t3 ht3)
                              have T3 : Hid (t3 = false → r = false) := Lib.hid (fun h => RN.out fun m => of_decide_eq_false (ht3.trans h) m.g2.2)
                              have G3_ : Hid (t3 = true → -274877906944 ≤ s.offY ∧ s.offY ≤ 274877906944) := Lib.hid (fun h => of_decide_eq_true (ht3.trans h))
                              clear ht3
                              have c32 := ZR.out.1.cell x32.out
                              obtain ⟨t4, ht4⟩ : ∃ b, decide (0 ≤ s.font ∧ s.font ≤ 1000) = b := ⟨_, rfl⟩
                              have C4 := Lib.hid (fun W => natural_any s.font 1000 W t4 ht4)
                              have T4 : Hid (t4 = false → r = false) := Lib.hid (fun h => RN.out fun m => of_decide_eq_false (ht4.trans h) m.g3)
                              have G4_ : Hid (t4 = true → 0 ≤ s.font ∧ s.font ≤ 1000) := Lib.hid (fun h => of_decide_eq_true (ht4.trans h))
                              clear ht4
                              have c42 := ZR.out.1.cell x42.out
                              obtain ⟨t5, ht5⟩ : ∃ b, decide (0 ≤ s.grow ∧ s.grow ≤ 1000) = b := ⟨_, rfl⟩
                              have C5 := Lib.hid (fun W => natural_any s.grow 1000 W t5 ht5)
                              have T5 : Hid (t5 = false → r = false) := Lib.hid (fun h => RN.out fun m => of_decide_eq_false (ht5.trans h) m.g4.1)
                              have G5_ : Hid (t5 = true → 0 ≤ s.grow ∧ s.grow ≤ 1000) := Lib.hid (fun h => of_decide_eq_true (ht5.trans h))
                              clear ht5
                              have c43 := ZR.out.1.cell x43.out
                              obtain ⟨t6, ht6⟩ : ∃ b, decide (0 ≤ s.shrink ∧ s.shrink ≤ 1000) = b := ⟨_, rfl⟩
                              have C6 := Lib.hid (fun W => natural_any s.shrink 1000 W t6 ht6)
                              have T6 : Hid (t6 = false → r = false) := Lib.hid (fun h => RN.out fun m => of_decide_eq_false (ht6.trans h) m.g4.2)
                              have G6_ : Hid (t6 = true → 0 ≤ s.shrink ∧ s.shrink ≤ 1000) := Lib.hid (fun h => of_decide_eq_true (ht6.trans h))
                              clear ht6
                              have c46 := ZR.out.1.cell x46.out
                              obtain ⟨t7, ht7⟩ : ∃ b, decide (-1000 ≤ s.order ∧ s.order ≤ 1000) = b := ⟨_, rfl⟩
                              have C7 := Lib.hid (fun W => far_any s.order 1000 (by omega) W t7 ht7)
                              have T7 : Hid (t7 = false → r = false) := Lib.hid (fun h => RN.out fun m => of_decide_eq_false (ht7.trans h) m.g5)
                              have G7_ : Hid (t7 = true → -1000 ≤ s.order ∧ s.order ≤ 1000) := Lib.hid (fun h => of_decide_eq_true (ht7.trans h))
                              clear ht7
                              have FIN : Hid ((0 ≤ s.gap ∧ s.gap ≤ 274877906944) → (0 ≤ s.lineGap ∧ s.lineGap ≤ 274877906944) → (-274877906944 ≤ s.offX ∧ s.offX ≤ 274877906944) → (-274877906944 ≤ s.offY ∧ s.offY ≤ 274877906944) → (0 ≤ s.font ∧ s.font ≤ 1000) → (0 ≤ s.grow ∧ s.grow ≤ 1000) → (0 ≤ s.shrink ∧ s.shrink ≤ 1000) → (-1000 ≤ s.order ∧ s.order ≤ 1000) → r = true) := Lib.hid (fun a b c d e f g h => RI.out.2
                                ⟨Gb1.out (by trivial), Gb3.out (by trivial), Gb5.out (by trivial), Gb7.out (by trivial), ⟨G0.out D9.out.1.1.1.1.1.1, G1.out D9.out.1.1.1.1.1.2, G2.out D9.out.1.1.1.1.2, G3.out D9.out.1.1.1.2, G4.out D9.out.1.1.2, G5.out D9.out.1.2, G6.out D9.out.2⟩, Gb11.out (by trivial),
                                  fun i hi => (AA.out i hi).1, fun i hi => (AA.out i hi).2.1, fun i hi => (AA.out i hi).2.2, ⟨a, b⟩, ⟨c, d⟩, e, ⟨f, g⟩, h⟩)
                              generalize s.gap = v0 at *
                              generalize s.lineGap = v1 at *
                              generalize s.offX = v2 at *
                              generalize s.offY = v3 at *
                              generalize s.font = v4 at *
                              generalize s.grow = v5 at *
                              generalize s.shrink = v6 at *
                              generalize s.order = v7 at *
                              go_wp2_with fail
                              refine (C0.out _).mono ?_
                              rintro e w2 ⟨rfl, rfl⟩
                              cases t0 with
                              | false =>
                                have V := Lib.hid (T0.out (by trivial))
                                go_wp2_with fail
                                go_ret
                                exact ⟨by rw [V.out]; rfl, ZR.out.2⟩
                              | true =>
                                go_wp2_with fail
                                refine (C1.out _).mono ?_
                                rintro e w2 ⟨rfl, rfl⟩
                                cases t1 with
                                | false =>
                                  have V := Lib.hid (T1.out (by trivial))
                                  go_wp2_with fail
                                  go_ret
                                  exact ⟨by rw [V.out]; rfl, ZR.out.2⟩
                                | true =>
                                  go_wp2_with fail
                                  refine (C2.out _).mono ?_
                                  rintro e w2 ⟨rfl, rfl⟩
                                  cases t2 with
                                  | false =>
                                    have V := Lib.hid (T2.out (by trivial))
                                    go_wp2_with fail
                                    go_ret
                                    exact ⟨by rw [V.out]; rfl, ZR.out.2⟩
                                  | true =>
                                    go_wp2_with fail
                                    refine (C3.out _).mono ?_
                                    rintro e w2 ⟨rfl, rfl⟩
                                    cases t3 with
                                    | false =>
                                      have V := Lib.hid (T3.out (by trivial))
                                      go_wp2_with fail
                                      go_ret
                                      exact ⟨by rw [V.out]; rfl, ZR.out.2⟩
                                    | true =>
                                      go_wp2_with fail
                                      refine (C4.out _).mono ?_
                                      rintro e w2 ⟨rfl, rfl⟩
                                      cases t4 with
                                      | false =>
                                        have V := Lib.hid (T4.out (by trivial))
                                        go_wp2_with fail
                                        go_ret
                                        exact ⟨by rw [V.out]; rfl, ZR.out.2⟩
                                      | true =>
                                        go_wp2_with fail
                                        refine (C5.out _).mono ?_
                                        rintro e w2 ⟨rfl, rfl⟩
                                        cases t5 with
                                        | false =>
                                          have V := Lib.hid (T5.out (by trivial))
                                          go_wp2_with fail
                                          go_ret
                                          exact ⟨by rw [V.out]; rfl, ZR.out.2⟩
                                        | true =>
                                          go_wp2_with fail
                                          refine (C6.out _).mono ?_
                                          rintro e w2 ⟨rfl, rfl⟩
                                          cases t6 with
                                          | false =>
                                            have V := Lib.hid (T6.out (by trivial))
                                            go_wp2_with fail
                                            go_ret
                                            exact ⟨by rw [V.out]; rfl, ZR.out.2⟩
                                          | true =>
                                            go_wp2_with fail
                                            refine (C7.out _).mono ?_
                                            rintro e w2 ⟨rfl, rfl⟩
                                            cases t7 with
                                            | false =>
                                              have V := Lib.hid (T7.out (by trivial))
                                              go_wp2_with fail
                                              go_ret
                                              exact ⟨by rw [V.out]; rfl, ZR.out.2⟩
                                            | true =>
                                              have V := Lib.hid (FIN.out (G0_.out (by trivial)) (G1_.out (by trivial)) (G2_.out (by trivial)) (G3_.out (by trivial)) (G4_.out (by trivial)) (G5_.out (by trivial)) (G6_.out (by trivial)) (G7_.out (by trivial)))
                                              go_wp2_with fail
                                              go_ret
                                              exact ⟨by rw [V.out]; rfl, ZR.out.2⟩
end Go.Proofs.Ytdadlhkbngopaaa
