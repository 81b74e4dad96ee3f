/-
  The document's Width, Height, Widths, Heights.
-/
import Derived.Test.YtdadlhkbngopaaaRefMay
import Derived.Test.YtdadlhkbngopaaaStyleWidth
import Derived.Test.YtdadlhkbngopaaaStyleBetween
namespace Go.Proofs.Ytdadlhkbngopaaa
open Go.RowKit

set_option maxRecDepth 100000 in
set_option maxHeartbeats 4000000 in
theorem refWidth_any (s : RS) (hs : s.ok) (x : Int) (w : World) (p : Told3) (hp : widthR s x = p) :
    Calls Try.prog 24 #[.agg s.cells.toArray, .int .i64 x] w fun e w' => e = .returned (.tuple #[.int .i64 p.1, .bool p.2.1, .int .i64 p.2.2]) ∧ Below w.heap.size w w' := by
  have BX := Lib.hid (Box27.new w s.cells.toArray)
  have SZ : Hid ((Try.prog.info? 27).map (·.size) = some s.cells.toArray.size) := Lib.hid style_size
  by_cases hm : mayB s = true
  · have E := Lib.hid (fun W => refMay_any s hs W true hm)
    have D := Lib.hid (fun W => refEdges_any s hm W _ _ rfl rfl)
    have C := Lib.hid (fun W => refContent_any s.cells.toArray s.whole rfl s.width.kind s.width.n x (acrossV s) hs.width (across_bd hm) W (contentR s.whole ⟨s.width.kind, s.width.n⟩ x (acrossV s)) rfl)
    have Q : Hid (p = contentR s.whole ⟨s.width.kind, s.width.n⟩ x (acrossV s)) := Lib.hid (by rw [← hp]; unfold widthR; rw [if_pos hm])
    generalize contentR s.whole ⟨s.width.kind, s.width.n⟩ x (acrossV s) = q at Q C
    obtain ⟨n, m, er⟩ := q
    have x2 : Hid (s.cells.toArray[2]? = some (.int .u8 s.width.kind)) := Lib.hid rfl
    have x3 : Hid (s.cells.toArray[3]? = some (.int .i64 s.width.n)) := Lib.hid rfl
    clear hp hm hs
    generalize s.cells.toArray = X at *
    generalize acrossV s = ac at *
    generalize upV s = up at *
    generalize s.width.kind = K_width at *
    generalize s.width.n = N_width at *
    go_enter Try.func24, Try.ntmps24
    go_wp2_with (refine wpList_load_row (o := ⟨some 9, _, _, _, _, _⟩) rfl 27 _ rfl w.heap.size rfl _ X _ _ BX.out.2 Try.underlying27 rfl SZ.out ?_)
    refine (E.out _).mono ?_
    rintro e w1 ⟨rfl, hb1⟩
    have B1 : Hid (Below w.heap.size w w1) := Lib.hid (((Below.refl w.heap.size w).alloc (Nat.le_refl _) _).trans (hb1.mono (by simp)))
    have BX1 := Lib.hid (BX.out.below hb1)
    clear hb1
    go_wp2_with (refine wpList_load_row (o := ⟨some 13, _, _, _, _, _⟩) rfl 27 _ rfl w.heap.size rfl _ X _ _ BX1.out.2 Try.underlying27 rfl SZ.out ?_)
    refine (D.out _).mono ?_
    rintro e w2 ⟨rfl, hb2⟩
    have B2 : Hid (Below w.heap.size w w2) := Lib.hid (B1.out.trans (hb2.mono B1.out.size))
    have BX2 := Lib.hid (BX1.out.below hb2)
    clear hb2
    have c2 := BX2.out.cell x2.out
    have c3 := BX2.out.cell x3.out
    go_wp2_with (refine wpList_load_row (o := ⟨some 17, _, _, _, _, _⟩) rfl 27 _ rfl w.heap.size rfl _ X _ _ BX2.out.2 Try.underlying27 rfl SZ.out ?_)
    refine (C.out _).mono ?_
    rintro e w3 ⟨rfl, hb3⟩
    have B3 : Hid (Below w.heap.size w w3) := Lib.hid (B2.out.trans (hb3.mono B2.out.size))
    clear hb3
    go_wp2_with fail
    go_ret3
    exact ⟨ret_told Q.out, B3.out⟩
  · have hm' : mayB s = false := by simpa using hm
    have E := Lib.hid (fun W => refMay_any s hs W false hm')
    have Q : Hid (p = (0, false, 60)) := Lib.hid (by rw [← hp]; unfold widthR; rw [if_neg hm])
    clear hp hm hm' hs
    generalize s.cells.toArray = X at *
    go_enter Try.func24, Try.ntmps24
    go_wp2_with (refine wpList_load_row (o := ⟨some 9, _, _, _, _, _⟩) rfl 27 _ rfl w.heap.size rfl _ X _ _ BX.out.2 Try.underlying27 rfl SZ.out ?_)
    refine (E.out _).mono ?_
    rintro e w1 ⟨rfl, hb1⟩
    have B1 : Hid (Below w.heap.size w w1) := Lib.hid (((Below.refl w.heap.size w).alloc (Nat.le_refl _) _).trans (hb1.mono (by simp)))
    clear hb1
    go_wp2_with fail
    go_ret3
    exact ⟨ret_told Q.out, B1.out⟩

set_option maxRecDepth 100000 in
set_option maxHeartbeats 4000000 in
theorem refWidths_any (s : RS) (hs : s.ok) (x : Int) (w : World) (p : Int × Int × Int) (hp : widthsR s x = p) :
    Calls Try.prog 25 #[.agg s.cells.toArray, .int .i64 x] w fun e w' => e = .returned (.tuple #[.int .i64 p.1, .int .i64 p.2.1, .int .i64 p.2.2]) ∧ Below w.heap.size w w' := by
  have BX := Lib.hid (Box27.new w s.cells.toArray)
  have SZ : Hid ((Try.prog.info? 27).map (·.size) = some s.cells.toArray.size) := Lib.hid style_size
  by_cases hm : mayB s = true
  · have E := Lib.hid (fun W => refMay_any s hs W true hm)
    have D := Lib.hid (fun W => refEdges_any s hm W _ _ rfl rfl)
    have C := Lib.hid (fun W => between_any s.cells.toArray s.whole rfl s.len s.minW.kind s.minW.n s.maxW.kind s.maxW.n x (acrossV s) hs.minW hs.maxW (across_bd hm) W (limitsR s.whole ⟨s.minW.kind, s.minW.n⟩ ⟨s.maxW.kind, s.maxW.n⟩ x (acrossV s)) rfl)
    have Q : Hid (p = limitsR s.whole ⟨s.minW.kind, s.minW.n⟩ ⟨s.maxW.kind, s.maxW.n⟩ x (acrossV s)) := Lib.hid (by rw [← hp]; unfold widthsR; rw [if_pos hm])
    generalize limitsR s.whole ⟨s.minW.kind, s.minW.n⟩ ⟨s.maxW.kind, s.maxW.n⟩ x (acrossV s) = q at Q C
    obtain ⟨n, m, er⟩ := q
    have x4 : Hid (s.cells.toArray[4]? = some (.int .u8 s.minW.kind)) := Lib.hid rfl
    have x5 : Hid (s.cells.toArray[5]? = some (.int .i64 s.minW.n)) := Lib.hid rfl
    have x6 : Hid (s.cells.toArray[6]? = some (.int .u8 s.maxW.kind)) := Lib.hid rfl
    have x7 : Hid (s.cells.toArray[7]? = some (.int .i64 s.maxW.n)) := Lib.hid rfl
    clear hp hm hs
    generalize s.cells.toArray = X at *
    generalize acrossV s = ac at *
    generalize upV s = up at *
    generalize s.minW.kind = K_minW at *
    generalize s.minW.n = N_minW at *
    generalize s.maxW.kind = K_maxW at *
    generalize s.maxW.n = N_maxW at *
    go_enter Try.func25, Try.ntmps25
    go_wp2_with (refine wpList_load_row (o := ⟨some 9, _, _, _, _, _⟩) rfl 27 _ rfl w.heap.size rfl _ X _ _ BX.out.2 Try.underlying27 rfl SZ.out ?_)
    refine (E.out _).mono ?_
    rintro e w1 ⟨rfl, hb1⟩
    have B1 : Hid (Below w.heap.size w w1) := Lib.hid (((Below.refl w.heap.size w).alloc (Nat.le_refl _) _).trans (hb1.mono (by simp)))
    have BX1 := Lib.hid (BX.out.below hb1)
    clear hb1
    go_wp2_with (refine wpList_load_row (o := ⟨some 13, _, _, _, _, _⟩) rfl 27 _ rfl w.heap.size rfl _ X _ _ BX1.out.2 Try.underlying27 rfl SZ.out ?_)
    refine (D.out _).mono ?_
    rintro e w2 ⟨rfl, hb2⟩
    have B2 : Hid (Below w.heap.size w w2) := Lib.hid (B1.out.trans (hb2.mono B1.out.size))
    have BX2 := Lib.hid (BX1.out.below hb2)
    clear hb2
    have c4 := BX2.out.cell x4.out
    have c5 := BX2.out.cell x5.out
    have c6 := BX2.out.cell x6.out
    have c7 := BX2.out.cell x7.out
    go_wp2_with (refine wpList_load_row (o := ⟨some 17, _, _, _, _, _⟩) rfl 27 _ rfl w.heap.size rfl _ X _ _ BX2.out.2 Try.underlying27 rfl SZ.out ?_)
    refine (C.out _).mono ?_
    rintro e w3 ⟨rfl, hb3⟩
    have B3 : Hid (Below w.heap.size w w3) := Lib.hid (B2.out.trans (hb3.mono B2.out.size))
    clear hb3
    go_wp2_with fail
    go_ret3
    exact ⟨ret_two3 Q.out, B3.out⟩
  · have hm' : mayB s = false := by simpa using hm
    have E := Lib.hid (fun W => refMay_any s hs W false hm')
    have Q : Hid (p = (0, 0, 60)) := Lib.hid (by rw [← hp]; unfold widthsR; rw [if_neg hm])
    clear hp hm hm' hs
    generalize s.cells.toArray = X at *
    go_enter Try.func25, Try.ntmps25
    go_wp2_with (refine wpList_load_row (o := ⟨some 9, _, _, _, _, _⟩) rfl 27 _ rfl w.heap.size rfl _ X _ _ BX.out.2 Try.underlying27 rfl SZ.out ?_)
    refine (E.out _).mono ?_
    rintro e w1 ⟨rfl, hb1⟩
    have B1 : Hid (Below w.heap.size w w1) := Lib.hid (((Below.refl w.heap.size w).alloc (Nat.le_refl _) _).trans (hb1.mono (by simp)))
    clear hb1
    go_wp2_with fail
    go_ret3
    exact ⟨ret_two3 Q.out, B1.out⟩

end Go.Proofs.Ytdadlhkbngopaaa
