/-
  The walk of StyleSizes.
-/
import Derived.Test.YtgfcddanikeelaaRefWidth
import Derived.Test.YtgfcddanikeelaaStyleArg
namespace Go.Proofs.Ytgfcddanikeelaa
open Go.RowKit

set_option maxRecDepth 100000 in
set_option maxHeartbeats 8000000 in
theorem walkStyleSizes (z0 : RS) (a1 : Int) (w : World) (w0 : z0.ok) (w1 : (Lit.int .i64 a1).wf = true) :
    Calls Try.prog 5 #[styleV z0, .int .i64 a1] w fun e w' => e = .returned (.bool true) ∧ Below w.heap.size w w' := by
  unfold styleV
  have hx : Big a1 := i64_in w1
  have BX := Lib.hid (Box27.new w z0.cells.toArray)
  have SZ : Hid ((Try.prog.info? 27).map (·.size) = some z0.cells.toArray.size) := Lib.hid style_size
  have C0 := Lib.hid (fun W => width_any z0 w0 a1 hx W _ rfl)
  have C1 := Lib.hid (fun W => refWidth_any z0 w0 a1 W _ rfl)
  have C2 := Lib.hid (fun W => height_any z0 w0 W _ rfl)
  have C3 := Lib.hid (fun W => refHeight_any z0 w0 W _ rfl)
  have C4 := Lib.hid (fun W => widths_any z0 w0 a1 hx W _ rfl)
  have C5 := Lib.hid (fun W => refWidths_any z0 w0 a1 W _ rfl)
  have C6 := Lib.hid (fun W => heights_any z0 w0 W _ rfl)
  have C7 := Lib.hid (fun W => refHeights_any z0 w0 W _ rfl)
  clear w0 w1 hx
  generalize z0.cells.toArray = X at *
  generalize widthR z0 a1 = q1 at *
  generalize heightR z0 = q2 at *
  generalize widthsR z0 a1 = q3 at *
  generalize heightsR z0 = q4 at *
  obtain ⟨n1, i1, e1⟩ := q1
  obtain ⟨n2, i2, e2⟩ := q2
  obtain ⟨n3, m3, e3⟩ := q3
  obtain ⟨n4, m4, e4⟩ := q4
  have ZZ : Hid (∀ W W', (Box27 W w.heap.size X ∧ Below w.heap.size w W) → Below W.heap.size W W' → Box27 W' w.heap.size X ∧ Below w.heap.size w W') := Lib.hid (fun W W' h hb => ⟨h.1.below hb, h.2.trans (hb.mono h.2.size)⟩)
  have Z0 : Hid (Box27 (w.alloc (.cells X 27)) w.heap.size X ∧ Below w.heap.size w (w.alloc (.cells X 27))) := Lib.hid ⟨BX.out, (Below.refl _ _).alloc (Nat.le_refl _) _⟩
  go_enter Try.func5, Try.ntmps5
  go_wp2_with (refine wpList_load_row (o := ⟨some 18, _, _, _, _, _⟩) rfl 27 _ rfl w.heap.size rfl _ X _ _ Z0.out.1.2 Try.underlying27 rfl SZ.out ?_)
  refine (C0.out _).mono ?_
  rintro e w1 ⟨rfl, hb1⟩
  have Z1 := Lib.hid (ZZ.out _ _ Z0.out hb1)
  clear hb1
  go_wp2_with (refine wpList_load_row (o := ⟨some 25, _, _, _, _, _⟩) rfl 27 _ rfl w.heap.size rfl _ X _ _ Z1.out.1.2 Try.underlying27 rfl SZ.out ?_)
  refine (C1.out _).mono ?_
  rintro e w2 ⟨rfl, hb2⟩
  have Z2 := Lib.hid (ZZ.out _ _ Z1.out hb2)
  clear hb2
  go_wp2_with (refine wpList_load_row (o := ⟨some 45, _, _, _, _, _⟩) rfl 27 _ rfl w.heap.size rfl _ X _ _ Z2.out.1.2 Try.underlying27 rfl SZ.out ?_)
  refine (C2.out _).mono ?_
  rintro e w3 ⟨rfl, hb3⟩
  have Z3 := Lib.hid (ZZ.out _ _ Z2.out hb3)
  clear hb3
  go_wp2_with (refine wpList_load_row (o := ⟨some 51, _, _, _, _, _⟩) rfl 27 _ rfl w.heap.size rfl _ X _ _ Z3.out.1.2 Try.underlying27 rfl SZ.out ?_)
  refine (C3.out _).mono ?_
  rintro e w4 ⟨rfl, hb4⟩
  have Z4 := Lib.hid (ZZ.out _ _ Z3.out hb4)
  clear hb4
  go_wp2_with (refine wpList_load_row (o := ⟨some 70, _, _, _, _, _⟩) rfl 27 _ rfl w.heap.size rfl _ X _ _ Z4.out.1.2 Try.underlying27 rfl SZ.out ?_)
  refine (C4.out _).mono ?_
  rintro e w5 ⟨rfl, hb5⟩
  have Z5 := Lib.hid (ZZ.out _ _ Z4.out hb5)
  clear hb5
  go_wp2_with (refine wpList_load_row (o := ⟨some 77, _, _, _, _, _⟩) rfl 27 _ rfl w.heap.size rfl _ X _ _ Z5.out.1.2 Try.underlying27 rfl SZ.out ?_)
  refine (C5.out _).mono ?_
  rintro e w6 ⟨rfl, hb6⟩
  have Z6 := Lib.hid (ZZ.out _ _ Z5.out hb6)
  clear hb6
  go_wp2_with (refine wpList_load_row (o := ⟨some 97, _, _, _, _, _⟩) rfl 27 _ rfl w.heap.size rfl _ X _ _ Z6.out.1.2 Try.underlying27 rfl SZ.out ?_)
  refine (C6.out _).mono ?_
  rintro e w7 ⟨rfl, hb7⟩
  have Z7 := Lib.hid (ZZ.out _ _ Z6.out hb7)
  clear hb7
  go_wp2_with (refine wpList_load_row (o := ⟨some 103, _, _, _, _, _⟩) rfl 27 _ rfl w.heap.size rfl _ X _ _ Z7.out.1.2 Try.underlying27 rfl SZ.out ?_)
  refine (C7.out _).mono ?_
  rintro e w8 ⟨rfl, hb8⟩
  have Z8 := Lib.hid (ZZ.out _ _ Z7.out hb8)
  clear hb8
  go_wp2_with fail
  go_ret
  exact ⟨by simp, Z8.out.2⟩
end Go.Proofs.Ytgfcddanikeelaa
