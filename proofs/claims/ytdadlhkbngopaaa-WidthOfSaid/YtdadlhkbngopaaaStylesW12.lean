/-
  The law WidthStyles: of any Of that answers as is asked.
-/
import Derived.Test.YtdadlhkbngopaaaRefOf12
import Derived.Test.YtdadlhkbngopaaaStyleArg
namespace Go.Proofs.Ytdadlhkbngopaaa
open Go.RowKit

set_option maxRecDepth 100000 in
set_option maxHeartbeats 4000000 in
theorem styles12 (hO : OfOK 10) (s : RS) (x : Int) (w : World) (hs : s.ok) (hx : Big x) :
    Calls Try.prog 3 #[styleV s, .int .i64 x] w fun e w' => e = .returned (.bool true) ∧ Below w.heap.size w w' := by
  have BX := Lib.hid (Box27.new w s.cells.toArray)
  have SZ : Hid ((Try.prog.info? 27).map (·.size) = some s.cells.toArray.size) := Lib.hid style_size
  have C1 := Lib.hid (fun W => hO s x W hs hx)
  have C2 := Lib.hid (fun W => refOf_any s x W hs)
  unfold styleV
  obtain ⟨R, hR⟩ : ∃ R, ofA s x = R := ⟨_, rfl⟩
  rw [hR] at C1 C2
  clear hO hs hx hR
  generalize s.cells.toArray = X at *
  obtain ⟨⟨is, width, least, most, left, right, al, ar, edges⟩, er⟩ := R
  unfold askedV at C1 C2
  dsimp only at C1 C2
  have B0 : Hid (Below w.heap.size w (w.alloc (.cells X 27))) := Lib.hid ((Below.refl _ w).alloc (Nat.le_refl _) _)
  go_enter Try.func3, Try.ntmps3
  go_wp2_with (refine wpList_load_row (o := ⟨some 10, _, _, _, _, _⟩) rfl 27 _ rfl w.heap.size rfl _ X _ _ BX.out.2 Try.underlying27 rfl SZ.out ?_)
  refine (C1.out _).mono ?_
  rintro e w1 ⟨rfl, hb⟩
  have B1 : Hid (Below w.heap.size w w1) := Lib.hid (B0.out.trans (hb.mono B0.out.size))
  have BX1 := Lib.hid (BX.out.below hb)
  clear hb BX B0 C1
  go_upto_region 2 with fail
  have A2 := Lib.hid (AskAt.new w1 ⟨is, width, least, most, left, right, al, ar, edges⟩)
  have B2 := Lib.hid (B1.out.alloc B1.out.size (.cells #[.bool is, .int .i64 width, .int .i64 least, .int .i64 most, .int .i64 left, .int .i64 right, .bool al, .bool ar, .int .i64 edges] 29))
  have BX2 := Lib.hid (BX1.out.alloc (.cells #[.bool is, .int .i64 width, .int .i64 least, .int .i64 most, .int .i64 left, .int .i64 right, .bool al, .bool ar, .int .i64 edges] 29))
  unfold RA.cells at A2
  dsimp only at A2
  generalize w1.alloc (.cells #[.bool is, .int .i64 width, .int .i64 least, .int .i64 most, .int .i64 left, .int .i64 right, .bool al, .bool ar, .int .i64 edges] 29) = w2 at A2 B2 BX2 ⊢
  generalize w1.heap.size = g at A2 ⊢
  go_wp2_with (refine wpList_load_row (o := ⟨some 16, _, _, _, _, _⟩) rfl 27 _ rfl w.heap.size rfl _ X _ _ BX2.out.2 Try.underlying27 rfl SZ.out ?_)
  refine (C2.out _).mono ?_
  rintro e w3 ⟨rfl, hb⟩
  have B3 : Hid (Below w.heap.size w w3) := Lib.hid (B2.out.trans (hb.mono B2.out.size))
  have A3 := Lib.hid (AskAt.keep A2.out hb)
  clear hb BX1 BX2 A2 B2 B1 C2
  go_upto_region 3 with fail
  have A4 := Lib.hid (A3.out.put (.cells #[.bool is, .int .i64 width, .int .i64 least, .int .i64 most, .int .i64 left, .int .i64 right, .bool al, .bool ar, .int .i64 edges] 29))
  have D4 := Lib.hid (AskAt.new w3 ⟨is, width, least, most, left, right, al, ar, edges⟩)
  have B4 := Lib.hid (B3.out.alloc B3.out.size (.cells #[.bool is, .int .i64 width, .int .i64 least, .int .i64 most, .int .i64 left, .int .i64 right, .bool al, .bool ar, .int .i64 edges] 29))
  unfold RA.cells at D4
  dsimp only at D4
  generalize w3.alloc (.cells #[.bool is, .int .i64 width, .int .i64 least, .int .i64 most, .int .i64 left, .int .i64 right, .bool al, .bool ar, .int .i64 edges] 29) = w4 at A4 D4 B4 ⊢
  generalize w3.heap.size = g2 at D4 ⊢
  obtain ⟨y0, y1, y2, y3, y4, y5, y6, y7, y8⟩ := A4.out.cells
  obtain ⟨v0, v1, v2, v3, v4, v5, v6, v7, v8⟩ := AskAt.cells (a := ⟨is, width, least, most, left, right, al, ar, edges⟩) D4.out
  dsimp only at y0 y1 y2 y3 y4 y5 y6 y7 y8 v0 v1 v2 v3 v4 v5 v6 v7 v8
  clear A4 D4 A3 B3
  go_wp2_with fail
  go_ret
  exact ⟨by first | rfl | simp, B4.out⟩
end Go.Proofs.Ytdadlhkbngopaaa
