/-
  A style as it lies, its fields by name; a style that came in, opened.
-/
import Derived.Test.YtdadlhkbngopaaaLits
namespace Go.Proofs.Ytdadlhkbngopaaa
open Go.RowKit Go.ChangeShapes Go.WideShapes

/-- a length -/
structure RL where
  kind : Int
  n : Int
  deriving Inhabited
def RL.lits (l : RL) : List Lit := [.int .u8 l.kind, .int .i64 l.n]
structure RL.ok (l : RL) : Prop where
  kind : 0 ≤ l.kind ∧ l.kind < 256
  n : -9223372036854775808 ≤ l.n ∧ l.n ≤ 9223372036854775807
/-- a style -/
structure RS where
  display : Int
  whole : Bool
  width : RL
  minW : RL
  maxW : RL
  height : RL
  minH : RL
  maxH : RL
  margin : Nat → RL
  pad : Nat → Int
  bord : Nat → Int
  offX : Int
  offY : Int
  font : Int
  ws : Int
  lines : Int
  valign : Int
  dir : Int
  justify : Int
  wrap : Bool
  align : Int
  gap : Int
  lineGap : Int
  grow : Int
  shrink : Int
  basis : RL
  order : Int
def RS.lits (s : RS) : List Lit := [.int .u8 s.display] ++ ([.bool s.whole] ++ (s.width.lits ++ (s.minW.lits ++ (s.maxW.lits ++ (s.height.lits ++ (s.minH.lits ++ (s.maxH.lits ++ ((s.margin 0).lits ++ (s.margin 1).lits ++ (s.margin 2).lits ++ (s.margin 3).lits ++ ([.int .i64 (s.pad 0), .int .i64 (s.pad 1), .int .i64 (s.pad 2), .int .i64 (s.pad 3)] ++ ([.int .i64 (s.bord 0), .int .i64 (s.bord 1), .int .i64 (s.bord 2), .int .i64 (s.bord 3)] ++ ([.int .i64 s.offX] ++ ([.int .i64 s.offY] ++ ([.int .i64 s.font] ++ ([.int .u8 s.ws] ++ ([.int .u8 s.lines] ++ ([.int .u8 s.valign] ++ ([.int .u8 s.dir] ++ ([.int .u8 s.justify] ++ ([.bool s.wrap] ++ ([.int .u8 s.align] ++ ([.int .i64 s.gap] ++ ([.int .i64 s.lineGap] ++ ([.int .i64 s.grow] ++ ([.int .i64 s.shrink] ++ (s.basis.lits ++ ([.int .i64 s.order]))))))))))))))))))))))))))
structure RS.ok (s : RS) : Prop where
  display : 0 ≤ s.display ∧ s.display < 256
  width : s.width.ok
  minW : s.minW.ok
  maxW : s.maxW.ok
  height : s.height.ok
  minH : s.minH.ok
  maxH : s.maxH.ok
  margin : ∀ i, i < 4 → (s.margin i).ok
  pad : ∀ i, i < 4 → -9223372036854775808 ≤ s.pad i ∧ s.pad i ≤ 9223372036854775807
  bord : ∀ i, i < 4 → -9223372036854775808 ≤ s.bord i ∧ s.bord i ≤ 9223372036854775807
  offX : -9223372036854775808 ≤ s.offX ∧ s.offX ≤ 9223372036854775807
  offY : -9223372036854775808 ≤ s.offY ∧ s.offY ≤ 9223372036854775807
  font : -9223372036854775808 ≤ s.font ∧ s.font ≤ 9223372036854775807
  ws : 0 ≤ s.ws ∧ s.ws < 256
  lines : 0 ≤ s.lines ∧ s.lines < 256
  valign : 0 ≤ s.valign ∧ s.valign < 256
  dir : 0 ≤ s.dir ∧ s.dir < 256
  justify : 0 ≤ s.justify ∧ s.justify < 256
  align : 0 ≤ s.align ∧ s.align < 256
  gap : -9223372036854775808 ≤ s.gap ∧ s.gap ≤ 9223372036854775807
  lineGap : -9223372036854775808 ≤ s.lineGap ∧ s.lineGap ≤ 9223372036854775807
  grow : -9223372036854775808 ≤ s.grow ∧ s.grow ≤ 9223372036854775807
  shrink : -9223372036854775808 ≤ s.shrink ∧ s.shrink ≤ 9223372036854775807
  basis : s.basis.ok
  order : -9223372036854775808 ≤ s.order ∧ s.order ≤ 9223372036854775807

set_option maxRecDepth 100000 in
theorem take_chain {α : Type} {cs L : List α} {o s : Nat} (h : (cs.drop o).take s = L) : cs.drop o = L ++ cs.drop (o + s) := by
  rw [← h, ← List.drop_drop, List.take_append_drop]
section
variable {H : Type} {enc : TypeId × Value → H} {w : World} {held : Bool} {base : Nat} {sp : Nat → Bool}
set_option maxRecDepth 100000 in
theorem open_length {fuel : Nat} {cs : List Value} {y : DataW H × List MemPlace} (h : DataW.trod enc Try.prog w base sp held fuel 23 cs = some y) : ∃ l : RL, cs = l.lits.map Lit.toCell ∧ l.ok := by
  obtain ⟨xs, m, rfl, rfl, hlen, hxl, hf⟩ := DataW.trod_struct Try.underlying23 h
  have c1 : Try.prog.cellsOf 3 = 1 := by kernel_rfl
  have c2 : Try.prog.cellsOf 5 = 1 := by kernel_rfl
  have hl2 : cs.length = 2 := hlen.trans (by kernel_rfl)
  match xs, hxl, cs, hl2 with
  | [y0, y1], _, [v0, v1], _ =>
    have g0 := hf 0 _ rfl
    have g1 := hf 1 _ rfl
    simp [c1, c2] at g0 g1
    obtain ⟨n0, e0, -, w0⟩ := DataW.trod_int Try.underlying5 g0
    obtain ⟨n1, e1, -, w1⟩ := DataW.trod_int Try.underlying3 g1
    obtain rfl : v0 = .int .u8 n0 := by simpa using e0
    obtain rfl : v1 = .int .i64 n1 := by simpa using e1
    exact ⟨⟨n0, n1⟩, rfl, u8_in w0, i64_in w1⟩
end
end Go.Proofs.Ytdadlhkbngopaaa
