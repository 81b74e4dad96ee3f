/-
  What is asked for, that came in, opened.
-/
import Derived.Test.YtdadlhkbngopaaaWidthMath
import Derived.Test.YtdadlhkbngopaaaProg
import Derived.Deep.Slices
import Derived.SizedLaws
import Derived.ChangeSame
namespace Go.Proofs.Ytdadlhkbngopaaa
open Go.RowKit Go.ChangeShapes Go.WideShapes

theorem i64_in12 {a : Int} (h : (Lit.int .i64 a).wf = true) : big a := by
  have h1 : IntKind.i64.min = -9223372036854775808 := by decide
  have h2 : IntKind.i64.max = 9223372036854775807 := by decide
  unfold big
  simpa only [Lit.wf, h1, h2, Bool.and_eq_true, decide_eq_true_eq] using h
section
variable {H : Type} {enc : TypeId × Value → H} {w : World} {held : Bool}

theorem open_asked {fuel : Nat} {cs : List Value} {y : DataW H × List MemPlace} (h : DataW.trod enc Try.prog w 0 (fun _ => true) held fuel 29 cs = some y) :
    ∃ x : RA, cs = x.cells ∧ x.ok := by
  obtain ⟨xs, m, rfl, rfl, hlen, hxl, hf⟩ := DataW.trod_struct Try.underlying29 h
  have hl2 : cs.length = 9 := hlen.trans (by kernel_rfl)
  have c1 : Try.prog.cellsOf 4 = 1 := by kernel_rfl
  have c2 : Try.prog.cellsOf 3 = 1 := by kernel_rfl
  match xs, hxl, cs, hl2 with
  | [y0, y1, y2, y3, y4, y5, y6, y7, y8], _, [v0, v1, v2, v3, v4, v5, v6, v7, v8], _ =>
    have g0 := hf 0 _ rfl
    have g1 := hf 1 _ rfl
    have g2 := hf 2 _ rfl
    have g3 := hf 3 _ rfl
    have g4 := hf 4 _ rfl
    have g5 := hf 5 _ rfl
    have g6 := hf 6 _ rfl
    have g7 := hf 7 _ rfl
    have g8 := hf 8 _ rfl
    simp [c1, c2] at g0 g1 g2 g3 g4 g5 g6 g7 g8
    obtain ⟨n0, e0, -⟩ := DataW.trod_bool Try.underlying4 g0
    obtain ⟨n1, e1, -, w1⟩ := DataW.trod_int Try.underlying3 g1
    obtain ⟨n2, e2, -, w2⟩ := DataW.trod_int Try.underlying3 g2
    obtain ⟨n3, e3, -, w3⟩ := DataW.trod_int Try.underlying3 g3
    obtain ⟨n4, e4, -, w4⟩ := DataW.trod_int Try.underlying3 g4
    obtain ⟨n5, e5, -, w5⟩ := DataW.trod_int Try.underlying3 g5
    obtain ⟨n6, e6, -⟩ := DataW.trod_bool Try.underlying4 g6
    obtain ⟨n7, e7, -⟩ := DataW.trod_bool Try.underlying4 g7
    obtain ⟨n8, e8, -, w8⟩ := DataW.trod_int Try.underlying3 g8
    obtain rfl : v0 = .bool n0 := by simpa using e0
    obtain rfl : v1 = .int .i64 n1 := by simpa using e1
    obtain rfl : v2 = .int .i64 n2 := by simpa using e2
    obtain rfl : v3 = .int .i64 n3 := by simpa using e3
    obtain rfl : v4 = .int .i64 n4 := by simpa using e4
    obtain rfl : v5 = .int .i64 n5 := by simpa using e5
    obtain rfl : v6 = .bool n6 := by simpa using e6
    obtain rfl : v7 = .bool n7 := by simpa using e7
    obtain rfl : v8 = .int .i64 n8 := by simpa using e8
    exact ⟨⟨n0, n1, n2, n3, n4, n5, n6, n7, n8⟩, rfl, ⟨i64_in12 w1, i64_in12 w2, i64_in12 w3, i64_in12 w4, i64_in12 w5, i64_in12 w8⟩⟩
theorem open_asked_arg {r : Reach} {b : Nat} {v : Value} {d : DataW H} {p : List MemPlace} (hv : Value.okWide Try.prog w r b 29 v) (h : DataW.Trod enc Try.prog w 0 (fun _ => true) held 29 v d p) :
    ∃ s : RA, v = askedV s ∧ s.ok := by
  obtain ⟨fuel, hf⟩ := h
  obtain ⟨cs, rfl, _⟩ := okWide_struct Try.underlying29 hv
  obtain ⟨s, e, ok⟩ := open_asked hf
  refine ⟨s, ?_, ok⟩
  obtain ⟨l⟩ := cs
  simp only [Value.cells] at e
  rw [askedV, e]
  rfl
end
end Go.Proofs.Ytdadlhkbngopaaa
