/-
  A row of windowpanelaw17.How, one alone, that came in, opened.
-/
import Derived.Test.YtpjhhndjbpegcaaHows
import Derived.SizedLaws
import Derived.Deep.Slices
import Derived.Deep.WholeRow
namespace Go.Proofs.Ytpjhhndjbpegcaa
open Go.RowKit Go.ChangeShapes Go.WideShapes

instance : Inhabited Hw := ⟨hwZ⟩
def hwNone : Value := hwV hwZ
def BigH (k : Hw) : Prop := (-9223372036854775808 ≤ k.gap ∧ k.gap ≤ 9223372036854775807) ∧ (-9223372036854775808 ≤ k.room ∧ k.room ≤ 9223372036854775807) ∧ (0 ≤ k.justify ∧ k.justify < 256)
def BigsH (l : List Hw) : Prop := ∀ i, i < l.length → BigH (hwA l i)
theorem i64_inH {a : Int} (h : (Lit.int .i64 a).wf = true) : -9223372036854775808 ≤ a ∧ a ≤ 9223372036854775807 := by
  have h1 : IntKind.i64.min = -9223372036854775808 := by decide
  have h2 : IntKind.i64.max = 9223372036854775807 := by decide
  simpa only [Lit.wf, h1, h2, Bool.and_eq_true, decide_eq_true_eq] using h
theorem u8_inH {a : Int} (h : (Lit.int .u8 a).wf = true) : 0 ≤ a ∧ a < 256 := by
  have h1 : IntKind.u8.min = 0 := by decide
  have h2 : IntKind.u8.max = 255 := by decide
  have := h
  simp only [Lit.wf, h1, h2, Bool.and_eq_true, decide_eq_true_eq] at this
  omega
theorem weights_all_memH {H : Type} {P : Program} {e : TypeId} : ∀ {l : List (DataW H)} {d : DataW H}, d ∈ l → ∀ n ∈ d.weights P e, n ∈ DataW.weightsAll P e l
  | d' :: r, d, hd, n, hn => by
    simp only [DataW.weightsAll, List.mem_append]
    rcases List.mem_cons.1 hd with rfl | h
    · exact Or.inl hn
    · exact Or.inr (weights_all_memH h n hn)
/-- what is known of a row that came in -/
def HowsIn (w : World) (A : Option Addr) (n c : Nat) (l : List Hw) : Prop := HwIn w (.slice A n c) l ∧ l.length = n ∧ (A = none → n = 0 ∧ c = 0) ∧ n ≤ 140737488351232 ∧ BigsH l
section
variable {H : Type} {enc : TypeId × Value → H} {w : World} {held : Bool}

theorem open_hw {fuel : Nat} {cs : List Value} {y : DataW H × List MemPlace} (h : DataW.trod enc Try.prog w 0 (fun _ => true) held fuel 24 cs = some y) (hs : ∀ x ∈ y.1.weights Try.prog 24, x ≤ reachBytes) :
    ∃ x : Hw, cs = hwCells x ∧ BigH x := by
  obtain ⟨xs, m, rfl, rfl, hlen, hxl, hf⟩ := DataW.trod_struct Try.underlying24 h
  have hl2 : cs.length = 4 := hlen.trans (by kernel_rfl)
  have c_bool : Try.prog.cellsOf 4 = 1 := by kernel_rfl
  have c_int : Try.prog.cellsOf 3 = 1 := by kernel_rfl
  have c_u8 : Try.prog.cellsOf 5 = 1 := by kernel_rfl
  match xs, hxl, cs, hl2 with
  | [y0, y1, y2, y3], _, [v0, v1, v2, v3], _ =>
    have g0 := hf 0 _ rfl
    have g1 := hf 1 _ rfl
    have g2 := hf 2 _ rfl
    have g3 := hf 3 _ rfl
    simp [c_bool, c_int, c_u8] at g0 g1 g2 g3
    obtain ⟨n0, e0, -, w0⟩ := DataW.trod_int Try.underlying3 g0
    obtain ⟨n1, e1, -, w1⟩ := DataW.trod_int Try.underlying3 g1
    obtain ⟨n2, e2, -, w2⟩ := DataW.trod_int Try.underlying5 g2
    obtain ⟨n3, e3, -⟩ := DataW.trod_bool Try.underlying4 g3
    obtain rfl : v0 = .int .i64 n0 := by simpa using e0
    obtain rfl : v1 = .int .i64 n1 := by simpa using e1
    obtain rfl : v2 = .int .u8 n2 := by simpa using e2
    obtain rfl : v3 = .bool n3 := by simpa using e3
    refine ⟨⟨n0, n1, n2, n3⟩, rfl, ?_⟩
    refine ⟨i64_inH w0, i64_inH w1, u8_inH w2⟩
theorem hws_at {V : Nat → Hw} {n i : Nat} (h : i < n) : hwA ((List.range n).map V) i = V i := by
  have hl : i < ((List.range n).map V).length := by simpa using h
  rw [hwA_get hl]
  simp
theorem open_hw_arg {r : Reach} {b : Nat} {v : Value} {d : DataW H} {p : List MemPlace} (hv : Value.okWide Try.prog w r b 24 v) (h : DataW.Trod enc Try.prog w 0 (fun _ => true) held 24 v d p) (hs : ∀ x ∈ d.weights Try.prog 24, x ≤ reachBytes) :
    ∃ s : Hw, v = hwV s ∧ BigH s := by
  obtain ⟨fuel, hf⟩ := h
  obtain ⟨cs, rfl, _⟩ := okWide_struct Try.underlying24 hv
  obtain ⟨s, e, ok⟩ := open_hw hf hs
  refine ⟨s, ?_, ok⟩
  obtain ⟨l⟩ := cs
  simp only [Value.cells] at e
  rw [hwV, e]
  rfl
end
end Go.Proofs.Ytpjhhndjbpegcaa
