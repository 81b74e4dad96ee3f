/-
  A style, a length that came in as an argument.
-/
import Derived.Test.YtdadlhkbngopaaaStyleMem
namespace Go.Proofs.Ytdadlhkbngopaaa
open Go.RowKit Go.ChangeShapes Go.WideShapes

def styleV (s : RS) : Value := .agg s.cells.toArray
def lengthV (l : RL) : Value := .agg #[.int .u8 l.kind, .int .i64 l.n]
def lengthNone : Value := lengthV ⟨0, 0⟩
def styleNone : Value := styleV ⟨0, false, ⟨0, 0⟩, ⟨0, 0⟩, ⟨0, 0⟩, ⟨0, 0⟩, ⟨0, 0⟩, ⟨0, 0⟩, fun _ => ⟨0, 0⟩, fun _ => 0, fun _ => 0, 0, 0, 0, 0, 0, 0, 0, 0, false, 0, 0, 0, 0, 0, ⟨0, 0⟩, 0⟩
section
variable {H : Type} {enc : TypeId × Value → H} {w : World} {held : Bool}
set_option maxRecDepth 100000 in
theorem open_style_arg {r : Reach} {b : Nat} {v : Value} {d : DataW H} {p : List MemPlace} (hv : Value.okWide Try.prog w r b 27 v) (h : DataW.Trod enc Try.prog w 0 (fun _ => true) held 27 v d p) :
    ∃ s : RS, v = styleV s ∧ s.ok := by
  obtain ⟨fuel, hf⟩ := h
  obtain ⟨cs, rfl, _⟩ := okWide_struct Try.underlying27 hv
  obtain ⟨s, e, ok⟩ := open_style hf
  refine ⟨s, ?_, ok⟩
  obtain ⟨l⟩ := cs
  simp only [Value.cells] at e
  rw [styleV, RS.cells, ← e]
set_option maxRecDepth 100000 in
theorem open_length_arg {r : Reach} {b : Nat} {v : Value} {d : DataW H} {p : List MemPlace} (hv : Value.okWide Try.prog w r b 23 v) (h : DataW.Trod enc Try.prog w 0 (fun _ => true) held 23 v d p) :
    ∃ s : RL, v = lengthV s ∧ s.ok := by
  obtain ⟨fuel, hf⟩ := h
  obtain ⟨cs, rfl, _⟩ := okWide_struct Try.underlying23 hv
  obtain ⟨s, e, ok⟩ := open_length hf
  refine ⟨s, ?_, ok⟩
  obtain ⟨l⟩ := cs
  simp only [Value.cells] at e
  rw [lengthV, e]
  rfl
end
end Go.Proofs.Ytdadlhkbngopaaa
