/-
  A style in memory: a block of 47 cells; rows of numbers, of lengths.
-/
import Derived.Test.YtdadlhkbngopaaaOpenStyle
import Derived.Deep.MidRow
import Derived.Below
namespace Go.Proofs.Ytdadlhkbngopaaa
open Go.RowKit

def RL.cells (l : RL) : List Value := [.int .u8 l.kind, .int .i64 l.n]
def RL.val (l : RL) : Value := .agg #[.int .u8 l.kind, .int .i64 l.n]
def RS.cells (s : RS) : List Value := s.lits.map Lit.toCell
def RS.val (s : RS) : Value := .agg s.cells.toArray
set_option maxRecDepth 100000 in
theorem RS.len (s : RS) : s.cells.length = 47 := rfl
set_option maxRecDepth 100000 in
theorem style_size : (Try.prog.info? 27).map (·.size) = some 47 := by kernel_rfl

/-- a style lies in a block of its own -/
def Sty (w : World) (b : Nat) (s : RS) : Prop := b < w.heap.size ∧ w.rangeAt b 0 s.cells
set_option maxRecDepth 100000 in
theorem Sty.new (w : World) (s : RS) : Sty (w.alloc (.cells s.cells.toArray 27)) w.heap.size s :=
  ⟨by simp, fun j v hv => by rw [World.cell?_alloc_new]; simpa using hv⟩
set_option maxRecDepth 100000 in
theorem Sty.keep {w w' : World} {b : Nat} {s : RS} (h : Sty w b s) (hs : w.heap.size ≤ w'.heap.size) (hk : ∀ p : Addr, p.block < w.heap.size → w'.cell? p = w.cell? p) : Sty w' b s :=
  ⟨Nat.lt_of_lt_of_le h.1 hs, fun j v hv => (hk ⟨b, 0 + j, none⟩ h.1).trans (h.2 j v hv)⟩
set_option maxRecDepth 100000 in
theorem Sty.below {w w' : World} {b : Nat} {s : RS} (h : Sty w b s) (hb : Below w.heap.size w w') : Sty w' b s := h.keep hb.size fun _ hp => hb.cell hp
set_option maxRecDepth 100000 in
theorem Sty.alloc {w : World} {b : Nat} {s : RS} (h : Sty w b s) (o : Obj) : Sty (w.alloc o) b s := h.keep (by simp) fun p hp => World.cell?_alloc_lt w o p hp
set_option maxRecDepth 100000 in
theorem Sty.cell {w : World} {b k : Nat} {s : RS} {v : Value} (h : Sty w b s) (e : s.cells[k]? = some v) : w.cell? ⟨b, k, none⟩ = some v := by
  have := h.2 k v e
  rwa [Nat.zero_add] at this
set_option maxRecDepth 100000 in
theorem Sty.load {w : World} {b : Nat} {s : RS} (h : Sty w b s) : (Instr.loadAt 27 (.pointer (some ⟨b, 0, none⟩))).run Try.prog w = .ok (.agg s.cells.toArray) w :=
  run_loadAt_mid w b 0 27 s.cells _ h.2 Try.underlying27 rfl (by rw [style_size, s.len])

/-- a row of numbers of one kind -/
def Row (K : IntKind) (w : World) (b o n : Nat) (f : Nat → Int) : Prop := ∀ i, i < n → w.cell? ⟨b, o + i, none⟩ = some (.int K (f i))
/-- a row of lengths -/
def RowL (w : World) (b o n : Nat) (f : Nat → RL) : Prop := ∀ i, i < n → w.cell? ⟨b, o + i * 2, none⟩ = some (.int .u8 (f i).kind) ∧ w.cell? ⟨b, o + i * 2 + 1, none⟩ = some (.int .i64 (f i).n)
set_option maxRecDepth 100000 in
theorem Row.keep {K : IntKind} {w w' : World} {b o n : Nat} {f : Nat → Int} (h : Row K w b o n f) (hb : b < w.heap.size) (hk : ∀ p : Addr, p.block < w.heap.size → w'.cell? p = w.cell? p) : Row K w' b o n f :=
  fun i hi => (hk ⟨b, o + i, none⟩ hb).trans (h i hi)
set_option maxRecDepth 100000 in
theorem RowL.keep {w w' : World} {b o n : Nat} {f : Nat → RL} (h : RowL w b o n f) (hb : b < w.heap.size) (hk : ∀ p : Addr, p.block < w.heap.size → w'.cell? p = w.cell? p) : RowL w' b o n f :=
  fun i hi => ⟨(hk ⟨b, o + i * 2, none⟩ hb).trans (h i hi).1, (hk ⟨b, o + i * 2 + 1, none⟩ hb).trans (h i hi).2⟩

/-- may a length be, of least fixed ones? -/
def LenMay (l : RL) (lo : Int) : Prop := l.kind = 0 ∧ l.n = 0 ∨ l.kind = 1 ∧ lo ≤ l.n ∧ l.n ≤ 274877906944 ∨ l.kind = 2 ∧ 0 ≤ l.n ∧ l.n ≤ 100000
instance (l : RL) (lo : Int) : Decidable (LenMay l lo) := by unfold LenMay; infer_instance
def lenB (l : RL) (lo : Int) : Bool := decide (LenMay l lo)
def withinB (lo hi : Int) (f : Nat → Int) (n : Nat) : Bool := decide (∀ i, i < n → lo ≤ f i ∧ f i ≤ hi)
def someB (k : Int) (f : Nat → Int) (n : Nat) : Bool := decide (∃ i, i < n ∧ k = f i)
def lensB (f : Nat → RL) (n : Nat) (lo : Int) : Bool := decide (∀ i, i < n → LenMay (f i) lo)
def partsB (f : Nat → RL) (n : Nat) : Bool := decide (∃ i, i < n ∧ (f i).kind = 2)
end Go.Proofs.Ytdadlhkbngopaaa
