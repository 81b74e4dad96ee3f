/-
  The document's Order. What is asked of Order.
-/
import Derived.Test.YtpjhhndjbpegcaaOrderM15
import Derived.Test.YtpjhhndjbpegcaaGreat15
import Derived.OwnWalk
namespace Go.Proofs.Ytpjhhndjbpegcaa
open Go.RowKit

/-- what is asked of an Order -/
def OrderOK (F : Nat) : Prop := ∀ (A : Option Addr) (n c : Nat) (f : Nat → Int) (q : Nat → Nat) (w : World), Ints w A n f → n ≤ 80000 → n ≤ c ∧ c ≤ 9223372036854775807 → OrdZ f q n → Calls Try.prog F #[.slice A n c] w fun e w' =>
  ∃ v, e = .returned v ∧ ownsI15 w' w.heap.size v (firstQ q n) ∧ Below w.heap.size w w'
/-- a row of bools in a block -/
structure BoolsAt (W : World) (g n : Nat) (p : Nat → Bool) : Prop where
  lt : g < W.heap.size
  cell : ∀ i, i < n → W.cell? ⟨g, i, none⟩ = some (.bool (p i))
  fro : ∀ i, i < n → W.frozen? ⟨g, i, none⟩ = false
theorem BoolsAt.keepB {W W' : World} {g n B : Nat} {p : Nat → Bool} (h : BoolsAt W g n p) (hb : Below B W W') (hg : g < B) : BoolsAt W' g n p := by
  have e := hb.block g hg
  refine ⟨Nat.lt_of_lt_of_le h.lt hb.size, fun i hi => ?_, fun i hi => ?_⟩
  · have := h.cell i hi
    unfold World.cell? at this ⊢
    rwa [e]
  · have := h.fro i hi
    unfold World.frozen? at this ⊢
    rwa [e]
theorem BoolsAt.set {W : World} {g n j : Nat} {p : Nat → Bool} (h : BoolsAt W g n p) (hj : j < n) (b : Bool) : BoolsAt (W.setCell ⟨g, j, none⟩ (.bool b)) g n (fun i => if i = j then b else p i) := by
  refine ⟨by simpa [World.setCell] using h.lt, fun i hi => ?_, fun i hi => by rw [World.frozen?_setCell]; exact h.fro i hi⟩
  by_cases e : i = j
  · subst e
    rw [if_pos rfl]
    exact World.cell?_setCell_same _ _ _ (h.cell i hi)
  · rw [if_neg e, World.cell?_setCell_other _ _ _ _ (fun e' => by injection e'; omega)]
    exact h.cell i hi
theorem BoolsAt.congr {W : World} {g n : Nat} {p r : Nat → Bool} (h : BoolsAt W g n p) (e : ∀ i, i < n → p i = r i) : BoolsAt W g n r := ⟨h.lt, fun i hi => by rw [← e i hi]; exact h.cell i hi, h.fro⟩
theorem made_bools {W : World} {base g n : Nat} (h : W.ownsRow base 4 1 (.slice (some ⟨g, 0, none⟩) n n) n (madeCells (Value.bool false).cells (n * 1)).toList) (hg : g < W.heap.size) : BoolsAt W g n (fun _ => false) := by
  by_cases h0 : n = 0
  · subst h0; exact ⟨hg, fun i hi => absurd hi (by omega), fun i hi => absurd hi (by omega)⟩
  obtain ⟨g', c, e, -, -, -, -, h1, h2⟩ := own_at h h0
  injection e with e1 e2 e3
  injection e1 with e1
  injection e1 with e1
  subst e1
  refine ⟨hg, fun i hi => h1 i _ ?_, fun i _ => h2 i⟩
  rw [Array.getElem?_toList]
  simp [madeCells, hi, Value.cells, Nat.mod_one]
theorem Try.infoB15 : (Try.prog.info? 4).map (fun i => (i.zero, i.size, i.bytes)) = some (some (.bool false), 1, 1) := by kernel_rfl
theorem own_lt15 {W : World} {base g n c : Nat} {T : TypeId} {k m : Nat} {cs : List Value} (h : W.ownsRow base T k (.slice (some ⟨g, 0, none⟩) n c) m cs) : g < W.heap.size := by
  rcases h.2 with ⟨e, _⟩ | ⟨g', cap, cur, e, _, hg, _⟩
  · cases e
  · injection e with e1 e2 e3
    injection e1 with e1
    injection e1 with e1
    subst e1
    exact (Array.getElem?_eq_some_iff.1 hg).1
theorem own_base15 {w : World} {B B' : Nat} {T : TypeId} {k : Nat} {v : Value} {n : Nat} {xs : List Value} (h : w.ownsRow B T k v n xs) (hb : B' ≤ B) : w.ownsRow B' T k v n xs := by
  obtain ⟨h1, h2⟩ := h
  rcases h2 with h2 | ⟨g', cap, cur, rfl, hg, rest⟩
  · exact ⟨h1, .inl h2⟩
  · exact ⟨h1, .inr ⟨g', cap, cur, rfl, by omega, rest⟩⟩
end Go.Proofs.Ytpjhhndjbpegcaa
