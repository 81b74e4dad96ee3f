/-
  Rows of one-celled values in a block; the document's First, Copy, every.
-/
import Derived.Test.YtjlnaadpiohbnaaSizesOK16
import Derived.Test.YtjlnaadpiohbnaaPairs
import Derived.Test.YtjlnaadpiohbnaaPicked
import Derived.Laws.MakeOwn
import Derived.Deep.LoopGhost
namespace Go.Proofs.Ytjlnaadpiohbnaa
open Go.RowKit

/-- a row of one-celled values in a block -/
structure CellsB (W : World) (g n : Nat) (F : Nat → Value) : Prop where
  lt : g < W.heap.size
  cell : ∀ i, i < n → W.cell? ⟨g, i, none⟩ = some (F i)
  fro : ∀ i, i < n → W.frozen? ⟨g, i, none⟩ = false
section
variable {W W' : World} {g n : Nat} {F G : Nat → Value}
theorem CellsB.same (h : CellsB W g n F) (e : W'.heap[g]? = W.heap[g]?) (hs : W.heap.size ≤ W'.heap.size) : CellsB W' g n F := by
  refine ⟨Nat.lt_of_lt_of_le h.lt hs, fun i hi => ?_, fun i hi => ?_⟩
  · have := h.cell i hi
    unfold World.cell? at this ⊢
    rwa [e]
  · have := h.fro i hi
    unfold World.frozen? at this ⊢
    rwa [e]
theorem CellsB.keepB {B : Nat} (h : CellsB W g n F) (hb : Below B W W') (hg : g < B) : CellsB W' g n F := h.same (hb.block g hg) hb.size
theorem CellsB.keep (h : CellsB W g n F) (hb : Below W.heap.size W W') : CellsB W' g n F := h.keepB hb h.lt
theorem CellsB.set {j : Nat} (h : CellsB W g n F) (hj : j < n) (u : Value) : CellsB (W.setCell ⟨g, j, none⟩ u) g n (fun i => if i = j then u else F i) := by
  refine ⟨by simpa [World.setCell] using h.lt, fun i hi => ?_, fun i hi => by rw [World.frozen?_setCell]; exact h.fro i hi⟩
  by_cases e : i = j
  · subst e
    rw [if_pos rfl]
    exact World.cell?_setCell_same _ _ _ (h.cell i hi)
  · rw [if_neg e, World.cell?_setCell_other _ _ _ _ (fun e' => by injection e'; omega)]
    exact h.cell i hi
theorem CellsB.off {b j : Nat} (h : CellsB W g n F) (hn : b ≠ g) (u : Value) : CellsB (W.setCell ⟨b, j, none⟩ u) g n F :=
  h.same (by simp [World.setCell, Array.getElem?_modify, hn]) (by simp [World.setCell])
theorem CellsB.congr (h : CellsB W g n F) (e : ∀ i, i < n → F i = G i) : CellsB W g n G := ⟨h.lt, fun i hi => by rw [← e i hi]; exact h.cell i hi, h.fro⟩
end
abbrev IntsB (W : World) (g n : Nat) (f : Nat → Int) : Prop := CellsB W g n (fun i => .int .i64 (f i))
abbrev BoolsB (W : World) (g n : Nat) (p : Nat → Bool) : Prop := CellsB W g n (fun i => .bool (p i))
theorem IntsB.ints {W : World} {g n : Nat} {f : Nat → Int} (h : IntsB W g n f) (hb : ∀ i, i < n → -9223372036854775808 ≤ f i ∧ f i ≤ 9223372036854775807) : Ints W (some ⟨g, 0, none⟩) n f :=
  ⟨hb, fun _ => ⟨g, 0, rfl, h.lt, fun i hi => by rw [Nat.zero_add]; exact h.cell i hi⟩⟩
theorem made_cells {W : World} {base g n : Nat} {T : TypeId} {z : Value} (hz : z.cells = #[z]) (h : W.ownsRow base T 1 (.slice (some ⟨g, 0, none⟩) n n) n (madeCells z.cells (n * 1)).toList) (hg : g < W.heap.size) : CellsB W g n (fun _ => z) := by
  by_cases h0 : n = 0
  · subst h0; exact ⟨hg, fun i hi => absurd hi (by omega), fun i hi => absurd hi (by omega)⟩
  obtain ⟨g', c, e, -, -, -, -, h1, h2⟩ := own_at h h0
  injection e with e1 e2 e3
  injection e1 with e1
  injection e1 with e1
  subst e1
  refine ⟨hg, fun i hi => h1 i _ ?_, fun i _ => h2 i⟩
  rw [Array.getElem?_toList]
  simp [madeCells, hi, hz, Nat.mod_one]
theorem own_lt16 {W : World} {base g n c : Nat} {T : TypeId} {k m : Nat} {cs : List Value} (h : W.ownsRow base T k (.slice (some ⟨g, 0, none⟩) n c) m cs) : g < W.heap.size := by
  rcases h.2 with ⟨e, _⟩ | ⟨g', cap, cur, e, _, hg, _⟩
  · cases e
  · injection e with e1 e2 e3
    injection e1 with e1
    injection e1 with e1
    subst e1
    exact (Array.getElem?_eq_some_iff.1 hg).1
set_option maxRecDepth 100000 in
theorem refFirst16 : FirstOK 14 := by
  intro x w
  have D : Hid (Below w.heap.size w (w.alloc (.cells (tmCells x).toArray 32))) := Lib.hid ((Below.refl _ w).alloc (Nat.le_refl _) _)
  have KC := Lib.hid (fun W => refClamp_any x.base x.least x.most W (firstI x) rfl)
  generalize firstI x = y at KC ⊢
  obtain ⟨x0, x1, x2, x3, x4, x5⟩ := x
  unfold tmV
  unfold tmCells at D
  dsimp only at D KC ⊢
  go_enter Try.func14, Try.ntmps14
  go_wp2_with (go_at_call 31; (with_reducible refine (KC.out _).mono ?_); rintro e w5 ⟨rfl, hw⟩; have D5 : Hid (Below w.heap.size w w5) := Lib.hid (by rw [← hw]; exact D.out); clear hw)
  go_ret
  exact ⟨rfl, D5.out⟩
set_option maxRecDepth 100000 in
theorem refCopy16 (v : Value) (l : List It16) (w : World) (hv : TmIn w v l) (hn : l.length ≤ 80000) :
    Calls Try.prog 9 #[v] w fun e w' => ∃ v', e = .returned v' ∧ ownsT w' w.heap.size v' l ∧ Below w.heap.size w w' := by
  have HV := Lib.hid hv
  clear hv
  go_enter Try.func9, Try.ntmps9
  go_wp2_with ((with_reducible change wpList _ _ _ (Oper.mk (some 6) _ _ _ _ _ :: _) _ _); refine wpList_append_tms rfl _ _ rfl w.heap.size _ [] rfl (ownsT.nil _ _) l _ rfl HV.out (by simp; omega) (Nat.le_refl _) ?_; intro v3 w3 hO hB _; rw [List.nil_append] at hO; have O3 := Lib.hid hO; have B3 := Lib.hid hB; clear hO hB)
  go_ret
  exact ⟨v3, rfl, O3.out, B3.out⟩
set_option maxRecDepth 100000 in
theorem refEvery16 (g n c : Nat) (S : Nat → Bool) (w : World) (h : BoolsB w g n S) (hn : n ≤ 100000) (b : Bool) (hb : b = true ↔ ∀ i, i < n → S i = true) :
    Calls Try.prog 19 #[.slice (some ⟨g, 0, none⟩) n c] w fun e w' => e = .returned (.bool b) ∧ w = w' := by
  have H := Lib.hid h
  have HB := Lib.hid hb
  clear h hb
  go_enter Try.func19, Try.ntmps19
  go_wp2_with fail
  go_loopg [3] n (fun g1 vi wr => ∃ k : Nat, vi = .int .i64 k ∧ k ≤ n ∧ n - k ≤ g1 ∧ Hid (∀ i, i < k → S i = true) ∧ Hid (w = wr))
  case atStart => exact ⟨0, rfl, by omega, by omega, Lib.hid (fun i hi => absurd hi (by omega)), Lib.hid rfl⟩
  case round =>
    obtain ⟨k, rfl, hk, hg1, HS, HW⟩ := hrel
    obtain rfl := HW.out
    clear HW
    by_cases hlt : k < n
    · have hz : (k : Int) < n := by omega
      have hz0 : (0 : Int) ≤ k := by omega
      have wi : IntKind.i64.wrap ((k : Int) + 1) = (k : Int) + 1 := IntWalk.i64_in _ (by omega)
      have c0 := H.out.cell k hlt
      obtain ⟨s, hs⟩ : ∃ s, S k = s := ⟨_, rfl⟩
      rw [hs] at c0
      have E := Lib.hid hs
      clear hs
      cases s with
      | true =>
        have NX : Hid (∀ i, i < k + 1 → S i = true) := Lib.hid (fun i hi => by
          rcases Nat.lt_or_ge i k with h | h
          · exact HS.out i h
          · obtain rfl : i = k := by omega
            exact E.out)
        go_wp2_with fail
        go_roundg (n - (k + 1))
        case measure => omega
        case rel => exact ⟨k + 1, by go_num, by omega, Nat.le_refl _, NX, Lib.hid rfl⟩
      | false =>
        have R : Hid (b = false) := Lib.hid (by
          cases b with
          | false => rfl
          | true => have := HB.out.1 rfl k hlt; rw [E.out] at this; cases this)
        go_wp2_with fail
        go_ret
        exact ⟨by rw [R.out]; rfl, rfl⟩
    · obtain rfl : k = n := by omega
      have hz : ¬ (k : Int) < k := by omega
      have R : Hid (b = true) := Lib.hid (HB.out.2 HS.out)
      go_wp2_with fail
      go_ret
      exact ⟨by rw [R.out]; rfl, rfl⟩
end Go.Proofs.Ytjlnaadpiohbnaa
