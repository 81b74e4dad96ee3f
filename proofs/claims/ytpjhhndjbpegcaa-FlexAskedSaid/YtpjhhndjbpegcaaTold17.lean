/-
  What a Main tells of boxes near 0.
-/
import Derived.Test.YtpjhhndjbpegcaaFlex17
namespace Go.Proofs.Ytpjhhndjbpegcaa
open Go.RowKit

theorem Nigh17.fit {f : Nat → Int} {n : Nat} {gap room j : Int} (h : Nigh17 f n gap room j) (back : Bool) {E : Nat → Int} (hE : Extra n (leftF f gap room n) j E) : ∀ i, i < n → -1099511627776 ≤ atF f gap room back E i ∧ atF f gap room back E i ≤ 1099511627776 := fun i hi => by
  have hs := near_sum h.hn h.hgap h.hf
  have h3 := h.hroom
  have x := hE.facts
  have s1 := hs (i + 1) (by omega)
  have ff := h.hf i hi
  have e := endP_sum f gap E (i + 1)
  have hl : leftF f gap room n = room - sumB f n - gapsZ gap n := rfl
  have up := fun h => x.up h (i + 1) (by omega)
  have dn := fun h => x.down h (i + 1) (by omega)
  rcases Int.le_total 0 (leftF f gap room n) with c | c
  · have := up c
    unfold atF
    split <;> omega
  · have := dn c
    unfold atF
    split <;> omega
theorem main_near17 (hM : MainOK 12) (A : Option Addr) (n c : Nat) (f : Nat → Int) (gap room j : Int) (back : Bool) (w : World) (hv : Ints w A n f) (hc : n ≤ c ∧ c ≤ 9223372036854775807) (hN : Nigh17 f n gap room j) :
    Calls Try.prog 12 #[.slice A n c, .int .i64 gap, .int .i64 room, .int .u8 j, .bool back] w fun e w' => ∃ AO cO E, e = .returned (.tuple #[.slice AO n cO, .int .i64 0]) ∧ Hid (ownsI17 w' w.heap.size (.slice AO n cO) (listG (atF f gap room back E) n)) ∧ Hid (0 < n → Extra n (leftF f gap room n) j E) ∧ Below w.heap.size w w' := by
  have h1 := hN.hn
  have h2 := hN.hgap
  have h3 := hN.hroom
  have h4 := hN.hj
  refine (hM A n c f gap room j back w hv (by omega) hc ⟨by omega, by omega⟩ ⟨by omega, by omega⟩ (by omega)).mono ?_
  rintro e w' ⟨vO, o, z, rfl, h1, h2, hb⟩
  obtain ⟨E, rfl, rfl, hE⟩ := hN.told h1
  obtain ⟨AO, cO, rfl⟩ := own_row17 h2
  exact ⟨AO, cO, E, rfl, Lib.hid h2, Lib.hid hE, hb⟩
/-- the cells of a How -/
def HowAt (W : World) (g : Nat) (gap room j : Int) (back : Bool) : Prop := W.cell? ⟨g, 0, none⟩ = some (.int .i64 gap) ∧ W.cell? ⟨g, 1, none⟩ = some (.int .i64 room) ∧ W.cell? ⟨g, 2, none⟩ = some (.int .u8 j) ∧ W.cell? ⟨g, 3, none⟩ = some (.bool back)
theorem how_at {w1 : World} {g : Nat} {gap room j : Int} {back : Bool} (G : w1.heap[g]? = some (.cells #[.int .i64 gap, .int .i64 room, .int .u8 j, .bool back] 24)) : ∀ W, Below w1.heap.size w1 W → HowAt W g gap room j back := by
  intro W hW
  have hg : g < w1.heap.size := (Array.getElem?_eq_some_iff.1 G).1
  exact ⟨(hW.cell (p := ⟨g, 0, none⟩) hg).trans (by simp [World.cell?, G]), (hW.cell (p := ⟨g, 1, none⟩) hg).trans (by simp [World.cell?, G]), (hW.cell (p := ⟨g, 2, none⟩) hg).trans (by simp [World.cell?, G]), (hW.cell (p := ⟨g, 3, none⟩) hg).trans (by simp [World.cell?, G])⟩
theorem how_new (w : World) (gap room j : Int) (back : Bool) : ∀ W, Below (w.alloc (.cells #[.int .i64 gap, .int .i64 room, .int .u8 j, .bool back] 24)).heap.size (w.alloc (.cells #[.int .i64 gap, .int .i64 room, .int .u8 j, .bool back] 24)) W → HowAt W w.heap.size gap room j back := how_at (heap_alloc_new w _)
/-- a place in a row of the call's own, whatever was made since -/
theorem own_then17 {w : World} {B : Nat} {A : Option Addr} {c : Nat} {f : Nat → Int} {n : Nat} (h : ownsI17 w B (.slice A n c) (listG f n)) {i : Nat} (hi : i < n) : ∃ g, A = some ⟨g, 0, none⟩ ∧ ∀ W, Below w.heap.size w W → W.cell? ⟨g, i, none⟩ = some (.int .i64 (f i)) := by
  obtain ⟨g, c', e, -, hg, hc⟩ := own_at17 h hi
  injection e with e1
  exact ⟨g, e1, fun W hW => (hW.cell (p := ⟨g, i, none⟩) hg).trans hc⟩
end Go.Proofs.Ytpjhhndjbpegcaa
