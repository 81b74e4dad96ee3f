/-
  The document's Without: bytes whose sum stands behind them, without it; or none.
-/
import Derived.Test.YtfdjedhbbbdeiaaRefWith
namespace Go.Proofs.Ytfdjedhbbbdeiaa
open Go.RowKit

/-- n bytes are some with their sum behind them -/
def Stands (f : Nat → Nat) (n : Nat) : Prop := 4 ≤ n ∧ ∀ i, i < n → f i = withSum f (n - 4) i
theorem seg_ext {f g : Nat → Nat} {n : Nat} : seg f 0 n = seg g 0 n ↔ ∀ i, i < n → f i = g i := by
  constructor
  · intro h i hi
    have := seg_inj h hi
    simpa using this
  · intro h
    exact seg_congr fun i hi => by rw [Nat.zero_add]; exact h i hi
theorem made_bytes {w' : World} {A : Option Addr} {m : Nat} {f : Nat → Nat} (h : Bytes w' A (seg f 0 m).length (pick (seg f 0 m))) : Bytes w' A m f := by
  rw [seg_len] at h
  exact h.congr (fun i hi => by have := seg_get f 0 m i hi; simp [pick, this])
def WithoutPost (f : Nat → Nat) (n : Nat) (w : World) (e : Ending) (w' : World) : Prop :=
  Below w.heap.size w w' ∧ ((¬ Stands f n ∧ e = .returned (.tuple #[.slice none 0 0, .bool false])) ∨ (Stands f n ∧ ∃ A c, e = .returned (.tuple #[.slice A (n - 4) c, .bool true]) ∧ Bytes w' A (n - 4) f))

set_option maxRecDepth 100000 in
set_option maxHeartbeats 2000000 in
theorem refWithout_any (A : Option Addr) (n c : Nat) (f : Nat → Nat) (w : World) (h : Bytes w A n f) (hn : n ≤ 1000000) (hc : n ≤ c) :
    Calls Try.prog 17 #[.slice A n c] w (WithoutPost f n w) := by
  by_cases h4 : n < 4
  · have P : Hid (WithoutPost f n w (.returned (.tuple #[.slice none 0 0, .bool false])) w) := Lib.hid ⟨Below.refl _ _, .inl ⟨fun hh => by have := hh.1; omega, rfl⟩⟩
    clear h
    go_enter Try.func17, Try.ntmps17
    go_wp2
    go_ret2
    exact P.out
  · have H := Lib.hid h
    obtain ⟨m, rfl⟩ : ∃ m, n = m + 4 := ⟨n - 4, by omega⟩
    obtain ⟨b, off, rfl, hb, _⟩ := h.at_ (show 0 < m + 4 by omega)
    have HM : Hid (Bytes w (some ⟨b, off, none⟩) m f) := Lib.hid (h.less (by omega))
    have v1 : IntKind.i64.wrap (((m + 4 : Nat) : Int) - 4) = (m : Int) := by rw [show ((m + 4 : Nat) : Int) - 4 = (m : Int) by omega]; exact IntWalk.i64_in _ (by omega)
    clear h hb
    go_enter Try.func17, Try.ntmps17
    go_wp2_with fail
    refine (copy_any _ m c f w HM.out (by omega) (fun e => by cases e)).mono ?_
    rintro e w1 ⟨A2, c2, rfl, _, _, h3, hB, -, hbel⟩
    have D1 := Lib.hid (made_bytes hB)
    have H1 := Lib.hid (H.out.below hbel)
    have B1 := Lib.hid hbel
    rw [seg_len] at *
    have A2n := Lib.hid h3
    clear hB hbel h3 HM H
    go_wp2_with fail
    refine (refWith_any A2 m c2 f w1 D1.out (by omega) A2n.out).mono ?_
    rintro e w2 ⟨A3, c3, rfl, _, _, -, hB, -, hbel⟩
    have D2 := Lib.hid (D1.out.below hbel)
    have H2 := Lib.hid (H1.out.below hbel)
    have B2 := Lib.hid (B1.out.trans (hbel.mono B1.out.size))
    have E2 := Lib.hid (made_bytes hB)
    rw [seg_len] at *
    clear hB hbel D1 H1 B1
    by_cases hs : ∀ i, i < m + 4 → f i = withSum f m i
    · go_wp2_with fail
      refine (same_any A3 (some ⟨b, off, none⟩) (m + 4) (m + 4) c3 c (withSum f m) f w2 E2.out H2.out (by omega) (by omega) true ⟨fun _ => seg_ext.2 (fun i hi => (hs i hi).symm), fun _ => rfl⟩).mono ?_
      rintro e w3 ⟨rfl, hd⟩
      have P : Hid (WithoutPost f (m + 4) w (.returned (.tuple #[.slice A2 m c2, .bool true])) w3) := Lib.hid ⟨B2.out.trans (hd.below.mono B2.out.size), .inr ⟨⟨by omega, hs⟩, A2, c2, rfl, D2.out.below hd.below⟩⟩
      clear hs hd
      go_wp2
      go_ret2
      exact P.out
    · go_wp2_with fail
      refine (same_any A3 (some ⟨b, off, none⟩) (m + 4) (m + 4) c3 c (withSum f m) f w2 E2.out H2.out (by omega) (by omega) false ⟨(fun e => by cases e), fun e => absurd (fun i hi => (seg_ext.1 e i hi).symm) hs⟩).mono ?_
      rintro e w3 ⟨rfl, hd⟩
      have P : Hid (WithoutPost f (m + 4) w (.returned (.tuple #[.slice none 0 0, .bool false])) w3) := Lib.hid ⟨B2.out.trans (hd.below.mono B2.out.size), .inl ⟨fun hh => hs hh.2, rfl⟩⟩
      clear hs hd
      go_wp2
      go_ret2
      exact P.out
end Go.Proofs.Ytfdjedhbbbdeiaa
