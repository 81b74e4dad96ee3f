/-
  crc.Whole tells whether bytes are a datagram with its sum; crc.Without tells the datagram, in a row of the call's own.
-/
import Derived.Test.YtfdjedhbbbdeiaaWith
import Derived.Test.YtfdjedhbbbdeiaaDiffMath
import Derived.Test.YtfdjedhbbbdeiaaShelfC
import Derived.Test.YtfdjedhbbbdeiaaCrcWholes
namespace Go.Proofs.Ytfdjedhbbbdeiaa
open Go.RowKit

theorem bytes_in {w : World} {A : Option Addr} {n : Nat} {f : Nat → Nat} (h : Bytes w A n f) : Lib.BytesIn w A n (ints f n) := fun hn => by
  obtain ⟨b, off, rfl, _, hc⟩ := h.2 hn
  exact ⟨b, off, rfl, fun i hi => by rw [ints_get f n i hi]; exact hc i hi⟩
/-- bytes.Equal -/
theorem equal_any (A B : Option Addr) (n m c d : Nat) (f g : Nat → Nat) (w : World) (h : Bytes w A n f) (h' : Bytes w B m g) (r : Bool) (hr : r = true ↔ n = m ∧ ∀ i, i < n → f i = g i) :
    Calls Try.prog 27 #[.slice A n c, .slice B m d] w fun e w' => e = .returned (.bool r) ∧ w = w' := by
  have e : (Lib.bytesOf (ints f n) == Lib.bytesOf (ints g m)) = r := by
    have := bytesOf_ints f g n m (fun i hi => h.bd hi) (fun i hi => h'.bd hi)
    cases r
    · cases hb : (Lib.bytesOf (ints f n) == Lib.bytesOf (ints g m))
      · rfl
      · exact absurd (hr.2 (this.1 hb)) (by simp)
    · exact this.2 (hr.1 rfl)
  refine (Try.bytes_Equal_all A B n c m d (ints f n) (ints g m) w (ints_len f n) (ints_len g m) (bytes_in h) (bytes_in h')).mono ?_
  rintro _ _ ⟨rfl, rfl⟩
  rw [e]
  exact ⟨rfl, rfl⟩

set_option maxRecDepth 100000 in
set_option maxHeartbeats 4000000 in
theorem whole_any : WholeOK := by
  intro A n c f w h hn hnc hc r hr
  by_cases h4 : n < 4
  · have hr0 : r = false := by
      cases r
      · rfl
      · have := (hr.1 rfl).1
        omega
    subst hr0
    have hz : ¬ ((0 : Int) ≤ (n : Int) - 4) := by omega
    clear hr h
    go_enter Try.func18, Try.ntmps18
    go_wp2
    go_ret
    exact ⟨rfl, Below.refl _ _⟩
  · obtain ⟨m, rfl⟩ : ∃ m, n = m + 4 := ⟨n - 4, by omega⟩
    obtain ⟨b, off, rfl, hb, _⟩ := h.at_ (show 0 < m + 4 by omega)
    have H := Lib.hid h
    have HM : Hid (Bytes w (some ⟨b, off, none⟩) m f) := Lib.hid (h.less (by omega))
    have v1 : IntKind.i64.wrap (((m + 4 : Nat) : Int) - 4) = (m : Int) := by rw [show ((m + 4 : Nat) : Int) - 4 = (m : Int) by omega]; exact IntWalk.i64_in _ (by omega)
    have HR := Lib.hid hr
    unfold maxLen at hc
    clear h hb hr
    go_enter Try.func18, Try.ntmps18
    go_wp2_with fail
    refine (with_any (some ⟨b, off, none⟩) m c f w HM.out (by omega) (fun e => by cases e)).mono ?_
    rintro e w1 ⟨A1, c1, rfl, _, _, _, hB, -, hbel⟩
    have D1 := Lib.hid (made_bytes hB)
    have H1 := Lib.hid (H.out.below hbel)
    have B1 := Lib.hid hbel
    rw [seg_len] at *
    clear hB hbel
    go_wp2_with fail
    refine (equal_any (some ⟨b, off, none⟩) A1 (m + 4) (m + 4) c c1 f (withSum f m) w1 H1.out D1.out r ?_).mono ?_
    · rw [HR.out]
      unfold Stands
      rw [show m + 4 - 4 = m by omega]
      exact ⟨fun h => ⟨rfl, h.2⟩, fun h => ⟨by omega, h.2⟩⟩
    rintro e w2 ⟨rfl, rfl⟩
    go_wp2
    go_ret
    exact ⟨rfl, B1.out⟩

theorem ownB_of {w : World} {base n c : Nat} {A : Option Addr} {l : List Nat} {f : Nat → Nat} (h : owns w base 5 .u8 (.slice A n c) l) (hl : l = seg f 0 n) (hf : ∀ i, i < n → f i < 256) : OwnB w base A n f := by
  refine ⟨hf, ?_⟩
  rcases h.2 with ⟨hv, h0⟩ | ⟨g, cap, cur, hv, hg, hh, _, _, _, ht⟩
  · left
    rw [hl, seg_len] at h0
    exact h0
  · right
    injection hv with hv1 hv2 hv3
    refine ⟨g, cur, hv1, hg, hh, fun i hi => ?_⟩
    have e : (cur.toList.take (l.length * 1))[i]? = some (Value.int .u8 (f i : Nat)) := by
      rw [ht, hl, List.getElem?_map, seg_get f 0 n i hi]
      simp
    rw [List.getElem?_take_of_lt (by rw [hl, seg_len]; omega)] at e
    simpa using e

set_option maxRecDepth 100000 in
set_option maxHeartbeats 4000000 in
theorem without_any : WithoutOK := by
  obtain ⟨i0, hi, hz0, hz1, hz2⟩ := info_parts Try.info5
  intro A n c f w h hn hnc hc
  have H := Lib.hid h
  have HC := Lib.hid hc
  by_cases hs : Stands f n
  · obtain ⟨m, rfl⟩ : ∃ m, n = m + 4 := ⟨n - 4, by have := hs.1; omega⟩
    have W := Lib.hid (whole_any A (m + 4) c f w h hn hnc hc true ⟨fun _ => hs, fun _ => rfl⟩)
    obtain ⟨b, off, rfl, hb, _⟩ := h.at_ (show 0 < m + 4 by omega)
    have HM : Hid (Bytes w (some ⟨b, off, none⟩) m f) := Lib.hid (h.less (by omega))
    have v1 : IntKind.i64.wrap (((m + 4 : Nat) : Int) - 4) = (m : Int) := by rw [show ((m + 4 : Nat) : Int) - 4 = (m : Int) by omega]; exact IntWalk.i64_in _ (by omega)
    have HS := Lib.hid hs
    unfold maxLen at hc
    clear h hb hs
    go_enter Try.func16, Try.ntmps16
    go_wp2_with fail
    refine W.out.mono ?_
    rintro e w1 ⟨rfl, hb⟩
    have B1 := Lib.hid hb
    have H1 := Lib.hid (HM.out.below hb)
    have C1 := Lib.hid (Nums.cells H1.out)
    have C2 := Lib.hid (one_cells .u8 (seg f 0 m))
    have C3 : Hid _ := Lib.hid (seg_len f 0 m)
    have B1s := Lib.hid hb.size
    clear hb W HM H
    go_wp2_with (at_builtin; refine wpList_append_own _ rfl _ _ 22 rfl w1.heap.size 5 i0 (.int .u8 0) 1 1 Try.underlying22 hi hz0 hz1 hz2 rfl (by decide) _ 0 [] rfl (World.ownsRow_nil _ _ _ _) ⟨b, off, none⟩ m c _ rfl (by rw [List.length_map, C3.out, Nat.mul_one]) C1.out C2.out (by unfold maxLen; omega) (by omega) (Nat.le_refl _) ?_)
    intro v' w2 hown hgrow _
    have OW : Hid (owns w2 w1.heap.size 5 .u8 v' (seg f 0 m)) := Lib.hid (by
      try simp only [Nat.zero_add, List.nil_append] at hown
      unfold owns; rw [C3.out]; exact hown)
    have B2 : Hid (Below w1.heap.size w1 w2) := Lib.hid ((Below.refl _ w1).grown hgrow (Nat.le_refl _) (fun k e => by cases e))
    clear hown hgrow
    obtain ⟨A2, c2, rfl, k1, k2, -⟩ := OW.out.form
    rw [C3.out] at *
    have P : Hid (OwnB w2 w.heap.size A2 m f) := Lib.hid (ownB_of (OW.out.down B1s.out) rfl (fun i hi => H1.out.bd hi))
    have Q : Hid (Below w.heap.size w w2) := Lib.hid (B1.out.trans (B2.out.mono B1s.out))
    clear OW B2 H1 C1 C2
    go_wp2
    go_ret2
    exact ⟨Q.out, .inr ⟨HS.out, A2, c2, rfl, k1, k2, P.out⟩⟩
  · have W := Lib.hid (whole_any A n c f w h hn hnc hc false ⟨(fun e => by cases e), fun e => absurd e hs⟩)
    have HS := Lib.hid hs
    clear h hs
    go_enter Try.func16, Try.ntmps16
    go_wp2_with fail
    refine W.out.mono ?_
    rintro e w1 ⟨rfl, hb⟩
    go_wp2
    go_ret2
    exact ⟨hb, .inl ⟨HS.out, rfl⟩⟩
end Go.Proofs.Ytfdjedhbbbdeiaa
