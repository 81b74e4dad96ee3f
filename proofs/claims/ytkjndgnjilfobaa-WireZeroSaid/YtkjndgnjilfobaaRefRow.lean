/-
  The document's Row: the words of all numbers, one behind the other.
-/
import Derived.Test.YtkjndgnjilfobaaRefPut
namespace Go.Proofs.Ytkjndgnjilfobaa
open Go.RowKit

set_option maxRecDepth 100000 in
set_option maxHeartbeats 2000000 in
theorem refRow_any (A : Option Addr) (len c : Nat) (f : Nat → Nat) (w : World) (h : Longs w A len f) (hlen : len ≤ 100000) :
    Calls Try.prog 43 #[.slice A len c] w (Made w (flat f len)) := by
  obtain ⟨i0, hi, hz0, hz1, hz2⟩ := info_parts Try.info5
  have H := Lib.hid h
  clear h
  go_enter Try.func43, Try.ntmps43
  go_wp2
  go_loopw [3, 4] (fun v i wr => ∃ k : Nat, k ≤ len ∧ i = .int .i64 (k : Nat) ∧ owns wr w.heap.size 5 .u8 v (flat f k) ∧ Below w.heap.size w wr) (fun _ i _ => len - (intOf i).toNat)
  case atStart => exact ⟨0, by omega, rfl, World.ownsRow_nil _ _ _ _, Below.refl _ _⟩
  case round =>
    obtain ⟨k, hk, rfl, hown, hB⟩ := hrel
    by_cases hlt : k < len
    · obtain ⟨b, off, rfl, hb, hcell⟩ := H.out.at_ hlt
      have hfk := H.out.bd hlt
      have hcW : wr.cell? ⟨b, off + k, none⟩ = some (.int .u64 (f k : Nat)) := (hB.cell (p := ⟨b, off + k, none⟩) hb).trans hcell
      have hfl := flat_bd f len (fun i hi => H.out.bd hi) k hk
      have O := Lib.hid hown; have B := Lib.hid hB; have FK := Lib.hid hfk; have FL := Lib.hid hfl
      clear hown hB hfk hfl hcell hb
      go_wp2_with fail
      refine (refPut_any (f k) FK.out wr).mono ?_
      rintro e w1 ⟨A', c', rfl, h1, h2, h3, hb, ho, hbel⟩
      have h0 : 0 < (word (f k)).length := word_pos _
      cases A' with
      | none => have := h3 rfl; omega
      | some ad =>
        have O1 := Lib.hid (O.out.keep hbel)
        have B1 := Lib.hid (B.out.trans (hbel.mono B.out.size))
        have C1 := Lib.hid (Nums.cells hb)
        rw [show seg (pick (word (f k))) 0 (word (f k)).length = word (f k) from pick_seg _] at C1
        have C2 := Lib.hid (one_cells .u8 (word (f k)))
        have HT := Lib.hid (word_ten FK.out)
        have FS := Lib.hid (flat_succ f k)
        clear hb ho h3 hbel h1 h2
        generalize hl : word (f k) = l at HT h0 C1 C2 FS ⊢
        clear hl
        go_wp2_with (at_builtin; refine wpList_append_own _ rfl _ _ 25 rfl w.heap.size 5 i0 (.int .u8 0) 1 1 Try.underlying25 hi hz0 hz1 hz2 rfl (by decide) _ (flat f k).length _ rfl O1.out ad l.length c' _ rfl (by simp) C1.out C2.out (by have := HT.out; have := FL.out; unfold maxLen; omega) (by have := HT.out; have := FL.out; omega) B1.out.size ?_)
        intro v' w2 hown' hgrow _
        have O2 : Hid (owns w2 w.heap.size 5 .u8 v' (flat f (k + 1))) := Lib.hid (by rw [FS.out]; unfold owns; simpa using hown')
        have B2 : Hid (Below w.heap.size w w2) := Lib.hid (B1.out.grown hgrow B1.out.size (fun j e => (O1.out.lt j e).1))
        clear hown' hgrow
        go_wp2
        go_roundw
        case rel => exact ⟨k + 1, by omega, by go_num, O2.out, B2.out⟩
        case measure => simp [intOf]; omega
    · obtain rfl : k = len := by omega
      go_wp2
      go_ret
      exact made_of (flat_byte _) hown (Nat.le_refl _) hB
end Go.Proofs.Ytkjndgnjilfobaa
