/-
  The document's Put, Row, Same, Copy: a number's word; the words of all numbers; whether bytes are the same; bytes in memory of their own.
-/
import Derived.Test.YtkjndgnjilfobaaAppend
import Derived.Laws.AppendOwnNone
import Derived.BigQuiet
import Derived.Deep.QuietTactic
namespace Go.Proofs.Ytkjndgnjilfobaa
open Go.RowKit

set_option maxHeartbeats 1000000 in
set_option maxRecDepth 100000 in
theorem refPut_any (m : Nat) : ∀ (_ : m < 18446744073709551616) (w : World), Calls Try.prog 22 #[.int .u64 (m : Nat)] w (Made w (word m)) := by
  induction m using Nat.strongRecOn with
  | _ m ih =>
    intro hm w
    obtain ⟨i0, hi, hz0, hz1, hz2⟩ := info_parts Try.info5
    by_cases hs : m < 128
    · have hw := word_small hs
      have HW := Lib.hid hw; clear hw ih hm
      go_enter Try.func22, Try.ntmps22
      go_wp2
      go_ret
      exact made_of (word_byte m) (by rw [HW.out]; exact owns.one w 5 .u8 m) (Nat.le_refl _) ((Below.refl _ w).alloc (Nat.le_refl _) _)
    · have hw := word_big hs
      have HW := Lib.hid hw; clear hw
      have IH := Lib.hid (ih (m / 128) (by omega) (by omega)); clear ih
      have h128 : 128 ≤ m := by omega
      have hten := word_ten (n := m / 128) (by omega)
      have HT := Lib.hid hten; clear hten
      go_enter Try.func22, Try.ntmps22
      go_wp2_with fail
      have e1 : ((m : Int) / 128) = ((m / 128 : Nat) : Int) := by omega
      have e2 : ((m : Int) % 128 + 128) = ((m % 128 + 128 : Nat) : Int) := by omega
      rw [e1, e2]
      have E2 := Lib.hid e2; clear e1 e2
      refine (IH.out _).mono ?_
      rintro e w1 ⟨A, c, rfl, h1, h2, h3, hb, ho, hbel⟩
      have h0 : 0 < (word (m / 128)).length := word_pos _
      cases A with
      | none => have := h3 rfl; omega
      | some ad =>
        have O1 : Hid _ := Lib.hid ((owns.one w 5 .u8 (m % 128 + 128)).keep hbel)
        have C1 := Lib.hid (Nums.cells hb)
        rw [show seg (pick (word (m / 128))) 0 (word (m / 128)).length = word (m / 128) from pick_seg _] at C1
        have C2 := Lib.hid (one_cells .u8 (word (m / 128)))
        have B1 : Hid (Below w.heap.size w w1) := Lib.hid (((Below.refl _ w).alloc (Nat.le_refl _) _).trans (hbel.mono (by simp)))
        have LB := Lib.hid (word_byte m)
        clear hb ho h3 hbel h1 h2 IH
        generalize hl : word (m / 128) = l at HT HW h0 C1 C2 ⊢
        clear hl
        go_wp2_with (at_builtin; refine wpList_append_own _ rfl _ _ 25 rfl w.heap.size 5 i0 (.int .u8 0) 1 1 Try.underlying25 hi hz0 hz1 hz2 rfl (by decide) _ 1 _ rfl O1.out ad l.length c _ rfl (by simp) C1.out C2.out (by have := HT.out; unfold maxLen; omega) (by have := HT.out; omega) B1.out.size ?_; intro v' w2 hown hgrow _; clear hi hz0 hz1 hz2)
        go_ret
        refine made_of LB.out (W := w) (w := w) ?_ (Nat.le_refl _) ?_
        · rw [HW.out]; unfold owns; simpa [Nat.add_comm] using hown
        · exact B1.out.grown hgrow B1.out.size (fun k e => by cases e; exact Nat.le_refl _)
end Go.Proofs.Ytkjndgnjilfobaa
