/-
  The five letters' functions, by the letter.
-/
import Derived.Test.YtkjndgnjilfobaaKindsOf
import Derived.Test.YtkjndgnjilfobaaLongW
import Derived.Shelf.Abstract
namespace Go.Proofs.Ytkjndgnjilfobaa
open Go.RowKit

theorem fnO_enters {c : Nat} (hc : Letter c) : ∀ args w, (callFunc (fnO c) args).run Try.prog w = .ok (.enter (fnO c) args) w := by
  rcases hc with rfl | rfl | rfl | rfl | rfl
  · exact enters_of Try.func46 (by kernel_rfl) rfl
  · exact enters_of Try.func51 (by kernel_rfl) rfl
  · exact enters_of Try.func56 (by kernel_rfl) rfl
  · exact enters_of Try.func59 (by kernel_rfl) rfl
  · exact enters_of Try.func62 (by kernel_rfl) rfl
theorem fnP_enters {c : Nat} (hc : Letter c) : ∀ args w, (callFunc (fnP c) args).run Try.prog w = .ok (.enter (fnP c) args) w := by
  rcases hc with rfl | rfl | rfl | rfl | rfl
  · exact enters_of Try.func47 (by kernel_rfl) rfl
  · exact enters_of Try.func52 (by kernel_rfl) rfl
  · exact enters_of Try.func57 (by kernel_rfl) rfl
  · exact enters_of Try.func60 (by kernel_rfl) rfl
  · exact enters_of Try.func63 (by kernel_rfl) rfl
theorem fnT_enters {c : Nat} (hc : Letter c) : ∀ args w, (callFunc (fnT c) args).run Try.prog w = .ok (.enter (fnT c) args) w := by
  rcases hc with rfl | rfl | rfl | rfl | rfl
  · exact enters_of Try.func49 (by kernel_rfl) rfl
  · exact enters_of Try.func54 (by kernel_rfl) rfl
  · exact enters_of Try.func58 (by kernel_rfl) rfl
  · exact enters_of Try.func61 (by kernel_rfl) rfl
  · exact enters_of Try.func65 (by kernel_rfl) rfl
theorem onlyK {c : Nat} (hc : Letter c) (v : RV) (w : World) : Calls Try.prog (fnO c) #[v.val] w fun e w' => e = .returned (onlyOf c v).val ∧ Below w.heap.size w w' := by
  rcases hc with rfl | rfl | rfl | rfl | rfl
  · exact only_n v w
  · exact only_i v w
  · exact only_f v w
  · exact only_b v w
  · exact only_l v w
theorem putK {c : Nat} (hc : Letter c) (v : RV) (w : World) (hv : v.ok w) (hb : v.bn ≤ 262144) (hl : v.ln ≤ 4096) : Calls Try.prog (fnP c) #[v.val] w (Made w (form c v.mean)) := by
  rcases hc with rfl | rfl | rfl | rfl | rfl
  · exact put_n v w hv
  · exact put_i v w hv
  · exact put_f v w
  · exact put_b v w hv hb
  · exact put_l v w hv hl
theorem takeK {c : Nat} (hl : Letter c) (A : Option Addr) (n cp : Nat) (f : Nat → Nat) (w : World) (h : Bytes w A n f) (hA : A = none → n = 0 ∧ cp = 0) (hn : n ≤ 4194304) (hc : n ≤ cp) (hcc : cp ≤ 9223372036854775807) : Calls Try.prog (fnT c) #[.slice A n cp] w (KTaken c (seg f 0 n) w) := by
  rcases hl with rfl | rfl | rfl | rfl | rfl
  · exact take_n A n cp f w h hn hc
  · exact take_i A n cp f w h hn hc
  · exact take_f A n cp f w h hc
  · exact take_b A n cp f w h hA hn hc hcc
  · exact take_l A n cp f w h hn hc
theorem onlyOf_ok {v : RV} {w : World} (h : v.ok w) {c : Nat} (hc : Letter c) : (onlyOf c v).ok w := by
  obtain ⟨h1, h2, h3, h4⟩ := h
  have zn : (0 : Nat) < 18446744073709551616 := by decide
  have zi : -9223372036854775808 ≤ (0 : Int) ∧ (0 : Int) ≤ 9223372036854775807 := by decide
  have zb : ∀ K M, Nums K M w none 0 (fun _ => 0) ∧ ((none : Option Addr) = none → (0 : Nat) = 0 ∧ (0 : Nat) = 0) ∧ (0 : Nat) ≤ 140737488351232 ∧ (0 : Nat) ≤ 0 ∧ (0 : Nat) ≤ 9223372036854775807 := fun K M => ⟨Nums.zero _ _, fun _ => ⟨rfl, rfl⟩, Nat.zero_le _, Nat.le_refl _, Nat.zero_le _⟩
  rcases hc with rfl | rfl | rfl | rfl | rfl
  · exact ⟨h1, zi, zb _ _, zb _ _⟩
  · exact ⟨zn, h2, zb _ _, zb _ _⟩
  · exact ⟨zn, zi, zb _ _, zb _ _⟩
  · exact ⟨zn, zi, h3, zb _ _⟩
  · exact ⟨zn, zi, zb _ _, h4⟩
theorem only_fits {c : Nat} (hc : Letter c) (v : RV) : v.mean = (onlyOf c v).mean ↔ Fits c v.mean := by
  rw [mean_eq]
  have e : seg v.bf 0 v.bn = v.mean.b := rfl
  have e2 : seg v.lf 0 v.ln = v.mean.l := rfl
  rcases hc with rfl | rfl | rfl | rfl | rfl <;> simp [onlyOf, Fits, RV.mean, seg_zero]
theorem pick_getD (s : List Nat) (j : Nat) : s.getD j 0 = pick s j := by simp [pick, List.getD]
end Go.Proofs.Ytkjndgnjilfobaa
