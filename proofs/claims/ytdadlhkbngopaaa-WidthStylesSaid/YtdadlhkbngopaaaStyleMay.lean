/-
  What style.May answers: whether all its questions do.
-/
import Derived.Test.YtdadlhkbngopaaaStyleClos
import Derived.Shelf.Abstract
import Derived.Laws.EntriesVeiled
namespace Go.Proofs.Ytdadlhkbngopaaa
open Go.RowKit

/-- the numbers of the closures -/
def closN (i : Nat) : Nat := [47, 49, 50, 51, 52, 53, 54, 55, 57, 59, 61, 63, 64, 65, 66, 67, 68].getD i 0
set_option maxRecDepth 100000 in
theorem less17 {P : Nat → Prop} {i : Nat} (h : i < 17) (p0 : P 0) (p1 : P 1) (p2 : P 2) (p3 : P 3) (p4 : P 4) (p5 : P 5) (p6 : P 6) (p7 : P 7) (p8 : P 8) (p9 : P 9) (p10 : P 10) (p11 : P 11) (p12 : P 12) (p13 : P 13) (p14 : P 14) (p15 : P 15) (p16 : P 16) : P i := by
  obtain rfl | rfl | rfl | rfl | rfl | rfl | rfl | rfl | rfl | rfl | rfl | rfl | rfl | rfl | rfl | rfl | rfl : i = 0 ∨ i = 1 ∨ i = 2 ∨ i = 3 ∨ i = 4 ∨ i = 5 ∨ i = 6 ∨ i = 7 ∨ i = 8 ∨ i = 9 ∨ i = 10 ∨ i = 11 ∨ i = 12 ∨ i = 13 ∨ i = 14 ∨ i = 15 ∨ i = 16 := by omega
  all_goals assumption
set_option maxRecDepth 100000 in
theorem clos_any (s : RS) (hs : s.ok) (b : Nat) (w : World) (S : Sty w b s) {i : Nat} (hi : i < 17) (r : Bool) (hr : part s i = r) :
    Calls Try.prog (closN i) #[.pointer (some ⟨b, 0, none⟩)] w fun e w' => e = .returned (.bool r) ∧ Below w.heap.size w w' := by
  revert r
  exact less17 (P := fun i => ∀ r, part s i = r → Calls Try.prog (closN i) #[.pointer (some ⟨b, 0, none⟩)] w fun e w' => e = .returned (.bool r) ∧ Below w.heap.size w w') hi
    (clos_0 s hs b w S) (clos_1 s hs b w S) (clos_2 s hs b w S) (clos_3 s hs b w S) (clos_4 s hs b w S) (clos_5 s hs b w S) (clos_6 s hs b w S) (clos_7 s hs b w S) (clos_8 s hs b w S)
    (clos_9 s hs b w S) (clos_10 s hs b w S) (clos_11 s hs b w S) (clos_12 s hs b w S) (clos_13 s hs b w S) (clos_14 s hs b w S) (clos_15 s hs b w S) (clos_16 s hs b w S)
set_option maxRecDepth 100000 in
theorem clos_enters {i : Nat} (hi : i < 17) : ∀ args w, (callFunc (closN i) args).run Try.prog w = .ok (.enter (closN i) args) w :=
  less17 (P := fun i => ∀ args w, (callFunc (closN i) args).run Try.prog w = .ok (.enter (closN i) args) w) hi
    (enters_of Try.func47 (by kernel_rfl) rfl) (enters_of Try.func49 (by kernel_rfl) rfl) (enters_of Try.func50 (by kernel_rfl) rfl) (enters_of Try.func51 (by kernel_rfl) rfl)
    (enters_of Try.func52 (by kernel_rfl) rfl) (enters_of Try.func53 (by kernel_rfl) rfl) (enters_of Try.func54 (by kernel_rfl) rfl) (enters_of Try.func55 (by kernel_rfl) rfl)
    (enters_of Try.func57 (by kernel_rfl) rfl) (enters_of Try.func59 (by kernel_rfl) rfl) (enters_of Try.func61 (by kernel_rfl) rfl) (enters_of Try.func63 (by kernel_rfl) rfl)
    (enters_of Try.func64 (by kernel_rfl) rfl) (enters_of Try.func65 (by kernel_rfl) rfl) (enters_of Try.func66 (by kernel_rfl) rfl) (enters_of Try.func67 (by kernel_rfl) rfl)
    (enters_of Try.func68 (by kernel_rfl) rfl)
/-- the array of the questions -/
def asked (b : Nat) : Array Value := #[.func (.func 47) #[] #[.pointer (some ⟨b, 0, none⟩)], .func (.func 49) #[] #[.pointer (some ⟨b, 0, none⟩)], .func (.func 50) #[] #[.pointer (some ⟨b, 0, none⟩)], .func (.func 51) #[] #[.pointer (some ⟨b, 0, none⟩)], .func (.func 52) #[] #[.pointer (some ⟨b, 0, none⟩)], .func (.func 53) #[] #[.pointer (some ⟨b, 0, none⟩)], .func (.func 54) #[] #[.pointer (some ⟨b, 0, none⟩)], .func (.func 55) #[] #[.pointer (some ⟨b, 0, none⟩)], .func (.func 57) #[] #[.pointer (some ⟨b, 0, none⟩)], .func (.func 59) #[] #[.pointer (some ⟨b, 0, none⟩)], .func (.func 61) #[] #[.pointer (some ⟨b, 0, none⟩)], .func (.func 63) #[] #[.pointer (some ⟨b, 0, none⟩)], .func (.func 64) #[] #[.pointer (some ⟨b, 0, none⟩)], .func (.func 65) #[] #[.pointer (some ⟨b, 0, none⟩)], .func (.func 66) #[] #[.pointer (some ⟨b, 0, none⟩)], .func (.func 67) #[] #[.pointer (some ⟨b, 0, none⟩)], .func (.func 68) #[] #[.pointer (some ⟨b, 0, none⟩)]]
set_option maxRecDepth 100000 in
theorem index_asked (b k : Nat) (hk : k < 17) (W : World) : (Instr.index 82 (.agg (asked b)) (.int .i64 (k : Nat))).run Try.prog W = .ok (.func (.func (closN k)) #[] #[.pointer (some ⟨b, 0, none⟩)]) W := by
  revert W
  exact less17 (P := fun k => ∀ W, (Instr.index 82 (.agg (asked b)) (.int .i64 (k : Nat))).run Try.prog W = .ok (.func (.func (closN k)) #[] #[.pointer (some ⟨b, 0, none⟩)]) W) hk (fun _ => by kernel_rfl) (fun _ => by kernel_rfl) (fun _ => by kernel_rfl) (fun _ => by kernel_rfl) (fun _ => by kernel_rfl) (fun _ => by kernel_rfl) (fun _ => by kernel_rfl) (fun _ => by kernel_rfl) (fun _ => by kernel_rfl) (fun _ => by kernel_rfl) (fun _ => by kernel_rfl) (fun _ => by kernel_rfl) (fun _ => by kernel_rfl) (fun _ => by kernel_rfl) (fun _ => by kernel_rfl) (fun _ => by kernel_rfl) (fun _ => by kernel_rfl)
set_option maxRecDepth 100000 in
theorem asked_size (b : Nat) : (Try.prog.info? 82).map (·.size) = some (asked b).size := by kernel_rfl
def allB (p : Nat → Bool) (n : Nat) : Bool := decide (∀ i, i < n → p i = true)
def mayB (s : RS) : Bool := allB (part s) 17

set_option maxRecDepth 100000 in
theorem smay_any (s : RS) (hs : s.ok) (w : World) (r : Bool) (hr : mayB s = r) :
    Calls Try.prog 33 #[.agg s.cells.toArray] w fun e w' => e = .returned (.bool r) ∧ Below w.heap.size w w' := by
  have SN := Lib.hid (Sty.new w s)
  have R := Lib.hid hr
  have AS : Hid (∀ b, #[Value.func (.func 47) #[] #[.pointer (some ⟨b, 0, none⟩)], Value.func (.func 49) #[] #[.pointer (some ⟨b, 0, none⟩)], Value.func (.func 50) #[] #[.pointer (some ⟨b, 0, none⟩)], Value.func (.func 51) #[] #[.pointer (some ⟨b, 0, none⟩)], Value.func (.func 52) #[] #[.pointer (some ⟨b, 0, none⟩)], Value.func (.func 53) #[] #[.pointer (some ⟨b, 0, none⟩)], Value.func (.func 54) #[] #[.pointer (some ⟨b, 0, none⟩)], Value.func (.func 55) #[] #[.pointer (some ⟨b, 0, none⟩)], Value.func (.func 57) #[] #[.pointer (some ⟨b, 0, none⟩)], Value.func (.func 59) #[] #[.pointer (some ⟨b, 0, none⟩)], Value.func (.func 61) #[] #[.pointer (some ⟨b, 0, none⟩)], Value.func (.func 63) #[] #[.pointer (some ⟨b, 0, none⟩)], Value.func (.func 64) #[] #[.pointer (some ⟨b, 0, none⟩)], Value.func (.func 65) #[] #[.pointer (some ⟨b, 0, none⟩)], Value.func (.func 66) #[] #[.pointer (some ⟨b, 0, none⟩)], Value.func (.func 67) #[] #[.pointer (some ⟨b, 0, none⟩)], Value.func (.func 68) #[] #[.pointer (some ⟨b, 0, none⟩)]] = asked b) := Lib.hid fun _ => rfl
  have C : Hid (∀ W, Sty W w.heap.size s → ∀ i, i < 17 → ∀ r, part s i = r → Calls Try.prog (closN i) #[.pointer (some ⟨w.heap.size, 0, none⟩)] W fun e w' => e = .returned (.bool r) ∧ Below W.heap.size W w') :=
    Lib.hid fun W hW i hi r hr => clos_any s hs w.heap.size W hW hi r hr
  have IX := Lib.hid (index_asked w.heap.size)
  clear hr hs
  generalize hX : s.cells.toArray = X at SN ⊢
  clear hX
  have B0 : Hid (∀ Q : Array Value, Below w.heap.size w ((w.alloc (.cells X 27)).alloc (.cells Q 82))) := Lib.hid (fun Q => ((Below.refl _ _).alloc (Nat.le_refl _) _).alloc (by simp) _)
  have SN1 : Hid (∀ Q : Array Value, Sty ((w.alloc (.cells X 27)).alloc (.cells Q 82)) w.heap.size s) := Lib.hid (fun Q => SN.out.alloc _)
  go_enter Try.func33, Try.ntmps33
  go_wp2_with fail
  simp only [AS.out]
  generalize asked w.heap.size = Q at IX
  go_loopw [25] (fun i wr => ∃ k : Nat, k ≤ 17 ∧ (∀ j, j < k → part s j = true) ∧ Below w.heap.size w wr ∧ Sty wr w.heap.size s ∧ i = .int .i64 k) (fun i _ => 17 - (intOf i).toNat)
  case atStart => exact ⟨0, Nat.zero_le _, fun j hj => absurd hj (by omega), B0.out _, SN1.out _, rfl⟩
  case round =>
    obtain ⟨k, hk, hall, hB, hS, rfl⟩ := hrel
    have A := Lib.hid hall
    have B := Lib.hid hB
    have S := Lib.hid hS
    clear hall hB hS
    by_cases hlt : k < 17
    · have ix := IX.out k hlt
      have en := clos_enters hlt
      by_cases hx : part s k = true
      · have A1 : Hid (∀ j, j < k + 1 → part s j = true) := Lib.hid fun j hj => by
          by_cases e : j = k
          · rw [e]; exact hx
          · exact A.out j (by omega)
        have C1 := Lib.hid (C.out wr S.out k hlt true hx)
        clear hx
        generalize closN k = y at ix en C1
        go_wp2_with (go_at_fn y; (with_reducible refine C1.out.mono ?_); rintro e w1 ⟨rfl, hb1⟩; have B1 : Hid (Below w.heap.size w w1) := Lib.hid (B.out.trans (hb1.mono B.out.size)); have S1 : Hid (Sty w1 w.heap.size s) := Lib.hid (S.out.below hb1); clear hb1)
        go_roundw
        case rel => exact ⟨k + 1, by omega, A1.out, B1.out, S1.out, by go_num⟩
        case measure => simp [intOf]; omega
      · have R1 : Hid (r = false) := Lib.hid (by
          rw [← R.out]; unfold mayB allB; exact decide_eq_false fun h => hx (h k hlt))
        have C1 := Lib.hid (C.out wr S.out k hlt false (by simpa using hx))
        clear hx
        generalize closN k = y at ix en C1
        go_wp2_with (go_at_fn y; (with_reducible refine C1.out.mono ?_); rintro e w1 ⟨rfl, hb1⟩; have B1 : Hid (Below w.heap.size w w1) := Lib.hid (B.out.trans (hb1.mono B.out.size)); clear hb1)
        go_ret
        exact ⟨by rw [R1.out]; rfl, B1.out⟩
    · have R1 : Hid (r = true) := Lib.hid (by
        rw [← R.out]; unfold mayB allB; exact decide_eq_true fun i hi => A.out i (by omega))
      go_wp2
      go_ret
      exact ⟨by rw [R1.out]; rfl, B.out⟩
end Go.Proofs.Ytdadlhkbngopaaa
