/-
  The law TreeNested, of any program that answers as is asked.
-/
import Derived.Test.YtlkcmfohmkblfaaAwake5
namespace Go.Proofs.Ytlkcmfohmkblfaa
open Go.RowKit

theorem great_call {A : Option Addr} {n c : Nat} {x : Int} {N : Nat → RN} : ∀ W, DocIn W A n c x N → Calls Try.prog 9 #[.agg #[.slice A n c, .int .i64 x]] W fun e w' => ∃ g : Bool, e = .returned (.bool g) ∧ (g = false → n ≤ 320 ∧ bytesTo N n ≤ 5000) ∧ Below W.heap.size W w' := fun W h => great5_any A n c x N W h

/-- where a law's walk stands: its document and the variable of it -/
structure One (H p : Nat) (A : Option Addr) (n c : Nat) (x : Int) (N : Nat → RN) (w W : World) : Prop where
  below : Below H w W
  size : H ≤ W.heap.size
  doc : DocIn W A n c x N
  x0 : W.cell? ⟨p, 0, none⟩ = some (.slice A n c)
  x1 : W.cell? ⟨p, 1, none⟩ = some (.int .i64 x)
theorem One.next {H p : Nat} {A : Option Addr} {n c : Nat} {x : Int} {N : Nat → RN} {w W W' : World} (h : One H p A n c x N w W) (hb : Below W.heap.size W W') : One H p A n c x N w W' :=
  ⟨h.below.trans (hb.mono h.size), Nat.le_trans h.size hb.size, h.doc.below hb, (hb.cell (lt_of_cell h.x0)).trans h.x0, (hb.cell (lt_of_cell h.x1)).trans h.x1⟩
theorem one_start {A : Option Addr} {n c : Nat} {x : Int} {N : Nat → RN} {w : World} (h : DocIn w A n c x N) : One w.heap.size w.heap.size A n c x N w (w.alloc (.cells #[.slice A n c, .int .i64 x] 24)) := by
  have hb : Below w.heap.size w (w.alloc (.cells #[.slice A n c, .int .i64 x] 24)) := (Below.refl _ _).alloc (Nat.le_refl _) _
  exact ⟨hb, hb.size, h.below hb, by simp, by simp⟩

theorem one_S {H p : Nat} {A : Option Addr} {n c : Nat} {x : Int} {N : Nat → RN} {w W : World} (h : One H p A n c x N w W) : One H p A n c x N w W ∧ W.cell? ⟨p, 0, none⟩ = some (.slice A n c) ∧ W.cell? ⟨p, 1, none⟩ = some (.int .i64 x) := ⟨h, h.x0, h.x1⟩
theorem One.drew {H p : Nat} {A : Option Addr} {n c : Nat} {x : Int} {N : Nat → RN} {w W : World} (h : One H p A n c x N w W) : One H p A n c x N w W.drew := h.next (Below.refl _ _).drew
theorem end_one (hE : EndOK) {a r : Int} (h1 : -9223372036854775808 ≤ a ∧ a ≤ 9223372036854775807) {H p : Nat} {A : Option Addr} {n c : Nat} {x : Int} {N : Nat → RN} {w : World} (he : endAns N n a = r) : ∀ W, One H p A n c x N w W →
    Calls Try.prog 14 #[.agg #[.slice A n c, .int .i64 x], .int .i64 a] W fun e w' => e = .returned (.int .i64 r) ∧ Below W.heap.size W w' := fun W h => by
  subst he
  exact hE A n c x N a W h.doc h1.1 h1.2

set_option maxRecDepth 100000 in
set_option maxHeartbeats 4000000 in
theorem nested5 (hM : MayOK) (hS : SameOK5) (hC : CopyOK5) (hF : FindOK) (hE : EndOK) (hP : ParentOK) (hK : KidsOK)
    (a0 : Option Addr) (len0 cap0 : Nat) (x0 : Int) (z0 : Nat → RN) (a1 a2 : Int) (w : World) (w0 : DocIn w a0 len0 cap0 x0 z0) (w1 : (Lit.int .i64 a1).wf = true) (w2 : (Lit.int .i64 a2).wf = true) :
    Calls Try.prog 4 #[docV a0 len0 cap0 x0, .int .i64 a1, .int .i64 a2] w fun e w' => e = .returned (.bool true) ∧ Below w.heap.size w w' := by
  have AW := Lib.hid (awake5_any hM hS hC hF hE hP hK)
  have KE := Lib.hid hE
  have b1 := i64_in w1
  have b2 := i64_in w2
  have D0 := Lib.hid w0
  clear hM hS hC hF hE hP hK w0 w1 w2
  unfold docV
  go_enter Try.func4, Try.ntmps4
  go_wp2_with fail
  have T0 := Lib.hid (one_start D0.out)
  clear D0
  refine (AW.out _).mono ?_
  rintro e v1 ⟨rfl, hb⟩
  have T1 := Lib.hid (T0.out.next hb)
  clear hb T0
  obtain ⟨-, -, -, q0, q1⟩ := T1.out
  go_wp2_with fail
  clear q0 q1
  refine (great_call _ T1.out.doc).mono ?_
  rintro e v2 ⟨g, rfl, hg, hb⟩
  have T2 := Lib.hid (T1.out.next hb)
  clear hb T1
  cases g
  case true =>
    go_wp2_with fail
    go_ret
    exact ⟨rfl, T2.out.below⟩
  have hn := (hg rfl).1
  clear hg
  obtain ⟨-, -, -, q0, q1⟩ := T2.out
  by_cases c1 : a1 < 0
  · go_wp2_with fail
    go_ret
    exact ⟨rfl, T2.out.below⟩
  by_cases c2 : a2 < a1
  · go_wp2_with fail
    go_ret
    exact ⟨rfl, T2.out.below⟩
  by_cases c3 : (len0 : Int) ≤ a2
  · go_wp2_with fail
    go_ret
    exact ⟨rfl, T2.out.below⟩
  go_wp2_with fail
  obtain ⟨i, rfl⟩ := Int.eq_ofNat_of_zero_le c1
  obtain ⟨j, rfl⟩ := Int.eq_ofNat_of_zero_le (show 0 ≤ a2 by omega)
  have hi : i < len0 := by omega
  have hj : j < len0 := by omega
  have g1 := endOf_gt (dps z0) hi
  have g2 := endOf_gt (dps z0) hj
  have g3 := nested (dps z0) hj (show i ≤ j by omega)
  have v1' : endAns z0 len0 i = (endOf (dps z0) len0 i : Nat) := by unfold endAns; rw [if_pos ⟨by omega, by omega⟩]; rfl
  have v2' : endAns z0 len0 j = (endOf (dps z0) len0 j : Nat) := by unfold endAns; rw [if_pos ⟨by omega, by omega⟩]; rfl
  generalize endOf (dps z0) len0 i = s at g1 g3 v1'
  generalize endOf (dps z0) len0 j = t at g2 g3 v2'
  have E1 := Lib.hid (end_one KE.out b1 (H := w.heap.size) (p := w.heap.size) (A := a0) (c := cap0) (x := x0) (w := w) v1')
  have E2 := Lib.hid (end_one KE.out b2 (H := w.heap.size) (p := w.heap.size) (A := a0) (c := cap0) (x := x0) (w := w) v2')
  clear v1' v2' KE q0 q1 AW
  go_region_held3 (fun W' => One w.heap.size w.heap.size a0 len0 cap0 x0 z0 w W' ∧ W'.cell? ⟨w.heap.size, 0, none⟩ = some (.slice a0 len0 cap0) ∧ W'.cell? ⟨w.heap.size, 1, none⟩ = some (.int .i64 x0))
    (first | (with_reducible exact one_S KB.out) | (with_reducible exact one_S T2.out.drew))
    (first
    | (go_at_call 14; (with_reducible refine (E1.out _ (And.left (by assumption))).mono ?_); rintro e w5 ⟨rfl, hb⟩; have KB : Hid (One w.heap.size w.heap.size a0 len0 cap0 x0 z0 w w5) := Lib.hid (One.next (And.left (by assumption)) hb); clear hb)
    | (go_at_call 14; (with_reducible refine (E2.out _ (And.left (by assumption))).mono ?_); rintro e w5 ⟨rfl, hb⟩; have KB : Hid (One w.heap.size w.heap.size a0 len0 cap0 x0 z0 w w5) := Lib.hid (One.next (And.left (by assumption)) hb); clear hb))
  have f1 : (i : Int) < s := by omega
  have f2 : (j : Int) < t := by omega
  have f3 : (s : Int) ≤ len0 := by omega
  have f4 : (t : Int) ≤ len0 := by omega
  by_cases c : s ≤ j
  · have f5 : (s : Int) ≤ j := by omega
    go_wp2_with fail
    go_ret
    exact ⟨rfl, KB.out.below⟩
  · have f5 : ¬ (s : Int) ≤ j := by omega
    have f6 : (t : Int) ≤ s := by omega
    go_wp2_with fail
    go_ret
    exact ⟨rfl, KB.out.below⟩
end Go.Proofs.Ytlkcmfohmkblfaa
