/-
  words.digits: the function value that it hands back tells the digits of its number, the least one first, and of each whether more follow: a contract for a range over a function.
-/
import Derived.RangeFuncNested
import Derived.RangeFuncBound
import Derived.RangeFuncCalls
import Derived.RangeFuncLeaves
import Derived.Shelf.Abstract
import Derived.Shelf.RegionOpen
import Derived.WalkKit
import Derived.OwnWalkIn
import Derived.TacticsInMore
import Derived.LoopNIn
import Derived.LoopIn
import Derived.Test.YtkjndgnjilfobaaProg
import Derived.Test.YtkjndgnjilfobaaWordsMath
import Derived.Test.YtkjndgnjilfobaaNums
namespace Go.Proofs.Ytkjndgnjilfobaa
open Go.RowKit Go.Shelf
attribute [local go_sem] Oper.semAt_some

abbrev digEnc (p : Fin 128 × Bool) : Array Value := #[.int .u8 ((p.1.val : Nat) : Int), .bool p.2]

set_option maxRecDepth 100000 in
set_option maxHeartbeats 1000000 in
theorem digits1_in (F : Fence) (n : Nat) (h6 : F.fn 70) (hro : F.round = none) (hn : 1 ≤ n) (l Bn n₀ : Nat) (m : Nat) (hm : m < 18446744073709551616) (J Jx : List (Fin 128 × Bool) → World → Prop)
    (hY : ∀ pre x W, J pre W → pre.length < (digs m).length → YieldAt F (n - 1) Try.prog l (digEnc x) W fun e W' =>
      (e = .returned (.bool true) ∧ J (pre ++ [x]) W' ∧ Below n₀ W W') ∨ (e = .returned (.bool false) ∧ Jx (pre ++ [x]) W'))
    (W : World) (hBn : W.cell? ⟨Bn, 0, none⟩ = some (.int .u64 (m : Nat))) (h0 : J [] W) :
    CallsIn F n Try.prog 70 #[.func (.yield l) #[] #[], .pointer (some ⟨Bn, 0, none⟩)] W fun e W' => (∃ v, e = .returned v) ∧
      ((∃ ys, ys = digs m ∧ J ys W') ∨ (∃ pre, pre <+: digs m ∧ Jx pre W')) := by
  refine callsIn_of_wp Try.func70 rfl h6 ?_ hro
  simp only [Try.ntmps70, List.size_toArray, List.length_cons, List.length_nil, Nat.reduceAdd, Nat.reduceSub, Array.replicate_succ, Array.replicate_zero, List.push_toArray, List.append_toArray, List.nil_append, List.cons_append]
  gi_wp2
  gi_loopw [3] (fun p wr => ∃ (pre : List (Fin 128 × Bool)) (r : Nat), p = .int .u64 (r : Nat) ∧ r < 18446744073709551616 ∧ digs m = pre ++ digs r ∧ J pre wr)
    (fun p _ => (intOf p).toNat)
  case atStart =>
    exact ⟨[], m, rfl, hm, rfl, h0⟩
  case round =>
    obtain ⟨pre, r, rfl, hr, hx, hJs⟩ := hrel
    by_cases hs : r < 128
    · have hd := digs_small hs
      obtain ⟨fn, tmps, assign, body, hy, hR⟩ := hY pre (⟨r, hs⟩, false) wr hJs (by rw [hx, hd]; simp)
      have HX := Lib.hid hx; have HD := Lib.hid hd; clear hx hd
      dsimp only [digEnc] at hy
      gi_wp2
      refine hR.mono ?_
      rintro e W3 (⟨rfl, hJ3, hk3⟩ | ⟨rfl, hJx3⟩)
      · gi_wp2
        go_end0
        exact ⟨⟨_, rfl⟩, .inl ⟨_, by rw [HX.out, HD.out], hJ3⟩⟩
      · gi_wp2
        go_end0
        exact ⟨⟨_, rfl⟩, .inr ⟨_, by rw [HX.out, HD.out]; exact List.prefix_refl _, hJx3⟩⟩
    · have hd := digs_big hs
      obtain ⟨fn, tmps, assign, body, hy, hR⟩ := hY pre (⟨r % 128, Nat.mod_lt _ (by omega)⟩, true) wr hJs (by rw [hx, hd]; simp)
      have HX := Lib.hid hx; have HD := Lib.hid hd; clear hx hd
      dsimp only [digEnc] at hy
      rw [show ((r % 128 : Nat) : Int) = (r : Int) % 128 from by omega] at hy
      have h128 : 128 ≤ r := by omega
      gi_wp2
      refine hR.mono ?_
      rintro e W3 (⟨rfl, hJ3, hk3⟩ | ⟨rfl, hJx3⟩)
      · gi_wp2
        go_roundw
        case rel => exact ⟨_, r / 128, by simp, by omega, by rw [HX.out, HD.out]; simp, hJ3⟩
        case measure => simp [intOf]; omega
      · gi_wp2
        refine bodyPost_ret (results_none rfl _ _ _) rfl ?_
        exact ⟨⟨_, rfl⟩, .inr ⟨_, ⟨digs (r / 128), by rw [HX.out, HD.out]; simp⟩, hJx3⟩⟩

set_option maxHeartbeats 1000000 in
theorem digits_in (F : Fence) (n : Nat) (h5 : F.fn 69) (hro : F.round = none) (m : Nat) (w : World) :
    CallsIn F n Try.prog 69 #[.int .u64 (m : Nat)] w fun e w' => e = .returned (.func (.func 70) #[] #[.pointer (some ⟨w.heap.size, 0, none⟩)]) ∧ w' = w.alloc (.cells #[.int .u64 (m : Nat)] 39) := by
  refine callsIn_of_wp Try.func69 rfl h5 ?_ hro
  simp only [Try.ntmps69, List.size_toArray, List.length_cons, List.length_nil, Nat.reduceAdd, Nat.reduceSub, Array.replicate_succ, Array.replicate_zero, List.push_toArray, List.append_toArray, List.nil_append, List.cons_append]
  gi_wp2
  go_ret
  exact ⟨rfl, rfl⟩

theorem digits_stops (F : Fence) (n : Nat) (h6 : F.fn 70) (hro : F.round = none) (hn : 1 ≤ n) (Bn n₀ m : Nat) (hm : m < 18446744073709551616) (w : World) (hBn : Bn < w.heap.size)
    (hc : w.cell? ⟨Bn, 0, none⟩ = some (.int .u64 (m : Nat))) :
    SeqStopsK F n Try.prog 70 #[.pointer (some ⟨Bn, 0, none⟩)] digEnc (Below n₀) (fun ys => ys = digs m) (fun pre => pre <+: digs m) (digs m).length w := fun l J Jx W hW _ _ hY h0 =>
  digits1_in F n h6 hro hn l Bn n₀ m hm J Jx hY W ((hW.cell (p := ⟨Bn, 0, none⟩) hBn).trans hc) h0
end Go.Proofs.Ytkjndgnjilfobaa
