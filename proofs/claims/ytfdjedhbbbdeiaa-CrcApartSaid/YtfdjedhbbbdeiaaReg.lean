/-
  crc.register: a register in a block of its own; the function that hands it a bit, the one that tells it.
-/
import Derived.Test.YtfdjedhbbbdeiaaRefCrc
import Derived.Test.YtfdjedhbbbdeiaaCrcStep
import Derived.OneCell
namespace Go.Proofs.Ytfdjedhbbbdeiaa
open Go.RowKit

/-- the register, in the block g -/
def Reg (W : World) (g r : Nat) : Prop := W.heap[g]? = some (.cells #[.int .u32 (r : Nat)] 24 (0, 0))

set_option maxRecDepth 100000 in
set_option maxHeartbeats 2000000 in
theorem register_any (w : World) : Calls Try.prog 24 #[] w fun e w' =>
    e = .returned (.tuple #[.func (.func 29) #[] #[.pointer (some ⟨w.heap.size, 0, none⟩)], .func (.func 30) #[] #[.pointer (some ⟨w.heap.size, 0, none⟩)]]) ∧ Reg w' w.heap.size 4294967295 ∧ Below w.heap.size w w' := by
  have hmf : ∀ (fn : Fn) (first cap : Array Value) (w : World), (Instr.makeFunc fn first cap).run Try.prog w = .ok (.func fn first cap) w := fun _ _ _ _ => rfl
  have N : Hid (Reg (w.alloc (.cells #[.int .u32 4294967295] 24)) w.heap.size 4294967295) := Lib.hid (heap_alloc_new w _)
  go_enter Try.func24, Try.ntmps24
  go_wp2
  go_ret2
  exact ⟨rfl, N.out, (Below.refl _ w).alloc (Nat.le_refl _) _⟩

theorem hand_num (r x : Nat) (hx : x < 2) : rstep (r ^^^ x) = (r / 2) ^^^ (((r % 2) ^^^ x) * 3988292384) := by
  unfold rstep
  rw [xor_half, xor_low, show x / 2 = 0 by omega, show x % 2 = x by omega, Nat.xor_zero, Nat.mul_comm]

set_option maxRecDepth 100000 in
set_option maxHeartbeats 2000000 in
theorem hand_any (g r x : Nat) (W : World) (h : Reg W g r) (hr : r < 4294967296) (hx : x < 2) :
    Calls Try.prog 29 #[.int .u32 (x : Nat), .pointer (some ⟨g, 0, none⟩)] W fun e w' =>
      e = .returned (.tuple #[]) ∧ Reg w' g (rstep (r ^^^ x)) ∧ ∀ B, B ≤ g → Below B W w' := by
  have hc := cell_of_one h
  have hf := free_of_one h
  have b1 : bits .and .u32 (r : Int) 1 = (r : Int) % 2 := by rw [show (1 : Int) = ((1 : Nat) : Int) from rfl, u32_and_nat r 1 hr (by omega), Nat.and_one_is_mod]; omega
  have hy : (r % 2) ^^^ x < 2 := Nat.xor_lt_two_pow (n := 1) (by omega) (by omega)
  have b2 : bits .xor .u32 ((r : Int) % 2) (x : Int) = (((r % 2) ^^^ x : Nat) : Int) := u32_xor_nat (r % 2) _ (by omega) (by omega)
  have E : Hid (bits .xor .u32 ((r : Int) / 2) (bits .xor .u32 ((r : Int) % 2) (x : Int) * 3988292384 % 4294967296) = ((rstep (r ^^^ x) : Nat) : Int)) := Lib.hid (by
    rw [b2, hand_num r x hx]
    generalize (r % 2) ^^^ x = y at hy
    rw [show ((y : Int) * 3988292384 % 4294967296) = ((y * 3988292384 : Nat) : Int) by omega]
    exact u32_xor_nat (r / 2) _ (by omega) (by omega))
  have P : Hid (Reg (W.setCell ⟨g, 0, none⟩ (.int .u32 ((rstep (r ^^^ x) : Nat) : Int))) g (rstep (r ^^^ x))) := Lib.hid (one_setCell h)
  have Q : Hid (∀ z : Int, ∀ B, B ≤ g → Below B W (W.setCell ⟨g, 0, none⟩ (.int .u32 z))) := Lib.hid (fun z B hB => (Below.refl _ _).setCell (p := ⟨g, 0, none⟩) hB _)
  clear h b2 hy
  go_enter Try.func29, Try.ntmps29
  go_wp2
  go_end0
  refine ⟨rfl, ?_⟩
  rw [E.out]
  exact ⟨P.out, Q.out _⟩

theorem told_any (g r : Nat) (W : World) (h : Reg W g r) :
    Calls Try.prog 30 #[.pointer (some ⟨g, 0, none⟩)] W fun e w' => e = .returned (.int .u32 (r : Nat)) ∧ w' = W := by
  have hc := cell_of_one h
  have hf := free_of_one h
  clear h
  go_enter Try.func30, Try.ntmps30
  go_wp2
  go_ret
  exact ⟨rfl, rfl⟩
end Go.Proofs.Ytfdjedhbbbdeiaa
