/-
  Rows of wire's values in memory: each in five cells: a natural, an integer, a bool, bytes, a row of naturals.
-/
import Derived.Test.YtkjndgnjilfobaaNums
namespace Go.Proofs.Ytkjndgnjilfobaa
open Go.RowKit

/-- one value: its numbers, its bytes and its row, as they lie -/
structure RV where
  n : Nat
  i : Int
  f : Bool
  bA : Option Addr
  bn : Nat
  bc : Nat
  bf : Nat → Nat
  lA : Option Addr
  ln : Nat
  lc : Nat
  lf : Nat → Nat
instance : Inhabited RV := ⟨⟨0, 0, false, none, 0, 0, fun _ => 0, none, 0, 0, fun _ => 0⟩⟩

def RV.ok (w : World) (v : RV) : Prop :=
  v.n < 18446744073709551616 ∧ (-9223372036854775808 ≤ v.i ∧ v.i ≤ 9223372036854775807) ∧
  (Bytes w v.bA v.bn v.bf ∧ (v.bA = none → v.bn = 0 ∧ v.bc = 0) ∧ v.bn ≤ 140737488351232 ∧ v.bn ≤ v.bc ∧ v.bc ≤ 9223372036854775807) ∧
  (Longs w v.lA v.ln v.lf ∧ (v.lA = none → v.ln = 0 ∧ v.lc = 0) ∧ v.ln ≤ 140737488351232 ∧ v.ln ≤ v.lc ∧ v.lc ≤ 9223372036854775807)
def RV.val (v : RV) : Value := .agg #[.int .u64 (v.n : Nat), .int .i64 v.i, .bool v.f, .slice v.bA v.bn v.bc, .slice v.lA v.ln v.lc]
/-- the five cells from a place on hold the value -/
def FiveAt (w : World) (b o : Nat) (v : RV) : Prop :=
  w.cell? ⟨b, o, none⟩ = some (.int .u64 (v.n : Nat)) ∧ w.cell? ⟨b, o + 1, none⟩ = some (.int .i64 v.i) ∧ w.cell? ⟨b, o + 2, none⟩ = some (.bool v.f) ∧
  w.cell? ⟨b, o + 3, none⟩ = some (.slice v.bA v.bn v.bc) ∧ w.cell? ⟨b, o + 4, none⟩ = some (.slice v.lA v.ln v.lc)
def Vals (w : World) (A : Option Addr) (n : Nat) (V : Nat → RV) : Prop :=
  (∀ j, j < n → (V j).ok w) ∧ (0 < n → ∃ b off, A = some ⟨b, off, none⟩ ∧ b < w.heap.size ∧ ∀ j, j < n → FiveAt w b (off + j * 5) (V j))

theorem RV.ok.keep {w w' : World} {v : RV} (h : v.ok w) (hs : w.heap.size ≤ w'.heap.size) (hk : ∀ p : Addr, p.block < w.heap.size → w'.cell? p = w.cell? p) : v.ok w' :=
  ⟨h.1, h.2.1, ⟨h.2.2.1.1.keep hs hk, h.2.2.1.2⟩, ⟨h.2.2.2.1.keep hs hk, h.2.2.2.2⟩⟩
theorem RV.ok.below {w w' : World} {v : RV} (h : v.ok w) (hb : Below w.heap.size w w') : v.ok w' := h.keep hb.size fun _ hp => hb.cell hp
theorem FiveAt.keep {w w' : World} {b o : Nat} {v : RV} (h : FiveAt w b o v) (hk : ∀ o, w'.cell? ⟨b, o, none⟩ = w.cell? ⟨b, o, none⟩) : FiveAt w' b o v := by
  unfold FiveAt
  rw [hk, hk, hk, hk, hk]
  exact h
theorem Vals.keep {w w' : World} {A : Option Addr} {n : Nat} {V : Nat → RV} (h : Vals w A n V) (hs : w.heap.size ≤ w'.heap.size) (hk : ∀ p : Addr, p.block < w.heap.size → w'.cell? p = w.cell? p) : Vals w' A n V :=
  ⟨fun j hj => (h.1 j hj).keep hs hk, fun hn => by
    obtain ⟨b, off, e, hb, hc⟩ := h.2 hn
    exact ⟨b, off, e, by omega, fun j hj => (hc j hj).keep fun o => hk ⟨b, o, none⟩ hb⟩⟩
theorem Vals.below {w w' : World} {A : Option Addr} {n : Nat} {V : Nat → RV} (h : Vals w A n V) (hb : Below w.heap.size w w') : Vals w' A n V := h.keep hb.size fun _ hp => hb.cell hp
theorem Vals.zero (w : World) (A : Option Addr) (V : Nat → RV) : Vals w A 0 V := ⟨fun j hj => absurd hj (by omega), fun hn => absurd hn (by omega)⟩
theorem Vals.at_ {w : World} {A : Option Addr} {n : Nat} {V : Nat → RV} (h : Vals w A n V) {j : Nat} (hj : j < n) : ∃ b off, A = some ⟨b, off, none⟩ ∧ b < w.heap.size ∧ FiveAt w b (off + j * 5) (V j) := by
  obtain ⟨b, off, e, hb, hc⟩ := h.2 (by omega)
  exact ⟨b, off, e, hb, hc j hj⟩
theorem Vals.less {w : World} {A : Option Addr} {n m : Nat} {V : Nat → RV} (h : Vals w A n V) (hm : m ≤ n) : Vals w A m V :=
  ⟨fun j hj => h.1 j (by omega), fun h0 => by
    obtain ⟨b, off, e, hb, hc⟩ := h.2 (by omega)
    exact ⟨b, off, e, hb, fun j hj => hc j (by omega)⟩⟩

/-- what is known of a row of values that came in -/
def ValsIn (w : World) (A : Option Addr) (n c : Nat) (V : Nat → RV) : Prop := Vals w A n V ∧ (A = none → n = 0 ∧ c = 0) ∧ (n ≤ c ∧ c ≤ 9223372036854775807) ∧ n ≤ 140737488351232
/-- what a value means -/
structure WV where
  n : Nat
  i : Int
  f : Bool
  b : List Nat
  l : List Nat
  deriving DecidableEq
def RV.mean (v : RV) : WV := ⟨v.n, v.i, v.f, seg v.bf 0 v.bn, seg v.lf 0 v.ln⟩
def means (V : Nat → RV) (n : Nat) : List WV := (List.range n).map fun j => (V j).mean
theorem means_len (V : Nat → RV) (n : Nat) : (means V n).length = n := by simp [means]
theorem means_get (V : Nat → RV) (n j : Nat) (h : j < n) : (means V n)[j]? = some (V j).mean := by simp [means, h]
/-- what values are worth: 10 each, one a byte, one a number -/
def worth (V : Nat → RV) : Nat → Nat
  | 0 => 0
  | k + 1 => worth V k + 10 + (V k).bn + (V k).ln
theorem worth_mono (V : Nat → RV) {k m : Nat} (h : k ≤ m) : worth V k ≤ worth V m := by
  induction h with
  | refl => exact Nat.le_refl _
  | step _ ih => exact Nat.le_trans ih (by show _ ≤ worth V _ + 10 + _ + _; omega)
theorem worth_ten (V : Nat → RV) (k : Nat) : 10 * k ≤ worth V k := by
  induction k with
  | zero => exact Nat.le_refl _
  | succ k ih => show _ ≤ worth V k + 10 + _ + _; omega
end Go.Proofs.Ytkjndgnjilfobaa
