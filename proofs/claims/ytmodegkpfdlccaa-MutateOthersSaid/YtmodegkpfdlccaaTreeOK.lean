/-
  What is asked of a program's May, Copy, Same, Find, End, Parent, Kids of tree.
-/
import Derived.Test.YtmodegkpfdlccaaTreeMath
import Derived.Test.YtmodegkpfdlccaaGreat5
import Derived.Test.YtmodegkpfdlccaaFour
namespace Go.Proofs.Ytmodegkpfdlccaa
open Go.RowKit

def dps (N : Nat → RN) (j : Nat) : Int := (N j).depth
/-- a document has a shape -/
structure Shape (n : Nat) (x : Int) (N : Nat → RN) : Prop where
  some_ : 0 < n
  most : n ≤ 300
  next : x ≤ 1073741825
  steps : Steps (dps N) n
  deep : ∀ i, i < n → (N i).depth ≤ 15
  kind : ∀ i, i < n → (N i).kind = 0 ∨ (N i).kind = 1
  first : (N 0).kind = 0
  behind : ∀ i, i + 1 < n → (N i).kind = 1 → (N (i + 1)).depth ≤ (N i).depth
  key : ∀ i, i < n → 1 ≤ (N i).key ∧ (N i).key < x
  once : ∀ i j, i < j → j < n → (N i).key ≠ (N j).key
  box : ∀ i, i < n → (N i).kind = 0 → (N i).text = []
  text : ∀ i, i < n → (N i).kind = 1 → (N i).style = noStyle ∧ (N i).text.length ≤ 200
  bytes : bytesTo N n ≤ 1500

def MayOK : Prop := ∀ (A : Option Addr) (n c : Nat) (x : Int) (N : Nat → RN) (w : World), DocIn w A n c x N →
  Calls Try.prog 26 #[docV A n c x] w fun e w' => ∃ b : Bool, e = .returned (.bool b) ∧ (b = true ↔ Shape n x N) ∧ Below w.heap.size w w'
def SameDoc (n : Nat) (x : Int) (N : Nat → RN) (m : Nat) (y : Int) (M : Nat → RN) : Prop := x = y ∧ n = m ∧ ∀ j, j < n → N j = M j
/-- nodes in a block of one's own -/
def OwnN (w : World) (B : Option Addr) (n H : Nat) : Prop := 0 < n → ∃ b off cs, B = some ⟨b, off, none⟩ ∧ H ≤ b ∧ w.heap[b]? = some (.cells cs 32 (0, 0))
def CopyOK5 : Prop := ∀ (A : Option Addr) (n c : Nat) (x : Int) (N : Nat → RN) (w : World), DocIn w A n c x N →
  Calls Try.prog 40 #[docV A n c x] w fun e w' => ∃ B d, e = .returned (docV B n d x) ∧ DocIn w' B n d x N ∧ OwnN w' B n w.heap.size ∧ Below w.heap.size w w'
def FindIs (N : Nat → RN) (n : Nat) (key r : Int) : Prop := (r = -1 ∧ ∀ j, j < n → (N j).key ≠ key) ∨ ∃ i : Nat, i < n ∧ r = i ∧ (N i).key = key ∧ ∀ j, j < i → (N j).key ≠ key
theorem FindIs.uniq {N : Nat → RN} {n : Nat} {key r r' : Int} (h : FindIs N n key r) (h' : FindIs N n key r') : r = r' := by
  rcases h with ⟨rfl, h⟩ | ⟨i, hi, rfl, h1, h2⟩ <;> rcases h' with ⟨rfl, h'⟩ | ⟨j, hj, rfl, h3, h4⟩
  · rfl
  · exact absurd h3 (h j hj)
  · exact absurd h1 (h' i hi)
  · rcases Nat.lt_trichotomy i j with hlt | rfl | hlt
    · exact absurd h1 (h4 i hlt)
    · rfl
    · exact absurd h3 (h2 j hlt)
def FindOK : Prop := ∀ (A : Option Addr) (n c : Nat) (x : Int) (N : Nat → RN) (key : Int) (w : World), DocIn w A n c x N → -9223372036854775808 ≤ key → key ≤ 9223372036854775807 →
  Calls Try.prog 72 #[docV A n c x, .int .i64 key] w fun e w' => ∃ r : Int, e = .returned (.int .i64 r) ∧ FindIs N n key r ∧ Below w.heap.size w w'
def endAns (N : Nat → RN) (n : Nat) (a : Int) : Int := if 0 ≤ a ∧ a < n then endOf (dps N) n a.toNat else -1
def EndOK : Prop := ∀ (A : Option Addr) (n c : Nat) (x : Int) (N : Nat → RN) (a : Int) (w : World), DocIn w A n c x N → -9223372036854775808 ≤ a → a ≤ 9223372036854775807 →
  Calls Try.prog 48 #[docV A n c x, .int .i64 a] w fun e w' => e = .returned (.int .i64 (endAns N n a)) ∧ Below w.heap.size w w'
def parAns (N : Nat → RN) (n : Nat) (a : Int) : Int := if 0 ≤ a ∧ a < n then parOf (dps N) a.toNat else -1
def kidsAns (N : Nat → RN) (n : Nat) (a : Int) : List Nat := if 0 ≤ a ∧ a < n then kidsOf (dps N) n a.toNat else []
/-- a row of places -/
def Places (w : World) (B : Option Addr) (c : Nat) (l : List Nat) : Prop :=
  (∀ p ∈ l, p < 9223372036854775808) ∧ (B = none → l = [] ∧ c = 0) ∧ (l.length ≤ c ∧ c ≤ 9223372036854775807) ∧
  (l ≠ [] → ∃ b off, B = some ⟨b, off, none⟩ ∧ b < w.heap.size ∧ ∀ (k : Nat) (p : Nat), l[k]? = some p → w.cell? ⟨b, off + k, none⟩ = some (.int .i64 (p : Nat)))
theorem Places.below {w w' : World} {B : Option Addr} {c : Nat} {l : List Nat} (h : Places w B c l) (hb : Below w.heap.size w w') : Places w' B c l :=
  ⟨h.1, h.2.1, h.2.2.1, fun hl => let ⟨b, off, e, hlt, hc⟩ := h.2.2.2 hl; ⟨b, off, e, Nat.lt_of_lt_of_le hlt hb.size, fun k p hk => (hb.cell hlt).trans (hc k p hk)⟩⟩
def KidsOK : Prop := ∀ (A : Option Addr) (n c : Nat) (x : Int) (N : Nat → RN) (a : Int) (w : World), DocIn w A n c x N → -9223372036854775808 ≤ a → a ≤ 9223372036854775807 →
  Calls Try.prog 47 #[docV A n c x, .int .i64 a] w fun e w' => ∃ B d, e = .returned (.slice B (kidsAns N n a).length d) ∧ Places w' B d (kidsAns N n a) ∧ Below w.heap.size w w'

theorem NodesIn.below {w w' : World} {A : Option Addr} {n c : Nat} {N : Nat → RN} (h : NodesIn w A n c N) (hb : Below w.heap.size w w') : NodesIn w' A n c N := ⟨h.1.below hb, h.2⟩
theorem DocIn.below {w w' : World} {A : Option Addr} {n c : Nat} {x : Int} {N : Nat → RN} (h : DocIn w A n c x N) (hb : Below w.heap.size w w') : DocIn w' A n c x N := ⟨h.1.below hb, h.2⟩
end Go.Proofs.Ytmodegkpfdlccaa
