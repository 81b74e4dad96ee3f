/-
  cmp.Compare at uint64, and the order by which fixed.mostFirst sorts: the closure that compares what two places of a list hold.
-/
import Derived.Test.YtpjhhndjbpegcaaPairs
import Derived.Test.YtpjhhndjbpegcaaSame
namespace Go.Proofs.Ytpjhhndjbpegcaa
open Go.RowKit

def cmpV (x y : Int) : Int := if x < y then -1 else if y < x then 1 else 0
theorem cmp_any (x y : Int) (w : World) (r : Int) (hr : cmpV x y = r) :
    Calls Try.prog 42 #[.int .u64 x, .int .u64 y] w fun e w' => e = .returned (.int .i64 r) ∧ w' = w := by
  have R := Lib.hid hr
  clear hr
  have hx : (x != x) = false := by simp
  have hy : (y != y) = false := by simp
  by_cases h1 : x < y
  · go_enter Try.func42, Try.ntmps42
    go_wp2
    go_ret
    exact ⟨ret_int (by rw [← R.out]; unfold cmpV; rw [if_pos h1]), rfl⟩
  · by_cases h2 : y < x
    · go_enter Try.func42, Try.ntmps42
      go_wp2
      go_ret
      exact ⟨ret_int (by rw [← R.out]; unfold cmpV; rw [if_neg (by omega), if_pos h2]), rfl⟩
    · go_enter Try.func42, Try.ntmps42
      go_wp2
      go_ret
      exact ⟨ret_int (by rw [← R.out]; unfold cmpV; rw [if_neg (by omega), if_neg (by omega)]), rfl⟩

/-- block g is just the cells cs of element type t, none frozen -/
def Whole (w : World) (g : Nat) (t : TypeId) (cs : Array Value) : Prop := w.heap[g]? = some (.cells cs t (0, 0))
section
variable {w w' : World} {g : Nat} {t : TypeId} {cs : Array Value}
theorem Whole.lt (h : Whole w g t cs) : g < w.heap.size := by
  rcases Nat.lt_or_ge g w.heap.size with hlt | hge
  · exact hlt
  · unfold Whole at h; rw [Array.getElem?_eq_none hge] at h; cases h
theorem Whole.cell (h : Whole w g t cs) (i : Nat) : w.cell? ⟨g, i, none⟩ = cs[i]? := cell_of_row w g i cs t (0, 0) h
theorem Whole.frozen (h : Whole w g t cs) (i : Nat) : w.frozen? ⟨g, i, none⟩ = false := by
  unfold Whole at h
  simp [World.frozen?, h]
theorem Whole.new (w : World) (t : TypeId) (cs : Array Value) : Whole (w.alloc (.cells cs t)) w.heap.size t cs := heap_alloc_new w _
theorem Whole.drewN (h : Whole w g t cs) (n : Nat) : Whole (w.drewN n) g t cs := h
theorem Whole.alloc (h : Whole w g t cs) (o : Obj) : Whole (w.alloc o) g t cs := (Below.heap_alloc w o g h.lt).trans h
theorem Whole.set_ (h : Whole w g t cs) (i : Nat) (u : Value) : Whole (w.setCell ⟨g, i, none⟩ u) g t (cs.setIfInBounds i u) := by
  unfold Whole at h ⊢
  simp [World.setCell, Array.getElem?_modify, h]
theorem Whole.far (h : Whole w g t cs) {p : Addr} (hp : g ≠ p.block) (u : Value) : Whole (w.setCell p u) g t cs := (Below.heap_setCell w p u g hp).trans h
theorem Whole.below {B : Nat} (h : Whole w g t cs) (hb : Below B w w') (hg : g < B) : Whole w' g t cs := (hb.block g hg).trans h
theorem Whole.grown {row : Option Nat} (h : Whole w g t cs) (hb : w.grownBy w' row) (hg : some g ≠ row) : Whole w' g t cs := (hb.block g h.lt hg).trans h
end

/-- n numbers of kind k as cells -/
def cellsOf (k : IntKind) (n : Nat) (f : Nat → Int) : Array Value := Array.ofFn (fun i : Fin n => Value.int k (f i))
theorem cellsOf_get {k : IntKind} {n : Nat} {f : Nat → Int} {i : Nat} (h : i < n) : (cellsOf k n f)[i]? = some (.int k (f i)) := by
  simp [cellsOf, h]
def upd (f : Nat → Int) (i : Nat) (x : Int) : Nat → Int := fun j => if j = i then x else f j
theorem cellsOf_set {k : IntKind} {n : Nat} {f : Nat → Int} {i : Nat} {x : Int} : (cellsOf k n f).setIfInBounds i (.int k x) = cellsOf k n (upd f i x) := by
  unfold cellsOf
  apply Array.ext
  · simp
  · intro j h1 h2
    by_cases e : i = j
    · subst e; simp [upd]
    · have e' : ¬ j = i := fun h => e h.symm
      rw [Array.getElem_setIfInBounds_ne (by simpa using h1) e]
      simp [upd, e']
theorem cellsOf_congr {k : IntKind} {n : Nat} {f g : Nat → Int} (h : ∀ i, i < n → f i = g i) : cellsOf k n f = cellsOf k n g := by
  apply Array.ext
  · simp [cellsOf]
  · intro j h1 h2
    simp [cellsOf] at h1
    simp [cellsOf, h j h1]

/-- block bx holds a slice over block bl, which is the n numbers L of uint64 -/
def Lost (w : World) (bx bl n : Nat) (L : Nat → Int) : Prop :=
  Whole w bx 60 #[.slice (some ⟨bl, 0, none⟩) n n] ∧ Whole w bl 61 (cellsOf .u64 n L)
theorem Lost.grown {w w' : World} {bx bl n g : Nat} {L : Nat → Int} (h : Lost w bx bl n L) (hg : w.grownBy w' (some g)) (h1 : bx ≠ g) (h2 : bl ≠ g) : Lost w' bx bl n L :=
  ⟨h.1.grown hg (by simpa using h1), h.2.grown hg (by simpa using h2)⟩

theorem closure_any (a b bx bl n : Nat) (L : Nat → Int) (w : World) (ha : a < n) (hb : b < n) (h : Lost w bx bl n L) (r : Int) (hr : cmpV (L b) (L a) = r) :
    Calls Try.prog 41 #[.int .i64 a, .int .i64 b, .pointer (some ⟨bx, 0, none⟩)] w fun e w' => e = .returned (.int .i64 r) ∧ Drawn w w' := by
  have c0 : w.cell? ⟨bx, 0, none⟩ = some (.slice (some ⟨bl, 0, none⟩) n n) := (h.1.cell 0).trans (by simp)
  have c1 : w.cell? ⟨bl, a, none⟩ = some (.int .u64 (L a)) := (h.2.cell a).trans (cellsOf_get ha)
  have c2 : w.cell? ⟨bl, b, none⟩ = some (.int .u64 (L b)) := (h.2.cell b).trans (cellsOf_get hb)
  clear h
  have R := Lib.hid hr
  clear hr
  generalize L a = x at c1 R
  generalize L b = y at c2 R
  have ha' : (a : Int) < n := by omega
  have hb' : (b : Int) < n := by omega
  have ha0 : (0 : Int) ≤ a := by omega
  have hb0 : (0 : Int) ≤ b := by omega
  go_enter Try.func41, Try.ntmps41
  go_wp2_with fail
  go_quiet ((go_at_call 42; exact Calls.quiet_of_same (cmp_any y x _ r R.out)))
  go_wp2_with fail
  go_ret
  exact ⟨rfl, _, rfl⟩
end Go.Proofs.Ytpjhhndjbpegcaa
