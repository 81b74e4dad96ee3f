/-
  fixed.mostFirst: the places of a list, in order: what holds more first, and of equal ones the one ahead.
-/
import Derived.Test.YtpjhhndjbpegcaaStable
import Derived.Laws.MakeOwn
namespace Go.Proofs.Ytpjhhndjbpegcaa
open Go.RowKit

theorem madeCells_zero (k : IntKind) (n : Nat) : madeCells (Value.int k 0).cells (n * 1) = cellsOf k n (fun _ => 0) := by
  apply Array.ext
  · simp [madeCells, cellsOf]
  · intro j h1 h2
    have e : (Value.int k 0).cells = #[Value.int k 0] := rfl
    simp [madeCells, cellsOf, e, Nat.mod_one]
theorem make_ints (n : Nat) (hn : n ≤ 1048576) (W : World) :
    (Instr.makeSlice 22 (.int .i64 (n : Int)) (.int .i64 (n : Int))).run Try.prog W = .ok (.slice (some ⟨W.heap.size, 0, none⟩) n n) (W.alloc (.cells (cellsOf .i64 n (fun _ => 0)) 3)) := by
  obtain ⟨i0, hi, hz0, hz1, hz2⟩ := info_parts info_int
  have h := run_make (P := Try.prog) W 22 3 i0 (.int .i64 0) Try.underlying22 hi hz0 .i64 .i64 n n (by omega) (by omega) (by rw [hz2]; omega) (by omega)
  rw [hz1] at h
  simp only [Int.toNat_natCast] at h
  rw [madeCells_zero] at h
  exact h
theorem Row.put {w0 w : World} {g bx bl n : Nat} {L : Nat → Int} {p : Nat → Nat} (h : Row w0 w g bx bl n L p) {i x : Nat} (_hi : i < n) (hx : x < n) :
    Row w0 (w.setCell ⟨g, i, none⟩ (.int .i64 x)) g bx bl n L (fun k => if k = i then x else p k) := by
  obtain ⟨h1, h2, h3, h4, h5, h6, h7, h8, h9⟩ := h
  have k1 := h1.set_ i (.int .i64 x)
  rw [cellsOf_set] at k1
  refine ⟨?_, ⟨h2.1.far h7 _, h2.2.far h8 _⟩, grownBy_set h3 _ _, h4, h5, h6, h7, h8, fun k hk => ?_⟩
  · have e : cellsOf .i64 n (upd (fun k => (p k : Int)) i x) = cellsOf .i64 n (fun k => (((if k = i then x else p k) : Nat) : Int)) := by
      apply cellsOf_congr
      intro k _
      unfold upd
      split <;> rfl
    rw [e] at k1
    exact k1
  · show (if k = i then x else p k) < n
    split
    · exact hx
    · exact h9 k hk
theorem Row.congr {w0 w : World} {g bx bl n : Nat} {L : Nat → Int} {p q : Nat → Nat} (h : Row w0 w g bx bl n L p) (e : ∀ k, k < n → p k = q k) : Row w0 w g bx bl n L q := by
  obtain ⟨h1, h2, h3, h4, h5, h6, h7, h8, h9⟩ := h
  refine ⟨?_, h2, h3, h4, h5, h6, h7, h8, fun k hk => by rw [← e k hk]; exact h9 k hk⟩
  rw [← cellsOf_congr (f := fun k => (p k : Int)) (fun k hk => by rw [e k hk])]
  exact h1

def FirstPost (n : Nat) (L : Nat → Int) (w : World) (e : Ending) (w' : World) : Prop :=
  ∃ g q, e = .returned (.slice (some ⟨g, 0, none⟩) n n) ∧ Whole w' g 3 (cellsOf .i64 n (fun k => (q k : Int))) ∧ Ordered L q n ∧ Below w.heap.size w w' ∧ w.heap.size ≤ g
set_option maxHeartbeats 1000000 in
theorem mostFirst_any (n bl : Nat) (L : Nat → Int) (w : World) (hn0 : 0 < n) (hn : n ≤ 1048576) (h : Whole w bl 61 (cellsOf .u64 n L)) :
    Calls Try.prog 37 #[.slice (some ⟨bl, 0, none⟩) n n] w (FirstPost n L w) := by
  have hbl := h.lt
  obtain ⟨w1, hw1⟩ : ∃ w1, w1 = (w.alloc (.cells #[.slice (some ⟨bl, 0, none⟩) n n] 60)).alloc (.cells (cellsOf .i64 n (fun _ => 0)) 3) := ⟨_, rfl⟩
  have hs1 : w1.heap.size = w.heap.size + 2 := by rw [hw1]; simp
  have R : Hid (Row w1 w1 (w.heap.size + 1) w.heap.size bl n L (fun _ => 0)) := Lib.hid (by
    refine ⟨?_, ⟨?_, ?_⟩, World.grownBy.refl _ _, by omega, by omega, by omega, by omega, by omega, fun k hk => hn0⟩
    · rw [hw1]
      have := Whole.new (w.alloc (.cells #[.slice (some ⟨bl, 0, none⟩) n n] 60)) 3 (cellsOf .i64 n (fun _ => 0))
      simp only [World.size_alloc] at this
      exact this
    · rw [hw1]; exact (Whole.new w _ _).alloc _
    · rw [hw1]; exact (h.alloc _).alloc _)
  have B1 : Hid (Below w.heap.size w w1) := Lib.hid (by rw [hw1]; exact ((Below.refl _ _).alloc (Nat.le_refl _) _).alloc (by simp) _)
  have HW1 := Lib.hid hw1
  have hmk := make_ints n hn
  have c0 : (w.alloc (.cells #[.slice (some ⟨bl, 0, none⟩) n n] 60)).cell? ⟨w.heap.size, 0, none⟩ = some (.slice (some ⟨bl, 0, none⟩) n n) := by simp [World.cell?_alloc_at]
  clear hw1 h
  go_enter Try.func37, Try.ntmps37
  go_wp2
  rw [← HW1.out]
  clear hmk c0
  have hge : w.heap.size ≤ w.heap.size + 1 := by omega
  generalize hg : w.heap.size + 1 = g at R hge ⊢
  have HG := Lib.hid hg
  generalize hbx : w.heap.size = bx at *
  have HBX := Lib.hid hbx
  clear hg hbx hs1
  go_loopg [10] n (fun g1 vi wr => ∃ k : Nat, vi = .int .i64 k ∧ k ≤ n ∧ n - k ≤ g1 ∧ Hid (Row w1 wr g bx bl n L (fun j => if j < k then j else 0)))
  case atStart => exact ⟨0, rfl, by omega, by omega, Lib.hid (R.out.congr (fun j _ => by simp))⟩
  case round =>
    obtain ⟨k, rfl, hk, hg1, HR⟩ := hrel
    by_cases hlt : k < n
    · have hltz : (k : Int) < n := by omega
      have c1 := HR.out.cell (i := k) hlt
      have f1 := HR.out.free k
      go_wp2
      go_roundg (n - (k + 1))
      case measure => omega
      case rel =>
        exact ⟨k + 1, by go_num, by omega, Nat.le_refl _, Lib.hid ((HR.out.put hlt hlt).congr (fun j _ => by
          by_cases e : j = k
          · rw [if_pos e, if_pos (by omega), e]
          · rw [if_neg e]
            by_cases e' : j < k
            · rw [if_pos e', if_pos (by omega)]
            · rw [if_neg e', if_neg (by omega)]))⟩
    · obtain rfl : n = k := by omega
      have HR2 : Hid (Row w1 wr g bx bl n L (fun j => j)) := Lib.hid (HR.out.congr (fun j hj => by rw [if_pos hj]))
      clear HR
      go_wp2_with fail
      refine (sort_any n n g bx bl L w1 _ hn HR2.out).mono ?_
      rintro e w2 ⟨rfl, q, hq, hr⟩
      have B2 : Hid (FirstPost n L w (.returned (.slice (some ⟨g, 0, none⟩) n n)) w2) := Lib.hid ⟨g, q, rfl, hr.1, hq, by
        rw [HBX.out]
        exact B1.out.grown hr.2.2.1 (by have := B1.out.size; rw [HBX.out] at this; exact this) (fun k e => by cases e; exact hge), by rw [HBX.out]; exact hge⟩
      clear hq hr
      go_wp2_with fail
      go_ret
      exact B2.out
end Go.Proofs.Ytpjhhndjbpegcaa
