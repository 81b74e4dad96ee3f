/-
  The landed flexline.Order: places in their order.
-/
import Derived.Test.YtkakencndopgbaaStableO
import Derived.Test.YtkakencndopgbaaRefOrder15
import Derived.Laws.MakeOwn
namespace Go.Proofs.Ytkakencndopgbaa.Ord15
open Go.RowKit

theorem madeCells_zero (k : IntKind) (n : Nat) : madeCells (Value.int k 0).cells (n * 1) = cellsOf k n (fun _ => 0) := by
  apply Array.ext
  · simp [madeCells, cellsOf]
  · intro j h1 h2
    have e : (Value.int k 0).cells = #[Value.int k 0] := rfl
    simp [madeCells, cellsOf, e, Nat.mod_one]
theorem make_ints (n : Nat) (hn : n ≤ 1048576) (W : World) :
    (Instr.makeSlice 22 (.int .i64 (n : Int)) (.int .i64 (n : Int))).run Try.prog W = .ok (.slice (some ⟨W.heap.size, 0, none⟩) n n) (W.alloc (.cells (cellsOf .i64 n (fun _ => 0)) 3)) := by
  obtain ⟨i0, hi, hz0, hz1, hz2⟩ := info_parts10 Try.infoI15
  have h := run_make (P := Try.prog) W 22 3 i0 (.int .i64 0) Try.underlying22 hi hz0 .i64 .i64 n n (by omega) (by omega) (by rw [hz2]; omega) (by omega)
  rw [hz1] at h
  simp only [Int.toNat_natCast] at h
  rw [madeCells_zero] at h
  exact h
theorem Row.put {w0 w : World} {g bx bl n : Nat} {L : Nat → Int} {p : Nat → Nat} (h : Row w0 w g bx bl n L p) {i x : Nat} (_hi : i < n) (hx : x < n) :
    Row w0 (w.setCell ⟨g, i, none⟩ (.int .i64 x)) g bx bl n L (fun k => if k = i then x else p k) := by
  obtain ⟨h1, h2, h3, h4, h5, h6, h7, h8, h9⟩ := h
  have k1 := h1.set_ i (.int .i64 x)
  rw [cellsOf_set] at k1
  refine ⟨?_, h2.far h7 h8 _, grownBy_set h3 _ _, h4, h5, h6, h7, h8, fun k hk => ?_⟩
  · have e : cellsOf .i64 n (upd (fun k => (p k : Int)) i x) = cellsOf .i64 n (fun k => (((if k = i then x else p k) : Nat) : Int)) := by
      apply cellsOf_congr
      intro k _
      unfold upd
      split <;> rfl
    rw [e] at k1
    exact k1
  · show (if k = i then x else p k) < n
    split
    · exact hx
    · exact h9 k hk
theorem Row.congr {w0 w : World} {g bx bl n : Nat} {L : Nat → Int} {p q : Nat → Nat} (h : Row w0 w g bx bl n L p) (e : ∀ k, k < n → p k = q k) : Row w0 w g bx bl n L q := by
  obtain ⟨h1, h2, h3, h4, h5, h6, h7, h8, h9⟩ := h
  refine ⟨?_, h2, h3, h4, h5, h6, h7, h8, fun k hk => by rw [← e k hk]; exact h9 k hk⟩
  rw [← cellsOf_congr (f := fun k => (p k : Int)) (fun k hk => by rw [e k hk])]
  exact h1
theorem own_whole {W : World} {B g n : Nat} {q r : Nat → Nat} (h : Whole W g 3 (cellsOf .i64 n (fun k => (q k : Int)))) (hg : B ≤ g) (hn : n ≤ 1048576) (e : ∀ k, k < n → r k = q k) : ownsI15 W B (.slice (some ⟨g, 0, none⟩) n n) (firstQ r n) := by
  unfold ownsI15
  rw [firstQ_len]
  refine ⟨by rw [List.length_map, firstQ_len, Nat.mul_one], .inr ⟨g, n, _, rfl, hg, h, Nat.le_refl _, by unfold maxLen; omega, by simp [cellsOf], ?_⟩⟩
  apply List.ext_getElem?
  intro j
  rw [Nat.mul_one, List.getElem?_map]
  by_cases hj : j < n
  · rw [List.getElem?_take_of_lt hj, Array.getElem?_toList, cellsOf_get hj, firstQ_get r hj, e j hj]
    rfl
  · rw [List.getElem?_eq_none (by simp; omega), List.getElem?_eq_none (by rw [firstQ_len]; omega)]
    rfl
/-- where the row that is sorted by lies -/
theorem lost_start {w : World} {A : Option Addr} {n c : Nat} {f : Nat → Int} (h : Ints w A n f) (o : Obj) : ∃ bl, bl ≤ w.heap.size ∧ Lost ((w.alloc (.cells #[.slice A n c] 22)).alloc o) w.heap.size bl n (fun i => - f i) := by
  have hb : Whole ((w.alloc (.cells #[.slice A n c] 22)).alloc o) w.heap.size 22 #[.slice A n c] := (Whole.new w _ _).alloc _
  by_cases hn : 0 < n
  · obtain ⟨b, off, rfl, hl, hc⟩ := h.2 hn
    refine ⟨b, by omega, _, _, hb, fun _ => ⟨off, rfl, fun i hi => ?_⟩⟩
    rw [Int.neg_neg, World.cell?_alloc_lt _ _ _ (by rw [World.size_alloc]; show b < _; omega), World.cell?_alloc_lt _ _ _ hl]
    exact hc i hi
  · exact ⟨w.heap.size, Nat.le_refl _, _, _, hb, fun h => absurd h hn⟩
set_option maxHeartbeats 2000000 in
theorem order_ok : OrderOK 11 := by
  intro A n c f q w h hn hc hq
  obtain ⟨bl, hbl, hL⟩ := lost_start (c := c) h (.cells (cellsOf .i64 n (fun _ => 0)) 3)
  obtain ⟨w1, hw1⟩ : ∃ w1, w1 = (w.alloc (.cells #[.slice A n c] 22)).alloc (.cells (cellsOf .i64 n (fun _ => 0)) 3) := ⟨_, rfl⟩
  rw [← hw1] at hL
  have hs1 : w1.heap.size = w.heap.size + 2 := by rw [hw1]; simp
  have R : Hid (Row w1 w1 (w.heap.size + 1) w.heap.size bl n (fun i => - f i) (fun _ => 0)) := Lib.hid (by
    refine ⟨?_, hL, World.grownBy.refl _ _, by omega, by omega, by omega, by omega, by omega, fun k hk => show 0 < n by omega⟩
    rw [hw1]
    have := Whole.new (w.alloc (.cells #[.slice A n c] 22)) 3 (cellsOf .i64 n (fun _ => 0))
    simp only [World.size_alloc] at this
    exact this)
  have B1 : Hid (Below w.heap.size w w1) := Lib.hid (by rw [hw1]; exact ((Below.refl _ w).alloc (Nat.le_refl _) _).alloc (by simp) _)
  have HQ := Lib.hid hq
  have HW1 := Lib.hid hw1
  have hmk := make_ints n (by omega)
  have c0 : (w.alloc (.cells #[.slice A n c] 22)).cell? ⟨w.heap.size, 0, none⟩ = some (.slice A n c) := by simp [World.cell?_alloc_at]
  clear hw1 h hL hq
  go_enter Try.func11, Try.ntmps11
  go_wp2
  rw [← HW1.out]
  clear hmk c0
  have hge : w.heap.size ≤ w.heap.size + 1 := by omega
  generalize hg : w.heap.size + 1 = g at R hge ⊢
  have HG := Lib.hid hg
  generalize hbx : w.heap.size = bx at *
  have HBX := Lib.hid hbx
  clear hg hbx hs1
  go_loopg [10] n (fun g1 vi wr => ∃ k : Nat, vi = .int .i64 k ∧ k ≤ n ∧ n - k ≤ g1 ∧ Hid (Row w1 wr g bx bl n (fun i => - f i) (fun j => if j < k then j else 0)))
  case atStart => exact ⟨0, rfl, by omega, by omega, Lib.hid (R.out.congr (fun j _ => by simp))⟩
  case round =>
    obtain ⟨k, rfl, hk, hg1, HR⟩ := hrel
    by_cases hlt : k < n
    · have hltz : (k : Int) < n := by omega
      have c1 := HR.out.cell (i := k) hlt
      have f1 := HR.out.free k
      go_wp2
      go_roundg (n - (k + 1))
      case measure => omega
      case rel =>
        exact ⟨k + 1, by go_num, by omega, Nat.le_refl _, Lib.hid ((HR.out.put hlt hlt).congr (fun j _ => by
          by_cases e : j = k
          · rw [if_pos e, if_pos (by omega), e]
          · rw [if_neg e]
            by_cases e' : j < k
            · rw [if_pos e', if_pos (by omega)]
            · rw [if_neg e', if_neg (by omega)]))⟩
    · obtain rfl : n = k := by omega
      have HR2 : Hid (Row w1 wr g bx bl n (fun i => - f i) (fun j => j)) := Lib.hid (HR.out.congr (fun j hj => by rw [if_pos hj]))
      clear HR
      go_wp2_with fail
      refine (sort_any n n g bx bl (fun i => - f i) w1 _ (by omega) HR2.out).mono ?_
      rintro e w2 ⟨rfl, q2, hq2, hr⟩
      have B2 : Hid (ownsI15 w2 bx (.slice (some ⟨g, 0, none⟩) n n) (firstQ q n) ∧ Below bx w w2) := Lib.hid ⟨own_whole hr.1 hge (by omega) (HQ.out.uniq hq2), B1.out.grown hr.2.2.1 (by have := B1.out.size; rw [HBX.out] at this; exact this) (fun k e => by cases e; exact hge)⟩
      clear hq2 hr
      go_wp2_with fail
      go_ret
      exact ⟨_, rfl, by rw [HBX.out]; exact B2.out⟩
end Go.Proofs.Ytkakencndopgbaa.Ord15
