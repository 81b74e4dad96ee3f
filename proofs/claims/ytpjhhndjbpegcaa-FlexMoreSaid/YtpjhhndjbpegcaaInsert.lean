/-
  slices.insertionSortCmpFunc over a row of places, by the closure of fixed.mostFirst.
-/
import Derived.Test.YtpjhhndjbpegcaaCmp
import Derived.Test.YtpjhhndjbpegcaaSortMath
import Derived.BigRegion
import Derived.Deep.LoopGhost
import Derived.Outline
import Derived.LoopTactic
namespace Go.Proofs.Ytpjhhndjbpegcaa
open Go.RowKit

/-- a row of n places that is sorted in place: block g holds p; what is compared lies beside it -/
def Row (w0 w : World) (g bx bl n : Nat) (L : Nat → Int) (p : Nat → Nat) : Prop :=
  Whole w g 3 (cellsOf .i64 n (fun k => (p k : Int))) ∧ Lost w bx bl n L ∧ w0.grownBy w (some g) ∧ g < w0.heap.size ∧ bx < w0.heap.size ∧ bl < w0.heap.size ∧ bx ≠ g ∧ bl ≠ g ∧ (∀ k, k < n → p k < n)
theorem grownBy_drewN {a w : World} {row : Option Nat} (h : a.grownBy w row) (n : Nat) : a.grownBy (w.drewN n) row := ⟨h.os, h.tape, h.output, h.size, h.block⟩
theorem grownBy_set {a w : World} {g : Nat} (h : a.grownBy w (some g)) (i : Nat) (u : Value) : a.grownBy (w.setCell ⟨g, i, none⟩ u) (some g) :=
  ⟨h.os, h.tape, h.output, by simpa [World.setCell] using h.size, fun k hk hne => (Below.heap_setCell w _ u k (by
    rintro rfl
    exact hne rfl)).trans (h.block k hk hne)⟩
section
variable {w0 w : World} {g bx bl n : Nat} {L : Nat → Int} {p : Nat → Nat}
theorem Row.drewN (h : Row w0 w g bx bl n L p) (q : Nat) : Row w0 (w.drewN q) g bx bl n L p :=
  ⟨h.1.drewN q, ⟨h.2.1.1.drewN q, h.2.1.2.drewN q⟩, grownBy_drewN h.2.2.1 q, h.2.2.2⟩
theorem Row.drew (h : Row w0 w g bx bl n L p) : Row w0 w.drew g bx bl n L p :=
  ⟨h.1, ⟨h.2.1.1, h.2.1.2⟩, ⟨h.2.2.1.os, h.2.2.1.tape, h.2.2.1.output, h.2.2.1.size, h.2.2.1.block⟩, h.2.2.2⟩
theorem Row.cell (h : Row w0 w g bx bl n L p) {i : Nat} (hi : i < n) : w.cell? ⟨g, i, none⟩ = some (.int .i64 (p i)) := (h.1.cell i).trans (cellsOf_get hi)
theorem Row.free (h : Row w0 w g bx bl n L p) (i : Nat) : w.frozen? ⟨g, i, none⟩ = false := h.1.frozen i
theorem Row.swap (h : Row w0 w g bx bl n L p) {i j : Nat} (hi : i < n) (hj : j < n) : Row w0 ((w.setCell ⟨g, i, none⟩ (.int .i64 (p j))).setCell ⟨g, j, none⟩ (.int .i64 (p i))) g bx bl n L (swp p i j) := by
  obtain ⟨h1, h2, h3, h4, h5, h6, h7, h8, h9⟩ := h
  have k1 := (h1.set_ i (.int .i64 (p j))).set_ j (.int .i64 (p i))
  rw [cellsOf_set, cellsOf_set] at k1
  refine ⟨?_, ⟨(h2.1.far h7 _).far h7 _, (h2.2.far h8 _).far h8 _⟩, grownBy_set (grownBy_set h3 _ _) _ _, h4, h5, h6, h7, h8, fun k hk => ?_⟩
  · have e : cellsOf .i64 n (upd (upd (fun k => (p k : Int)) i (p j)) j (p i)) = cellsOf .i64 n (fun k => ((swp p i j k : Nat) : Int)) := by
      apply cellsOf_congr
      intro k hk
      by_cases e1 : k = j
      · rw [e1, swp_r]; simp [upd]
      · by_cases e2 : k = i
        · rw [e2, swp_l]; simp [upd]
          intro hij; rw [hij]
        · rw [swp_o p e2 e1]; simp [upd, e1, e2]
    rw [e] at k1
    exact k1
  · unfold swp
    split
    · exact h9 j hj
    · split
      · exact h9 i hi
      · exact h9 k hk
theorem Row.cmp (h : Row w0 w g bx bl n L p) {x y : Nat} (hx : x < n) (hy : y < n) (r : Int) (hr : cmpV (L y) (L x) = r) :
    Calls Try.prog 41 #[.int .i64 x, .int .i64 y, .pointer (some ⟨bx, 0, none⟩)] w fun e w' => e = .returned (.int .i64 r) ∧ Drawn w w' :=
  closure_any x y bx bl n L w hx hy h.2.1 r hr
end
theorem cmpV_lt {x y : Int} : cmpV x y < 0 ↔ x < y := by
  unfold cmpV
  split
  · omega
  · split <;> omega

set_option maxHeartbeats 1000000 in
theorem insert_any (a b n c : Nat) (g bx bl : Nat) (L : Nat → Int) (p : Nat → Nat) (w0 w : World) (hab : a < b) (hb : b ≤ n) (hn : n ≤ 1048576) (hp : Rises p a b) (h : Row w0 w g bx bl n L p) :
    Calls Try.prog 47 #[.slice (some ⟨g, 0, none⟩) n c, .int .i64 a, .int .i64 b, .func (.func 41) #[] #[.pointer (some ⟨bx, 0, none⟩)]] w fun e w' =>
      e = .returned (.tuple #[]) ∧ ∃ q, InsO L p q a b ∧ Row w0 w' g bx bl n L q := by
  have H := Lib.hid h
  have P := Lib.hid hp
  clear h hp
  go_enter Try.func47, Try.ntmps47
  go_wp2
  go_loopg [8] (b - a) (fun g1 vi wr => ∃ (i : Nat) (q : Nat → Nat), vi = .int .i64 i ∧ a < i ∧ i ≤ b ∧ b - i ≤ g1 ∧ Hid (InsO L p q a i) ∧ Hid (Row w0 wr g bx bl n L q))
  case atStart => exact ⟨a + 1, p, by go_num, by omega, by omega, by omega, Lib.hid (InsO.start L p a), H⟩
  case round =>
    obtain ⟨i, q, rfl, hai, hib, hg1, HI, HR⟩ := hrel
    by_cases hlt : i < b
    · have hltz : (i : Int) < (b : Int) := by omega
      go_wp2
      go_loopg [9] i (fun g2 vj wr2 => ∃ (j : Nat) (r : Nat → Nat), vj = .int .i64 j ∧ a ≤ j ∧ j ≤ i ∧ j ≤ g2 ∧ Hid (InsI L p r a i j) ∧ Hid (Row w0 wr2 g bx bl n L r))
      case atStart => exact ⟨i, q, rfl, by omega, Nat.le_refl _, Nat.le_refl _, Lib.hid (InsI.start P.out ⟨hai, hlt⟩ HI.out), HR⟩
      case round =>
        obtain ⟨j, r, rfl, haj, hji, hg2, HJ, HS⟩ := hrel
        by_cases hja : a < j
        · obtain ⟨jp, rfl⟩ : ∃ jp, j = jp + 1 := ⟨j - 1, by omega⟩
          have hjaz : (a : Int) < (jp : Int) + 1 := by omega
          have c1 := HS.out.cell (i := jp + 1) (by omega)
          have c2 := HS.out.cell (i := jp) (by omega)
          have f1 := HS.out.free (jp + 1)
          have f2 := HS.out.free jp
          have jz : (jp : Int) + 1 < (n : Int) := by omega
          have jz1 : (jp : Int) < (n : Int) := by omega
          have p0 : (0 : Int) ≤ (jp : Int) + 1 := by omega
          have p1 : (0 : Int) ≤ (jp : Int) := by omega
          have e0 : ((jp : Int) + 1).toNat = jp + 1 := by omega
          obtain ⟨v, hv⟩ : ∃ v, cmpV (L (r jp)) (L (r (jp + 1))) = v := ⟨_, rfl⟩
          have HC : Hid (∀ m, Calls Try.prog 41 #[.int .i64 (r (jp + 1)), .int .i64 (r jp), .pointer (some ⟨bx, 0, none⟩)] (World.drewN _ m) fun e w' => e = .returned (.int .i64 v) ∧ ∃ q, w' = (World.drewN _ m).drewN q) :=
            Lib.hid (fun m => (HS.out.drewN m).cmp (HS.out.2.2.2.2.2.2.2.2 _ (by omega)) (HS.out.2.2.2.2.2.2.2.2 _ (by omega)) v hv)
          have hwp : IntKind.i64.wrap (jp : Int) = (jp : Int) := by rw [IntKind.wrap_i64]; omega
          have V := Lib.hid hv
          clear hv
          generalize hx : ((r (jp + 1) : Nat) : Int) = x at c1 HC
          generalize hy : ((r jp : Nat) : Int) = y at c2 HC
          have X := Lib.hid hx
          have Y := Lib.hid hy
          clear hx hy
          by_cases hlv : v < 0
          · go_wp2_with fail
            go_quiet ((first | (go_at_call 41; exact Calls.quiet_of (HC.out _))))
            go_wp2_with fail
            have R2 := Lib.hid (HS.out.drewN nq)
            have d1 : (wr.drewN nq).cell? ⟨g, jp + 1, none⟩ = some (.int .i64 x) := c1
            have d2 : (wr.drewN nq).cell? ⟨g, jp, none⟩ = some (.int .i64 y) := c2
            have g1 : (wr.drewN nq).frozen? ⟨g, jp + 1, none⟩ = false := f1
            have g2 : (wr.drewN nq).frozen? ⟨g, jp, none⟩ = false := f2
            clear c1 c2 f1 f2 HC
            generalize wr.drewN nq = wq at d1 d2 g1 g2 R2 ⊢
            clear HS
            go_region
            all_goals go_wp2
            go_roundg jp
            case measure => omega
            case rel =>
              have K := (R2.out.swap (i := jp + 1) (j := jp) (by omega) (by omega)).drew
              rw [X.out, Y.out] at K
              have hl : L (r jp) < L (r (jp + 1)) := cmpV_lt.1 (by rw [V.out]; exact hlv)
              exact ⟨jp, swp r (jp + 1) jp, rfl, by omega, by omega, Nat.le_refl _, Lib.hid (HJ.out.step hja hji hl), Lib.hid K⟩
          · go_wp2_with fail
            go_quiet ((first | (go_at_call 41; exact Calls.quiet_of (HC.out _))))
            go_wp2
            go_roundg (b - (i + 1))
            case measure => omega
            case rel =>
              have hl : ¬ L (r jp) < L (r (jp + 1)) := fun hh => by have h9 := cmpV_lt.2 hh; rw [V.out] at h9; omega
              exact ⟨i + 1, r, by go_num, by omega, by omega, Nat.le_refl _, Lib.hid (HJ.out.stop haj hji (.inr hl)), Lib.hid (HS.out.drewN _)⟩
        · obtain rfl : j = a := by omega
          have hja' : ¬ (j : Int) < (j : Int) := by omega
          go_wp2_with fail
          go_quiet (fail)
          go_wp2
          go_roundg (b - (i + 1))
          case measure => omega
          case rel =>
            exact ⟨i + 1, r, by go_num, by omega, by omega, Nat.le_refl _, Lib.hid (HJ.out.stop haj hji (.inl rfl)), Lib.hid (HS.out.drewN _)⟩
    · obtain rfl : i = b := by omega
      go_wp2
      go_end0
      exact ⟨rfl, q, HI.out, HR.out⟩
theorem insert_none (a n c : Nat) (ha : a ≤ 1048576) (A : Option Addr) (f : Value) (w : World) :
    Calls Try.prog 47 #[.slice A n c, .int .i64 a, .int .i64 a, f] w fun e w' => e = .returned (.tuple #[]) ∧ w = w' := by
  go_enter Try.func47, Try.ntmps47
  go_wp2
  refine wp_loop_rounds 1 ?_
  rw [rounds_succ]
  go_wp2
  go_end0
  exact ⟨rfl, rfl⟩
end Go.Proofs.Ytpjhhndjbpegcaa
