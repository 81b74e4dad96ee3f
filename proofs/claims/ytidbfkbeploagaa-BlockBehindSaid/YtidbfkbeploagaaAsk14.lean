/-
  What the landed Stack asks of kids.
-/
import Derived.Test.YtidbfkbeploagaaStackAt14
import Derived.Test.YtidbfkbeploagaaRefJoin13
import Derived.Deep.LoopGhost
import Derived.Deep.CutRange
namespace Go.Proofs.Ytidbfkbeploagaa
open Go.RowKit

/-- a kid in a block -/
def KbAt (w : World) (b : Nat) (k : Kd) : Prop := w.heap[b]? = some (.cells (kdCells k).toArray 35)
theorem KbAt.new (w : World) (k : Kd) : KbAt (w.alloc (.cells (kdCells k).toArray 35)) w.heap.size k := heap_alloc_new w _
theorem KbAt.lt {w : World} {b : Nat} {k : Kd} (h : KbAt w b k) : b < w.heap.size := (Array.getElem?_eq_some_iff.1 h).1
theorem KbAt.keep {w w' : World} {b : Nat} {k : Kd} (h : KbAt w b k) (hb : Below w.heap.size w w') : KbAt w' b k := (hb.block b h.lt).trans h
theorem KbAt.cells {w : World} {b : Nat} {k : Kd} (h : KbAt w b k) : KdAt w b 0 k := by
  have h' : w.heap[b]? = some (.cells (kdCells k).toArray 35) := h
  unfold KdAt
  simp [World.cell?, h', kdCells]
set_option maxRecDepth 100000 in
set_option maxHeartbeats 4000000 in
theorem isNone14 (m : Mg) (w : World) : Calls Try.prog 34 #[mgV m] w fun e w' => e = .returned (.bool (decide (m.1 < 0 ∨ 0 < m.2))) ∧ Below w.heap.size w w' := by
  have D : Hid (Below w.heap.size w (w.alloc (.cells #[.int .i64 m.1, .int .i64 m.2] 25))) := Lib.hid ((Below.refl _ w).alloc (Nat.le_refl _) _)
  unfold mgV
  obtain ⟨a, b⟩ := m
  dsimp only at D ⊢
  by_cases h1 : a < 0
  · have d1 : decide (a < 0) = true := decide_eq_true h1
    have R : Hid (decide (a < 0 ∨ 0 < b) = true) := Lib.hid (decide_eq_true (.inl h1))
    rw [R.out]
    clear h1 R
    go_enter Try.func34, Try.ntmps34
    go_wp2_with fail
    go_ret
    exact ⟨rfl, D.out⟩
  · have d1 : decide (a < 0) = false := decide_eq_false h1
    have R : Hid (decide (a < 0 ∨ 0 < b) = decide (0 < b)) := Lib.hid (decide_eq_decide.2 ⟨fun h => h.resolve_left h1, .inr⟩)
    rw [R.out]
    clear h1 R
    go_enter Try.func34, Try.ntmps34
    go_wp2_with fail
    go_ret
    exact ⟨rfl, D.out⟩
theorem bad_split (k : Kd) (h1 : ¬ k.h < 0) (h2 : ¬ (k.thr = true ∧ k.h ≠ 0)) : decide (BadK k) = (decide (k.t.1 < 0 ∨ 0 < k.t.2) || decide (k.b.1 < 0 ∨ 0 < k.b.2)) := by
  rw [Bool.eq_iff_iff, Bool.or_eq_true, decide_eq_true_eq, decide_eq_true_eq, decide_eq_true_eq]
  unfold BadK
  constructor
  · rintro (h | h | h | h | h | h)
    · exact absurd h h1
    · exact absurd h h2
    · exact .inl (.inl h)
    · exact .inl (.inr h)
    · exact .inr (.inl h)
    · exact .inr (.inr h)
  · rintro ((h | h) | (h | h))
    · exact .inr (.inr (.inl h))
    · exact .inr (.inr (.inr (.inl h)))
    · exact .inr (.inr (.inr (.inr (.inl h))))
    · exact .inr (.inr (.inr (.inr (.inr h))))
set_option maxRecDepth 100000 in
set_option maxHeartbeats 4000000 in
theorem isWrong14 (k : Kd) (w : World) : Calls Try.prog 22 #[kdV k] w fun e w' => e = .returned (.bool (decide (BadK k))) ∧ Below w.heap.size w w' := by
  have B0 : Hid (Below w.heap.size w (w.alloc (.cells (kdCells k).toArray 35))) := Lib.hid ((Below.refl _ w).alloc (Nat.le_refl _) _)
  have G0 := Lib.hid (KbAt.new w k)
  have KT := Lib.hid (fun W => isNone14 k.t W)
  have KB := Lib.hid (fun W => isNone14 k.b W)
  have SP := Lib.hid (fun h1 h2 => bad_split k h1 h2)
  have BA : Hid (k.h < 0 → decide (BadK k) = true) := Lib.hid (fun h => decide_eq_true (.inl h))
  have BT : Hid (k.thr = true ∧ k.h ≠ 0 → decide (BadK k) = true) := Lib.hid (fun h => decide_eq_true (.inr (.inl h)))
  obtain ⟨r, hr⟩ : ∃ r, decide (BadK k) = r := ⟨_, rfl⟩
  rw [hr] at SP BA BT ⊢
  clear hr
  obtain ⟨n1, hn1⟩ : ∃ n1, decide (k.t.1 < 0 ∨ 0 < k.t.2) = n1 := ⟨_, rfl⟩
  obtain ⟨n2, hn2⟩ : ∃ n2, decide (k.b.1 < 0 ∨ 0 < k.b.2) = n2 := ⟨_, rfl⟩
  rw [hn1] at KT SP
  rw [hn2] at KB SP
  clear hn1 hn2
  obtain ⟨⟨tu, td⟩, ⟨bu, bd⟩, hh, thr⟩ := k
  unfold kdV
  unfold mgV at KT KB
  unfold kdCells at B0 G0
  dsimp only at B0 G0 KT KB SP BA BT ⊢
  go_enter Try.func22, Try.ntmps22
  go_upto_region 1 with fail
  replace G0 : Hid (KbAt (w.alloc (.cells #[.int .i64 tu, .int .i64 td, .int .i64 bu, .int .i64 bd, .int .i64 hh, .bool thr] 35)) w.heap.size ⟨(tu, td), (bu, bd), hh, thr⟩) := G0
  replace B0 : Hid (Below w.heap.size w (w.alloc (.cells #[.int .i64 tu, .int .i64 td, .int .i64 bu, .int .i64 bd, .int .i64 hh, .bool thr] 35))) := B0
  generalize w.alloc (.cells #[.int .i64 tu, .int .i64 td, .int .i64 bu, .int .i64 bd, .int .i64 hh, .bool thr] 35) = w5 at G0 B0 ⊢
  generalize hg : w.heap.size = g at G0 ⊢
  have HG := Lib.hid hg
  clear hg
  obtain ⟨a0, a1, a2, a3, a4, a5⟩ := G0.out.cells
  simp only [Nat.zero_add] at a0 a1 a2 a3 a4 a5
  by_cases h1 : hh < 0
  · have d1 : decide (hh < 0) = true := decide_eq_true h1
    have R := Lib.hid (BA.out h1)
    clear h1 SP BA BT KT KB
    go_wp2_with fail
    go_ret
    exact ⟨by rw [R.out]; rfl, B0.out⟩
  · have d1 : decide (hh < 0) = false := decide_eq_false h1
    by_cases h2 : thr = true ∧ hh ≠ 0
    · have R := Lib.hid (BT.out h2)
      obtain ⟨rfl, h2⟩ := h2
      have d2 : (hh != 0) = true := by simp [h2]
      clear h1 h2 SP BA BT KT KB
      go_wp2_with fail
      go_ret
      exact ⟨by rw [R.out]; rfl, B0.out⟩
    · have R := Lib.hid (SP.out h1 h2)
      have E2 : Hid (thr = false ∨ thr = true ∧ (hh != 0) = false) := Lib.hid (by
        cases thr with
        | false => exact .inl rfl
        | true =>
          refine .inr ⟨rfl, ?_⟩
          have : hh = 0 := by
            by_cases e : hh = 0
            · exact e
            · exact absurd ⟨rfl, e⟩ h2
          simp [this])
      clear h1 h2 SP BA BT
      rcases E2.out with rfl | ⟨rfl, d2⟩
      all_goals (
        cases n1 with
        | true =>
          go_wp2_with (go_at_call 34; (with_reducible refine (KT.out _).mono ?_); rintro e6 w6 ⟨rfl, hb⟩; have B6 := Lib.hid (b_next B0.out hb); clear hb)
          go_ret
          exact ⟨by rw [R.out]; rfl, B6.out⟩
        | false =>
          go_wp2_with (go_at_call 34; first | ((with_reducible refine (KT.out _).mono ?_); rintro e6 w6 ⟨rfl, hb⟩; have B6 := Lib.hid (b_next B0.out hb); obtain ⟨b0, b1, b2, b3, b4, b5⟩ := (G0.out.keep hb).cells; simp only [Nat.zero_add] at b2 b3; clear hb b0 b1 b4 b5) | ((with_reducible refine (KB.out _).mono ?_); rintro e7 w7 ⟨rfl, hb⟩; have B7 := Lib.hid (b_next B6.out hb); clear hb))
          go_ret
          exact ⟨by rw [R.out]; rfl, B7.out⟩)
set_option maxRecDepth 100000 in
set_option maxHeartbeats 4000000 in
theorem isOver14 (k : Kd) (w : World) (hbig : ∀ y ∈ [k.h, k.t.1, k.t.2, k.b.1, k.b.2], -9223372036854775808 ≤ y ∧ y ≤ 9223372036854775807) : Calls Try.prog 23 #[kdV k] w fun e w' => e = .returned (.bool (decide (¬ FitK k))) ∧ Below w.heap.size w w' := by
  have B0 : Hid (Below w.heap.size w (w.alloc (.cells (kdCells k).toArray 35))) := Lib.hid ((Below.refl _ w).alloc (Nat.le_refl _) _)
  have G0 := Lib.hid (KbAt.new w k)
  have FK := Lib.hid (fitK_iff k)
  have HB := Lib.hid hbig
  obtain ⟨r, hr⟩ : ∃ r, decide (¬ FitK k) = r := ⟨_, rfl⟩
  rw [hr]
  have HR := Lib.hid hr
  clear hr hbig
  obtain ⟨⟨tu, td⟩, ⟨bu, bd⟩, hh, thr⟩ := k
  unfold kdV
  unfold kdCells at B0 G0
  dsimp only at B0 G0 HB FK ⊢
  go_enter Try.func23, Try.ntmps23
  go_upto_region 1 with fail
  replace G0 : Hid (KbAt (w.alloc (.cells #[.int .i64 tu, .int .i64 td, .int .i64 bu, .int .i64 bd, .int .i64 hh, .bool thr] 35)) w.heap.size ⟨(tu, td), (bu, bd), hh, thr⟩) := G0
  replace B0 : Hid (Below w.heap.size w (w.alloc (.cells #[.int .i64 tu, .int .i64 td, .int .i64 bu, .int .i64 bd, .int .i64 hh, .bool thr] 35))) := B0
  generalize w.alloc (.cells #[.int .i64 tu, .int .i64 td, .int .i64 bu, .int .i64 bd, .int .i64 hh, .bool thr] 35) = w5 at G0 B0 ⊢
  generalize hg : w.heap.size = g at G0 ⊢
  have HG := Lib.hid hg
  clear hg
  obtain ⟨a0, a1, a2, a3, a4, a5⟩ := G0.out.cells
  simp only [Nat.zero_add] at a0 a1 a2 a3 a4 a5
  obtain ⟨f5, hf5⟩ : ∃ b, decide (∀ y ∈ [hh, tu, td, bu, bd], Fit y) = b := ⟨_, rfl⟩
  have I5 := Lib.hid (pk_new w5 3 [hh, tu, td, bu, bd] HB.out)
  have K5 := Lib.hid (fits_any _ _ 5 _ _ I5.out (by simp) f5 ((pk_all [hh, tu, td, bu, bd]).trans hf5))
  have C5 : Hid (Below w.heap.size w (w5.alloc (.cells #[.int .i64 hh, .int .i64 tu, .int .i64 td, .int .i64 bu, .int .i64 bd] 3))) := Lib.hid (B0.out.alloc B0.out.size _)
  have E : Hid (r = !f5) := Lib.hid (by
    rw [← HR.out, ← hf5]
    by_cases h : FitK ⟨(tu, td), (bu, bd), hh, thr⟩
    · have h' := FK.out.2 h
      rw [decide_eq_false (fun c => c h), decide_eq_true h']
      rfl
    · have h' : ¬ ∀ y ∈ [hh, tu, td, bu, bd], Fit y := fun c => h (FK.out.1 c)
      rw [decide_eq_true h, decide_eq_false h']
      rfl)
  clear hf5 I5 HB FK HR G0 B0
  go_wp2_with (go_at_call 26; refine K5.out.mono ?_; rintro e6 w6 ⟨rfl, hw'⟩; have B6 : Hid (Below w.heap.size w w6) := Lib.hid (by rw [← hw']; exact C5.out); clear hw')
  go_ret
  exact ⟨by rw [E.out]; rfl, B6.out⟩
/-- the place of the first of which it is so, or -1 -/
def First14 (P : Prop) (w : World) (e : Ending) (w' : World) : Prop := ∃ r : Int, e = .returned (.int .i64 r) ∧ -1 ≤ r ∧ r ≤ 9223372036854775807 ∧ (0 ≤ r ↔ P) ∧ Below w.heap.size w w'
set_option maxRecDepth 100000 in
set_option maxHeartbeats 4000000 in
theorem indexWrong14 (l : List Kd) (v : Value) (w : World) (hv : KdIn w v l) (hn : l.length ≤ 100000) (hbig : BigK l) :
    Calls Try.prog 33 #[v, .func (.func 22) #[] #[]] w (First14 (∃ j, j < l.length ∧ BadK (kAt l j)) w) := by
  have HV := Lib.hid hv
  obtain ⟨A, c, rfl, -, -, -⟩ := hv
  obtain ⟨n, en⟩ : ∃ n, l.length = n := ⟨_, rfl⟩
  have HL := Lib.hid en
  rw [en] at HV hn ⊢
  have HG := Lib.hid hbig
  clear en hbig
  go_enter Try.func33, Try.ntmps33
  go_wp2_with fail
  go_loopg [8] n (fun g1 vi wr => ∃ k : Nat, vi = .int .i64 k ∧ k ≤ n ∧ n - k ≤ g1 ∧ Hid (∀ j, j < k → ¬ BadK (kAt l j)) ∧ Hid (Below w.heap.size w wr))
  case atStart => exact ⟨0, rfl, by omega, by omega, Lib.hid (fun j hj => by omega), Lib.hid (Below.refl _ _)⟩
  case round =>
    obtain ⟨k, rfl, hk, hg1, P, Bl⟩ := hrel
    obtain ⟨wo, hwo⟩ : ∃ wo, wo = wr := ⟨_, rfl⟩
    subst hwo
    by_cases hlt : k < n
    · have hkz : (k : Int) < n := by omega
      have hk0 : (0 : Int) ≤ k := by omega
      have wi : IntKind.i64.wrap ((k : Int) + 1) = (k : Int) + 1 := IntWalk.i64_in _ (by omega)
      obtain ⟨b, off, c1, e, hbl, -, hk6⟩ := HV.out.get (i := k) (by have := HL.out; omega)
      injection e with e1 e2 e3
      subst e1 e3
      clear e2
      have K6 : KdAt wo b (off + k * 6) (kAt l k) := (hk6 k (by have := HL.out; omega)).keep hbl Bl.out
      have FB : ∀ y ∈ [(kAt l k).h, (kAt l k).t.1, (kAt l k).t.2, (kAt l k).b.1, (kAt l k).b.2], -9223372036854775808 ≤ y ∧ y ≤ 9223372036854775807 := HG.out k (by have := HL.out; omega)
      have KI := Lib.hid (isWrong14 (kAt l k) wo)
      have PE : Hid (¬ BadK (kAt l k) → ∀ j, j < k + 1 → ¬ BadK (kAt l j)) := Lib.hid (fun he j hj => by
        rcases Nat.lt_or_ge j k with h | h
        · exact P.out j h
        · obtain rfl : j = k := by omega
          exact he)
      have PY2 : Hid (BadK (kAt l k) → ∀ W', Below w.heap.size w W' → First14 (∃ j, j < n ∧ BadK (kAt l j)) w (.returned (.int .i64 (k : Nat))) W') := Lib.hid (fun he W' hW => ⟨k, rfl, by omega, by omega, ⟨fun _ => ⟨k, hlt, he⟩, fun _ => by omega⟩, hW⟩)
      clear hbl hk6 FB P
      obtain ⟨r, hr⟩ : ∃ r, decide (BadK (kAt l k)) = r := ⟨_, rfl⟩
      have HR := Lib.hid hr
      rw [hr] at KI
      clear hr
      generalize kAt l k = x at K6 KI PE PY2 HR
      obtain ⟨⟨tu, td⟩, ⟨bu, bd⟩, hh, thr⟩ := x
      unfold KdAt at K6
      unfold kdV at KI
      dsimp only at K6 KI
      obtain ⟨a0, a1, a2, a3, a4, a5⟩ := K6
      go_wp2_with (go_at_call 22; (with_reducible refine KI.out.mono ?_); rintro e5 w5 ⟨rfl, hb⟩; have B5 := Lib.hid (b_next Bl.out hb); clear hb; cases r)
      · have P2 := Lib.hid (PE.out (of_decide_eq_false HR.out))
        clear PE PY2 KI a0 a1 a2 a3 a4 a5
        go_wp2_with fail
        go_roundg (n - (k + 1))
        case measure => omega
        case rel => exact ⟨k + 1, by go_num, by omega, Nat.le_refl _, P2, B5⟩
      · have Y := Lib.hid (PY2.out (of_decide_eq_true HR.out))
        clear PE PY2 KI a0 a1 a2 a3 a4 a5
        go_wp2_with fail
        go_ret
        exact Y.out _ B5.out
    · obtain rfl : k = n := by omega
      have Y : Hid (First14 (∃ j, j < k ∧ BadK (kAt l j)) w (.returned (.int .i64 (-1))) wo) := Lib.hid ⟨-1, rfl, by omega, by omega, ⟨fun h => by omega, fun ⟨j, hj, h⟩ => absurd h (P.out j hj)⟩, Bl.out⟩
      have hz : ¬ (k : Int) < k := by omega
      go_wp2_with fail
      go_ret
      exact Y.out
set_option maxRecDepth 100000 in
set_option maxHeartbeats 4000000 in
theorem anyWrong14 (l : List Kd) (v : Value) (w : World) (hv : KdIn w v l) (hn : l.length ≤ 100000) (hbig : BigK l) :
    Calls Try.prog 21 #[v, .func (.func 22) #[] #[]] w fun e w' => ∃ r : Bool, e = .returned (.bool r) ∧ (r = true ↔ ∃ j, j < l.length ∧ BadK (kAt l j)) ∧ Below w.heap.size w w' := by
  have I := Lib.hid (indexWrong14 l v w hv hn hbig)
  obtain ⟨A, c, rfl, -, -, -⟩ := hv
  clear hn hbig
  go_enter Try.func21, Try.ntmps21
  go_wp2_with (go_at_call 33; refine I.out.mono ?_; rintro e w5 ⟨x, rfl, x1, x2, x3, hb⟩; have X3 := Lib.hid x3; clear x3)
  go_ret
  refine ⟨decide (0 ≤ x), rfl, ?_, hb⟩
  rw [decide_eq_true_eq]
  exact X3.out

set_option maxRecDepth 100000 in
set_option maxHeartbeats 4000000 in
theorem indexOver14 (l : List Kd) (v : Value) (w : World) (hv : KdIn w v l) (hn : l.length ≤ 100000) (hbig : BigK l) :
    Calls Try.prog 33 #[v, .func (.func 23) #[] #[]] w (First14 (∃ j, j < l.length ∧ ¬ FitK (kAt l j)) w) := by
  have HV := Lib.hid hv
  obtain ⟨A, c, rfl, -, -, -⟩ := hv
  obtain ⟨n, en⟩ : ∃ n, l.length = n := ⟨_, rfl⟩
  have HL := Lib.hid en
  rw [en] at HV hn ⊢
  have HG := Lib.hid hbig
  clear en hbig
  go_enter Try.func33, Try.ntmps33
  go_wp2_with fail
  go_loopg [8] n (fun g1 vi wr => ∃ k : Nat, vi = .int .i64 k ∧ k ≤ n ∧ n - k ≤ g1 ∧ Hid (∀ j, j < k → ¬ ¬ FitK (kAt l j)) ∧ Hid (Below w.heap.size w wr))
  case atStart => exact ⟨0, rfl, by omega, by omega, Lib.hid (fun j hj => by omega), Lib.hid (Below.refl _ _)⟩
  case round =>
    obtain ⟨k, rfl, hk, hg1, P, Bl⟩ := hrel
    obtain ⟨wo, hwo⟩ : ∃ wo, wo = wr := ⟨_, rfl⟩
    subst hwo
    by_cases hlt : k < n
    · have hkz : (k : Int) < n := by omega
      have hk0 : (0 : Int) ≤ k := by omega
      have wi : IntKind.i64.wrap ((k : Int) + 1) = (k : Int) + 1 := IntWalk.i64_in _ (by omega)
      obtain ⟨b, off, c1, e, hbl, -, hk6⟩ := HV.out.get (i := k) (by have := HL.out; omega)
      injection e with e1 e2 e3
      subst e1 e3
      clear e2
      have K6 : KdAt wo b (off + k * 6) (kAt l k) := (hk6 k (by have := HL.out; omega)).keep hbl Bl.out
      have FB : ∀ y ∈ [(kAt l k).h, (kAt l k).t.1, (kAt l k).t.2, (kAt l k).b.1, (kAt l k).b.2], -9223372036854775808 ≤ y ∧ y ≤ 9223372036854775807 := HG.out k (by have := HL.out; omega)
      have KI := Lib.hid (isOver14 (kAt l k) wo FB)
      have PE : Hid (¬ ¬ FitK (kAt l k) → ∀ j, j < k + 1 → ¬ ¬ FitK (kAt l j)) := Lib.hid (fun he j hj => by
        rcases Nat.lt_or_ge j k with h | h
        · exact P.out j h
        · obtain rfl : j = k := by omega
          exact he)
      have PY2 : Hid (¬ FitK (kAt l k) → ∀ W', Below w.heap.size w W' → First14 (∃ j, j < n ∧ ¬ FitK (kAt l j)) w (.returned (.int .i64 (k : Nat))) W') := Lib.hid (fun he W' hW => ⟨k, rfl, by omega, by omega, ⟨fun _ => ⟨k, hlt, he⟩, fun _ => by omega⟩, hW⟩)
      clear hbl hk6 FB P
      obtain ⟨r, hr⟩ : ∃ r, decide (¬ FitK (kAt l k)) = r := ⟨_, rfl⟩
      have HR := Lib.hid hr
      rw [hr] at KI
      clear hr
      generalize kAt l k = x at K6 KI PE PY2 HR
      obtain ⟨⟨tu, td⟩, ⟨bu, bd⟩, hh, thr⟩ := x
      unfold KdAt at K6
      unfold kdV at KI
      dsimp only at K6 KI
      obtain ⟨a0, a1, a2, a3, a4, a5⟩ := K6
      go_wp2_with (go_at_call 23; (with_reducible refine KI.out.mono ?_); rintro e5 w5 ⟨rfl, hb⟩; have B5 := Lib.hid (b_next Bl.out hb); clear hb; cases r)
      · have P2 := Lib.hid (PE.out (of_decide_eq_false HR.out))
        clear PE PY2 KI a0 a1 a2 a3 a4 a5
        go_wp2_with fail
        go_roundg (n - (k + 1))
        case measure => omega
        case rel => exact ⟨k + 1, by go_num, by omega, Nat.le_refl _, P2, B5⟩
      · have Y := Lib.hid (PY2.out (of_decide_eq_true HR.out))
        clear PE PY2 KI a0 a1 a2 a3 a4 a5
        go_wp2_with fail
        go_ret
        exact Y.out _ B5.out
    · obtain rfl : k = n := by omega
      have Y : Hid (First14 (∃ j, j < k ∧ ¬ FitK (kAt l j)) w (.returned (.int .i64 (-1))) wo) := Lib.hid ⟨-1, rfl, by omega, by omega, ⟨fun h => by omega, fun ⟨j, hj, h⟩ => absurd h (P.out j hj)⟩, Bl.out⟩
      have hz : ¬ (k : Int) < k := by omega
      go_wp2_with fail
      go_ret
      exact Y.out
set_option maxRecDepth 100000 in
set_option maxHeartbeats 4000000 in
theorem anyOver14 (l : List Kd) (v : Value) (w : World) (hv : KdIn w v l) (hn : l.length ≤ 100000) (hbig : BigK l) :
    Calls Try.prog 21 #[v, .func (.func 23) #[] #[]] w fun e w' => ∃ r : Bool, e = .returned (.bool r) ∧ (r = true ↔ ∃ j, j < l.length ∧ ¬ FitK (kAt l j)) ∧ Below w.heap.size w w' := by
  have I := Lib.hid (indexOver14 l v w hv hn hbig)
  obtain ⟨A, c, rfl, -, -, -⟩ := hv
  clear hn hbig
  go_enter Try.func21, Try.ntmps21
  go_wp2_with (go_at_call 33; refine I.out.mono ?_; rintro e w5 ⟨x, rfl, x1, x2, x3, hb⟩; have X3 := Lib.hid x3; clear x3)
  go_ret
  refine ⟨decide (0 ≤ x), rfl, ?_, hb⟩
  rw [decide_eq_true_eq]
  exact X3.out
end Go.Proofs.Ytidbfkbeploagaa
