/-
  What style.areWithin, isSome, lengthMay answer.
-/
import Derived.Test.YtdadlhkbngopaaaStyleMem
namespace Go.Proofs.Ytdadlhkbngopaaa
open Go.RowKit

set_option maxRecDepth 100000 in
theorem within_yes (lo hi : Int) (b o n c : Nat) (f : Nat → Int) (w : World) (h : Row .i64 w b o n f) (hn : n ≤ 100) (hf : ∀ i, i < n → lo ≤ f i ∧ f i ≤ hi) :
    Calls Try.prog 62 #[.int .i64 lo, .int .i64 hi, .slice (some ⟨b, o, none⟩) n c] w fun e w' => e = .returned (.bool true) ∧ w = w' := by
  have H := Lib.hid h
  have F := Lib.hid hf
  clear h hf
  go_enter Try.func62, Try.ntmps62
  go_wp2
  go_loop [11] (fun i => ∃ k : Nat, k ≤ n ∧ i = .int .i64 k) (fun i => n - (intOf i).toNat)
  case atStart => exact ⟨0, Nat.zero_le _, rfl⟩
  case round =>
    obtain ⟨k, hk, rfl⟩ := hrel
    by_cases hlt : k < n
    · have hc := H.out k hlt
      obtain ⟨h1, h2⟩ := F.out k hlt
      generalize f k = x at hc h1 h2
      have h1' : ¬ x < lo := by omega
      have h2' : ¬ hi < x := by omega
      go_wp2
      go_round
      case rel => exact ⟨k + 1, by omega, by go_num⟩
      case measure => simp [intOf]; omega
    · go_wp2
      go_ret
      exact ⟨rfl, rfl⟩

set_option maxRecDepth 100000 in
theorem within_no (lo hi : Int) (b o n c : Nat) (f : Nat → Int) (w : World) (h : Row .i64 w b o n f) (hn : n ≤ 100) (j : Nat) (hj : j < n) (hf : ¬ (lo ≤ f j ∧ f j ≤ hi)) :
    Calls Try.prog 62 #[.int .i64 lo, .int .i64 hi, .slice (some ⟨b, o, none⟩) n c] w fun e w' => e = .returned (.bool false) ∧ w = w' := by
  have H := Lib.hid h
  have F := Lib.hid hf
  clear h hf
  go_enter Try.func62, Try.ntmps62
  go_wp2
  go_loop [11] (fun i => ∃ k : Nat, k ≤ j ∧ i = .int .i64 k) (fun i => n - (intOf i).toNat)
  case atStart => exact ⟨0, Nat.zero_le _, rfl⟩
  case round =>
    obtain ⟨k, hk, rfl⟩ := hrel
    have hlt : k < n := by omega
    have hc := H.out k hlt
    by_cases hx : lo ≤ f k ∧ f k ≤ hi
    · have hne : k ≠ j := fun e => F.out (e ▸ hx)
      obtain ⟨h1, h2⟩ := hx
      generalize f k = x at hc h1 h2
      have h1' : ¬ x < lo := by omega
      have h2' : ¬ hi < x := by omega
      go_wp2
      go_round
      case rel => exact ⟨k + 1, by omega, by go_num⟩
      case measure => simp [intOf]; omega
    · generalize f k = x at hc hx
      by_cases h1 : x < lo
      · clear hx
        go_wp2
        go_ret
        exact ⟨rfl, rfl⟩
      · have h2 : hi < x := by omega
        clear hx
        go_wp2
        go_ret
        exact ⟨rfl, rfl⟩
set_option maxRecDepth 100000 in
theorem areWithin_any (lo hi : Int) (b o n c : Nat) (f : Nat → Int) (w : World) (h : Row .i64 w b o n f) (hn : n ≤ 100) (r : Bool) (hr : withinB lo hi f n = r) :
    Calls Try.prog 62 #[.int .i64 lo, .int .i64 hi, .slice (some ⟨b, o, none⟩) n c] w fun e w' => e = .returned (.bool r) ∧ w = w' := by
  subst hr
  by_cases hf : ∀ i, i < n → lo ≤ f i ∧ f i ≤ hi
  · rw [show withinB lo hi f n = true from decide_eq_true hf]
    exact within_yes lo hi b o n c f w h hn hf
  · rw [show withinB lo hi f n = false from decide_eq_false hf]
    simp only [Classical.not_forall] at hf
    obtain ⟨j, hj, hx⟩ := hf
    exact within_no lo hi b o n c f w h hn j hj hx

set_option maxRecDepth 100000 in
theorem index_any (k : Int) (b o n c : Nat) (f : Nat → Int) (w : World) (h : Row .u8 w b o n f) (hn : n ≤ 100) (r : Bool) (hr : someB k f n = r) :
    Calls Try.prog 74 #[.slice (some ⟨b, o, none⟩) n c, .int .u8 k] w fun e w' => ∃ x : Int, e = .returned (.int .i64 x) ∧ decide (0 ≤ x) = r ∧ w = w' := by
  have H := Lib.hid h
  have R := Lib.hid hr
  clear h hr
  go_enter Try.func74, Try.ntmps74
  go_wp2
  go_loop [8] (fun i => ∃ m : Nat, m ≤ n ∧ (∀ j, j < m → k ≠ f j) ∧ i = .int .i64 m) (fun i => n - (intOf i).toNat)
  case atStart => exact ⟨0, Nat.zero_le _, fun j hj => absurd hj (by omega), rfl⟩
  case round =>
    obtain ⟨m, hm, hall, rfl⟩ := hrel
    have A := Lib.hid hall
    clear hall
    by_cases hlt : m < n
    · have hc := H.out m hlt
      by_cases hx : k = f m
      · have R1 : Hid (decide (0 ≤ (m : Int)) = r) := Lib.hid (by
          rw [← R.out]; unfold someB
          rw [decide_eq_true (p := (0 : Int) ≤ (m : Int)) (by omega), decide_eq_true (p := ∃ i, i < n ∧ k = f i) ⟨m, hlt, hx⟩])
        have hb : (k == f m) = true := by simpa using hx
        clear hx
        generalize f m = y at hc hb
        go_wp2
        go_ret
        exact ⟨(m : Int), rfl, R1.out, rfl⟩
      · have A1 : Hid (∀ j, j < m + 1 → k ≠ f j) := Lib.hid fun j hj => by
          by_cases e : j = m
          · rw [e]; exact hx
          · exact A.out j (by omega)
        have hb : (k == f m) = false := by simpa using hx
        clear hx
        generalize f m = y at hc hb
        go_wp2
        go_round
        case rel => exact ⟨m + 1, by omega, A1.out, by go_num⟩
        case measure => simp [intOf]; omega
    · have R1 : Hid (decide (0 ≤ (-1 : Int)) = r) := Lib.hid (by
          rw [← R.out]; unfold someB
          rw [decide_eq_false (p := (0 : Int) ≤ -1) (by omega), decide_eq_false]
          rintro ⟨i, hi, e⟩
          exact A.out i (by omega) e)
      go_wp2
      go_ret
      exact ⟨-1, rfl, R1.out, rfl⟩
set_option maxRecDepth 100000 in
theorem some_any (k : Int) (b o n c : Nat) (f : Nat → Int) (w : World) (h : Row .u8 w b o n f) (hn : n ≤ 100) (r : Bool) (hr : someB k f n = r) :
    Calls Try.prog 48 #[.int .u8 k, .slice (some ⟨b, o, none⟩) n c] w fun e w' => e = .returned (.bool r) ∧ w = w' := by
  have C : Hid (∀ W, W = w → Calls Try.prog 70 #[.slice (some ⟨b, o, none⟩) n c, .int .u8 k] W fun e w' => e = .returned (.bool r) ∧ W = w') := Lib.hid (by
    rintro W rfl
    have I := Lib.hid (index_any k b o n c f W h hn r hr)
    clear h hr
    go_enter Try.func70, Try.ntmps70
    go_wp2_with fail
    refine I.out.mono ?_
    rintro e w' ⟨x, rfl, hx, rfl⟩
    by_cases h0 : 0 ≤ x
    all_goals
      have X := Lib.hid hx
      clear hx
      go_wp2_with fail
      go_ret
      exact ⟨by rw [← X.out]; simp [h0], rfl⟩)
  clear h hr
  go_enter Try.func48, Try.ntmps48
  go_wp2_with fail
  refine (C.out _ rfl).mono ?_
  rintro e w' ⟨rfl, rfl⟩
  go_wp2_with fail
  go_ret
  exact ⟨rfl, rfl⟩

set_option maxRecDepth 100000 in
theorem lenB_iff {l : RL} {lo : Int} {r : Bool} (h : lenB l lo = r) : r = true ↔ LenMay l lo := by
  rw [← h]; unfold lenB; exact decide_eq_true_iff
set_option maxRecDepth 100000 in
theorem row_one (n : Int) (W : World) (H : Nat) (t : TypeId) (h : W.heap.size = H) : Row .i64 (W.alloc (.cells #[.int .i64 n] t)) H 0 1 (fun _ => n) := by
  subst h
  intro i hi
  obtain rfl : i = 0 := by omega
  simp [World.cell?_alloc_at]
def pick2 (a b : Int) (i : Nat) : Int := if i = 0 then a else b
set_option maxRecDepth 100000 in
theorem row_two (n m : Int) (W : World) (H : Nat) (t : TypeId) (h : W.heap.size = H) : Row .i64 (W.alloc (.cells #[.int .i64 n, .int .i64 m] t)) H 0 2 (pick2 n m) := by
  subst h
  intro i hi
  obtain rfl | rfl : i = 0 ∨ i = 1 := by omega
  all_goals simp [World.cell?_alloc_at, pick2]
def idI (i : Nat) : Int := i
def alignI (i : Nat) : Int := if i < 3 then (i : Int) else 5
set_option maxRecDepth 100000 in
theorem row_id3 (W : World) (H : Nat) (t : TypeId) (h : W.heap.size = H) : Row .u8 (W.alloc (.cells #[.int .u8 0, .int .u8 1, .int .u8 2] t)) H 0 3 idI := by
  subst h
  intro i hi
  obtain rfl | rfl | rfl : i = 0 ∨ i = 1 ∨ i = 2 := by omega
  all_goals simp [World.cell?_alloc_at, idI]
set_option maxRecDepth 100000 in
theorem row_id4 (W : World) (H : Nat) (t : TypeId) (h : W.heap.size = H) : Row .u8 (W.alloc (.cells #[.int .u8 0, .int .u8 1, .int .u8 2, .int .u8 3] t)) H 0 4 idI := by
  subst h
  intro i hi
  obtain rfl | rfl | rfl | rfl : i = 0 ∨ i = 1 ∨ i = 2 ∨ i = 3 := by omega
  all_goals simp [World.cell?_alloc_at, idI]
set_option maxRecDepth 100000 in
theorem row_id5 (W : World) (H : Nat) (t : TypeId) (h : W.heap.size = H) : Row .u8 (W.alloc (.cells #[.int .u8 0, .int .u8 1, .int .u8 2, .int .u8 3, .int .u8 4] t)) H 0 5 idI := by
  subst h
  intro i hi
  obtain rfl | rfl | rfl | rfl | rfl : i = 0 ∨ i = 1 ∨ i = 2 ∨ i = 3 ∨ i = 4 := by omega
  all_goals simp [World.cell?_alloc_at, idI]
set_option maxRecDepth 100000 in
theorem row_align (W : World) (H : Nat) (t : TypeId) (h : W.heap.size = H) : Row .u8 (W.alloc (.cells #[.int .u8 0, .int .u8 1, .int .u8 2, .int .u8 5] t)) H 0 4 alignI := by
  subst h
  intro i hi
  obtain rfl | rfl | rfl | rfl : i = 0 ∨ i = 1 ∨ i = 2 ∨ i = 3 := by omega
  all_goals simp [World.cell?_alloc_at, alignI]
set_option maxRecDepth 100000 in
theorem lengthMay_any (l : RL) (lo : Int) (w : World) (hl : l.ok) (r : Bool) (hr : lenB l lo = r) :
    Calls Try.prog 71 #[l.val, .int .i64 lo] w fun e w' => e = .returned (.bool r) ∧ Below w.heap.size w w' := by
  have R := Lib.hid (lenB_iff hr)
  clear hr
  obtain ⟨kind, n⟩ := l
  unfold RL.val
  dsimp only
  obtain ⟨⟨k0, k1⟩, n0, n1⟩ := hl
  dsimp only at k0 k1 n0 n1
  by_cases h0 : kind = 0
  · have e0 : (kind == 0) = true := by simpa using h0
    have R1 : Hid ((n == 0) = r) := Lib.hid (by
      rw [Bool.eq_iff_iff, R.out]; unfold LenMay; subst h0; simp)
    clear h0
    go_enter Try.func71, Try.ntmps71
    go_wp2
    go_ret
    exact ⟨by rw [← R1.out]; rfl, (Below.refl _ _).alloc (Nat.le_refl _) _⟩
  · have e0 : (kind == 0) = false := by simpa using h0
    by_cases h1 : kind = 1
    · have e1 : (kind == 1) = true := by simpa using h1
      have R1 : Hid (withinB lo 274877906944 (fun _ => n) 1 = r) := Lib.hid (by
        rw [Bool.eq_iff_iff, R.out]; unfold LenMay withinB; subst h1
        rw [decide_eq_true_iff]
        dsimp only
        constructor
        · intro h; have := h 0 (by omega); omega
        · intro h i _; omega)
      clear h1 h0
      go_enter Try.func71, Try.ntmps71
      go_wp2_with (go_at_call 62; (with_reducible refine (areWithin_any _ _ _ _ _ _ (fun _ => n) _ (row_one _ _ _ _ (by simp)) (by omega) r R1.out).mono ?_); rintro e w' ⟨rfl, rfl⟩)
      go_ret
      exact ⟨rfl, ((Below.refl _ _).alloc (Nat.le_refl _) _).alloc (by simp) _⟩
    · have e1 : (kind == 1) = false := by simpa using h1
      by_cases h2 : kind = 2
      · have e2 : (kind == 2) = true := by simpa using h2
        have R1 : Hid (withinB 0 100000 (fun _ => n) 1 = r) := Lib.hid (by
          rw [Bool.eq_iff_iff, R.out]; unfold LenMay withinB; subst h2
          rw [decide_eq_true_iff]
          dsimp only
          constructor
          · intro h; have := h 0 (by omega); omega
          · intro h i _; omega)
        clear h2 h1 h0
        go_enter Try.func71, Try.ntmps71
        go_wp2_with (go_at_call 62; (with_reducible refine (areWithin_any _ _ _ _ _ _ (fun _ => n) _ (row_one _ _ _ _ (by simp)) (by omega) r R1.out).mono ?_); rintro e w' ⟨rfl, rfl⟩)
        go_ret
        exact ⟨rfl, ((Below.refl _ _).alloc (Nat.le_refl _) _).alloc (by simp) _⟩
      · have e2 : (kind == 2) = false := by simpa using h2
        have R1 : Hid (r = false) := Lib.hid (by
          rw [Bool.eq_false_iff]; intro h; have := R.out.1 h; unfold LenMay at this; dsimp only at this; omega)
        clear h2 h1 h0
        go_enter Try.func71, Try.ntmps71
        go_wp2
        go_ret
        exact ⟨by rw [R1.out]; rfl, (Below.refl _ _).alloc (Nat.le_refl _) _⟩
set_option maxRecDepth 100000 in
theorem lengthMay_at (K N lo : Int) (w : World) (hl : RL.ok ⟨K, N⟩) (r : Bool) (hr : lenB ⟨K, N⟩ lo = r) :
    Calls Try.prog 71 #[.agg #[.int .u8 K, .int .i64 N], .int .i64 lo] w fun e w' => e = .returned (.bool r) ∧ Below w.heap.size w w' := lengthMay_any ⟨K, N⟩ lo w hl r hr
end Go.Proofs.Ytdadlhkbngopaaa
