/-
  The questions that style.May asks: what each of its closures answers.
-/
import Derived.Test.YtdadlhkbngopaaaStyleLens
namespace Go.Proofs.Ytdadlhkbngopaaa
open Go.RowKit

def pick4 (a b c d : RL) (i : Nat) : RL := if i = 0 then a else if i = 1 then b else if i = 2 then c else d
def pick3 (a b c : RL) (i : Nat) : RL := if i = 0 then a else if i = 1 then b else c
/-- the questions, one by one -/
def part (s : RS) : Nat → Bool
  | 0 => someB s.display idI 3
  | 1 => someB s.ws idI 3
  | 2 => someB s.valign idI 3
  | 3 => someB s.dir idI 4
  | 4 => someB s.lines idI 3
  | 5 => someB s.align alignI 4
  | 6 => someB s.justify idI 5
  | 7 => lensB (pick4 s.width s.minW s.maxW s.basis) 4 0
  | 8 => lensB (pick3 s.height s.minH s.maxH) 3 0 && !partsB (pick3 s.height s.minH s.maxH) 3
  | 9 => lensB s.margin 4 (-274877906944)
  | 10 => withinB 0 274877906944 s.pad 4
  | 11 => withinB 0 274877906944 s.bord 4
  | 12 => withinB 0 274877906944 (pick2 s.gap s.lineGap) 2
  | 13 => withinB (-274877906944) 274877906944 (pick2 s.offX s.offY) 2
  | 14 => withinB 0 1000 (fun _ => s.font) 1
  | 15 => withinB 0 1000 (pick2 s.grow s.shrink) 2
  | _ => withinB (-1000) 1000 (fun _ => s.order) 1
set_option maxRecDepth 100000 in
theorem rowL_four (a b c d : RL) (W : World) (H : Nat) (t : TypeId) (h : W.heap.size = H) :
    RowL (W.alloc (.cells #[.int .u8 a.kind, .int .i64 a.n, .int .u8 b.kind, .int .i64 b.n, .int .u8 c.kind, .int .i64 c.n, .int .u8 d.kind, .int .i64 d.n] t)) H 0 4 (pick4 a b c d) := by
  subst h
  intro i hi
  obtain rfl | rfl | rfl | rfl : i = 0 ∨ i = 1 ∨ i = 2 ∨ i = 3 := by omega
  all_goals simp [World.cell?_alloc_at, pick4]
set_option maxRecDepth 100000 in
theorem rowL_three (a b c : RL) (W : World) (H : Nat) (t : TypeId) (h : W.heap.size = H) :
    RowL (W.alloc (.cells #[.int .u8 a.kind, .int .i64 a.n, .int .u8 b.kind, .int .i64 b.n, .int .u8 c.kind, .int .i64 c.n] t)) H 0 3 (pick3 a b c) := by
  subst h
  intro i hi
  obtain rfl | rfl | rfl : i = 0 ∨ i = 1 ∨ i = 2 := by omega
  all_goals simp [World.cell?_alloc_at, pick3]

set_option maxRecDepth 100000 in
theorem clos_0 (s : RS) (_ : s.ok) (b : Nat) (w : World) (S : Sty w b s) (r : Bool) (hr : part s 0 = r) :
    Calls Try.prog 47 #[.pointer (some ⟨b, 0, none⟩)] w fun e w' => e = .returned (.bool r) ∧ Below w.heap.size w w' := by
  have R : Hid (someB s.display idI 3 = r) := Lib.hid hr
  have c := S.cell (k := 0) (v := .int .u8 s.display) rfl
  clear S hr
  generalize s.display = x at c R
  go_enter Try.func47, Try.ntmps47
  go_wp2_with (go_at_call 48; (with_reducible refine (some_any _ _ _ _ _ idI _ (row_id3 _ _ _ (by simp)) (by omega) r R.out).mono ?_); rintro e w' ⟨rfl, rfl⟩)
  go_ret
  exact ⟨rfl, (Below.refl _ _).alloc (Nat.le_refl _) _⟩

set_option maxRecDepth 100000 in
theorem clos_1 (s : RS) (_ : s.ok) (b : Nat) (w : World) (S : Sty w b s) (r : Bool) (hr : part s 1 = r) :
    Calls Try.prog 49 #[.pointer (some ⟨b, 0, none⟩)] w fun e w' => e = .returned (.bool r) ∧ Below w.heap.size w w' := by
  have R : Hid (someB s.ws idI 3 = r) := Lib.hid hr
  have c := S.cell (k := 33) (v := .int .u8 s.ws) rfl
  clear S hr
  generalize s.ws = x at c R
  go_enter Try.func49, Try.ntmps49
  go_wp2_with (go_at_call 48; (with_reducible refine (some_any _ _ _ _ _ idI _ (row_id3 _ _ _ (by simp)) (by omega) r R.out).mono ?_); rintro e w' ⟨rfl, rfl⟩)
  go_ret
  exact ⟨rfl, (Below.refl _ _).alloc (Nat.le_refl _) _⟩

set_option maxRecDepth 100000 in
theorem clos_2 (s : RS) (_ : s.ok) (b : Nat) (w : World) (S : Sty w b s) (r : Bool) (hr : part s 2 = r) :
    Calls Try.prog 50 #[.pointer (some ⟨b, 0, none⟩)] w fun e w' => e = .returned (.bool r) ∧ Below w.heap.size w w' := by
  have R : Hid (someB s.valign idI 3 = r) := Lib.hid hr
  have c := S.cell (k := 35) (v := .int .u8 s.valign) rfl
  clear S hr
  generalize s.valign = x at c R
  go_enter Try.func50, Try.ntmps50
  go_wp2_with (go_at_call 48; (with_reducible refine (some_any _ _ _ _ _ idI _ (row_id3 _ _ _ (by simp)) (by omega) r R.out).mono ?_); rintro e w' ⟨rfl, rfl⟩)
  go_ret
  exact ⟨rfl, (Below.refl _ _).alloc (Nat.le_refl _) _⟩

set_option maxRecDepth 100000 in
theorem clos_3 (s : RS) (_ : s.ok) (b : Nat) (w : World) (S : Sty w b s) (r : Bool) (hr : part s 3 = r) :
    Calls Try.prog 51 #[.pointer (some ⟨b, 0, none⟩)] w fun e w' => e = .returned (.bool r) ∧ Below w.heap.size w w' := by
  have R : Hid (someB s.dir idI 4 = r) := Lib.hid hr
  have c := S.cell (k := 36) (v := .int .u8 s.dir) rfl
  clear S hr
  generalize s.dir = x at c R
  go_enter Try.func51, Try.ntmps51
  go_wp2_with (go_at_call 48; (with_reducible refine (some_any _ _ _ _ _ idI _ (row_id4 _ _ _ (by simp)) (by omega) r R.out).mono ?_); rintro e w' ⟨rfl, rfl⟩)
  go_ret
  exact ⟨rfl, (Below.refl _ _).alloc (Nat.le_refl _) _⟩

set_option maxRecDepth 100000 in
theorem clos_4 (s : RS) (_ : s.ok) (b : Nat) (w : World) (S : Sty w b s) (r : Bool) (hr : part s 4 = r) :
    Calls Try.prog 52 #[.pointer (some ⟨b, 0, none⟩)] w fun e w' => e = .returned (.bool r) ∧ Below w.heap.size w w' := by
  have R : Hid (someB s.lines idI 3 = r) := Lib.hid hr
  have c := S.cell (k := 34) (v := .int .u8 s.lines) rfl
  clear S hr
  generalize s.lines = x at c R
  go_enter Try.func52, Try.ntmps52
  go_wp2_with (go_at_call 48; (with_reducible refine (some_any _ _ _ _ _ idI _ (row_id3 _ _ _ (by simp)) (by omega) r R.out).mono ?_); rintro e w' ⟨rfl, rfl⟩)
  go_ret
  exact ⟨rfl, (Below.refl _ _).alloc (Nat.le_refl _) _⟩

set_option maxRecDepth 100000 in
theorem clos_5 (s : RS) (_ : s.ok) (b : Nat) (w : World) (S : Sty w b s) (r : Bool) (hr : part s 5 = r) :
    Calls Try.prog 53 #[.pointer (some ⟨b, 0, none⟩)] w fun e w' => e = .returned (.bool r) ∧ Below w.heap.size w w' := by
  have R : Hid (someB s.align alignI 4 = r) := Lib.hid hr
  have c := S.cell (k := 39) (v := .int .u8 s.align) rfl
  clear S hr
  generalize s.align = x at c R
  go_enter Try.func53, Try.ntmps53
  go_wp2_with (go_at_call 48; (with_reducible refine (some_any _ _ _ _ _ alignI _ (row_align _ _ _ (by simp)) (by omega) r R.out).mono ?_); rintro e w' ⟨rfl, rfl⟩)
  go_ret
  exact ⟨rfl, (Below.refl _ _).alloc (Nat.le_refl _) _⟩

set_option maxRecDepth 100000 in
theorem clos_6 (s : RS) (_ : s.ok) (b : Nat) (w : World) (S : Sty w b s) (r : Bool) (hr : part s 6 = r) :
    Calls Try.prog 54 #[.pointer (some ⟨b, 0, none⟩)] w fun e w' => e = .returned (.bool r) ∧ Below w.heap.size w w' := by
  have R : Hid (someB s.justify idI 5 = r) := Lib.hid hr
  have c := S.cell (k := 37) (v := .int .u8 s.justify) rfl
  clear S hr
  generalize s.justify = x at c R
  go_enter Try.func54, Try.ntmps54
  go_wp2_with (go_at_call 48; (with_reducible refine (some_any _ _ _ _ _ idI _ (row_id5 _ _ _ (by simp)) (by omega) r R.out).mono ?_); rintro e w' ⟨rfl, rfl⟩)
  go_ret
  exact ⟨rfl, (Below.refl _ _).alloc (Nat.le_refl _) _⟩

set_option maxRecDepth 100000 in
theorem clos_7 (s : RS) (hs : s.ok) (b : Nat) (w : World) (S : Sty w b s) (r : Bool) (hr : part s 7 = r) :
    Calls Try.prog 55 #[.pointer (some ⟨b, 0, none⟩)] w fun e w' => e = .returned (.bool r) ∧ Below w.heap.size w w' := by
  have R : Hid (lensB (pick4 s.width s.minW s.maxW s.basis) 4 0 = r) := Lib.hid hr
  have O : Hid (∀ i, i < 4 → (pick4 s.width s.minW s.maxW s.basis i).ok) := Lib.hid (fun i hi => by
    obtain rfl | rfl | rfl | rfl : i = 0 ∨ i = 1 ∨ i = 2 ∨ i = 3 := by omega
    all_goals first | exact hs.width | exact hs.minW | exact hs.maxW | exact hs.basis)
  have c2 := S.cell (k := 2) (v := .int .u8 s.width.kind) rfl
  have c3 := S.cell (k := 3) (v := .int .i64 s.width.n) rfl
  have c4 := S.cell (k := 4) (v := .int .u8 s.minW.kind) rfl
  have c5 := S.cell (k := 5) (v := .int .i64 s.minW.n) rfl
  have c6 := S.cell (k := 6) (v := .int .u8 s.maxW.kind) rfl
  have c7 := S.cell (k := 7) (v := .int .i64 s.maxW.n) rfl
  have c44 := S.cell (k := 44) (v := .int .u8 s.basis.kind) rfl
  have c45 := S.cell (k := 45) (v := .int .i64 s.basis.n) rfl
  clear hs S hr
  generalize s.width = l_width at *
  generalize s.minW = l_minW at *
  generalize s.maxW = l_maxW at *
  generalize s.basis = l_basis at *
  go_enter Try.func55, Try.ntmps55
  go_wp2_with (go_at_call 56; (with_reducible refine (lengthsMay_any _ _ _ _ (pick4 l_width l_minW l_maxW l_basis) _ (rowL_four _ _ _ _ _ _ _ (by simp)) (by simp) (by omega) O.out r R.out).mono ?_); rintro e w1 ⟨rfl, hb1⟩; have B1 : Hid (Below w.heap.size w w1) := Lib.hid (((Below.refl w.heap.size w).alloc (Nat.le_refl _) _).trans (hb1.mono (by simp))); clear hb1)
  go_ret
  exact ⟨rfl, B1.out⟩

set_option maxRecDepth 100000 in
theorem clos_8 (s : RS) (hs : s.ok) (b : Nat) (w : World) (S : Sty w b s) (r : Bool) (hr : part s 8 = r) :
    Calls Try.prog 57 #[.pointer (some ⟨b, 0, none⟩)] w fun e w' => e = .returned (.bool r) ∧ Below w.heap.size w w' := by
  have R : Hid ((lensB (pick3 s.height s.minH s.maxH) 3 0 && !partsB (pick3 s.height s.minH s.maxH) 3) = r) := Lib.hid hr
  have O : Hid (∀ i, i < 3 → (pick3 s.height s.minH s.maxH i).ok) := Lib.hid (fun i hi => by
    obtain rfl | rfl | rfl : i = 0 ∨ i = 1 ∨ i = 2 := by omega
    all_goals first | exact hs.height | exact hs.minH | exact hs.maxH)
  have c8 := S.cell (k := 8) (v := .int .u8 s.height.kind) rfl
  have c9 := S.cell (k := 9) (v := .int .i64 s.height.n) rfl
  have c10 := S.cell (k := 10) (v := .int .u8 s.minH.kind) rfl
  have c11 := S.cell (k := 11) (v := .int .i64 s.minH.n) rfl
  have c12 := S.cell (k := 12) (v := .int .u8 s.maxH.kind) rfl
  have c13 := S.cell (k := 13) (v := .int .i64 s.maxH.n) rfl
  clear hs S hr
  generalize s.height = l_height at *
  generalize s.minH = l_minH at *
  generalize s.maxH = l_maxH at *
  go_enter Try.func57, Try.ntmps57
  go_wp2_with (go_at_call 58; (with_reducible refine (heightsMay_any _ _ _ _ (pick3 l_height l_minH l_maxH) _ (rowL_three _ _ _ _ _ _ (by simp)) (by simp) (by omega) O.out r R.out).mono ?_); rintro e w1 ⟨rfl, hb1⟩; have B1 : Hid (Below w.heap.size w w1) := Lib.hid (((Below.refl w.heap.size w).alloc (Nat.le_refl _) _).trans (hb1.mono (by simp))); clear hb1)
  go_ret
  exact ⟨rfl, B1.out⟩

set_option maxRecDepth 100000 in
theorem clos_9 (s : RS) (hs : s.ok) (b : Nat) (w : World) (S : Sty w b s) (r : Bool) (hr : part s 9 = r) :
    Calls Try.prog 59 #[.pointer (some ⟨b, 0, none⟩)] w fun e w' => e = .returned (.bool r) ∧ Below w.heap.size w w' := by
  have R : Hid (lensB s.margin 4 (-274877906944) = r) := Lib.hid hr
  have O := Lib.hid hs.margin
  have c14 := S.cell (k := 14) (v := .int .u8 (s.margin 0).kind) rfl
  have c15 := S.cell (k := 15) (v := .int .i64 (s.margin 0).n) rfl
  have c16 := S.cell (k := 16) (v := .int .u8 (s.margin 1).kind) rfl
  have c17 := S.cell (k := 17) (v := .int .i64 (s.margin 1).n) rfl
  have c18 := S.cell (k := 18) (v := .int .u8 (s.margin 2).kind) rfl
  have c19 := S.cell (k := 19) (v := .int .i64 (s.margin 2).n) rfl
  have c20 := S.cell (k := 20) (v := .int .u8 (s.margin 3).kind) rfl
  have c21 := S.cell (k := 21) (v := .int .i64 (s.margin 3).n) rfl
  clear hs S hr
  have C : Hid (∀ W, Calls Try.prog 60 #[.agg #[.int .u8 (s.margin 0).kind, .int .i64 (s.margin 0).n, .int .u8 (s.margin 1).kind, .int .i64 (s.margin 1).n, .int .u8 (s.margin 2).kind, .int .i64 (s.margin 2).n, .int .u8 (s.margin 3).kind, .int .i64 (s.margin 3).n]] W fun e w' => e = .returned (.bool r) ∧ Below W.heap.size W w') := Lib.hid (fun W => marginsMay_any s.margin W O.out _ rfl r R.out)
  generalize s.margin = m at *
  go_enter Try.func59, Try.ntmps59
  go_wp2_with (go_at_call 60; (with_reducible refine (C.out _).mono ?_); rintro e w1 ⟨rfl, hb1⟩; have B1 := Lib.hid hb1; clear hb1)
  go_ret
  exact ⟨rfl, B1.out⟩

set_option maxRecDepth 100000 in
theorem clos_10 (s : RS) (_ : s.ok) (b : Nat) (w : World) (S : Sty w b s) (r : Bool) (hr : part s 10 = r) :
    Calls Try.prog 61 #[.pointer (some ⟨b, 0, none⟩)] w fun e w' => e = .returned (.bool r) ∧ Below w.heap.size w w' := by
  have R : Hid (withinB 0 274877906944 s.pad 4 = r) := Lib.hid hr
  have row : Hid (Row .i64 w b 22 4 s.pad) := Lib.hid (fun i hi => by
    obtain rfl | rfl | rfl | rfl : i = 0 ∨ i = 1 ∨ i = 2 ∨ i = 3 := by omega
    all_goals exact S.cell rfl)
  have c := S.cell (k := 22) (v := .int .i64 (s.pad 0)) rfl
  have hb := S.1
  clear S hr
  generalize s.pad = f at *
  go_enter Try.func61, Try.ntmps61
  go_wp2_with (go_at_call 62; (with_reducible refine (areWithin_any _ _ _ _ _ _ f _ row.out (by omega) r R.out).mono ?_); rintro e w' ⟨rfl, rfl⟩)
  go_ret
  exact ⟨rfl, Below.refl _ _⟩

set_option maxRecDepth 100000 in
theorem clos_11 (s : RS) (_ : s.ok) (b : Nat) (w : World) (S : Sty w b s) (r : Bool) (hr : part s 11 = r) :
    Calls Try.prog 63 #[.pointer (some ⟨b, 0, none⟩)] w fun e w' => e = .returned (.bool r) ∧ Below w.heap.size w w' := by
  have R : Hid (withinB 0 274877906944 s.bord 4 = r) := Lib.hid hr
  have row : Hid (Row .i64 w b 26 4 s.bord) := Lib.hid (fun i hi => by
    obtain rfl | rfl | rfl | rfl : i = 0 ∨ i = 1 ∨ i = 2 ∨ i = 3 := by omega
    all_goals exact S.cell rfl)
  have c := S.cell (k := 26) (v := .int .i64 (s.bord 0)) rfl
  have hb := S.1
  clear S hr
  generalize s.bord = f at *
  go_enter Try.func63, Try.ntmps63
  go_wp2_with (go_at_call 62; (with_reducible refine (areWithin_any _ _ _ _ _ _ f _ row.out (by omega) r R.out).mono ?_); rintro e w' ⟨rfl, rfl⟩)
  go_ret
  exact ⟨rfl, Below.refl _ _⟩

set_option maxRecDepth 100000 in
theorem clos_12 (s : RS) (_ : s.ok) (b : Nat) (w : World) (S : Sty w b s) (r : Bool) (hr : part s 12 = r) :
    Calls Try.prog 64 #[.pointer (some ⟨b, 0, none⟩)] w fun e w' => e = .returned (.bool r) ∧ Below w.heap.size w w' := by
  have R : Hid (withinB 0 274877906944 (pick2 s.gap s.lineGap) 2 = r) := Lib.hid hr
  have c := S.cell (k := 40) (v := .int .i64 s.gap) rfl
  have d := S.cell (k := 41) (v := .int .i64 s.lineGap) rfl
  clear S hr
  generalize s.gap = x at c R
  generalize s.lineGap = y at d R
  go_enter Try.func64, Try.ntmps64
  go_wp2_with (go_at_call 62; (with_reducible refine (areWithin_any _ _ _ _ _ _ (pick2 x y) _ (row_two _ _ _ _ _ (by simp)) (by omega) r R.out).mono ?_); rintro e w' ⟨rfl, rfl⟩)
  go_ret
  exact ⟨rfl, (Below.refl _ _).alloc (Nat.le_refl _) _⟩

set_option maxRecDepth 100000 in
theorem clos_13 (s : RS) (_ : s.ok) (b : Nat) (w : World) (S : Sty w b s) (r : Bool) (hr : part s 13 = r) :
    Calls Try.prog 65 #[.pointer (some ⟨b, 0, none⟩)] w fun e w' => e = .returned (.bool r) ∧ Below w.heap.size w w' := by
  have R : Hid (withinB (-274877906944) 274877906944 (pick2 s.offX s.offY) 2 = r) := Lib.hid hr
  have c := S.cell (k := 30) (v := .int .i64 s.offX) rfl
  have d := S.cell (k := 31) (v := .int .i64 s.offY) rfl
  clear S hr
  generalize s.offX = x at c R
  generalize s.offY = y at d R
  go_enter Try.func65, Try.ntmps65
  go_wp2_with (go_at_call 62; (with_reducible refine (areWithin_any _ _ _ _ _ _ (pick2 x y) _ (row_two _ _ _ _ _ (by simp)) (by omega) r R.out).mono ?_); rintro e w' ⟨rfl, rfl⟩)
  go_ret
  exact ⟨rfl, (Below.refl _ _).alloc (Nat.le_refl _) _⟩

set_option maxRecDepth 100000 in
theorem clos_14 (s : RS) (_ : s.ok) (b : Nat) (w : World) (S : Sty w b s) (r : Bool) (hr : part s 14 = r) :
    Calls Try.prog 66 #[.pointer (some ⟨b, 0, none⟩)] w fun e w' => e = .returned (.bool r) ∧ Below w.heap.size w w' := by
  have R : Hid (withinB 0 1000 (fun _ => s.font) 1 = r) := Lib.hid hr
  have c := S.cell (k := 32) (v := .int .i64 s.font) rfl
  clear S hr
  generalize s.font = x at c R
  go_enter Try.func66, Try.ntmps66
  go_wp2_with (go_at_call 62; (with_reducible refine (areWithin_any _ _ _ _ _ _ (fun _ => x) _ (row_one _ _ _ _ (by simp)) (by omega) r R.out).mono ?_); rintro e w' ⟨rfl, rfl⟩)
  go_ret
  exact ⟨rfl, (Below.refl _ _).alloc (Nat.le_refl _) _⟩

set_option maxRecDepth 100000 in
theorem clos_15 (s : RS) (_ : s.ok) (b : Nat) (w : World) (S : Sty w b s) (r : Bool) (hr : part s 15 = r) :
    Calls Try.prog 67 #[.pointer (some ⟨b, 0, none⟩)] w fun e w' => e = .returned (.bool r) ∧ Below w.heap.size w w' := by
  have R : Hid (withinB 0 1000 (pick2 s.grow s.shrink) 2 = r) := Lib.hid hr
  have c := S.cell (k := 42) (v := .int .i64 s.grow) rfl
  have d := S.cell (k := 43) (v := .int .i64 s.shrink) rfl
  clear S hr
  generalize s.grow = x at c R
  generalize s.shrink = y at d R
  go_enter Try.func67, Try.ntmps67
  go_wp2_with (go_at_call 62; (with_reducible refine (areWithin_any _ _ _ _ _ _ (pick2 x y) _ (row_two _ _ _ _ _ (by simp)) (by omega) r R.out).mono ?_); rintro e w' ⟨rfl, rfl⟩)
  go_ret
  exact ⟨rfl, (Below.refl _ _).alloc (Nat.le_refl _) _⟩

set_option maxRecDepth 100000 in
theorem clos_16 (s : RS) (_ : s.ok) (b : Nat) (w : World) (S : Sty w b s) (r : Bool) (hr : part s 16 = r) :
    Calls Try.prog 68 #[.pointer (some ⟨b, 0, none⟩)] w fun e w' => e = .returned (.bool r) ∧ Below w.heap.size w w' := by
  have R : Hid (withinB (-1000) 1000 (fun _ => s.order) 1 = r) := Lib.hid hr
  have c := S.cell (k := 46) (v := .int .i64 s.order) rfl
  clear S hr
  generalize s.order = x at c R
  go_enter Try.func68, Try.ntmps68
  go_wp2_with (go_at_call 62; (with_reducible refine (areWithin_any _ _ _ _ _ _ (fun _ => x) _ (row_one _ _ _ _ (by simp)) (by omega) r R.out).mono ?_); rintro e w' ⟨rfl, rfl⟩)
  go_ret
  exact ⟨rfl, (Below.refl _ _).alloc (Nat.le_refl _) _⟩

end Go.Proofs.Ytdadlhkbngopaaa
