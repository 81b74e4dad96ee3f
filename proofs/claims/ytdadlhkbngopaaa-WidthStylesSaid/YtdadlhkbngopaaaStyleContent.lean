/-
  A size as that of its content: style.content, limits, and the document's content and between.
-/
import Derived.Test.YtdadlhkbngopaaaStyleSize
namespace Go.Proofs.Ytdadlhkbngopaaa
open Go.RowKit

def contentR (wh : Bool) (l : RL) (x ed : Int) : Told3 :=
  if (resolveR l x).2.1 = true ∧ wh = true then (max ((resolveR l x).1 - ed) 0, true, 0) else resolveR l x
def limitsR (wh : Bool) (a b : RL) (x ed : Int) : Int × Int × Int :=
  if (contentR wh a x ed).2.2 ≠ 0 then (0, 0, (contentR wh a x ed).2.2)
  else if (contentR wh b x ed).2.2 ≠ 0 then (0, 0, (contentR wh b x ed).2.2)
  else ((contentR wh a x ed).1, if (contentR wh b x ed).2.1 = true then (contentR wh b x ed).1 else 1099511627776, 0)
theorem ret_two3 {n m e : Int} {p : Int × Int × Int} (h : p = (n, m, e)) : Ending.returned (.tuple #[.int .i64 n, .int .i64 m, .int .i64 e]) = .returned (.tuple #[.int .i64 p.1, .int .i64 p.2.1, .int .i64 p.2.2]) := by rw [h]

/-- a block of a style's cells -/
def Box27 (W : World) (b : Nat) (X : Array Value) : Prop := b < W.heap.size ∧ W.heap[b]? = some (.cells X 27 (0, 0))
theorem Box27.new (w : World) (X : Array Value) : Box27 (w.alloc (.cells X 27)) w.heap.size X := ⟨by simp, heap_alloc_new w _⟩
theorem Box27.alloc {W : World} {b : Nat} {X : Array Value} (h : Box27 W b X) (o : Obj) : Box27 (W.alloc o) b X := ⟨by have := h.1; simp; omega, (heap_alloc_old _ _ h.1).trans h.2⟩
theorem Box27.below {W W' : World} {b : Nat} {X : Array Value} (h : Box27 W b X) (hb : Below W.heap.size W W') : Box27 W' b X := ⟨Nat.lt_of_lt_of_le h.1 hb.size, (hb.block b h.1).trans h.2⟩
theorem Box27.cell {W : World} {b k : Nat} {X : Array Value} {v : Value} (h : Box27 W b X) (e : X[k]? = some v) : W.cell? ⟨b, k, none⟩ = some v := (cell_of_row W b k X _ _ h.2).trans e

theorem content_any (X : Array Value) (wh : Bool) (hX : X[1]? = some (.bool wh)) (K N x ed : Int) (hl : RL.ok ⟨K, N⟩) (hx : Big x) (he : 0 ≤ ed ∧ ed ≤ 1099511627776) (w : World) (p : Told3) (hp : contentR wh ⟨K, N⟩ x ed = p) :
    Calls Try.prog 35 #[.agg X, .agg #[.int .u8 K, .int .i64 N], .int .i64 x, .int .i64 ed] w fun e w' => e = .returned (.tuple #[.int .i64 p.1, .bool p.2.1, .int .i64 p.2.2]) ∧ Below w.heap.size w w' := by
  have BX := Lib.hid ((Box27.new w X).alloc (.cells #[.int .u8 K, .int .i64 N] 23))
  have HX := Lib.hid hX
  have Q0 : Hid (p = if (resolveR ⟨K, N⟩ x).2.1 = true ∧ wh = true then (max ((resolveR ⟨K, N⟩ x).1 - ed) 0, true, 0) else resolveR ⟨K, N⟩ x) := Lib.hid hp.symm
  have Y := Lib.hid (@resolve_yes ⟨K, N⟩ x)
  have C := Lib.hid (fun W => resolve_any K N x hl hx W _ rfl)
  clear hX hp hl hx
  generalize resolveR ⟨K, N⟩ x = q at Q0 Y C
  obtain ⟨n, is, er⟩ := q
  cases is with
  | false =>
    have Q : Hid (p = (n, false, er)) := Lib.hid (by rw [Q0.out, if_neg (fun h => by cases h.1)])
    clear Q0
    go_enter Try.func35, Try.ntmps35
    go_wp2_with fail
    refine (C.out _).mono ?_
    rintro e w1 ⟨rfl, hb1⟩
    have B1 : Hid (Below w.heap.size w w1) := Lib.hid ((((Below.refl w.heap.size w).alloc (Nat.le_refl _) _).alloc (by simp) _).trans (hb1.mono (by simp; omega)))
    clear hb1
    go_wp2_with fail
    go_ret3
    exact ⟨ret_told Q.out, B1.out⟩
  | true =>
    obtain ⟨f1, f2⟩ := Y.out rfl
    dsimp only at f1 f2
    subst f2
    unfold Fit at f1
    obtain ⟨f1, f2⟩ := f1
    obtain ⟨he1, he2⟩ := he
    cases wh with
    | false =>
      have Q : Hid (p = (n, true, 0)) := Lib.hid (by rw [Q0.out, if_neg (fun h => by cases h.2)])
      clear Q0
      go_enter Try.func35, Try.ntmps35
      go_wp2_with fail
      refine (C.out _).mono ?_
      rintro e w1 ⟨rfl, hb1⟩
      have B1 : Hid (Below w.heap.size w w1) := Lib.hid ((((Below.refl w.heap.size w).alloc (Nat.le_refl _) _).alloc (by simp) _).trans (hb1.mono (by simp; omega)))
      have c1 := (BX.out.below hb1).cell HX.out
      clear hb1
      go_wp2_with fail
      go_ret3
      exact ⟨ret_told Q.out, B1.out⟩
    | true =>
      by_cases h0 : ed ≤ n
      · have Q : Hid (p = (n - ed, true, 0)) := Lib.hid (by rw [Q0.out, if_pos ⟨rfl, rfl⟩, Int.max_eq_left (by omega)])
        have h0' : 0 ≤ n - ed := by omega
        clear Q0
        go_enter Try.func35, Try.ntmps35
        go_wp2_with fail
        refine (C.out _).mono ?_
        rintro e w1 ⟨rfl, hb1⟩
        have B1 : Hid (Below w.heap.size w w1) := Lib.hid ((((Below.refl w.heap.size w).alloc (Nat.le_refl _) _).alloc (by simp) _).trans (hb1.mono (by simp; omega)))
        have c1 := (BX.out.below hb1).cell HX.out
        clear hb1
        go_wp2_with fail
        go_ret3
        exact ⟨ret_told Q.out, B1.out⟩
      · have Q : Hid (p = (0, true, 0)) := Lib.hid (by rw [Q0.out, if_pos ⟨rfl, rfl⟩, Int.max_eq_right (by omega)])
        have h0' : n - ed < 0 := by omega
        clear Q0
        go_enter Try.func35, Try.ntmps35
        go_wp2_with fail
        refine (C.out _).mono ?_
        rintro e w1 ⟨rfl, hb1⟩
        have B1 : Hid (Below w.heap.size w w1) := Lib.hid ((((Below.refl w.heap.size w).alloc (Nat.le_refl _) _).alloc (by simp) _).trans (hb1.mono (by simp; omega)))
        have c1 := (BX.out.below hb1).cell HX.out
        clear hb1
        go_wp2_with fail
        go_ret3
        exact ⟨ret_told Q.out, B1.out⟩
theorem refContent_any (X : Array Value) (wh : Bool) (hX : X[1]? = some (.bool wh)) (K N x ed : Int) (hl : RL.ok ⟨K, N⟩) (he : 0 ≤ ed ∧ ed ≤ 1099511627776) (w : World) (p : Told3) (hp : contentR wh ⟨K, N⟩ x ed = p) :
    Calls Try.prog 41 #[.agg X, .agg #[.int .u8 K, .int .i64 N], .int .i64 x, .int .i64 ed] w fun e w' => e = .returned (.tuple #[.int .i64 p.1, .bool p.2.1, .int .i64 p.2.2]) ∧ Below w.heap.size w w' := by
  have BX := Lib.hid ((Box27.new w X).alloc (.cells #[.int .u8 K, .int .i64 N] 23))
  have HX := Lib.hid hX
  have Q0 : Hid (p = if (resolveR ⟨K, N⟩ x).2.1 = true ∧ wh = true then (max ((resolveR ⟨K, N⟩ x).1 - ed) 0, true, 0) else resolveR ⟨K, N⟩ x) := Lib.hid hp.symm
  have Y := Lib.hid (@resolve_yes ⟨K, N⟩ x)
  have C := Lib.hid (fun W => refResolve_any K N x hl W _ rfl)
  clear hX hp hl
  generalize resolveR ⟨K, N⟩ x = q at Q0 Y C
  obtain ⟨n, is, er⟩ := q
  cases is with
  | false =>
    have Q : Hid (p = (n, false, er)) := Lib.hid (by rw [Q0.out, if_neg (fun h => by cases h.1)])
    clear Q0
    go_enter Try.func41, Try.ntmps41
    go_wp2_with fail
    refine (C.out _).mono ?_
    rintro e w1 ⟨rfl, hb1⟩
    have B1 : Hid (Below w.heap.size w w1) := Lib.hid ((((Below.refl w.heap.size w).alloc (Nat.le_refl _) _).alloc (by simp) _).trans (hb1.mono (by simp; omega)))
    clear hb1
    go_wp2_with fail
    go_ret3
    exact ⟨ret_told Q.out, B1.out⟩
  | true =>
    obtain ⟨f1, f2⟩ := Y.out rfl
    dsimp only at f1 f2
    subst f2
    unfold Fit at f1
    obtain ⟨f1, f2⟩ := f1
    obtain ⟨he1, he2⟩ := he
    cases wh with
    | false =>
      have Q : Hid (p = (n, true, 0)) := Lib.hid (by rw [Q0.out, if_neg (fun h => by cases h.2)])
      clear Q0
      go_enter Try.func41, Try.ntmps41
      go_wp2_with fail
      refine (C.out _).mono ?_
      rintro e w1 ⟨rfl, hb1⟩
      have B1 : Hid (Below w.heap.size w w1) := Lib.hid ((((Below.refl w.heap.size w).alloc (Nat.le_refl _) _).alloc (by simp) _).trans (hb1.mono (by simp; omega)))
      have c1 := (BX.out.below hb1).cell HX.out
      clear hb1
      go_wp2_with fail
      go_ret3
      exact ⟨ret_told Q.out, B1.out⟩
    | true =>
      by_cases h0 : n < ed
      · have Q : Hid (p = (0, true, 0)) := Lib.hid (by rw [Q0.out, if_pos ⟨rfl, rfl⟩, Int.max_eq_right (by omega)])
        clear Q0
        go_enter Try.func41, Try.ntmps41
        go_wp2_with fail
        refine (C.out _).mono ?_
        rintro e w1 ⟨rfl, hb1⟩
        have B1 : Hid (Below w.heap.size w w1) := Lib.hid ((((Below.refl w.heap.size w).alloc (Nat.le_refl _) _).alloc (by simp) _).trans (hb1.mono (by simp; omega)))
        have c1 := (BX.out.below hb1).cell HX.out
        clear hb1
        go_wp2_with fail
        go_ret3
        exact ⟨ret_told Q.out, B1.out⟩
      · have Q : Hid (p = (n - ed, true, 0)) := Lib.hid (by rw [Q0.out, if_pos ⟨rfl, rfl⟩, Int.max_eq_left (by omega)])
        clear Q0
        go_enter Try.func41, Try.ntmps41
        go_wp2_with fail
        refine (C.out _).mono ?_
        rintro e w1 ⟨rfl, hb1⟩
        have B1 : Hid (Below w.heap.size w w1) := Lib.hid ((((Below.refl w.heap.size w).alloc (Nat.le_refl _) _).alloc (by simp) _).trans (hb1.mono (by simp; omega)))
        have c1 := (BX.out.below hb1).cell HX.out
        clear hb1
        go_wp2_with fail
        go_ret3
        exact ⟨ret_told Q.out, B1.out⟩

set_option maxHeartbeats 1000000 in
theorem limits_any (X : Array Value) (wh : Bool) (hX : X[1]? = some (.bool wh)) (hs : X.size = 47) (K N K' N' x ed : Int) (hl : RL.ok ⟨K, N⟩) (hl' : RL.ok ⟨K', N'⟩) (hx : Big x) (he : 0 ≤ ed ∧ ed ≤ 1099511627776) (w : World) (p : Int × Int × Int)
    (hp : limitsR wh ⟨K, N⟩ ⟨K', N'⟩ x ed = p) :
    Calls Try.prog 36 #[.agg X, .agg #[.int .u8 K, .int .i64 N], .agg #[.int .u8 K', .int .i64 N'], .int .i64 x, .int .i64 ed] w fun e w' => e = .returned (.tuple #[.int .i64 p.1, .int .i64 p.2.1, .int .i64 p.2.2]) ∧ Below w.heap.size w w' := by
  have BX := Lib.hid (((Box27.new w X).alloc (.cells #[.int .u8 K, .int .i64 N] 23)).alloc (.cells #[.int .u8 K', .int .i64 N'] 23))
  have SZ : Hid ((Try.prog.info? 27).map (·.size) = some X.size) := Lib.hid (by rw [hs]; exact style_size)
  have Q0 : Hid (p = if (contentR wh ⟨K, N⟩ x ed).2.2 ≠ 0 then (0, 0, (contentR wh ⟨K, N⟩ x ed).2.2)
    else if (contentR wh ⟨K', N'⟩ x ed).2.2 ≠ 0 then (0, 0, (contentR wh ⟨K', N'⟩ x ed).2.2)
    else ((contentR wh ⟨K, N⟩ x ed).1, if (contentR wh ⟨K', N'⟩ x ed).2.1 = true then (contentR wh ⟨K', N'⟩ x ed).1 else 1099511627776, 0)) := Lib.hid hp.symm
  have C := Lib.hid (fun W => content_any X wh hX K N x ed hl hx he W _ rfl)
  have C' := Lib.hid (fun W => content_any X wh hX K' N' x ed hl' hx he W _ rfl)
  clear hX hp hl hl' hx he hs
  generalize contentR wh ⟨K, N⟩ x ed = q at Q0 C
  generalize contentR wh ⟨K', N'⟩ x ed = q' at Q0 C'
  obtain ⟨n, is, er⟩ := q
  obtain ⟨n', is', er'⟩ := q'
  dsimp only at Q0 C C'
  by_cases h1 : er = 0
  · have H1 : (er != 0) = false := by simpa using h1
    have H1' := Lib.hid h1
    clear h1
    by_cases h2 : er' = 0
    · have H2 : (er' != 0) = false := by simpa using h2
      have Q : Hid (p = (n, if is' = true then n' else 1099511627776, 0)) := Lib.hid (by rw [Q0.out, if_neg (fun h => h H1'.out), if_neg (fun h => h h2)])
      clear h2 Q0
      cases is' with
      | true =>
        go_enter Try.func36, Try.ntmps36
        go_wp2_with (refine wpList_load_row (o := ⟨some 15, _, _, _, _, _⟩) rfl 27 _ rfl w.heap.size rfl _ X _ _ BX.out.2 Try.underlying27 rfl SZ.out ?_)
        refine (C.out _).mono ?_
        rintro e w1 ⟨rfl, hb1⟩
        have B1 : Hid (Below w.heap.size w w1) := Lib.hid (((((Below.refl w.heap.size w).alloc (Nat.le_refl _) _).alloc (by simp) _).alloc (by simp; omega) _).trans (hb1.mono (by simp; omega)))
        have BX1 := Lib.hid (BX.out.below hb1)
        have c1 := hb1.cell (p := ⟨w.heap.size + 1 + 1, 0, none⟩) (by simp)
        have c2 := hb1.cell (p := ⟨w.heap.size + 1 + 1, 1, none⟩) (by simp)
        clear hb1
        go_wp2_with (refine wpList_load_row (o := ⟨some 27, _, _, _, _, _⟩) rfl 27 _ rfl w.heap.size rfl _ X _ _ BX1.out.2 Try.underlying27 rfl SZ.out ?_)
        refine (C'.out _).mono ?_
        rintro e w2 ⟨rfl, hb2⟩
        have B2 : Hid (Below w.heap.size w w2) := Lib.hid (B1.out.trans (hb2.mono B1.out.size))
        clear hb2
        go_wp2_with fail
        go_ret3
        exact ⟨ret_two3 Q.out, B2.out⟩
      | false =>
        go_enter Try.func36, Try.ntmps36
        go_wp2_with (refine wpList_load_row (o := ⟨some 15, _, _, _, _, _⟩) rfl 27 _ rfl w.heap.size rfl _ X _ _ BX.out.2 Try.underlying27 rfl SZ.out ?_)
        refine (C.out _).mono ?_
        rintro e w1 ⟨rfl, hb1⟩
        have B1 : Hid (Below w.heap.size w w1) := Lib.hid (((((Below.refl w.heap.size w).alloc (Nat.le_refl _) _).alloc (by simp) _).alloc (by simp; omega) _).trans (hb1.mono (by simp; omega)))
        have BX1 := Lib.hid (BX.out.below hb1)
        have c1 := hb1.cell (p := ⟨w.heap.size + 1 + 1, 0, none⟩) (by simp)
        have c2 := hb1.cell (p := ⟨w.heap.size + 1 + 1, 1, none⟩) (by simp)
        clear hb1
        go_wp2_with (refine wpList_load_row (o := ⟨some 27, _, _, _, _, _⟩) rfl 27 _ rfl w.heap.size rfl _ X _ _ BX1.out.2 Try.underlying27 rfl SZ.out ?_)
        refine (C'.out _).mono ?_
        rintro e w2 ⟨rfl, hb2⟩
        have B2 : Hid (Below w.heap.size w w2) := Lib.hid (B1.out.trans (hb2.mono B1.out.size))
        clear hb2
        go_wp2_with fail
        go_ret3
        exact ⟨ret_two3 Q.out, B2.out⟩
    · have H2 : (er' != 0) = true := by simpa using h2
      have Q : Hid (p = (0, 0, er')) := Lib.hid (by rw [Q0.out, if_neg (fun h => h H1'.out), if_pos h2])
      clear h2 Q0
      go_enter Try.func36, Try.ntmps36
      go_wp2_with (refine wpList_load_row (o := ⟨some 15, _, _, _, _, _⟩) rfl 27 _ rfl w.heap.size rfl _ X _ _ BX.out.2 Try.underlying27 rfl SZ.out ?_)
      refine (C.out _).mono ?_
      rintro e w1 ⟨rfl, hb1⟩
      have B1 : Hid (Below w.heap.size w w1) := Lib.hid (((((Below.refl w.heap.size w).alloc (Nat.le_refl _) _).alloc (by simp) _).alloc (by simp; omega) _).trans (hb1.mono (by simp; omega)))
      have BX1 := Lib.hid (BX.out.below hb1)
      have c1 := hb1.cell (p := ⟨w.heap.size + 1 + 1, 0, none⟩) (by simp)
      have c2 := hb1.cell (p := ⟨w.heap.size + 1 + 1, 1, none⟩) (by simp)
      clear hb1
      go_wp2_with (refine wpList_load_row (o := ⟨some 27, _, _, _, _, _⟩) rfl 27 _ rfl w.heap.size rfl _ X _ _ BX1.out.2 Try.underlying27 rfl SZ.out ?_)
      refine (C'.out _).mono ?_
      rintro e w2 ⟨rfl, hb2⟩
      have B2 : Hid (Below w.heap.size w w2) := Lib.hid (B1.out.trans (hb2.mono B1.out.size))
      clear hb2
      go_wp2_with fail
      go_ret3
      exact ⟨ret_two3 Q.out, B2.out⟩
  · have H1 : (er != 0) = true := by simpa using h1
    have Q : Hid (p = (0, 0, er)) := Lib.hid (by rw [Q0.out, if_pos h1])
    clear h1 Q0
    go_enter Try.func36, Try.ntmps36
    go_wp2_with (refine wpList_load_row (o := ⟨some 15, _, _, _, _, _⟩) rfl 27 _ rfl w.heap.size rfl _ X _ _ BX.out.2 Try.underlying27 rfl SZ.out ?_)
    refine (C.out _).mono ?_
    rintro e w1 ⟨rfl, hb1⟩
    have B1 : Hid (Below w.heap.size w w1) := Lib.hid (((((Below.refl w.heap.size w).alloc (Nat.le_refl _) _).alloc (by simp) _).alloc (by simp; omega) _).trans (hb1.mono (by simp; omega)))
    clear hb1
    go_wp2_with fail
    go_ret3
    exact ⟨ret_two3 Q.out, B1.out⟩
end Go.Proofs.Ytdadlhkbngopaaa
