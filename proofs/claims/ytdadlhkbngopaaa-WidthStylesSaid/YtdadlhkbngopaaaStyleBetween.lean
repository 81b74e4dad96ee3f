/-
  The document's between.
-/
import Derived.Test.YtdadlhkbngopaaaStyleContent
namespace Go.Proofs.Ytdadlhkbngopaaa
open Go.RowKit

set_option maxHeartbeats 1000000 in
theorem between_any (X : Array Value) (wh : Bool) (hX : X[1]? = some (.bool wh)) (hs : X.size = 47) (K N K' N' x ed : Int) (hl : RL.ok ⟨K, N⟩) (hl' : RL.ok ⟨K', N'⟩) (he : 0 ≤ ed ∧ ed ≤ 1099511627776) (w : World) (p : Int × Int × Int)
    (hp : limitsR wh ⟨K, N⟩ ⟨K', N'⟩ x ed = p) :
    Calls Try.prog 42 #[.agg X, .agg #[.int .u8 K, .int .i64 N], .agg #[.int .u8 K', .int .i64 N'], .int .i64 x, .int .i64 ed] w fun e w' => e = .returned (.tuple #[.int .i64 p.1, .int .i64 p.2.1, .int .i64 p.2.2]) ∧ Below w.heap.size w w' := by
  have BX := Lib.hid (((Box27.new w X).alloc (.cells #[.int .u8 K, .int .i64 N] 23)).alloc (.cells #[.int .u8 K', .int .i64 N'] 23))
  have SZ : Hid ((Try.prog.info? 27).map (·.size) = some X.size) := Lib.hid (by rw [hs]; exact style_size)
  have Q0 : Hid (p = if (contentR wh ⟨K, N⟩ x ed).2.2 ≠ 0 then (0, 0, (contentR wh ⟨K, N⟩ x ed).2.2)
    else if (contentR wh ⟨K', N'⟩ x ed).2.2 ≠ 0 then (0, 0, (contentR wh ⟨K', N'⟩ x ed).2.2)
    else ((contentR wh ⟨K, N⟩ x ed).1, if (contentR wh ⟨K', N'⟩ x ed).2.1 = true then (contentR wh ⟨K', N'⟩ x ed).1 else 1099511627776, 0)) := Lib.hid hp.symm
  have C := Lib.hid (fun W => refContent_any X wh hX K N x ed hl he W _ rfl)
  have C' := Lib.hid (fun W => refContent_any X wh hX K' N' x ed hl' he W _ rfl)
  clear hX hp hl hl' he hs
  generalize contentR wh ⟨K, N⟩ x ed = q at Q0 C
  generalize contentR wh ⟨K', N'⟩ x ed = q' at Q0 C'
  obtain ⟨n, is, er⟩ := q
  obtain ⟨n', is', er'⟩ := q'
  dsimp only at Q0 C C'
  by_cases h1 : er = 0
  · have H1 : (er != 0) = false := by simpa using h1
    have H1' := Lib.hid h1
    clear h1
    by_cases h2 : er' = 0
    · have H2 : (er' != 0) = false := by simpa using h2
      have Q : Hid (p = (n, if is' = true then n' else 1099511627776, 0)) := Lib.hid (by rw [Q0.out, if_neg (fun h => h H1'.out), if_neg (fun h => h h2)])
      clear h2 Q0
      cases is' with
      | true =>
        go_enter Try.func42, Try.ntmps42
        go_wp2_with (refine wpList_load_row (o := ⟨some 20, _, _, _, _, _⟩) rfl 27 _ rfl w.heap.size rfl _ X _ _ BX.out.2 Try.underlying27 rfl SZ.out ?_)
        refine (C.out _).mono ?_
        rintro e w1 ⟨rfl, hb1⟩
        have B1 : Hid (Below w.heap.size w w1) := Lib.hid (((((Below.refl w.heap.size w).alloc (Nat.le_refl _) _).alloc (by simp) _).alloc (by simp; omega) _).trans (hb1.mono (by simp; omega)))
        have BX1 := Lib.hid (BX.out.below hb1)
        have c1 := hb1.cell (p := ⟨w.heap.size + 1 + 1, 0, none⟩) (by simp)
        have c2 := hb1.cell (p := ⟨w.heap.size + 1 + 1, 1, none⟩) (by simp)
        clear hb1
        go_wp2_with (refine wpList_load_row (o := ⟨some 32, _, _, _, _, _⟩) rfl 27 _ rfl w.heap.size rfl _ X _ _ BX1.out.2 Try.underlying27 rfl SZ.out ?_)
        refine (C'.out _).mono ?_
        rintro e w2 ⟨rfl, hb2⟩
        have B2 : Hid (Below w.heap.size w w2) := Lib.hid (B1.out.trans (hb2.mono B1.out.size))
        clear hb2
        go_wp2_with fail
        go_ret3
        exact ⟨ret_two3 Q.out, B2.out⟩
      | false =>
        go_enter Try.func42, Try.ntmps42
        go_wp2_with (refine wpList_load_row (o := ⟨some 20, _, _, _, _, _⟩) rfl 27 _ rfl w.heap.size rfl _ X _ _ BX.out.2 Try.underlying27 rfl SZ.out ?_)
        refine (C.out _).mono ?_
        rintro e w1 ⟨rfl, hb1⟩
        have B1 : Hid (Below w.heap.size w w1) := Lib.hid (((((Below.refl w.heap.size w).alloc (Nat.le_refl _) _).alloc (by simp) _).alloc (by simp; omega) _).trans (hb1.mono (by simp; omega)))
        have BX1 := Lib.hid (BX.out.below hb1)
        have c1 := hb1.cell (p := ⟨w.heap.size + 1 + 1, 0, none⟩) (by simp)
        have c2 := hb1.cell (p := ⟨w.heap.size + 1 + 1, 1, none⟩) (by simp)
        clear hb1
        go_wp2_with (refine wpList_load_row (o := ⟨some 32, _, _, _, _, _⟩) rfl 27 _ rfl w.heap.size rfl _ X _ _ BX1.out.2 Try.underlying27 rfl SZ.out ?_)
        refine (C'.out _).mono ?_
        rintro e w2 ⟨rfl, hb2⟩
        have B2 : Hid (Below w.heap.size w w2) := Lib.hid (B1.out.trans (hb2.mono B1.out.size))
        clear hb2
        go_wp2_with fail
        go_ret3
        exact ⟨ret_two3 Q.out, B2.out⟩
    · have H2 : (er' != 0) = true := by simpa using h2
      have Q : Hid (p = (0, 0, er')) := Lib.hid (by rw [Q0.out, if_neg (fun h => h H1'.out), if_pos h2])
      clear h2 Q0
      go_enter Try.func42, Try.ntmps42
      go_wp2_with (refine wpList_load_row (o := ⟨some 20, _, _, _, _, _⟩) rfl 27 _ rfl w.heap.size rfl _ X _ _ BX.out.2 Try.underlying27 rfl SZ.out ?_)
      refine (C.out _).mono ?_
      rintro e w1 ⟨rfl, hb1⟩
      have B1 : Hid (Below w.heap.size w w1) := Lib.hid (((((Below.refl w.heap.size w).alloc (Nat.le_refl _) _).alloc (by simp) _).alloc (by simp; omega) _).trans (hb1.mono (by simp; omega)))
      have BX1 := Lib.hid (BX.out.below hb1)
      have c1 := hb1.cell (p := ⟨w.heap.size + 1 + 1, 0, none⟩) (by simp)
      have c2 := hb1.cell (p := ⟨w.heap.size + 1 + 1, 1, none⟩) (by simp)
      clear hb1
      go_wp2_with (refine wpList_load_row (o := ⟨some 32, _, _, _, _, _⟩) rfl 27 _ rfl w.heap.size rfl _ X _ _ BX1.out.2 Try.underlying27 rfl SZ.out ?_)
      refine (C'.out _).mono ?_
      rintro e w2 ⟨rfl, hb2⟩
      have B2 : Hid (Below w.heap.size w w2) := Lib.hid (B1.out.trans (hb2.mono B1.out.size))
      clear hb2
      go_wp2_with fail
      go_ret3
      exact ⟨ret_two3 Q.out, B2.out⟩
  · have H1 : (er != 0) = true := by simpa using h1
    have Q : Hid (p = (0, 0, er)) := Lib.hid (by rw [Q0.out, if_pos h1])
    clear h1 Q0
    go_enter Try.func42, Try.ntmps42
    go_wp2_with (refine wpList_load_row (o := ⟨some 20, _, _, _, _, _⟩) rfl 27 _ rfl w.heap.size rfl _ X _ _ BX.out.2 Try.underlying27 rfl SZ.out ?_)
    refine (C.out _).mono ?_
    rintro e w1 ⟨rfl, hb1⟩
    have B1 : Hid (Below w.heap.size w w1) := Lib.hid (((((Below.refl w.heap.size w).alloc (Nat.le_refl _) _).alloc (by simp) _).alloc (by simp; omega) _).trans (hb1.mono (by simp; omega)))
    clear hb1
    go_wp2_with fail
    go_ret3
    exact ⟨ret_two3 Q.out, B1.out⟩
end Go.Proofs.Ytdadlhkbngopaaa
