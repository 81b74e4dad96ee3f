/-
  The document's take at the letter l, and at any letter.
-/
import Derived.Test.YtkjndgnjilfobaaTakeL
namespace Go.Proofs.Ytkjndgnjilfobaa
open Go.RowKit

set_option maxRecDepth 100000 in
set_option maxHeartbeats 8000000 in
theorem refTake_l (A : Option Addr) (n c : Nat) (f : Nat → Nat) (w : World) (h : Bytes w A n f) (hn : n ≤ 4194304) (hc : n ≤ c) (hcc : c ≤ 9223372036854775807) :
    Calls Try.prog 34 #[.int .u8 108, .slice A n c] w (OneTaken 108 (seg f 0 n) w) := by
  obtain ⟨r, hr⟩ := got_is (seg f 0 n)
  have H := Lib.hid h
  have G : Hid (∀ W, Below w.heap.size w W → Calls Try.prog 44 #[.slice A n c, .int .i64 0] W fun e w' => e = .returned (encGot r) ∧ Below W.heap.size W w') := Lib.hid (fun W hW => refGet_at A n c f 0 W (h.below hW) hn hc hcc (by omega) r hr)
  have B : Hid (Below w.heap.size w ((w.alloc (.cells #[.int .u64 0, .int .i64 0, .bool false, .slice none 0 0, .slice none 0 0] 42)).alloc (.cells #[.int .u64 0, .int .i64 0, .bool false, .slice none 0 0, .slice none 0 0] 42))) := Lib.hid (((Below.refl w.heap.size w).alloc (Nat.le_refl _) _).alloc (by simp) _)
  clear h
  by_cases hno : ∀ x u, r = some (x, u) → ¬ x ≤ 4096
  · have NO : Hid (∀ v r, Fits 108 v → Short v → Real v → form 108 v ++ r ≠ seg f 0 n) := Lib.hid (by
      cases r with
      | none => exact none_l hr
      | some q =>
        obtain ⟨x, u⟩ := q
        obtain ⟨hx, hu, t, ht⟩ := hr
        exact great_l ht (by have := hno x u rfl; omega))
    cases r with
    | none =>
      clear hno hr H
      go_enter Try.func34, Try.ntmps34
      go_wp2_with fail
      refine (G.out _ B.out).mono ?_
      rintro e w3 ⟨rfl, hb⟩
      unfold encGot
      have X1 := Lib.hid ((hb.block w.heap.size (by simp; omega)).trans (heap_alloc2_old _ _ _))
      have X2 := Lib.hid ((hb.block (w.heap.size + 1) (by simp)).trans (heap_alloc2_new _ _ _))
      have B3 := Lib.hid (B.out.trans (hb.mono B.out.size))
      clear hb B
      have c0 : w3.cell? ⟨w.heap.size + 1, 0, none⟩ = some (.int .u64 0) := by rw [cell_of_row w3 _ 0 _ _ _ X2.out]; rfl
      have y0 : w3.frozen? ⟨w.heap.size + 1, 0, none⟩ = false := by simp [World.frozen?, X2.out]
      have c1 : w3.cell? ⟨w.heap.size + 1, 1, none⟩ = some (.int .i64 0) := by rw [cell_of_row w3 _ 1 _ _ _ X2.out]; rfl
      have y1 : w3.frozen? ⟨w.heap.size + 1, 1, none⟩ = false := by simp [World.frozen?, X2.out]
      have c2 : w3.cell? ⟨w.heap.size + 1, 2, none⟩ = some (.bool false) := by rw [cell_of_row w3 _ 2 _ _ _ X2.out]; rfl
      have y2 : w3.frozen? ⟨w.heap.size + 1, 2, none⟩ = false := by simp [World.frozen?, X2.out]
      have c3 : w3.cell? ⟨w.heap.size + 1, 3, none⟩ = some (.slice none 0 0) := by rw [cell_of_row w3 _ 3 _ _ _ X2.out]; rfl
      have y3 : w3.frozen? ⟨w.heap.size + 1, 3, none⟩ = false := by simp [World.frozen?, X2.out]
      have c4 : w3.cell? ⟨w.heap.size + 1, 4, none⟩ = some (.slice none 0 0) := by rw [cell_of_row w3 _ 4 _ _ _ X2.out]; rfl
      have y4 : w3.frozen? ⟨w.heap.size + 1, 4, none⟩ = false := by simp [World.frozen?, X2.out]
      have d0 : w3.cell? ⟨w.heap.size, 0, none⟩ = some (.int .u64 0) := by rw [cell_of_row w3 _ 0 _ _ _ X1.out]; rfl
      have z0 : w3.frozen? ⟨w.heap.size, 0, none⟩ = false := by simp [World.frozen?, X1.out]
      have d1 : w3.cell? ⟨w.heap.size, 1, none⟩ = some (.int .i64 0) := by rw [cell_of_row w3 _ 1 _ _ _ X1.out]; rfl
      have z1 : w3.frozen? ⟨w.heap.size, 1, none⟩ = false := by simp [World.frozen?, X1.out]
      have d2 : w3.cell? ⟨w.heap.size, 2, none⟩ = some (.bool false) := by rw [cell_of_row w3 _ 2 _ _ _ X1.out]; rfl
      have z2 : w3.frozen? ⟨w.heap.size, 2, none⟩ = false := by simp [World.frozen?, X1.out]
      have d3 : w3.cell? ⟨w.heap.size, 3, none⟩ = some (.slice none 0 0) := by rw [cell_of_row w3 _ 3 _ _ _ X1.out]; rfl
      have z3 : w3.frozen? ⟨w.heap.size, 3, none⟩ = false := by simp [World.frozen?, X1.out]
      have d4 : w3.cell? ⟨w.heap.size, 4, none⟩ = some (.slice none 0 0) := by rw [cell_of_row w3 _ 4 _ _ _ X1.out]; rfl
      have z4 : w3.frozen? ⟨w.heap.size, 4, none⟩ = false := by simp [World.frozen?, X1.out]
      go_wp2_with fail
      refine bodyPost_ret (results_row_tmp rfl _ _ w.heap.size _ _ _ _ rfl (box_set X1.out _ _ _ _ _) Try.underlying42 rfl (by kernel_rfl)) rfl ?_
      exact ⟨box_below B3.out (Nat.le_refl _) _ _ _ _ _, .inl ⟨NO.out, rfl⟩⟩
    | some q =>
      obtain ⟨x, u⟩ := q
      have hx := hno x u rfl
      have g1 : (4096 : Int) < x := by omega
      clear hno hr H
      go_enter Try.func34, Try.ntmps34
      go_wp2_with fail
      refine (G.out _ B.out).mono ?_
      rintro e w3 ⟨rfl, hb⟩
      unfold encGot
      have X1 := Lib.hid ((hb.block w.heap.size (by simp; omega)).trans (heap_alloc2_old _ _ _))
      have X2 := Lib.hid ((hb.block (w.heap.size + 1) (by simp)).trans (heap_alloc2_new _ _ _))
      have B3 := Lib.hid (B.out.trans (hb.mono B.out.size))
      clear hb B
      have c0 : w3.cell? ⟨w.heap.size + 1, 0, none⟩ = some (.int .u64 0) := by rw [cell_of_row w3 _ 0 _ _ _ X2.out]; rfl
      have y0 : w3.frozen? ⟨w.heap.size + 1, 0, none⟩ = false := by simp [World.frozen?, X2.out]
      have c1 : w3.cell? ⟨w.heap.size + 1, 1, none⟩ = some (.int .i64 0) := by rw [cell_of_row w3 _ 1 _ _ _ X2.out]; rfl
      have y1 : w3.frozen? ⟨w.heap.size + 1, 1, none⟩ = false := by simp [World.frozen?, X2.out]
      have c2 : w3.cell? ⟨w.heap.size + 1, 2, none⟩ = some (.bool false) := by rw [cell_of_row w3 _ 2 _ _ _ X2.out]; rfl
      have y2 : w3.frozen? ⟨w.heap.size + 1, 2, none⟩ = false := by simp [World.frozen?, X2.out]
      have c3 : w3.cell? ⟨w.heap.size + 1, 3, none⟩ = some (.slice none 0 0) := by rw [cell_of_row w3 _ 3 _ _ _ X2.out]; rfl
      have y3 : w3.frozen? ⟨w.heap.size + 1, 3, none⟩ = false := by simp [World.frozen?, X2.out]
      have c4 : w3.cell? ⟨w.heap.size + 1, 4, none⟩ = some (.slice none 0 0) := by rw [cell_of_row w3 _ 4 _ _ _ X2.out]; rfl
      have y4 : w3.frozen? ⟨w.heap.size + 1, 4, none⟩ = false := by simp [World.frozen?, X2.out]
      have d0 : w3.cell? ⟨w.heap.size, 0, none⟩ = some (.int .u64 0) := by rw [cell_of_row w3 _ 0 _ _ _ X1.out]; rfl
      have z0 : w3.frozen? ⟨w.heap.size, 0, none⟩ = false := by simp [World.frozen?, X1.out]
      have d1 : w3.cell? ⟨w.heap.size, 1, none⟩ = some (.int .i64 0) := by rw [cell_of_row w3 _ 1 _ _ _ X1.out]; rfl
      have z1 : w3.frozen? ⟨w.heap.size, 1, none⟩ = false := by simp [World.frozen?, X1.out]
      have d2 : w3.cell? ⟨w.heap.size, 2, none⟩ = some (.bool false) := by rw [cell_of_row w3 _ 2 _ _ _ X1.out]; rfl
      have z2 : w3.frozen? ⟨w.heap.size, 2, none⟩ = false := by simp [World.frozen?, X1.out]
      have d3 : w3.cell? ⟨w.heap.size, 3, none⟩ = some (.slice none 0 0) := by rw [cell_of_row w3 _ 3 _ _ _ X1.out]; rfl
      have z3 : w3.frozen? ⟨w.heap.size, 3, none⟩ = false := by simp [World.frozen?, X1.out]
      have d4 : w3.cell? ⟨w.heap.size, 4, none⟩ = some (.slice none 0 0) := by rw [cell_of_row w3 _ 4 _ _ _ X1.out]; rfl
      have z4 : w3.frozen? ⟨w.heap.size, 4, none⟩ = false := by simp [World.frozen?, X1.out]
      go_wp2_with fail
      refine bodyPost_ret (results_row_tmp rfl _ _ w.heap.size _ _ _ _ rfl (box_set X1.out _ _ _ _ _) Try.underlying42 rfl (by kernel_rfl)) rfl ?_
      exact ⟨box_below B3.out (Nat.le_refl _) _ _ _ _ _, .inl ⟨NO.out, rfl⟩⟩
  · obtain ⟨x, u, rfl, hx⟩ : ∃ x u, r = some (x, u) ∧ x ≤ 4096 := by
      cases r with
      | none => exact absurd (fun x u e => by cases e) hno
      | some q =>
        refine ⟨q.1, q.2, rfl, ?_⟩
        rcases Nat.lt_or_ge 4096 q.1 with hlt | hge
        · exact absurd (fun x u e => by injection e with e; subst e; dsimp only at hlt; omega) hno
        · exact hge
    clear hno
    have hs0 : u ≤ n ∧ seg f 0 u = word x ++ ([] : List Nat).flatMap word := by
      obtain ⟨hx64, hu, t, ht⟩ := hr
      have hl := congrArg List.length ht
      rw [seg_len, List.length_append] at hl
      obtain ⟨j, hj⟩ : ∃ j, n = u + j := ⟨n - u, by omega⟩
      refine ⟨by omega, ?_⟩
      rw [hj, seg_add] at ht
      have := (List.append_inj ht (by rw [seg_len]; exact hu)).1
      simpa using this
    obtain ⟨hun, hs0⟩ := hs0
    have L0 : Hid (([] : List Nat).length = 0 ∧ seg f 0 u = word x ++ ([] : List Nat).flatMap word ∧ ∀ y ∈ ([] : List Nat), y < 18446744073709551616) := Lib.hid ⟨rfl, hs0, fun y hy => by cases hy⟩
    have g1 : ¬ (4096 : Int) < x := by omega
    have w1 : IntKind.i64.wrap (x : Int) = (x : Int) := IntWalk.i64_in _ (by omega)
    clear hs0 hr
    go_enter Try.func34, Try.ntmps34
    go_wp2_with fail
    refine (G.out _ B.out).mono ?_
    rintro e w3 ⟨rfl, hb⟩
    unfold encGot
    have X1 := Lib.hid ((hb.block w.heap.size (by simp; omega)).trans (heap_alloc2_old _ _ _))
    have X2 := Lib.hid ((hb.block (w.heap.size + 1) (by simp)).trans (heap_alloc2_new _ _ _))
    have B3 := Lib.hid (B.out.trans (hb.mono B.out.size))
    clear hb B
    go_wp2_with fail
    go_loopg [8, 10] x (fun g1 vu vi wr => ∃ (j p cl : Nat) (Al : Option Addr) (l : List Nat), vi = .int .i64 j ∧ vu = .int .i64 p ∧ j ≤ x ∧ x - j ≤ g1 ∧ p ≤ n ∧ Hid (owns wr (w.heap.size + 2) 39 .u64 (.slice Al j cl) l) ∧ Hid (l.length = j ∧ seg f 0 p = word x ++ l.flatMap word ∧ ∀ y ∈ l, y < 18446744073709551616) ∧ Hid (wr.heap[w.heap.size]? = some (.cells #[.int .u64 0, .int .i64 0, .bool false, .slice none 0 0, .slice none 0 0] 42 (0, 0))) ∧ Hid (wr.heap[w.heap.size + 1]? = some (.cells #[.int .u64 0, .int .i64 0, .bool false, .slice none 0 0, .slice Al j cl] 42 (0, 0))) ∧ Hid (Below w.heap.size w wr))
    case atStart => exact ⟨0, u, 0, none, [], rfl, rfl, by omega, by omega, hun, Lib.hid (World.ownsRow_nil _ _ _ _), L0, X1, X2, B3⟩
    case round =>
      clear X1 X2 B3
      rename World => W
      obtain ⟨j, p, cl, Al, l, rfl, rfl, hj, hg1, hp, O, LL, X1, X2, BB⟩ := hrel
      have SW : Hid (w.heap.size + 2 ≤ W.heap.size) := Lib.hid (lt_of_block X2.out)
      by_cases hlt : j < x
      · have hjz : (j : Int) < x := by omega
        obtain ⟨q, hq⟩ := got_is (seg f p (n - p))
        have GG := Lib.hid (refGet_at A n c f p W (H.out.below BB.out) hn hc hcc hp q hq)
        cases q with
        | none =>
          have NO : Hid (∀ v r, Fits 108 v → Short v → Real v → form 108 v ++ r ≠ seg f 0 n) := Lib.hid (row_none (l := l) (rest := seg f p (n - p)) (by rw [LL.out.1]; exact hlt) (by
            obtain ⟨m, rfl⟩ : ∃ m, n = p + m := ⟨n - p, by omega⟩
            rw [seg_add, LL.out.2.1, Nat.zero_add, show p + m - p = m by omega, List.append_assoc]) hq)
          clear hq
          go_wp2_with fail
          refine GG.out.mono ?_
          rintro e w4 ⟨rfl, hb⟩
          unfold encGot
          have X4 := Lib.hid ((hb.block w.heap.size (by have := SW.out; omega)).trans X1.out)
          have B4 := Lib.hid (BB.out.trans (hb.mono BB.out.size))
          clear hb
          have d0 : w4.cell? ⟨w.heap.size, 0, none⟩ = some (.int .u64 0) := by rw [cell_of_row w4 _ 0 _ _ _ X4.out]; rfl
          have z0 : w4.frozen? ⟨w.heap.size, 0, none⟩ = false := by simp [World.frozen?, X4.out]
          have d1 : w4.cell? ⟨w.heap.size, 1, none⟩ = some (.int .i64 0) := by rw [cell_of_row w4 _ 1 _ _ _ X4.out]; rfl
          have z1 : w4.frozen? ⟨w.heap.size, 1, none⟩ = false := by simp [World.frozen?, X4.out]
          have d2 : w4.cell? ⟨w.heap.size, 2, none⟩ = some (.bool false) := by rw [cell_of_row w4 _ 2 _ _ _ X4.out]; rfl
          have z2 : w4.frozen? ⟨w.heap.size, 2, none⟩ = false := by simp [World.frozen?, X4.out]
          have d3 : w4.cell? ⟨w.heap.size, 3, none⟩ = some (.slice none 0 0) := by rw [cell_of_row w4 _ 3 _ _ _ X4.out]; rfl
          have z3 : w4.frozen? ⟨w.heap.size, 3, none⟩ = false := by simp [World.frozen?, X4.out]
          have d4 : w4.cell? ⟨w.heap.size, 4, none⟩ = some (.slice none 0 0) := by rw [cell_of_row w4 _ 4 _ _ _ X4.out]; rfl
          have z4 : w4.frozen? ⟨w.heap.size, 4, none⟩ = false := by simp [World.frozen?, X4.out]
          go_wp2_with fail
          refine bodyPost_ret (results_row_tmp rfl _ _ w.heap.size _ _ _ _ rfl (box_set X4.out _ _ _ _ _) Try.underlying42 rfl (by kernel_rfl)) rfl ?_
          exact ⟨box_below B4.out (Nat.le_refl _) _ _ _ _ _, .inl ⟨NO.out, rfl⟩⟩
        | some t =>
          obtain ⟨y, u'⟩ := t
          obtain ⟨n1, n2, n3, n4⟩ := row_next hp LL.out.2.1 hq
          have L2 : Hid ((l ++ [y]).length = j + 1 ∧ seg f 0 (p + u') = word x ++ (l ++ [y]).flatMap word ∧ ∀ z ∈ l ++ [y], z < 18446744073709551616) := Lib.hid ⟨by simp [LL.out.1], n3, fun z hz => by
            rcases List.mem_append.1 hz with hz | hz
            · exact LL.out.2.2 z hz
            · rw [List.mem_singleton.1 hz]; exact n4⟩
          have HL : Hid (l.length + 1 ≤ 4194304) := Lib.hid (by rw [LL.out.1]; omega)
          have Y4 := Lib.hid n4
          clear hq n3 n4
          go_wp2_with fail
          refine GG.out.mono ?_
          rintro e w4 ⟨rfl, hb⟩
          unfold encGot
          have X4 := Lib.hid ((hb.block w.heap.size (by have := SW.out; omega)).trans X1.out)
          have X5 := Lib.hid ((hb.block (w.heap.size + 1) (by have := SW.out; omega)).trans X2.out)
          have B4 := Lib.hid (BB.out.trans (hb.mono BB.out.size))
          have O4 := Lib.hid (O.out.keep hb)
          have S4 : Hid (w.heap.size + 2 ≤ w4.heap.size) := Lib.hid (Nat.le_trans SW.out hb.size)
          clear hb
          have OA := Lib.hid (O4.out.keep ((Below.refl _ w4).alloc (Nat.le_refl _) (.cells #[.int .u64 (y : Nat)] 39)))
          have XA : Hid ((w4.alloc (.cells #[.int .u64 (y : Nat)] 39)).heap[w.heap.size]? = some (.cells #[.int .u64 0, .int .i64 0, .bool false, .slice none 0 0, .slice none 0 0] 42 (0, 0))) := Lib.hid ((Below.heap_alloc _ _ _ (by have := S4.out; omega)).trans X4.out)
          have XB : Hid ((w4.alloc (.cells #[.int .u64 (y : Nat)] 39)).heap[w.heap.size + 1]? = some (.cells #[.int .u64 0, .int .i64 0, .bool false, .slice none 0 0, .slice Al j cl] 42 (0, 0))) := Lib.hid ((Below.heap_alloc _ _ _ (by have := S4.out; omega)).trans X5.out)
          have NL := Lib.hid (long_new w4 y Y4.out)
          have S5 : Hid (w.heap.size + 2 ≤ (w4.alloc (.cells #[.int .u64 (y : Nat)] 39)).heap.size) := Lib.hid (by rw [World.size_alloc]; have := S4.out; omega)
          have BA : Hid (Below w.heap.size w (w4.alloc (.cells #[.int .u64 (y : Nat)] 39))) := Lib.hid (B4.out.alloc B4.out.size _)
          have c0 : w4.cell? ⟨w.heap.size + 1, 0, none⟩ = some (.int .u64 0) := by rw [cell_of_row w4 _ 0 _ _ _ X5.out]; rfl
          have y0 : w4.frozen? ⟨w.heap.size + 1, 0, none⟩ = false := by simp [World.frozen?, X5.out]
          have c1 : w4.cell? ⟨w.heap.size + 1, 1, none⟩ = some (.int .i64 0) := by rw [cell_of_row w4 _ 1 _ _ _ X5.out]; rfl
          have y1 : w4.frozen? ⟨w.heap.size + 1, 1, none⟩ = false := by simp [World.frozen?, X5.out]
          have c2 : w4.cell? ⟨w.heap.size + 1, 2, none⟩ = some (.bool false) := by rw [cell_of_row w4 _ 2 _ _ _ X5.out]; rfl
          have y2 : w4.frozen? ⟨w.heap.size + 1, 2, none⟩ = false := by simp [World.frozen?, X5.out]
          have c3 : w4.cell? ⟨w.heap.size + 1, 3, none⟩ = some (.slice none 0 0) := by rw [cell_of_row w4 _ 3 _ _ _ X5.out]; rfl
          have y3 : w4.frozen? ⟨w.heap.size + 1, 3, none⟩ = false := by simp [World.frozen?, X5.out]
          have c4 : w4.cell? ⟨w.heap.size + 1, 4, none⟩ = some (.slice Al j cl) := by rw [cell_of_row w4 _ 4 _ _ _ X5.out]; rfl
          have y4 : w4.frozen? ⟨w.heap.size + 1, 4, none⟩ = false := by simp [World.frozen?, X5.out]
          go_wp2_with (at_builtin; refine wpList_append_longs rfl _ _ rfl (w.heap.size + 2) _ l rfl OA.out ⟨w4.heap.size, 0, none⟩ 1 1 (fun _ => y) rfl NL.out HL.out S5.out ?_)
          intro v' w5 hO hb hg
          have O5 : Hid (owns w5 (w.heap.size + 2) 39 .u64 v' (l ++ [y])) := Lib.hid (by simpa [seg] using hO)
          have X6 := Lib.hid ((hb.block w.heap.size (by omega)).trans XA.out)
          have X7 := Lib.hid ((hb.block (w.heap.size + 1) (by omega)).trans XB.out)
          have B5 : Hid (Below w.heap.size w w5) := Lib.hid (BA.out.trans (hb.mono (by omega)))
          obtain ⟨A4, c4', hv', -, -, -⟩ := O5.out.form
          rw [L2.out.1] at hv'
          subst hv'
          clear hO hb hg OA XA XB NL S5 BA c0 c1 c2 c3 c4 y0 y1 y2 y3 y4
          have c4 : w5.cell? ⟨w.heap.size + 1, 4, none⟩ = some (.slice Al j cl) := by rw [cell_of_row w5 _ 4 _ _ _ X7.out]; rfl
          have y4 : w5.frozen? ⟨w.heap.size + 1, 4, none⟩ = false := by simp [World.frozen?, X7.out]
          have N8 : Hid (∀ k, k ≠ w.heap.size + 1 → ∀ u, (w5.setCell ⟨w.heap.size + 1, 4, none⟩ u).heap[k]? = w5.heap[k]?) := Lib.hid (fun k hk u => Below.heap_setCell _ _ _ _ hk)
          have X8 : Hid ((w5.setCell ⟨w.heap.size + 1, 4, none⟩ (.slice A4 (j + 1) c4')).heap[w.heap.size + 1]? = some (.cells #[.int .u64 0, .int .i64 0, .bool false, .slice none 0 0, .slice A4 (j + 1) c4'] 42 (0, 0))) := Lib.hid (by
            rw [setCell_eq_setRow _ _ _ _ _ _ _ X7.out, setRow_heap _ _ _ _ _ _ X7.out]; rfl)
          have X9 : Hid ((w5.setCell ⟨w.heap.size + 1, 4, none⟩ (.slice A4 (j + 1) c4')).heap[w.heap.size]? = some (.cells #[.int .u64 0, .int .i64 0, .bool false, .slice none 0 0, .slice none 0 0] 42 (0, 0))) := Lib.hid ((N8.out _ (by omega) _).trans X6.out)
          have O8 : Hid (owns (w5.setCell ⟨w.heap.size + 1, 4, none⟩ (.slice A4 (j + 1) c4')) (w.heap.size + 2) 39 .u64 (.slice A4 (j + 1) c4') (l ++ [y])) := Lib.hid (O5.out.off (B := w.heap.size + 1) (by omega) (fun k hk => N8.out k hk _))
          have B8 : Hid (Below w.heap.size w (w5.setCell ⟨w.heap.size + 1, 4, none⟩ (.slice A4 (j + 1) c4'))) := Lib.hid (B5.out.setCell (by show w.heap.size ≤ w.heap.size + 1; omega) _)
          go_wp2_with fail
          go_roundg (x - (j + 1))
          case measure => omega
          case rel => exact ⟨j + 1, p + u', c4', A4, l ++ [y], by go_num, by go_num, by omega, Nat.le_refl _, n1, O8, L2, X9, X8, B8⟩
      · obtain rfl : j = x := by omega
        have c0 : W.cell? ⟨w.heap.size + 1, 0, none⟩ = some (.int .u64 0) := by rw [cell_of_row W _ 0 _ _ _ X2.out]; rfl
        have y0 : W.frozen? ⟨w.heap.size + 1, 0, none⟩ = false := by simp [World.frozen?, X2.out]
        have c1 : W.cell? ⟨w.heap.size + 1, 1, none⟩ = some (.int .i64 0) := by rw [cell_of_row W _ 1 _ _ _ X2.out]; rfl
        have y1 : W.frozen? ⟨w.heap.size + 1, 1, none⟩ = false := by simp [World.frozen?, X2.out]
        have c2 : W.cell? ⟨w.heap.size + 1, 2, none⟩ = some (.bool false) := by rw [cell_of_row W _ 2 _ _ _ X2.out]; rfl
        have y2 : W.frozen? ⟨w.heap.size + 1, 2, none⟩ = false := by simp [World.frozen?, X2.out]
        have c3 : W.cell? ⟨w.heap.size + 1, 3, none⟩ = some (.slice none 0 0) := by rw [cell_of_row W _ 3 _ _ _ X2.out]; rfl
        have y3 : W.frozen? ⟨w.heap.size + 1, 3, none⟩ = false := by simp [World.frozen?, X2.out]
        have c4 : W.cell? ⟨w.heap.size + 1, 4, none⟩ = some (.slice Al j cl) := by rw [cell_of_row W _ 4 _ _ _ X2.out]; rfl
        have y4 : W.frozen? ⟨w.heap.size + 1, 4, none⟩ = false := by simp [World.frozen?, X2.out]
        have d0 : W.cell? ⟨w.heap.size, 0, none⟩ = some (.int .u64 0) := by rw [cell_of_row W _ 0 _ _ _ X1.out]; rfl
        have z0 : W.frozen? ⟨w.heap.size, 0, none⟩ = false := by simp [World.frozen?, X1.out]
        have d1 : W.cell? ⟨w.heap.size, 1, none⟩ = some (.int .i64 0) := by rw [cell_of_row W _ 1 _ _ _ X1.out]; rfl
        have z1 : W.frozen? ⟨w.heap.size, 1, none⟩ = false := by simp [World.frozen?, X1.out]
        have d2 : W.cell? ⟨w.heap.size, 2, none⟩ = some (.bool false) := by rw [cell_of_row W _ 2 _ _ _ X1.out]; rfl
        have z2 : W.frozen? ⟨w.heap.size, 2, none⟩ = false := by simp [World.frozen?, X1.out]
        have d3 : W.cell? ⟨w.heap.size, 3, none⟩ = some (.slice none 0 0) := by rw [cell_of_row W _ 3 _ _ _ X1.out]; rfl
        have z3 : W.frozen? ⟨w.heap.size, 3, none⟩ = false := by simp [World.frozen?, X1.out]
        have d4 : W.cell? ⟨w.heap.size, 4, none⟩ = some (.slice none 0 0) := by rw [cell_of_row W _ 4 _ _ _ X1.out]; rfl
        have z4 : W.frozen? ⟨w.heap.size, 4, none⟩ = false := by simp [World.frozen?, X1.out]
        go_wp2_with fail
        clear c0 c1 c2 c3 c4 y0 y1 y2 y3 y4 d0 d1 d2 d3 d4 z0 z1 z2 z3 z4
        refine bodyPost_ret (results_row_tmp rfl _ _ w.heap.size _ _ _ _ rfl (box_set X1.out _ _ _ _ _) Try.underlying42 rfl (by kernel_rfl)) rfl ?_
        have hov := O.out.off (B := w.heap.size) (w' := ((((((W.setCell ⟨w.heap.size, 0, none⟩ (.int .u64 0)).setCell ⟨w.heap.size, 1, none⟩ (.int .i64 0)).setCell ⟨w.heap.size, 2, none⟩ (.bool false)).setCell ⟨w.heap.size, 3, none⟩ (.slice none 0 0)).setCell ⟨w.heap.size, 4, none⟩ (.slice Al j cl)))) (by omega) (fun k hk => box_other _ _ _ _ _ k hk)
        obtain ⟨l1, l2, l3⟩ := LL.out
        obtain ⟨p1, p2, p3, p4⟩ := hov.nums_n (M := 18446744073709551616) l1.symm l3
        obtain ⟨f1, f2, f3, f4⟩ := row_some Al cl (l := l) (bl := seg f 0 n) (rest := seg f p (n - p)) l1 hx (by
          obtain ⟨m, rfl⟩ : ∃ m, n = p + m := ⟨n - p, by omega⟩
          rw [seg_add, l2, Nat.zero_add, show p + m - p = m by omega, List.append_assoc])
        have el : (rowRV Al cl l).ln = j := l1
        have ep : (form 108 (rowRV Al cl l).mean).length = p := by
          rw [f4, ← List.length_append, ← l2, seg_len]
        refine ⟨box_below BB.out (Nat.le_refl _) _ _ _ _ _, .inr ⟨rowRV Al cl l, _, ?_, f1, f2, f3, ?_, NewAt.none _ _, ?_⟩⟩
        · refine ⟨(by decide : (0 : Nat) < 18446744073709551616), (by decide : (-9223372036854775808 : Int) ≤ 0 ∧ (0 : Int) ≤ 9223372036854775807), ⟨Nums.zero _ _, fun _ => ⟨rfl, rfl⟩, Nat.zero_le _, Nat.le_refl _, Nat.zero_le _⟩, ?_⟩
          rw [el]
          exact ⟨p1, p2, by omega, p3, p4⟩
        · rw [ep]
          show _ = Ending.returned (.tuple #[.agg #[_, _, _, _, .slice Al l.length cl], _])
          rw [l1]
          rfl
        · exact hov.newAt (by omega)

/-- the document's take at any letter -/
theorem refTake_any {x : Nat} (hx : Letter x) (A : Option Addr) (n c : Nat) (f : Nat → Nat) (w : World) (h : Bytes w A n f) (hA : A = none → n = 0 ∧ c = 0) (hn : n ≤ 4194304) (hc : n ≤ c) (hcc : c ≤ 9223372036854775807) :
    Calls Try.prog 34 #[.int .u8 (x : Nat), .slice A n c] w (OneTaken x (seg f 0 n) w) := by
  rcases hx with rfl | rfl | rfl | rfl | rfl
  · exact refTake_n A n c f w h hn hc hcc
  · exact refTake_i A n c f w h hn hc hcc
  · exact refTake_f A n c f w h hc
  · exact refTake_b A n c f w h hn hc hcc hA
  · exact refTake_l A n c f w h hn hc hcc
end Go.Proofs.Ytkjndgnjilfobaa
