/-
  What the letter l of the landed wire takes of bytes: a row of numbers, or none.
-/
import Derived.Test.YtkjndgnjilfobaaTakes
import Derived.Deep.LoopGhost
namespace Go.Proofs.Ytkjndgnjilfobaa
open Go.RowKit

theorem wpList_append_longs {w : World} {ops : Array Oper} {rest : List Oper} {o : Oper} {a : Act} {Q : Exit → Act → World → Prop} (hgd : o.guard = none) (s x : Operand)
    (ho : o.op = .call { callee := .builtin .append, args := #[s, x], argTypes := #[40, 40] })
    (base : Nat) (v : Value) (l : List Nat) (hs : a.eval s = v) (hown : owns w base 39 .u64 v l) (ad : Addr) (n c : Nat) (f : Nat → Nat) (hx : a.eval x = .slice (some ad) n c) (hN : Longs w (some ad) n f)
    (hb : l.length + n ≤ 4194304) (hbase : base ≤ w.heap.size)
    (h : ∀ v' w', owns w' base 39 .u64 v' (l ++ seg f 0 n) → Below base w w' → w.grownBy w' v.ownBlock → wpList Try.prog ops Q rest (a.put o.dst v') w') :
    wpList Try.prog ops Q (o :: rest) a w := by
  obtain ⟨i0, hi, hz0, hz1, hz2⟩ := info_parts Try.infoL
  refine wpList_append_own _ hgd s x 40 ho base 39 i0 (.int .u64 0) 1 8 Try.underlying40 hi hz0 hz1 hz2 rfl (by decide) v l.length _ hs hown ad n c ((seg f 0 n).map fun (x : Nat) => Value.int .u64 (x : Nat)) hx (by simp [seg_len]) (Nums.cells hN) (one_cells .u64 _) (by unfold maxLen; omega) (by omega) hbase ?_
  intro v' w' hown' hgrow _
  have ho2 : owns w' base 39 .u64 v' (l ++ seg f 0 n) := by unfold owns; simpa [seg_len] using hown'
  exact h v' w' ho2 ((Below.refl _ _).grown hgrow hbase (fun k e => (hown.lt k e).1)) hgrow
theorem long_new (w : World) (y : Nat) (hy : y < 18446744073709551616) : Longs (w.alloc (.cells #[.int .u64 (y : Nat)] 39)) (some ⟨w.heap.size, 0, none⟩) 1 (fun _ => y) :=
  ⟨fun _ _ => hy, fun _ => ⟨_, 0, rfl, by simp, fun i hi => by obtain rfl : i = 0 := by omega
                                                               simp⟩⟩

set_option maxRecDepth 100000 in
set_option maxHeartbeats 4000000 in
theorem take_l (A : Option Addr) (n c : Nat) (f : Nat → Nat) (w : World) (h : Bytes w A n f) (hn : n ≤ 4194304) (hc : n ≤ c) :
    Calls Try.prog 65 #[.slice A n c] w (KTaken 108 (seg f 0 n) w) := by
  obtain ⟨r, hr⟩ := got_is (seg f 0 n)
  have H := Lib.hid h
  have G : Hid (∀ W, Below w.heap.size w W → Calls Try.prog 68 #[.slice A n c, .int .u64 4096] W fun e w' => e = .returned (encCount 4096 r) ∧ W = w') := Lib.hid (fun W hW => takeCount_any A n c f 4096 (by omega) W (h.below hW) hn hc r hr)
  have B : Hid (Below w.heap.size w (w.alloc (.cells #[.int .u64 0, .int .i64 0, .bool false, .slice none 0 0, .slice none 0 0] 42))) := Lib.hid ((Below.refl _ w).alloc (Nat.le_refl _) _)
  clear h
  by_cases hno : ∀ x u, r = some (x, u) → ¬ x ≤ 4096
  · have NO : Hid (∀ v r, Fits 108 v → Short v → Real v → form 108 v ++ r ≠ seg f 0 n) := Lib.hid (by
      cases r with
      | none => exact none_l hr
      | some q =>
        obtain ⟨x, u⟩ := q
        obtain ⟨hx, hu, t, ht⟩ := hr
        exact great_l ht (by have := hno x u rfl; omega))
    have E : Hid (encCount 4096 r = .tuple #[.int .i64 0, .int .i64 0, .bool false]) := Lib.hid (by
      cases r with
      | none => rfl
      | some q => exact encCount_gt (hno q.1 q.2 rfl))
    clear hno hr H
    go_enter Try.func65, Try.ntmps65
    go_wp2_with fail
    refine (G.out _ B.out).mono ?_
    rintro e w' ⟨rfl, rfl⟩
    rw [E.out]
    go_wp2_with fail
    refine bodyPost_ret (results_row_tmp2 rfl _ _ w.heap.size _ _ _ _ rfl (heap_alloc_new _ _) Try.underlying42 rfl (by kernel_rfl)) rfl ?_
    exact ⟨B.out, .inl ⟨NO.out, rfl⟩⟩
  · obtain ⟨x, u, rfl, hx⟩ : ∃ x u, r = some (x, u) ∧ x ≤ 4096 := by
      cases r with
      | none => exact absurd (fun x u e => by cases e) hno
      | some q =>
        refine ⟨q.1, q.2, rfl, ?_⟩
        rcases Nat.lt_or_ge 4096 q.1 with hlt | hge
        · exact absurd (fun x u e => by injection e with e; subst e; dsimp only at hlt; omega) hno
        · exact hge
    clear hno
    have hs0 : u ≤ n ∧ seg f 0 u = word x ++ ([] : List Nat).flatMap word := by
      obtain ⟨hx64, hu, t, ht⟩ := hr
      have hl := congrArg List.length ht
      rw [seg_len, List.length_append] at hl
      obtain ⟨j, hj⟩ : ∃ j, n = u + j := ⟨n - u, by omega⟩
      refine ⟨by omega, ?_⟩
      rw [hj, seg_add] at ht
      have := (List.append_inj ht (by rw [seg_len]; exact hu)).1
      simpa using this
    obtain ⟨hun, hs0⟩ := hs0
    rw [encCount_le hx] at G
    have hu0 := hr.2.1
    have L0 : Hid (([] : List Nat).length = 0 ∧ seg f 0 u = word x ++ ([] : List Nat).flatMap word ∧ ∀ y ∈ ([] : List Nat), y < 18446744073709551616) := Lib.hid ⟨rfl, hs0, fun y hy => by cases hy⟩
    have OB : Hid ((w.alloc (.cells #[.int .u64 0, .int .i64 0, .bool false, .slice none 0 0, .slice none 0 0] 42)).heap[w.heap.size]? = some (.cells #[.int .u64 0, .int .i64 0, .bool false, .slice none 0 0, .slice none 0 0] 42 (0, 0))) := Lib.hid (heap_alloc_new w _)
    have SZ : Hid ((w.alloc (.cells #[.int .u64 0, .int .i64 0, .bool false, .slice none 0 0, .slice none 0 0] 42)).heap.size = w.heap.size + 1) := Lib.hid (World.size_alloc _ _)
    clear hs0 hr hu0
    go_enter Try.func65, Try.ntmps65
    go_wp2_with fail
    refine (G.out _ B.out).mono ?_
    rintro e w' ⟨rfl, rfl⟩
    go_wp2_with fail
    generalize w.alloc (.cells #[.int .u64 0, .int .i64 0, .bool false, .slice none 0 0, .slice none 0 0] 42) = w1 at B OB SZ ⊢
    go_loopg [6, 8, 22] x (fun g1 vu vl vi wr => ∃ (j p cl : Nat) (Al : Option Addr) (l : List Nat), vi = .int .i64 j ∧ vu = .int .i64 p ∧ vl = .slice Al j cl ∧ j ≤ x ∧ x - j ≤ g1 ∧ p ≤ n ∧ Hid (owns wr (w.heap.size + 1) 39 .u64 (.slice Al j cl) l) ∧ Hid (l.length = j ∧ seg f 0 p = word x ++ l.flatMap word ∧ ∀ y ∈ l, y < 18446744073709551616) ∧ Hid (wr.heap[w.heap.size]? = some (.cells #[.int .u64 0, .int .i64 0, .bool false, .slice none 0 0, .slice none 0 0] 42 (0, 0))) ∧ Hid (Below w.heap.size w wr))
    case atStart => exact ⟨0, u, 0, none, [], rfl, rfl, rfl, by omega, by omega, hun, Lib.hid (World.ownsRow_nil _ _ _ _), L0, OB, B⟩
    case round =>
      rename World => W
      obtain ⟨j, p, cl, Al, l, rfl, rfl, rfl, hj, hg1, hp, O, LL, X, BB⟩ := hrel
      have SW : Hid (w.heap.size + 1 ≤ W.heap.size) := Lib.hid (lt_of_block X.out)
      by_cases hlt : j < x
      · have hjz : (j : Int) < x := by omega
        obtain ⟨q, hq⟩ := got_is (seg f p (n - p))
        have GG := Lib.hid (get_at A n c f p W (H.out.below BB.out) hn hc hp q hq)
        cases q with
        | none =>
          have NO : Hid (∀ v r, Fits 108 v → Short v → Real v → form 108 v ++ r ≠ seg f 0 n) := Lib.hid (row_none (l := l) (rest := seg f p (n - p)) (by rw [LL.out.1]; exact hlt) (by
            obtain ⟨m, rfl⟩ : ∃ m, n = p + m := ⟨n - p, by omega⟩
            rw [seg_add, LL.out.2.1, Nat.zero_add, show p + m - p = m by omega, List.append_assoc]) hq)
          clear hq
          have c0 : W.cell? ⟨w.heap.size, 0, none⟩ = some (.int .u64 0) := by rw [cell_of_row W _ 0 _ _ _ X.out]; rfl
          have y0 : W.frozen? ⟨w.heap.size, 0, none⟩ = false := by simp [World.frozen?, X.out]
          have c1 : W.cell? ⟨w.heap.size, 1, none⟩ = some (.int .i64 0) := by rw [cell_of_row W _ 1 _ _ _ X.out]; rfl
          have y1 : W.frozen? ⟨w.heap.size, 1, none⟩ = false := by simp [World.frozen?, X.out]
          have c2 : W.cell? ⟨w.heap.size, 2, none⟩ = some (.bool false) := by rw [cell_of_row W _ 2 _ _ _ X.out]; rfl
          have y2 : W.frozen? ⟨w.heap.size, 2, none⟩ = false := by simp [World.frozen?, X.out]
          have c3 : W.cell? ⟨w.heap.size, 3, none⟩ = some (.slice none 0 0) := by rw [cell_of_row W _ 3 _ _ _ X.out]; rfl
          have y3 : W.frozen? ⟨w.heap.size, 3, none⟩ = false := by simp [World.frozen?, X.out]
          have c4 : W.cell? ⟨w.heap.size, 4, none⟩ = some (.slice none 0 0) := by rw [cell_of_row W _ 4 _ _ _ X.out]; rfl
          have y4 : W.frozen? ⟨w.heap.size, 4, none⟩ = false := by simp [World.frozen?, X.out]
          go_wp2_with fail
          refine GG.out.mono ?_
          rintro e w' ⟨rfl, rfl⟩
          unfold encGot
          go_wp2_with fail
          refine bodyPost_ret (results_row_tmp2 rfl _ _ w.heap.size _ _ _ _ rfl (box_set X.out _ _ _ _ _) Try.underlying42 rfl (by kernel_rfl)) rfl ?_
          exact ⟨box_below BB.out (Nat.le_refl _) _ _ _ _ _, .inl ⟨NO.out, rfl⟩⟩
        | some t =>
          obtain ⟨y, u'⟩ := t
          obtain ⟨n1, n2, n3, n4⟩ := row_next hp LL.out.2.1 hq
          have L2 : Hid ((l ++ [y]).length = j + 1 ∧ seg f 0 (p + u') = word x ++ (l ++ [y]).flatMap word ∧ ∀ z ∈ l ++ [y], z < 18446744073709551616) := Lib.hid ⟨by simp [LL.out.1], n3, fun z hz => by
            rcases List.mem_append.1 hz with hz | hz
            · exact LL.out.2.2 z hz
            · rw [List.mem_singleton.1 hz]; exact n4⟩
          have HL : Hid (l.length + 1 ≤ 4194304) := Lib.hid (by rw [LL.out.1]; omega)
          have OA := Lib.hid (O.out.keep ((Below.refl _ W).alloc (Nat.le_refl _) (.cells #[.int .u64 (y : Nat)] 39)))
          have XA : Hid ((W.alloc (.cells #[.int .u64 (y : Nat)] 39)).heap[w.heap.size]? = some (.cells #[.int .u64 0, .int .i64 0, .bool false, .slice none 0 0, .slice none 0 0] 42 (0, 0))) := Lib.hid ((Below.heap_alloc _ _ _ (by have := SW.out; omega)).trans X.out)
          have NL := Lib.hid (long_new W y n4)
          have S2 : Hid (w.heap.size + 1 ≤ (W.alloc (.cells #[.int .u64 (y : Nat)] 39)).heap.size) := Lib.hid (by rw [World.size_alloc]; have := SW.out; omega)
          have BA : Hid (Below w.heap.size w (W.alloc (.cells #[.int .u64 (y : Nat)] 39))) := Lib.hid (BB.out.alloc BB.out.size _)
          clear hq n3 n4
          go_wp2_with fail
          refine GG.out.mono ?_
          rintro e w' ⟨rfl, rfl⟩
          unfold encGot
          go_wp2_with (at_builtin; refine wpList_append_longs rfl _ _ rfl (w.heap.size + 1) _ l rfl OA.out ⟨W.heap.size, 0, none⟩ 1 1 (fun _ => y) rfl NL.out HL.out S2.out ?_)
          intro v' w4 hO hb hg
          have O4 : Hid (owns w4 (w.heap.size + 1) 39 .u64 v' (l ++ [y])) := Lib.hid (by simpa [seg] using hO)
          have X4 := Lib.hid ((hb.block w.heap.size (by omega)).trans XA.out)
          have B4 : Hid (Below w.heap.size w w4) := Lib.hid (BA.out.trans (hb.mono (by omega)))
          obtain ⟨A4, c4, hv', -, -, -⟩ := O4.out.form
          rw [L2.out.1] at hv'
          subst hv'
          clear hO hb hg OA XA NL S2 BA
          go_wp2_with fail
          go_roundg (x - (j + 1))
          case measure => omega
          case rel => exact ⟨j + 1, p + u', c4, A4, l ++ [y], by go_num, by go_num, rfl, by omega, Nat.le_refl _, n1, O4, L2, X4, B4⟩
      · obtain rfl : j = x := by omega
        have c0 : W.cell? ⟨w.heap.size, 0, none⟩ = some (.int .u64 0) := by rw [cell_of_row W _ 0 _ _ _ X.out]; rfl
        have y0 : W.frozen? ⟨w.heap.size, 0, none⟩ = false := by simp [World.frozen?, X.out]
        have c1 : W.cell? ⟨w.heap.size, 1, none⟩ = some (.int .i64 0) := by rw [cell_of_row W _ 1 _ _ _ X.out]; rfl
        have y1 : W.frozen? ⟨w.heap.size, 1, none⟩ = false := by simp [World.frozen?, X.out]
        have c2 : W.cell? ⟨w.heap.size, 2, none⟩ = some (.bool false) := by rw [cell_of_row W _ 2 _ _ _ X.out]; rfl
        have y2 : W.frozen? ⟨w.heap.size, 2, none⟩ = false := by simp [World.frozen?, X.out]
        have c3 : W.cell? ⟨w.heap.size, 3, none⟩ = some (.slice none 0 0) := by rw [cell_of_row W _ 3 _ _ _ X.out]; rfl
        have y3 : W.frozen? ⟨w.heap.size, 3, none⟩ = false := by simp [World.frozen?, X.out]
        have c4 : W.cell? ⟨w.heap.size, 4, none⟩ = some (.slice none 0 0) := by rw [cell_of_row W _ 4 _ _ _ X.out]; rfl
        have y4 : W.frozen? ⟨w.heap.size, 4, none⟩ = false := by simp [World.frozen?, X.out]
        go_wp2_with fail
        clear c0 c1 c2 c3 c4 y0 y1 y2 y3 y4
        refine bodyPost_ret (results_row_tmp2 rfl _ _ w.heap.size _ _ _ _ rfl (box_set X.out _ _ _ _ _) Try.underlying42 rfl (by kernel_rfl)) rfl ?_
        have hov := O.out.off (B := w.heap.size) (w' := ((((((W.setCell ⟨w.heap.size, 0, none⟩ (.int .u64 0)).setCell ⟨w.heap.size, 1, none⟩ (.int .i64 0)).setCell ⟨w.heap.size, 2, none⟩ (.bool false)).setCell ⟨w.heap.size, 3, none⟩ (.slice none 0 0)).setCell ⟨w.heap.size, 4, none⟩ (.slice Al j cl)))) (by omega) (fun k hk => box_other _ _ _ _ _ k hk)
        obtain ⟨l1, l2, l3⟩ := LL.out
        obtain ⟨p1, p2, p3, p4⟩ := hov.nums_n (M := 18446744073709551616) l1.symm l3
        obtain ⟨f1, f2, f3, f4⟩ := row_some Al cl (l := l) (bl := seg f 0 n) (rest := seg f p (n - p)) l1 hx (by
          obtain ⟨m, rfl⟩ : ∃ m, n = p + m := ⟨n - p, by omega⟩
          rw [seg_add, l2, Nat.zero_add, show p + m - p = m by omega, List.append_assoc])
        have el : (rowRV Al cl l).ln = j := l1
        have ep : (form 108 (rowRV Al cl l).mean).length = p := by
          rw [f4, ← List.length_append, ← l2, seg_len]
        refine ⟨box_below BB.out (Nat.le_refl _) _ _ _ _ _, .inr ⟨rowRV Al cl l, _, ?_, f1, f2, f3, ?_, NewAt.none _ _, ?_, Loose.none _⟩⟩
        · refine ⟨(by decide : (0 : Nat) < 18446744073709551616), (by decide : (-9223372036854775808 : Int) ≤ 0 ∧ (0 : Int) ≤ 9223372036854775807), ⟨Nums.zero _ _, fun _ => ⟨rfl, rfl⟩, Nat.zero_le _, Nat.le_refl _, Nat.zero_le _⟩, ?_⟩
          rw [el]
          exact ⟨p1, p2, by omega, p3, p4⟩
        · rw [ep]
          show _ = Ending.returned (.tuple #[.agg #[_, _, _, _, .slice Al l.length cl], _, _])
          rw [l1]
          rfl
        · exact hov.newAt (by omega)
end Go.Proofs.Ytkjndgnjilfobaa
