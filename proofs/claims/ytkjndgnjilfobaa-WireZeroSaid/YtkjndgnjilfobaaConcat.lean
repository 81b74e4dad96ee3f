/-
  slices.Grow of nothing, and slices.Concat, at rows of bytes.
-/
import Derived.Test.YtkjndgnjilfobaaAppendB
import Derived.Lib.AppendZeros
import Derived.LoopTactic
import Derived.Deep.LoopGhost
namespace Go.Proofs.Ytkjndgnjilfobaa
open Go.RowKit

structure Piece where
  A : Option Addr
  n : Nat
  c : Nat
  f : Nat → Nat
def Piece.ok (w : World) (p : Piece) : Prop := Bytes w p.A p.n p.f ∧ (p.A = none → p.n = 0 ∧ p.c = 0) ∧ p.n ≤ p.c ∧ p.c ≤ 9223372036854775807
/-- a row of rows of bytes -/
def Pieces (w : World) (A : Option Addr) (n : Nat) (P : Nat → Piece) : Prop := (∀ j, j < n → (P j).ok w) ∧ (0 < n → ∃ b off, A = some ⟨b, off, none⟩ ∧ b < w.heap.size ∧ ∀ j, j < n → w.cell? ⟨b, off + j, none⟩ = some (.slice (P j).A (P j).n (P j).c))
def total (P : Nat → Piece) : Nat → Nat
  | 0 => 0
  | k + 1 => total P k + (P k).n
def cat (P : Nat → Piece) : Nat → List Nat
  | 0 => []
  | k + 1 => cat P k ++ seg (P k).f 0 (P k).n
theorem cat_len (P : Nat → Piece) (k : Nat) : (cat P k).length = total P k := by
  induction k with
  | zero => rfl
  | succ k ih => rw [cat, List.length_append, ih, seg_len]; rfl
theorem total_mono (P : Nat → Piece) {k m : Nat} (h : k ≤ m) : total P k ≤ total P m := by
  induction h with
  | refl => exact Nat.le_refl _
  | step _ ih => exact Nat.le_trans ih (by show _ ≤ total P _ + _; omega)
theorem Piece.ok.below {w w' : World} {p : Piece} (h : p.ok w) (hb : Below w.heap.size w w') : p.ok w' := ⟨h.1.below hb, h.2⟩
theorem Pieces.below {w w' : World} {A : Option Addr} {n : Nat} {P : Nat → Piece} (h : Pieces w A n P) (hb : Below w.heap.size w w') : Pieces w' A n P :=
  ⟨fun j hj => (h.1 j hj).below hb, fun hn => by
    obtain ⟨b, off, e, hlt, hc⟩ := h.2 hn
    exact ⟨b, off, e, Nat.lt_of_lt_of_le hlt hb.size, fun j hj => (hb.cell (p := ⟨b, off + j, none⟩) hlt).trans (hc j hj)⟩⟩
theorem Pieces.at_ {w : World} {A : Option Addr} {n : Nat} {P : Nat → Piece} (h : Pieces w A n P) {j : Nat} (hj : j < n) : ∃ b off, A = some ⟨b, off, none⟩ ∧ b < w.heap.size ∧ w.cell? ⟨b, off + j, none⟩ = some (.slice (P j).A (P j).n (P j).c) := by
  obtain ⟨b, off, e, hb, hc⟩ := h.2 (by omega)
  exact ⟨b, off, e, hb, hc j hj⟩

/-- 'append(b, x...)' where b is a row of bytes of the call's own, x whatever bytes, nil too; up to 100,000,000 bytes -/
theorem wpList_append_great {w : World} {ops : Array Oper} {rest : List Oper} {o : Oper} {a : Act} {Q : Exit → Act → World → Prop} (hgd : o.guard = none) (s x : Operand)
    (ho : o.op = .call { callee := .builtin .append, args := #[s, x], argTypes := #[25, 25] })
    (base : Nat) (v : Value) (l : List Nat) (hs : a.eval s = v) (hown : owns w base 5 .u8 v l) (A : Option Addr) (n c : Nat) (f : Nat → Nat) (hx : a.eval x = .slice A n c) (hA : A = none → n = 0 ∧ c = 0) (hN : Bytes w A n f)
    (hb : l.length + n ≤ 100000000) (hbase : base ≤ w.heap.size)
    (h : ∀ v' w', owns w' base 5 .u8 v' (l ++ seg f 0 n) → Below base w w' → wpList Try.prog ops Q rest (a.put o.dst v') w') :
    wpList Try.prog ops Q (o :: rest) a w := by
  obtain ⟨i0, hi, hz0, hz1, hz2⟩ := info_parts Try.info5
  cases A with
  | none =>
    obtain ⟨rfl, rfl⟩ := hA rfl
    refine wpList_append_own_none hgd s x 25 ho base 5 i0 1 Try.underlying25 hi v l.length _ hs hown hx ?_
    exact h v w (by simpa [seg_zero] using hown) (Below.refl _ _)
  | some ad =>
    refine wpList_append_own _ hgd s x 25 ho base 5 i0 (.int .u8 0) 1 1 Try.underlying25 hi hz0 hz1 hz2 rfl (by decide) v l.length _ hs hown ad n c ((seg f 0 n).map fun (x : Nat) => Value.int .u8 (x : Nat)) hx (by simp [seg_len]) (Nums.cells hN) (one_cells .u8 _) (by unfold maxLen; omega) (by omega) hbase ?_
    intro v' w' hown' hgrow _
    have ho2 : owns w' base 5 .u8 v' (l ++ seg f 0 n) := by unfold owns; simpa [seg_len] using hown'
    exact h v' w' ho2 ((Below.refl _ _).grown hgrow hbase (fun k e => (hown.lt k e).1))

theorem grown_row (w : World) (m g : Nat) (hmg : m ≤ g) (hg : g ≤ maxLen) : owns (w.drew.alloc (.cells (Builtin.zeroCells #[.int .u8 0] m ++ Builtin.zeroCells #[.int .u8 0] (g - m)) 5)) w.heap.size 5 .u8 (.slice (some ⟨w.heap.size, 0, none⟩) 0 g) [] :=
  ⟨by simp, .inr ⟨w.heap.size, g, _, rfl, Nat.le_refl _, heap_alloc_new w.drew _, Nat.zero_le _, hg, by rw [Array.size_append, size_zeroCells, size_zeroCells]; simp; omega, by simp⟩⟩

set_option maxHeartbeats 1000000 in
theorem grow_any (m : Nat) (w : World) (hm : m ≤ 100000000) :
    Calls Try.prog 41 #[.slice none 0 0, .int .i64 (m : Nat)] w fun e w' => ∃ v, e = .returned v ∧ owns w' w.heap.size 5 .u8 v [] ∧ Below w.heap.size w w' := by
  obtain ⟨i0, hi, hz0, hz1, hz2⟩ := info_parts Try.info5
  by_cases h0 : m = 0
  · subst h0
    have N : Hid (owns w w.heap.size 5 .u8 (.slice none 0 0) []) := Lib.hid (World.ownsRow_nil _ _ _ _)
    go_enter Try.func41, Try.ntmps41
    go_wp2
    go_ret
    exact ⟨_, rfl, N.out, Below.refl _ _⟩
  · have hp : (0 : Int) < m := by omega
    have hrz := Lib.run_append_nil_zeros (P := Try.prog) w 25 3 25 5 i0 (.int .u8 0) .i64 .i64 Try.underlying25 Try.underlying3 hi hz0 m (by omega) (by omega) (by omega) (by rw [hz2]; omega)
    have hge := grownCap_ge w m 0 5
    have hle := grownCap_le_maxLen w m 0 5 (by unfold maxLen; omega)
    have O := Lib.hid (grown_row w m (grownCap w m 0 5) hge hle)
    generalize grownCap w m 0 5 = G at hrz hge hle O
    have hG : G ≤ 9223372036854775807 := by unfold maxLen at hle; omega
    clear hi hz0 hz1 hz2
    go_enter Try.func41, Try.ntmps41
    go_wp2_with (at_builtin; refine Lib.wpList_append_run _ rfl _ _ _ _ rfl _ _ rfl rfl _ _ hrz ?_)
    go_ret
    exact ⟨_, rfl, O.out, ((Below.refl _ w).drew).alloc (by simp) _⟩

set_option maxRecDepth 100000 in
set_option maxHeartbeats 2000000 in
theorem concat_any (A : Option Addr) (n c : Nat) (P : Nat → Piece) (w : World) (h : Pieces w A n P) (hn : n ≤ 100000) (ht : total P n ≤ 100000000) :
    Calls Try.prog 28 #[.slice A n c] w (Made w (cat P n)) := by
  have H := Lib.hid h
  have T : Hid (∀ k, k ≤ n → total P k ≤ 100000000) := Lib.hid (fun k hk => Nat.le_trans (total_mono P hk) ht)
  have LB : Hid (∀ x ∈ cat P n, x < 256) := Lib.hid (by
    have : ∀ k, k ≤ n → ∀ x ∈ cat P k, x < 256 := by
      intro k
      induction k with
      | zero => intro _ x hx; cases hx
      | succ k ih =>
        intro hk x hx
        rcases List.mem_append.1 hx with hx | hx
        · exact ih (by omega) x hx
        · obtain ⟨i, hi, rfl⟩ := seg_mem hx
          exact (h.1 k (by omega)).1.bd (by omega)
    exact this n (Nat.le_refl _))
  clear h ht
  go_enter Try.func28, Try.ntmps28
  go_wp2
  go_loop [3, 11] (fun s i => ∃ k : Nat, k ≤ n ∧ i = .int .i64 k ∧ s = .int .i64 (total P k : Nat)) (fun _ i => n - (intOf i).toNat)
  case atStart => exact ⟨0, Nat.zero_le _, rfl, rfl⟩
  case round =>
    obtain ⟨k, hk, rfl, rfl⟩ := hrel
    by_cases hlt : k < n
    · have hkz : (k : Int) < n := by omega
      obtain ⟨b, off, rfl, hb, hcell⟩ := H.out.at_ hlt
      have t1 := T.out (k + 1) (by omega)
      have e1 : total P (k + 1) = total P k + (P k).n := rfl
      have hs : total P k + (P k).n ≤ 100000000 := by omega
      have E : Hid (total P (k + 1) = total P k + (P k).n) := Lib.hid e1
      clear t1 e1 hb
      have hneg : ¬ ((total P k : Int) + ((P k).n : Int) < 0) := by omega
      generalize hm : (P k).n = m at hs hneg hcell E
      clear hm
      generalize ht : total P k = t at hs hneg E
      clear ht
      go_wp2
      go_round
      case rel => exact ⟨k + 1, by omega, by go_num, by rw [E.out]; go_num⟩
      case measure => simp [intOf]; omega
    · obtain rfl : k = n := by omega
      have t1 := T.out k (Nat.le_refl _)
      generalize ht : total P k = t at t1
      clear ht
      go_wp2_with (go_at_call 41; refine (grow_any t _ t1).mono ?_; rintro e w1 ⟨v, rfl, ho, hb⟩)
      have O1 := Lib.hid ho
      have B1 := Lib.hid hb
      clear ho hb
      go_loopg [6, 27] k (fun g1 vo vi wr => ∃ j : Nat, vi = .int .i64 j ∧ j ≤ k ∧ k - j ≤ g1 ∧ Hid (owns wr w.heap.size 5 .u8 vo (cat P j)) ∧ Hid (Below w.heap.size w wr))
      case atStart => exact ⟨0, rfl, by omega, by omega, O1, B1⟩
      case round =>
        rename World => W
        obtain ⟨j, rfl, hj, hg1, O, B⟩ := hrel
        by_cases hlt : j < k
        · have hjz : (j : Int) < k := by omega
          obtain ⟨b, off, rfl, hb, hcell⟩ := H.out.at_ hlt
          have hcW : W.cell? ⟨b, off + j, none⟩ = some (.slice (P j).A (P j).n (P j).c) := (B.out.cell (p := ⟨b, off + j, none⟩) hb).trans hcell
          have PK := Lib.hid ((H.out.1 j hlt).below B.out)
          have hl : (cat P j).length + (P j).n ≤ 100000000 := by rw [cat_len]; exact T.out (j + 1) (by omega)
          have HL := Lib.hid hl
          clear hb hcell hl
          go_wp2_with (at_builtin; refine wpList_append_great rfl _ _ rfl w.heap.size _ _ rfl O.out (P j).A (P j).n (P j).c (P j).f rfl PK.out.2.1 PK.out.1 HL.out B.out.size ?_)
          intro v' w' ho hb
          have O2 := Lib.hid ho
          have B2 := Lib.hid (B.out.trans hb)
          clear ho hb
          go_wp2
          go_roundg (k - (j + 1))
          case measure => omega
          case rel => exact ⟨j + 1, by go_num, by omega, Nat.le_refl _, O2, B2⟩
        · obtain rfl : j = k := by omega
          go_wp2
          go_ret
          exact made_of LB.out O.out (Nat.le_refl _) B.out
end Go.Proofs.Ytkjndgnjilfobaa
