/-
  What style.lengthsMay, heightsMay, marginsMay answer.
-/
import Derived.Test.YtdadlhkbngopaaaStyleAsk
import Derived.Shelf.Abstract
namespace Go.Proofs.Ytdadlhkbngopaaa
open Go.RowKit

set_option maxRecDepth 100000 in
theorem lengthsMay_any (b o n c : Nat) (f : Nat → RL) (w : World) (h : RowL w b o n f) (hb : b < w.heap.size) (hn : n ≤ 100) (hf : ∀ i, i < n → (f i).ok) (r : Bool) (hr : lensB f n 0 = r) :
    Calls Try.prog 56 #[.slice (some ⟨b, o, none⟩) n c] w fun e w' => e = .returned (.bool r) ∧ Below w.heap.size w w' := by
  have H := Lib.hid h
  have F := Lib.hid hf
  have R := Lib.hid hr
  have HB := Lib.hid hb
  clear h hf hr hb
  go_enter Try.func56, Try.ntmps56
  go_wp2
  go_loopw [7] (fun i wr => ∃ k : Nat, k ≤ n ∧ (∀ j, j < k → LenMay (f j) 0) ∧ Below w.heap.size w wr ∧ i = .int .i64 k) (fun i _ => n - (intOf i).toNat)
  case atStart => exact ⟨0, Nat.zero_le _, fun j hj => absurd hj (by omega), Below.refl _ _, rfl⟩
  case round =>
    obtain ⟨k, hk, hall, hB, rfl⟩ := hrel
    have A := Lib.hid hall
    have B := Lib.hid hB
    clear hall hB
    by_cases hlt : k < n
    · obtain ⟨q1, q2⟩ := H.out k hlt
      have c1 : wr.cell? ⟨b, o + k * 2, none⟩ = some (.int .u8 (f k).kind) := (B.out.cell (p := ⟨b, o + k * 2, none⟩) HB.out).trans q1
      have c2 : wr.cell? ⟨b, o + k * 2 + 1, none⟩ = some (.int .i64 (f k).n) := (B.out.cell (p := ⟨b, o + k * 2 + 1, none⟩) HB.out).trans q2
      clear q1 q2
      have O := Lib.hid (F.out k hlt)
      by_cases hx : LenMay (f k) 0
      · have A1 : Hid (∀ j, j < k + 1 → LenMay (f j) 0) := Lib.hid fun j hj => by
          by_cases e : j = k
          · rw [e]; exact hx
          · exact A.out j (by omega)
        have V : Hid (lenB ⟨(f k).kind, (f k).n⟩ 0 = true) := Lib.hid (decide_eq_true hx)
        have O1 : Hid (RL.ok ⟨(f k).kind, (f k).n⟩) := Lib.hid O.out
        clear hx O
        generalize (f k).kind = K at c1 V O1
        generalize (f k).n = N at c2 V O1
        go_wp2_with (go_at_call 71; (with_reducible refine (lengthMay_at _ _ _ _ O1.out true V.out).mono ?_); rintro e w1 ⟨rfl, hb1⟩; have B1 : Hid (Below w.heap.size w w1) := Lib.hid ((B.out.alloc B.out.size _).trans (hb1.mono (by have := B.out.size; simp; omega))); clear hb1)
        go_roundw
        case rel => exact ⟨k + 1, by omega, A1.out, B1.out, by go_num⟩
        case measure => simp [intOf]; omega
      · have V : Hid (lenB ⟨(f k).kind, (f k).n⟩ 0 = false) := Lib.hid (decide_eq_false hx)
        have R1 : Hid (r = false) := Lib.hid (by
          rw [← R.out]; unfold lensB; exact decide_eq_false fun h => hx (h k hlt))
        have O1 : Hid (RL.ok ⟨(f k).kind, (f k).n⟩) := Lib.hid O.out
        clear hx O
        generalize (f k).kind = K at c1 V O1
        generalize (f k).n = N at c2 V O1
        go_wp2_with (go_at_call 71; (with_reducible refine (lengthMay_at _ _ _ _ O1.out false V.out).mono ?_); rintro e w1 ⟨rfl, hb1⟩; have B1 : Hid (Below w.heap.size w w1) := Lib.hid ((B.out.alloc B.out.size _).trans (hb1.mono (by have := B.out.size; simp; omega))); clear hb1)
        go_ret
        exact ⟨by rw [R1.out]; rfl, B1.out⟩
    · have R1 : Hid (r = true) := Lib.hid (by
        rw [← R.out]; unfold lensB; exact decide_eq_true fun i hi => A.out i (by omega))
      go_wp2
      go_ret
      exact ⟨by rw [R1.out]; rfl, B.out⟩

set_option maxRecDepth 100000 in
theorem isPart_at (K N : Int) (w : World) (r : Bool) (hr : (K == 2) = r) :
    Calls Try.prog 72 #[.agg #[.int .u8 K, .int .i64 N]] w fun e w' => e = .returned (.bool r) ∧ Below w.heap.size w w' := by
  have R := Lib.hid hr
  clear hr
  go_enter Try.func72, Try.ntmps72
  go_wp2
  go_ret
  exact ⟨by rw [← R.out]; rfl, (Below.refl _ _).alloc (Nat.le_refl _) _⟩

/-- a number at hand -/
def IntSome (r : Bool) (w : World) (e : Ending) (w' : World) : Prop := ∃ x : Int, e = .returned (.int .i64 x) ∧ decide (0 ≤ x) = r ∧ Below w.heap.size w w'
set_option maxRecDepth 100000 in
theorem indexPart_any (b o n c : Nat) (f : Nat → RL) (w : World) (h : RowL w b o n f) (hb : b < w.heap.size) (hn : n ≤ 100) (r : Bool) (hr : partsB f n = r) :
    Calls Try.prog 75 #[.slice (some ⟨b, o, none⟩) n c, .func (.func 72) #[] #[]] w (IntSome r w) := by
  have H := Lib.hid h
  have R := Lib.hid hr
  have HB := Lib.hid hb
  clear h hr hb
  go_enter Try.func75, Try.ntmps75
  go_wp2
  go_loopw [8] (fun i wr => ∃ m : Nat, m ≤ n ∧ (∀ j, j < m → (f j).kind ≠ 2) ∧ Below w.heap.size w wr ∧ i = .int .i64 m) (fun i _ => n - (intOf i).toNat)
  case atStart => exact ⟨0, Nat.zero_le _, fun j hj => absurd hj (by omega), Below.refl _ _, rfl⟩
  case round =>
    obtain ⟨m, hm, hall, hB, rfl⟩ := hrel
    have A := Lib.hid hall
    have B := Lib.hid hB
    clear hall hB
    by_cases hlt : m < n
    · obtain ⟨q1, q2⟩ := H.out m hlt
      have c1 : wr.cell? ⟨b, o + m * 2, none⟩ = some (.int .u8 (f m).kind) := (B.out.cell (p := ⟨b, o + m * 2, none⟩) HB.out).trans q1
      have c2 : wr.cell? ⟨b, o + m * 2 + 1, none⟩ = some (.int .i64 (f m).n) := (B.out.cell (p := ⟨b, o + m * 2 + 1, none⟩) HB.out).trans q2
      clear q1 q2
      by_cases hx : (f m).kind = 2
      · have R1 : Hid (decide (0 ≤ (m : Int)) = r) := Lib.hid (by
          rw [← R.out]; unfold partsB
          rw [decide_eq_true (p := (0 : Int) ≤ (m : Int)) (by omega), decide_eq_true (p := ∃ i, i < n ∧ (f i).kind = 2) ⟨m, hlt, hx⟩])
        have V : Hid (((f m).kind == 2) = true) := Lib.hid (by simpa using hx)
        clear hx
        generalize (f m).kind = K at c1 V
        generalize (f m).n = N at c2
        go_wp2_with (go_at_call 72; (with_reducible refine (isPart_at _ _ _ true V.out).mono ?_); rintro e w1 ⟨rfl, hb1⟩; have B1 : Hid (Below w.heap.size w w1) := Lib.hid (B.out.trans (hb1.mono B.out.size)); clear hb1)
        go_ret
        exact ⟨(m : Int), rfl, R1.out, B1.out⟩
      · have A1 : Hid (∀ j, j < m + 1 → (f j).kind ≠ 2) := Lib.hid fun j hj => by
          by_cases e : j = m
          · rw [e]; exact hx
          · exact A.out j (by omega)
        have V : Hid (((f m).kind == 2) = false) := Lib.hid (by simpa using hx)
        clear hx
        generalize (f m).kind = K at c1 V
        generalize (f m).n = N at c2
        go_wp2_with (go_at_call 72; (with_reducible refine (isPart_at _ _ _ false V.out).mono ?_); rintro e w1 ⟨rfl, hb1⟩; have B1 : Hid (Below w.heap.size w w1) := Lib.hid (B.out.trans (hb1.mono B.out.size)); clear hb1)
        go_roundw
        case rel => exact ⟨m + 1, by omega, A1.out, B1.out, by go_num⟩
        case measure => simp [intOf]; omega
    · have R1 : Hid (decide (0 ≤ (-1 : Int)) = r) := Lib.hid (by
          rw [← R.out]; unfold partsB
          rw [decide_eq_false (p := (0 : Int) ≤ -1) (by omega), decide_eq_false]
          rintro ⟨i, hi, e⟩
          exact A.out i (by omega) e)
      go_wp2
      go_ret
      exact ⟨-1, rfl, R1.out, B.out⟩
set_option maxRecDepth 100000 in
theorem containsPart_any (b o n c : Nat) (f : Nat → RL) (w : World) (h : RowL w b o n f) (hb : b < w.heap.size) (hn : n ≤ 100) (r : Bool) (hr : partsB f n = r) :
    Calls Try.prog 73 #[.slice (some ⟨b, o, none⟩) n c, .func (.func 72) #[] #[]] w fun e w' => e = .returned (.bool r) ∧ Below w.heap.size w w' := by
  have I := Lib.hid (indexPart_any b o n c f w h hb hn r hr)
  clear h hr hb
  go_enter Try.func73, Try.ntmps73
  go_wp2_with fail
  refine I.out.mono ?_
  rintro e w' ⟨x, rfl, hx, hB⟩
  have B := Lib.hid hB
  clear hB
  by_cases h0 : 0 ≤ x
  all_goals
    have X := Lib.hid hx
    clear hx
    go_wp2_with fail
    go_ret
    exact ⟨by rw [← X.out]; simp [h0], B.out⟩

set_option maxRecDepth 100000 in
theorem heightsMay_any (b o n c : Nat) (f : Nat → RL) (w : World) (h : RowL w b o n f) (hb : b < w.heap.size) (hn : n ≤ 100) (hf : ∀ i, i < n → (f i).ok) (r : Bool) (hr : (lensB f n 0 && !partsB f n) = r) :
    Calls Try.prog 58 #[.slice (some ⟨b, o, none⟩) n c] w fun e w' => e = .returned (.bool r) ∧ Below w.heap.size w w' := by
  obtain ⟨x, hx⟩ : ∃ x, lensB f n 0 = x := ⟨_, rfl⟩
  obtain ⟨y, hy⟩ : ∃ y, partsB f n = y := ⟨_, rfl⟩
  rw [hx, hy] at hr
  have C1 := Lib.hid (lengthsMay_any b o n c f w h hb hn hf x hx)
  have C2 : Hid (∀ W, Below w.heap.size w W → Calls Try.prog 73 #[.slice (some ⟨b, o, none⟩) n c, .func (.func 72) #[] #[]] W fun e w' => e = .returned (.bool y) ∧ Below W.heap.size W w') :=
    Lib.hid fun W hW => containsPart_any b o n c f W (h.keep hb fun p hp => hW.cell hp) (Nat.lt_of_lt_of_le hb hW.size) hn y hy
  have R := Lib.hid hr
  clear h hb hf hx hy hr
  cases x with
  | false =>
    go_enter Try.func58, Try.ntmps58
    go_wp2_with fail
    refine C1.out.mono ?_
    rintro e w1 ⟨rfl, hb1⟩
    have B1 := Lib.hid hb1
    clear hb1
    go_wp2_with fail
    go_ret
    exact ⟨by rw [← R.out]; rfl, B1.out⟩
  | true =>
    go_enter Try.func58, Try.ntmps58
    go_wp2_with fail
    refine C1.out.mono ?_
    rintro e w1 ⟨rfl, hb1⟩
    have B1 := Lib.hid hb1
    clear hb1
    go_wp2_with fail
    refine (C2.out _ B1.out).mono ?_
    rintro e w2 ⟨rfl, hb2⟩
    have B2 : Hid (Below w.heap.size w w2) := Lib.hid (B1.out.trans (hb2.mono B1.out.size))
    clear hb2
    go_wp2_with fail
    go_ret
    exact ⟨by rw [← R.out]; rfl, B2.out⟩

/-- four lengths, a cell after the other -/
def fourL (f : Nat → RL) : Array Value := #[.int .u8 (f 0).kind, .int .i64 (f 0).n, .int .u8 (f 1).kind, .int .i64 (f 1).n, .int .u8 (f 2).kind, .int .i64 (f 2).n, .int .u8 (f 3).kind, .int .i64 (f 3).n]
set_option maxRecDepth 100000 in
theorem index_fourL (f : Nat → RL) (k : Nat) (hk : k < 4) (W : World) : (Instr.index 24 (.agg (fourL f)) (.int .i64 (k : Nat))).run Try.prog W = .ok (.agg #[.int .u8 (f k).kind, .int .i64 (f k).n]) W := by
  obtain rfl | rfl | rfl | rfl : k = 0 ∨ k = 1 ∨ k = 2 ∨ k = 3 := by omega
  all_goals kernel_rfl
set_option maxRecDepth 100000 in
theorem fourL_size (f : Nat → RL) : (Try.prog.info? 24).map (·.size) = some (fourL f).size := by kernel_rfl
set_option maxRecDepth 100000 in
theorem marginsMay_any (f : Nat → RL) (w : World) (hf : ∀ i, i < 4 → (f i).ok) (lo : Int) (hlo : lo = -274877906944) (r : Bool) (hr : lensB f 4 lo = r) :
    Calls Try.prog 60 #[.agg (fourL f)] w fun e w' => e = .returned (.bool r) ∧ Below w.heap.size w w' := by
  have F := Lib.hid hf
  have R := Lib.hid hr
  have IX : Hid (∀ k : Nat, k < 4 → ∀ W, (Instr.index 24 (.agg (fourL f)) (.int .i64 (k : Nat))).run Try.prog W = .ok (.agg #[.int .u8 (f k).kind, .int .i64 (f k).n]) W) := Lib.hid (index_fourL f)
  have SZ := Lib.hid (fourL_size f)
  have B0 : Hid (Below w.heap.size w (w.alloc (.cells (fourL f) 24))) := Lib.hid ((Below.refl _ _).alloc (Nat.le_refl _) _)
  have G0 : Hid ((w.alloc (.cells (fourL f) 24)).heap[w.heap.size]? = some (.cells (fourL f) 24 (0, 0))) := Lib.hid (heap_alloc_new w _)
  have HL := Lib.hid hlo
  clear hf hr hlo
  generalize fourL f = X at IX SZ B0 G0 ⊢
  go_enter Try.func60, Try.ntmps60
  go_wp2_with (refine wpList_load_row (o := ⟨some 5, _, _, _, _, _⟩) rfl 24 _ rfl w.heap.size rfl _ X _ _ G0.out Try.underlying24 rfl SZ.out ?_)
  go_loopw [6] (fun i wr => ∃ k : Nat, k ≤ 4 ∧ (∀ j, j < k → LenMay (f j) lo) ∧ Below w.heap.size w wr ∧ i = .int .i64 k) (fun i _ => 4 - (intOf i).toNat)
  case atStart => exact ⟨0, Nat.zero_le _, fun j hj => absurd hj (by omega), B0.out, rfl⟩
  case round =>
    obtain ⟨k, hk, hall, hB, rfl⟩ := hrel
    have A := Lib.hid hall
    have B := Lib.hid hB
    clear hall hB
    by_cases hlt : k < 4
    · have ix := IX.out k hlt
      have O : Hid (RL.ok ⟨(f k).kind, (f k).n⟩) := Lib.hid (F.out k hlt)
      by_cases hx : LenMay (f k) lo
      · have A1 : Hid (∀ j, j < k + 1 → LenMay (f j) lo) := Lib.hid fun j hj => by
          by_cases e : j = k
          · rw [e]; exact hx
          · exact A.out j (by omega)
        have V : Hid (lenB ⟨(f k).kind, (f k).n⟩ (-274877906944) = true) := Lib.hid (by rw [← HL.out]; exact decide_eq_true hx)
        clear hx
        generalize (f k).kind = K at ix V O
        generalize (f k).n = N at ix V O
        go_wp2_with (go_at_call 71; (with_reducible refine (lengthMay_at _ _ _ _ O.out true V.out).mono ?_); rintro e w1 ⟨rfl, hb1⟩; have B1 : Hid (Below w.heap.size w w1) := Lib.hid ((B.out.alloc B.out.size _).trans (hb1.mono (by have := B.out.size; simp; omega))); clear hb1)
        go_roundw
        case rel => exact ⟨k + 1, by omega, A1.out, B1.out, by go_num⟩
        case measure => simp [intOf]; omega
      · have V : Hid (lenB ⟨(f k).kind, (f k).n⟩ (-274877906944) = false) := Lib.hid (by rw [← HL.out]; exact decide_eq_false hx)
        have R1 : Hid (r = false) := Lib.hid (by
          rw [← R.out]; unfold lensB; exact decide_eq_false fun h => hx (h k hlt))
        clear hx
        generalize (f k).kind = K at ix V O
        generalize (f k).n = N at ix V O
        go_wp2_with (go_at_call 71; (with_reducible refine (lengthMay_at _ _ _ _ O.out false V.out).mono ?_); rintro e w1 ⟨rfl, hb1⟩; have B1 : Hid (Below w.heap.size w w1) := Lib.hid ((B.out.alloc B.out.size _).trans (hb1.mono (by have := B.out.size; simp; omega))); clear hb1)
        go_ret
        exact ⟨by rw [R1.out]; rfl, B1.out⟩
    · have R1 : Hid (r = true) := Lib.hid (by
        rw [← R.out]; unfold lensB; exact decide_eq_true fun i hi => A.out i (by omega))
      go_wp2
      go_ret
      exact ⟨by rw [R1.out]; rfl, B.out⟩
end Go.Proofs.Ytdadlhkbngopaaa
