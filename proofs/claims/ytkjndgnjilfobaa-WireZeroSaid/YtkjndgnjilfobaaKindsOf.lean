/-
  Where a letter stands in the table; what each letter of a schema does.
-/
import Derived.Test.YtkjndgnjilfobaaKinds
import Derived.Laws.MakeOwn
import Derived.Laws.EntriesVeiled
import Derived.StillTailTactics
namespace Go.Proofs.Ytkjndgnjilfobaa
open Go.RowKit

theorem theK_get {i k : Nat} (hi : i < 5) (hk : k < 4) : theK[i * 4 + k]? = (kcell (pick allK i))[k]? := by
  rcases (show i = 0 ∨ i = 1 ∨ i = 2 ∨ i = 3 ∨ i = 4 by omega) with rfl | rfl | rfl | rfl | rfl <;> rcases (show k = 0 ∨ k = 1 ∨ k = 2 ∨ k = 3 by omega) with rfl | rfl | rfl | rfl <;> rfl
/-- the four cells of a letter -/
def FourAt (w : World) (b o c : Nat) : Prop := w.cell? ⟨b, o, none⟩ = some (.int .u8 (c : Nat)) ∧ w.cell? ⟨b, o + 1, none⟩ = some (.func (.func (fnO c)) #[] #[]) ∧ w.cell? ⟨b, o + 2, none⟩ = some (.func (.func (fnP c)) #[] #[]) ∧ w.cell? ⟨b, o + 3, none⟩ = some (.func (.func (fnT c)) #[] #[])
theorem theK_four {w : World} {b : Nat} {t : TypeId} {fr : Nat × Nat} (h : w.heap[b]? = some (.cells theK t fr)) {i : Nat} (hi : i < 5) : FourAt w b (i * 4) (pick allK i) := by
  have key : ∀ k, k < 4 → w.cell? ⟨b, i * 4 + k, none⟩ = (kcell (pick allK i))[k]? := fun k hk => by rw [cell_of_row w b _ _ _ _ h, theK_get hi hk]
  exact ⟨key 0 (by omega), key 1 (by omega), key 2 (by omega), key 3 (by omega)⟩
def idxK (c : Nat) : Int := if c = 110 then 0 else if c = 105 then 1 else if c = 102 then 2 else if c = 98 then 3 else if c = 108 then 4 else -1
theorem idxK_at {i : Nat} (hi : i < 5) : idxK (pick allK i) = i := by
  rcases (show i = 0 ∨ i = 1 ∨ i = 2 ∨ i = 3 ∨ i = 4 by omega) with rfl | rfl | rfl | rfl | rfl <;> rfl
theorem idxK_none {c : Nat} (h : ∀ i, i < 5 → pick allK i ≠ c) : idxK c = -1 ∧ ¬ Letter c := by
  have h0 : ¬ c = 110 := fun e => h 0 (by omega) e.symm
  have h1 : ¬ c = 105 := fun e => h 1 (by omega) e.symm
  have h2 : ¬ c = 102 := fun e => h 2 (by omega) e.symm
  have h3 : ¬ c = 98 := fun e => h 3 (by omega) e.symm
  have h4 : ¬ c = 108 := fun e => h 4 (by omega) e.symm
  exact ⟨by simp [idxK, h0, h1, h2, h3, h4], by simp [Letter, h0, h1, h2, h3, h4]⟩
theorem letter_idx {c : Nat} (h : Letter c) : ∃ i, i < 5 ∧ pick allK i = c := by
  rcases h with rfl | rfl | rfl | rfl | rfl
  · exact ⟨0, by omega, rfl⟩
  · exact ⟨1, by omega, rfl⟩
  · exact ⟨2, by omega, rfl⟩
  · exact ⟨3, by omega, rfl⟩
  · exact ⟨4, by omega, rfl⟩

set_option maxRecDepth 100000 in
set_option maxHeartbeats 1000000 in
theorem kclosure_any (k : Nat) (F1 F2 F3 : Value) (s : ByteArray) (j : Nat) (hj : j < s.size) (B1 B2 : Nat) (w : World) (h1 : w.cell? ⟨B1, 0, none⟩ = some (.string s)) (h2 : w.cell? ⟨B2, 0, none⟩ = some (.int .i64 (j : Nat))) (r : Bool) (hr : ((k : Int) == (s[j].toNat : Int)) = r) :
    Calls Try.prog 37 #[.agg #[.int .u8 (k : Nat), F1, F2, F3], .pointer (some ⟨B1, 0, none⟩), .pointer (some ⟨B2, 0, none⟩)] w fun e w' => e = .returned (.bool r) ∧ Below w.heap.size w w' := by
  have b1 := lt_of_cell h1
  have b2 := lt_of_cell h2
  have g1 : ∀ o : Obj, (w.alloc o).cell? ⟨B1, 0, none⟩ = some (.string s) := fun o => by rw [World.cell?_alloc_lt w o _ b1]; exact h1
  have g2 : ∀ o : Obj, (w.alloc o).cell? ⟨B2, 0, none⟩ = some (.int .i64 (j : Nat)) := fun o => by rw [World.cell?_alloc_lt w o _ b2]; exact h2
  have BB : Hid (∀ o : Obj, Below w.heap.size w (w.alloc o)) := Lib.hid (fun o => (Below.refl _ w).alloc (Nat.le_refl _) o)
  have hjz : (j : Int) < s.size := by omega
  have hj0 : (0 : Int) ≤ j := by omega
  clear h1 h2 b1 b2
  go_enter Try.func37, Try.ntmps37
  go_wp2_with fail
  go_quiet (fail)
  go_wp2
  go_ret
  exact ⟨rfl, below_drewN (BB.out _) _⟩

set_option maxRecDepth 100000 in
set_option maxHeartbeats 2000000 in
theorem indexK_any (s : ByteArray) (j : Nat) (hj : j < s.size) (B1 B2 b4 : Nat) (t : TypeId) (fr : Nat × Nat) (w : World) (h4 : w.heap[b4]? = some (.cells theK t fr)) (h1 : w.cell? ⟨B1, 0, none⟩ = some (.string s)) (h2 : w.cell? ⟨B2, 0, none⟩ = some (.int .i64 (j : Nat))) :
    Calls Try.prog 36 #[.slice (some ⟨b4, 0, none⟩) 5 5, .func (.func 37) #[] #[.pointer (some ⟨B1, 0, none⟩), .pointer (some ⟨B2, 0, none⟩)]] w fun e w' => e = .returned (.int .i64 (idxK s[j].toNat)) ∧ Below w.heap.size w w' := by
  have H4 := Lib.hid h4
  have H1 := Lib.hid h1
  have H2 := Lib.hid h2
  have L4 := Lib.hid (lt_of_block h4)
  have L1 := Lib.hid (lt_of_cell h1)
  have L2 := Lib.hid (lt_of_cell h2)
  obtain ⟨x, hx⟩ : ∃ x, s[j].toNat = x := ⟨_, rfl⟩
  rw [hx]
  have HX := Lib.hid hx
  clear h4 h1 h2 hx
  go_enter Try.func36, Try.ntmps36
  go_wp2
  go_loopg [8] 5 (fun g1 vi wr => ∃ k : Nat, vi = .int .i64 k ∧ k ≤ 5 ∧ 5 - k ≤ g1 ∧ Hid (∀ i, i < k → pick allK i ≠ x) ∧ Hid (Below w.heap.size w wr))
  case atStart => exact ⟨0, rfl, by omega, by omega, Lib.hid (fun i hi => by omega), Lib.hid (Below.refl _ _)⟩
  case round =>
    rename World => W
    obtain ⟨k, rfl, hk, hg1, P, B⟩ := hrel
    by_cases hlt : k < 5
    · have hkz : (k : Int) < 5 := by omega
      have hk0 : (0 : Int) ≤ k := by omega
      have HI := Lib.hid (idxK_at hlt)
      have P2 : Hid (pick allK k ≠ x → ∀ i, i < k + 1 → pick allK i ≠ x) := Lib.hid (fun hne i hi => by
        rcases Nat.lt_or_ge i k with h | h
        · exact P.out i h
        · obtain rfl : i = k := by omega
          exact hne)
      obtain ⟨c0, c1, c2, c3⟩ := theK_four (w := W) (b := b4) (t := t) (fr := fr) ((B.out.block b4 L4.out).trans H4.out) hlt
      have C1 : Hid (W.cell? ⟨B1, 0, none⟩ = some (.string s)) := Lib.hid ((B.out.cell (p := ⟨B1, 0, none⟩) L1.out).trans H1.out)
      have C2 : Hid (W.cell? ⟨B2, 0, none⟩ = some (.int .i64 (j : Nat))) := Lib.hid ((B.out.cell (p := ⟨B2, 0, none⟩) L2.out).trans H2.out)
      generalize pick allK k = y at c0 c1 c2 c3 HI P2
      have KC : Hid (∀ r, ((y : Int) == (x : Int)) = r → Calls Try.prog 37 #[.agg #[.int .u8 (y : Nat), .func (.func (fnO y)) #[] #[], .func (.func (fnP y)) #[] #[], .func (.func (fnT y)) #[] #[]], .pointer (some ⟨B1, 0, none⟩), .pointer (some ⟨B2, 0, none⟩)] W fun e w' => e = .returned (.bool r) ∧ Below W.heap.size W w') := Lib.hid (fun r hr => kclosure_any y _ _ _ s j hj B1 B2 W C1.out C2.out r (by rw [HX.out]; exact hr))
      generalize fnO y = f1 at c1 KC
      generalize fnP y = f2 at c2 KC
      generalize fnT y = f3 at c3 KC
      by_cases he : y = x
      · have hr : ((y : Int) == (x : Int)) = true := by rw [he]; simp
        have K2 := Lib.hid (KC.out true hr)
        have E : Hid (idxK x = (k : Int)) := Lib.hid (by rw [← he]; exact HI.out)
        clear hr he
        go_wp2_with fail
        refine K2.out.mono ?_
        rintro e w2 ⟨rfl, hb⟩
        have B2 := Lib.hid (B.out.trans (hb.mono B.out.size))
        clear hb
        go_wp2
        go_ret
        exact ⟨by rw [E.out]; rfl, B2.out⟩
      · have hr : ((y : Int) == (x : Int)) = false := by simp; omega
        have K2 := Lib.hid (KC.out false hr)
        have P3 := Lib.hid (P2.out he)
        clear hr he
        go_wp2_with fail
        refine K2.out.mono ?_
        rintro e w2 ⟨rfl, hb⟩
        have B2 := Lib.hid (B.out.trans (hb.mono B.out.size))
        clear hb c0 c1 c2 c3
        go_wp2
        go_roundg (5 - (k + 1))
        case measure => omega
        case rel => exact ⟨k + 1, by go_num, by omega, Nat.le_refl _, P3, B2⟩
    · obtain rfl : k = 5 := by omega
      have E := Lib.hid (idxK_none P.out).1
      go_wp2
      go_ret
      exact ⟨by rw [E.out]; rfl, B.out⟩

/-- the first j of n rows of four cells are what the letters do -/
def KRow (w : World) (g n : Nat) (s : List Nat) (j : Nat) : Prop := ∃ cur : Array Value, w.heap[g]? = some (.cells cur 63 (0, 0)) ∧ cur.size = n * 4 ∧ ∀ i, i < j → ∀ k, k < 4 → cur[i * 4 + k]? = (kcell (pick s i))[k]?
theorem KRow.lt {w : World} {g n j : Nat} {s : List Nat} (h : KRow w g n s j) : g < w.heap.size := by
  obtain ⟨cur, h1, -⟩ := h
  exact lt_of_block h1
theorem KRow.keep {w w' : World} {g n j : Nat} {s : List Nat} (h : KRow w g n s j) (hk : w'.heap[g]? = w.heap[g]?) : KRow w' g n s j := by
  obtain ⟨cur, h1, h2⟩ := h
  exact ⟨cur, hk.trans h1, h2⟩
theorem KRow.four {w : World} {g n j i : Nat} {s : List Nat} (h : KRow w g n s j) (hi : i < j) : FourAt w g (i * 4) (pick s i) := by
  obtain ⟨cur, h1, h2, h3⟩ := h
  have key : ∀ k, k < 4 → w.cell? ⟨g, i * 4 + k, none⟩ = (kcell (pick s i))[k]? := fun k hk => by rw [cell_of_row w g _ _ _ _ h1, h3 i hi k hk]
  exact ⟨key 0 (by omega), key 1 (by omega), key 2 (by omega), key 3 (by omega)⟩
theorem KRow.there {w : World} {g n j i : Nat} {s : List Nat} (h : KRow w g n s j) (hi : i < n * 4) : ∃ v, w.cell? ⟨g, i, none⟩ = some v := by
  obtain ⟨cur, h1, h2, h3⟩ := h
  exact ⟨cur[i], by rw [cell_of_row w g _ _ _ _ h1]; simp⟩
theorem KRow.free {w : World} {g n j : Nat} {s : List Nat} (h : KRow w g n s j) (i : Nat) : w.frozen? ⟨g, i, none⟩ = false := by
  obtain ⟨cur, h1, h2, h3⟩ := h
  simp [World.frozen?, h1]
theorem KRow.put {w : World} {g n j : Nat} {s : List Nat} (h : KRow w g n s j) (hj : j < n) {v0 v1 v2 v3 : Value} (hv : kcell (pick s j) = [v0, v1, v2, v3]) :
    KRow ((((w.setCell ⟨g, j * 4, none⟩ v0).setCell ⟨g, j * 4 + 1, none⟩ v1).setCell ⟨g, j * 4 + 2, none⟩ v2).setCell ⟨g, j * 4 + 3, none⟩ v3) g n s (j + 1) := by
  obtain ⟨cur, h1, h2, h3⟩ := h
  refine ⟨(((cur.setIfInBounds (j * 4) v0).setIfInBounds (j * 4 + 1) v1).setIfInBounds (j * 4 + 2) v2).setIfInBounds (j * 4 + 3) v3, ?_, by simp [h2], ?_⟩
  · rw [setCell_eq_setRow _ _ _ _ _ _ _ h1, setCell_eq_setRow _ _ _ _ _ _ _ (setRow_heap _ _ _ _ _ _ h1), setRow_setRow, setCell_eq_setRow _ _ _ _ _ _ _ (setRow_heap _ _ _ _ _ _ h1), setRow_setRow,
      setCell_eq_setRow _ _ _ _ _ _ _ (setRow_heap _ _ _ _ _ _ h1), setRow_setRow, setRow_heap _ _ _ _ _ _ h1]
  · intro i hi k hk
    rcases Nat.lt_or_ge i j with h | h
    · rw [Array.getElem?_setIfInBounds_ne (by omega), Array.getElem?_setIfInBounds_ne (by omega), Array.getElem?_setIfInBounds_ne (by omega), Array.getElem?_setIfInBounds_ne (by omega)]
      exact h3 i h k hk
    · obtain rfl : i = j := by omega
      rw [hv]
      rcases (show k = 0 ∨ k = 1 ∨ k = 2 ∨ k = 3 by omega) with rfl | rfl | rfl | rfl
      · rw [Array.getElem?_setIfInBounds_ne (by omega), Array.getElem?_setIfInBounds_ne (by omega), Array.getElem?_setIfInBounds_ne (by omega), Nat.add_zero, Array.getElem?_setIfInBounds_self_of_lt (by omega)]; rfl
      · rw [Array.getElem?_setIfInBounds_ne (by omega), Array.getElem?_setIfInBounds_ne (by omega), Array.getElem?_setIfInBounds_self_of_lt (by simp; omega)]; rfl
      · rw [Array.getElem?_setIfInBounds_ne (by omega), Array.getElem?_setIfInBounds_self_of_lt (by simp; omega)]; rfl
      · rw [Array.getElem?_setIfInBounds_self_of_lt (by simp; omega)]; rfl
theorem Try.infoK : (Try.prog.info? 63).map (fun i => (i.zero, i.size, i.bytes)) = some (some (.agg #[.int .u8 0, .nilFunc, .nilFunc, .nilFunc]), 4, 32) := by kernel_rfl
theorem made_kinds (n : Nat) (hn : n ≤ 1000) : ∃ cs : Array Value, cs.size = n * 4 ∧ ∀ W : World, (Instr.makeSlice 55 (.int .i64 (n : Nat)) (.int .i64 (n : Nat))).run Try.prog W = .ok (.slice (some ⟨W.heap.size, 0, none⟩) n n) (W.alloc (.cells cs 63)) := by
  obtain ⟨i0, hi, hz0, hz1, hz2⟩ := info_parts Try.infoK
  refine ⟨madeCells #[.int .u8 0, .nilFunc, .nilFunc, .nilFunc] (n * 4), size_madeCells _ _, fun W => ?_⟩
  have := run_make (P := Try.prog) W 55 63 i0 _ Try.underlying55 hi hz0 .i64 .i64 (n : Nat) (n : Nat) (by omega) (by omega) (by rw [hz2]; omega) (by omega)
  rw [Int.toNat_natCast, hz1] at this
  exact this

/-- what kindsOf answers -/
def KAns (s : ByteArray) (w : World) (e : Ending) (w' : World) : Prop :=
  Below w.heap.size w w' ∧ ((¬ Schema (letters s) ∧ e = .returned (.tuple #[.slice none 0 0, .bool false])) ∨
    (Schema (letters s) ∧ ∃ g, e = .returned (.tuple #[.slice (some ⟨g, 0, none⟩) s.size s.size, .bool true]) ∧ w.heap.size ≤ g ∧ KRow w' g s.size (letters s) s.size))

set_option maxRecDepth 100000 in
set_option maxHeartbeats 4000000 in
theorem kindsOf_any (s : ByteArray) (w : World) (hs : s.size ≤ 9223372036854775807) : Calls Try.prog 24 #[.string s] w (KAns s w) := by
  have BB : Hid (∀ o : Obj, Below w.heap.size w (w.alloc o)) := Lib.hid (fun o => (Below.refl _ w).alloc (Nat.le_refl _) o)
  by_cases hl : 64 < s.size
  · have hz : (64 : Int) < s.size := by omega
    have N : Hid (¬ Schema (letters s)) := Lib.hid (fun h => by have := h.2; rw [letters_len] at this; omega)
    go_enter Try.func24, Try.ntmps24
    go_wp2
    go_ret2
    exact ⟨BB.out _, .inl ⟨N.out, rfl⟩⟩
  · have hz : ¬ (64 : Int) < s.size := by omega
    obtain ⟨cs, hcs, hmk⟩ := made_kinds s.size (by omega)
    have SB : Hid ((w.alloc (.cells #[.string s] 9)).cell? ⟨w.heap.size, 0, none⟩ = some (.string s)) := Lib.hid (by simp [World.cell?_alloc_at])
    have HC := Lib.hid hcs
    clear hcs
    go_enter Try.func24, Try.ntmps24
    go_wp2_with (go_at_call 35; refine (kinds_any _).mono ?_; rintro e w2 ⟨rfl, hb⟩; have hsc := run_storeCells_new (P := Try.prog) w2 75 noK theK (by kernel_rfl) rfl theK_one; unfold noK at hsc; have B2 := Lib.hid ((BB.out (.cells #[.string s] 9)).trans (hb.mono (by simp))); have S2 := Lib.hid ((hb.cell (p := ⟨w.heap.size, 0, none⟩) (by simp)).trans SB.out); clear hb; have hsz : theK.size = 20 := rfl; have s3 : (w2.alloc (.cells theK 75)).cell? ⟨w.heap.size, 0, none⟩ = some (.string s) := (by rw [World.cell?_alloc_lt w2 _ _ (lt_of_cell S2.out)]; exact S2.out))
    have Z2 : Hid (w.heap.size < w2.heap.size) := Lib.hid (lt_of_cell S2.out)
    have K0 : Hid (KRow ((w2.alloc (.cells theK 75)).alloc (.cells cs 63)) (w2.heap.size + 1) s.size (letters s) 0) := Lib.hid ⟨cs, heap_alloc2_new _ _ _, HC.out, fun i hi => by omega⟩
    have T0 : Hid (((w2.alloc (.cells theK 75)).alloc (.cells cs 63)).heap[w2.heap.size]? = some (.cells theK 75 (0, 0))) := Lib.hid (heap_alloc2_old _ _ _)
    have B3 : Hid (Below w.heap.size w ((w2.alloc (.cells theK 75)).alloc (.cells cs 63))) := Lib.hid ((B2.out.alloc B2.out.size _).alloc (by have := B2.out.size; simp; omega) _)
    have S3 : Hid (((w2.alloc (.cells theK 75)).alloc (.cells cs 63)).cell? ⟨w.heap.size, 0, none⟩ = some (.string s)) := Lib.hid (by rw [World.cell?_alloc_lt _ _ _ (lt_of_cell s3)]; exact s3)
    generalize (w2.alloc (.cells theK 75)).alloc (.cells cs 63) = w3 at K0 T0 B3 S3 ⊢
    clear s3 hsc hsz B2 S2 SB HC hmk
    go_loopg [17] s.size (fun g1 vi wr => ∃ j : Nat, vi = .int .i64 j ∧ j ≤ s.size ∧ s.size - j ≤ g1 ∧ Hid (∀ c ∈ (letters s).take j, Letter c) ∧ Hid (wr.cell? ⟨w.heap.size, 0, none⟩ = some (.string s)) ∧ Hid (wr.heap[w2.heap.size]? = some (.cells theK 75 (0, 0))) ∧ Hid (KRow wr (w2.heap.size + 1) s.size (letters s) j) ∧ Hid (Below w.heap.size w wr))
    case atStart => exact ⟨0, rfl, by omega, by omega, Lib.hid (by simp), S3, T0, K0, B3⟩
    case round =>
      clear K0 T0 B3 S3
      rename World => W
      obtain ⟨j, rfl, hj, hg1, HL, S, T, K, B⟩ := hrel
      by_cases hlt : j < s.size
      · have hjz : (j : Int) < s.size := by omega
        have hj0 : (0 : Int) ≤ j := by omega
        have TK := Lib.hid (letters_take s hlt)
        have GK := Lib.hid (letters_get s hlt)
        have ZK := Lib.hid K.out.lt
        have S4 : Hid ((W.alloc (.cells #[.int .i64 (j : Nat)] 3)).cell? ⟨w.heap.size, 0, none⟩ = some (.string s)) := Lib.hid (by rw [World.cell?_alloc_lt W _ _ (lt_of_cell S.out)]; exact S.out)
        have J4 : Hid ((W.alloc (.cells #[.int .i64 (j : Nat)] 3)).cell? ⟨W.heap.size, 0, none⟩ = some (.int .i64 (j : Nat))) := Lib.hid (by simp [World.cell?_alloc_at])
        have T4 : Hid ((W.alloc (.cells #[.int .i64 (j : Nat)] 3)).heap[w2.heap.size]? = some (.cells theK 75 (0, 0))) := Lib.hid ((Below.heap_alloc _ _ _ (by have := ZK.out; omega)).trans T.out)
        have B4 : Hid (Below W.heap.size W (W.alloc (.cells #[.int .i64 (j : Nat)] 3))) := Lib.hid ((Below.refl _ W).alloc (Nat.le_refl _) _)
        have IX := Lib.hid (indexK_any s j hlt w.heap.size W.heap.size w2.heap.size 75 (0, 0) _ T4.out S4.out J4.out)
        obtain ⟨x, hx⟩ : ∃ x, s[j].toNat = x := ⟨_, rfl⟩
        rw [hx] at TK IX GK
        clear hx
        by_cases hL : Letter x
        · obtain ⟨i, hi, hix⟩ := letter_idx hL
          have HI := Lib.hid (idxK_at hi)
          rw [hix] at HI
          rw [HI.out] at IX
          have HL2 : Hid (∀ c ∈ (letters s).take (j + 1), Letter c) := Lib.hid (fun c hc => by
            rw [TK.out, List.mem_append] at hc
            rcases hc with hc | hc
            · exact HL.out c hc
            · obtain rfl : c = x := by simpa using hc
              exact hL)
          have PX : Hid (pick (letters s) j = x) := Lib.hid (by unfold pick; rw [GK.out]; rfl)
          have HIX := Lib.hid hix
          have hi5 : (i : Int) < 5 := by omega
          have hi0 : (0 : Int) ≤ i := by omega
          have hin : ¬ (i : Int) < 0 := by omega
          clear HL TK GK hL hix HI
          go_wp2_with (go_at_call 36; refine IX.out.mono ?_; rintro e w5 ⟨rfl, hb⟩)
          have B5 := Lib.hid (B4.out.trans (hb.mono (by simp)))
          have J5 := (hb.cell (p := ⟨W.heap.size, 0, none⟩) (by simp)).trans J4.out
          have T5 : Hid (w5.heap[w2.heap.size]? = some (.cells theK 75 (0, 0))) := Lib.hid ((B5.out.block w2.heap.size (by have := ZK.out; omega)).trans T.out)
          have S5 : Hid (w5.cell? ⟨w.heap.size, 0, none⟩ = some (.string s)) := Lib.hid ((B5.out.cell (p := ⟨w.heap.size, 0, none⟩) (lt_of_cell S.out)).trans S.out)
          have K5 : Hid (KRow w5 (w2.heap.size + 1) s.size (letters s) j) := Lib.hid (K.out.keep (B5.out.block _ ZK.out))
          obtain ⟨f0, f1, f2, f3⟩ := theK_four T5.out hi
          rw [HIX.out] at f0 f1 f2 f3
          clear hb S4 J4 T4 B4 IX S T K
          generalize hy1 : fnO x = y1 at f1
          generalize hy2 : fnP x = y2 at f2
          generalize hy3 : fnT x = y3 at f3
          have KV : Hid (kcell (pick (letters s) j) = [.int .u8 (x : Nat), .func (.func y1) #[] #[], .func (.func y2) #[] #[], .func (.func y3) #[] #[]]) := Lib.hid (by rw [PX.out, ← hy1, ← hy2, ← hy3]; rfl)
          clear hy1 hy2 hy3
          go_still_tail 6, (by kernel_rfl)
          change wpList _ _ _ _ _ w5.drew
          have T6 : Hid (w5.drew.heap[w2.heap.size]? = some (.cells theK 75 (0, 0))) := Lib.hid T5.out
          have S6 : Hid (w5.drew.cell? ⟨w.heap.size, 0, none⟩ = some (.string s)) := Lib.hid S5.out
          have K6 : Hid (KRow w5.drew (w2.heap.size + 1) s.size (letters s) j) := Lib.hid (K5.out.keep rfl)
          have B6 : Hid (Below w.heap.size w w5.drew) := Lib.hid (B.out.trans (B5.out.mono B.out.size)).drew
          generalize w5.drew = w6 at T6 S6 K6 B6 ⊢
          clear f0 f1 f2 f3 J5 T5 S5 K5 B5
          obtain ⟨v0, o0⟩ := K6.out.there (i := j * 4) (by omega)
          obtain ⟨v1, o1⟩ := K6.out.there (i := j * 4 + 1) (by omega)
          obtain ⟨v2, o2⟩ := K6.out.there (i := j * 4 + 2) (by omega)
          obtain ⟨v3, o3⟩ := K6.out.there (i := j * 4 + 3) (by omega)
          have z0 := K6.out.free (j * 4)
          have z1 := K6.out.free (j * 4 + 1)
          have z2 := K6.out.free (j * 4 + 2)
          have z3 := K6.out.free (j * 4 + 3)
          go_wp2
          have KN := Lib.hid (K6.out.put (by omega) KV.out)
          have NB : Hid (∀ (k : Nat), k ≠ w2.heap.size + 1 → ∀ (a b c d : Value), ((((w6.setCell ⟨w2.heap.size + 1, j * 4, none⟩ a).setCell ⟨w2.heap.size + 1, j * 4 + 1, none⟩ b).setCell ⟨w2.heap.size + 1, j * 4 + 2, none⟩ c).setCell ⟨w2.heap.size + 1, j * 4 + 3, none⟩ d).heap[k]? = w6.heap[k]?) := Lib.hid (fun k hk a b c d => by
            rw [Below.heap_setCell _ _ _ _ hk, Below.heap_setCell _ _ _ _ hk, Below.heap_setCell _ _ _ _ hk, Below.heap_setCell _ _ _ _ hk])
          go_roundg (s.size - (j + 1))
          case measure => omega
          case rel => exact ⟨j + 1, by go_num, by omega, Nat.le_refl _, HL2, Lib.hid ((World.cell?_of_block (a := ⟨w.heap.size, 0, none⟩) (NB.out _ (by show w.heap.size ≠ _; have := Z2.out; omega) _ _ _ _)).trans S6.out), Lib.hid ((NB.out _ (by omega) _ _ _ _).trans T6.out), KN, Lib.hid ((((B6.out.setCell (by have := Z2.out; show w.heap.size ≤ w2.heap.size + 1; omega) _).setCell (by have := Z2.out; show w.heap.size ≤ w2.heap.size + 1; omega) _).setCell (by have := Z2.out; show w.heap.size ≤ w2.heap.size + 1; omega) _).setCell (by have := Z2.out; show w.heap.size ≤ w2.heap.size + 1; omega) _)⟩
        · have hneg : idxK x = -1 := (idxK_none (fun i hi e => hL (by
            have : x ∈ allK := List.mem_of_getElem? (i := i) (by rw [← e]; exact pick_get (l := allK) hi)
            simp [allK] at this
            unfold Letter
            omega))).1
          rw [hneg] at IX
          have N : Hid (¬ Schema (letters s)) := Lib.hid (fun h => hL (h.1 x (List.mem_of_getElem? GK.out)))
          clear hneg hL HL TK GK
          go_wp2_with (go_at_call 36; refine IX.out.mono ?_; rintro e w5 ⟨rfl, hb⟩; have B5 : Hid (Below w.heap.size w w5) := Lib.hid (B.out.trans ((B4.out.trans (hb.mono (by simp))).mono B.out.size)); clear hb)
          go_ret2
          exact ⟨B5.out, .inl ⟨N.out, rfl⟩⟩
      · obtain rfl : j = s.size := by omega
        have SC : Hid (Schema (letters s)) := Lib.hid ⟨by rw [List.take_of_length_le (by rw [letters_len]; omega)] at HL; exact HL.out, by rw [letters_len]; omega⟩
        go_wp2
        go_ret2
        exact ⟨B.out, .inr ⟨SC.out, w2.heap.size + 1, rfl, by have := Z2.out; omega, K.out⟩⟩
end Go.Proofs.Ytkjndgnjilfobaa
