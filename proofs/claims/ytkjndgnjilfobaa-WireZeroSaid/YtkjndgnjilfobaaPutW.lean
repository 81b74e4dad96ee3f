/-
  The landed wire's Put.
-/
import Derived.Test.YtkjndgnjilfobaaLetters
namespace Go.Proofs.Ytkjndgnjilfobaa
open Go.RowKit

/-- a value in a box -/
def Box5 (W : World) (b : Nat) (v : RV) : Prop := W.cell? ⟨b, 0, none⟩ = some (.int .u64 (v.n : Nat)) ∧ W.cell? ⟨b, 1, none⟩ = some (.int .i64 v.i) ∧ W.cell? ⟨b, 2, none⟩ = some (.bool v.f) ∧ W.cell? ⟨b, 3, none⟩ = some (.slice v.bA v.bn v.bc) ∧ W.cell? ⟨b, 4, none⟩ = some (.slice v.lA v.ln v.lc)
theorem box5_new (W : World) (v : RV) : Box5 (W.alloc (.cells #[.int .u64 (v.n : Nat), .int .i64 v.i, .bool v.f, .slice v.bA v.bn v.bc, .slice v.lA v.ln v.lc] 42)) W.heap.size v := ⟨by simp [World.cell?_alloc_at], by simp [World.cell?_alloc_at], by simp [World.cell?_alloc_at], by simp [World.cell?_alloc_at], by simp [World.cell?_alloc_at]⟩
theorem Box5.lt {W : World} {b : Nat} {v : RV} (h : Box5 W b v) : b < W.heap.size := lt_of_cell h.1
theorem Box5.below {W W' : World} {b : Nat} {v : RV} (h : Box5 W b v) (hb : Below W.heap.size W W') : Box5 W' b v := by
  have hl := h.lt
  obtain ⟨h0, h1, h2, h3, h4⟩ := h
  exact ⟨(hb.cell (p := ⟨b, 0, none⟩) hl).trans h0, (hb.cell (p := ⟨b, 1, none⟩) hl).trans h1, (hb.cell (p := ⟨b, 2, none⟩) hl).trans h2, (hb.cell (p := ⟨b, 3, none⟩) hl).trans h3, (hb.cell (p := ⟨b, 4, none⟩) hl).trans h4⟩
theorem Box5.off {W : World} {b g i : Nat} {v : RV} {u : Value} (h : Box5 W b v) (hg : b ≠ g) : Box5 (W.setCell ⟨g, i, none⟩ u) b v := by
  have e : (W.setCell ⟨g, i, none⟩ u).heap[b]? = W.heap[b]? := Below.heap_setCell _ _ _ _ hg
  obtain ⟨h0, h1, h2, h3, h4⟩ := h
  exact ⟨(World.cell?_of_block (a := ⟨b, 0, none⟩) e).trans h0, (World.cell?_of_block (a := ⟨b, 1, none⟩) e).trans h1, (World.cell?_of_block (a := ⟨b, 2, none⟩) e).trans h2, (World.cell?_of_block (a := ⟨b, 3, none⟩) e).trans h3, (World.cell?_of_block (a := ⟨b, 4, none⟩) e).trans h4⟩
instance : Inhabited Piece := ⟨⟨none, 0, 0, fun _ => 0⟩⟩
theorem form_short {w : World} {v : RV} (hv : v.ok w) (hb : v.bn ≤ 262144) (hl : v.ln ≤ 4096) (c : Nat) : (form c v.mean).length ≤ 262154 := by
  obtain ⟨h1, h2, ⟨h3, -, h4, h5⟩, ⟨h6, -, h7, h8⟩⟩ := hv
  have w1 := word_ten h1
  have w2 := word_ten (foldN_lt h2)
  have w3 := word_ten (n := v.bn) (by omega)
  have w4 := word_ten (n := v.ln) (by omega)
  have w5 := flat_le (seg v.lf 0 v.ln) (longs_lt h6)
  unfold form RV.mean
  dsimp only
  rw [seg_len, seg_len]
  rw [seg_len] at w5
  split
  · omega
  · split
    · omega
    · split
      · simp
      · split
        · rw [List.length_append, seg_len]; omega
        · rw [List.length_append]; omega

theorem Try.infoS : (Try.prog.info? 25).map (fun i => (i.zero, i.size, i.bytes)) = some (some (.slice none 0 0), 1, 24) := by kernel_rfl
theorem made_rows (n : Nat) (hn : n ≤ 1000) : ∃ cs : Array Value, cs.size = n ∧ ∀ W : World, (Instr.makeSlice 66 (.int .i64 (n : Nat)) (.int .i64 (n : Nat))).run Try.prog W = .ok (.slice (some ⟨W.heap.size, 0, none⟩) n n) (W.alloc (.cells cs 25)) := by
  obtain ⟨i0, hi, hz0, hz1, hz2⟩ := info_parts Try.infoS
  refine ⟨madeCells #[.slice none 0 0] (n * 1), by rw [size_madeCells, Nat.mul_one], fun W => ?_⟩
  have := run_make (P := Try.prog) W 66 25 i0 _ Try.underlying66 hi hz0 .i64 .i64 (n : Nat) (n : Nat) (by omega) (by omega) (by rw [hz2]; omega) (by omega)
  rw [Int.toNat_natCast, hz1] at this
  exact this
/-- the first k of a row of n rows of bytes -/
def PRow (w : World) (g n : Nat) (P : Nat → Piece) (k : Nat) : Prop := ∃ cur : Array Value, w.heap[g]? = some (.cells cur 25 (0, 0)) ∧ cur.size = n ∧ ∀ i, i < k → cur[i]? = some (.slice (P i).A (P i).n (P i).c)
theorem PRow.lt {w : World} {g n k : Nat} {P : Nat → Piece} (h : PRow w g n P k) : g < w.heap.size := by
  obtain ⟨cur, h1, -⟩ := h
  exact lt_of_block h1
theorem PRow.keep {w w' : World} {g n k : Nat} {P : Nat → Piece} (h : PRow w g n P k) (hk : w'.heap[g]? = w.heap[g]?) : PRow w' g n P k := by
  obtain ⟨cur, h1, h2⟩ := h
  exact ⟨cur, hk.trans h1, h2⟩
theorem PRow.there {w : World} {g n k i : Nat} {P : Nat → Piece} (h : PRow w g n P k) (hi : i < n) : ∃ v, w.cell? ⟨g, i, none⟩ = some v := by
  obtain ⟨cur, h1, h2, h3⟩ := h
  exact ⟨cur[i], by rw [cell_of_row w g _ _ _ _ h1]; simp⟩
theorem PRow.free {w : World} {g n k : Nat} {P : Nat → Piece} (h : PRow w g n P k) (i : Nat) : w.frozen? ⟨g, i, none⟩ = false := by
  obtain ⟨cur, h1, h2, h3⟩ := h
  simp [World.frozen?, h1]
def updP (P : Nat → Piece) (k : Nat) (p : Piece) (i : Nat) : Piece := if i = k then p else P i
theorem PRow.put {w : World} {g n k : Nat} {P : Nat → Piece} (h : PRow w g n P k) (hk : k < n) (p : Piece) : PRow (w.setCell ⟨g, k, none⟩ (.slice p.A p.n p.c)) g n (updP P k p) (k + 1) := by
  obtain ⟨cur, h1, h2, h3⟩ := h
  refine ⟨cur.setIfInBounds k (.slice p.A p.n p.c), ?_, by simp [h2], fun i hi => ?_⟩
  · rw [setCell_eq_setRow _ _ _ _ _ _ _ h1, setRow_heap _ _ _ _ _ _ h1]
  · unfold updP
    rcases Nat.lt_or_ge i k with h | h
    · rw [Array.getElem?_setIfInBounds_ne (by omega), if_neg (by omega)]
      exact h3 i h
    · obtain rfl : i = k := by omega
      rw [Array.getElem?_setIfInBounds_self_of_lt (by omega), if_pos rfl]
/-- the first k pieces are the values' bytes, and lie in no block of the row -/
def PGood (w : World) (g : Nat) (P : Nat → Piece) (k : Nat) (L : List Nat) (V : Nat → RV) : Prop := ∀ i, i < k → (P i).ok w ∧ seg (P i).f 0 (P i).n = form (pick L i) (V i).mean ∧ ∀ p, (P i).A = some p → p.block ≠ g ∧ p.block < w.heap.size
theorem PGood.below {w w' : World} {g k : Nat} {P : Nat → Piece} {L : List Nat} {V : Nat → RV} (h : PGood w g P k L V) (hb : Below w.heap.size w w') : PGood w' g P k L V := fun i hi =>
  ⟨(h i hi).1.below hb, (h i hi).2.1, fun p hp => ⟨((h i hi).2.2 p hp).1, Nat.lt_of_lt_of_le ((h i hi).2.2 p hp).2 hb.size⟩⟩
theorem Piece.ok.off {w : World} {p : Piece} {g i : Nat} {v : Value} (h : p.ok w) (hg : ∀ a, p.A = some a → a.block ≠ g) : p.ok (w.setCell ⟨g, i, none⟩ v) := by
  refine ⟨⟨h.1.1, fun hn => ?_⟩, h.2⟩
  obtain ⟨b, off, e, hb, hc⟩ := h.1.2 hn
  refine ⟨b, off, e, by simpa using hb, fun j hj => ?_⟩
  rw [← hc j hj]
  exact World.cell?_of_block (Below.heap_setCell _ _ _ _ (by have := hg _ e; exact this))
theorem PGood.put {w : World} {g k j : Nat} {P : Nat → Piece} {L : List Nat} {V : Nat → RV} {v : Value} {p : Piece} (h : PGood w g P k L V) (hp : p.ok w) (hs : seg p.f 0 p.n = form (pick L k) (V k).mean) (ha : ∀ a, p.A = some a → a.block ≠ g ∧ a.block < w.heap.size) : PGood (w.setCell ⟨g, j, none⟩ v) g (updP P k p) (k + 1) L V := fun i hi => by
  unfold updP
  by_cases e : i = k
  · subst e
    rw [if_pos rfl]
    exact ⟨hp.off fun a e => (ha a e).1, hs, fun a e => ⟨(ha a e).1, by simpa using (ha a e).2⟩⟩
  · rw [if_neg e]
    obtain ⟨h1, h2, h3⟩ := h i (by omega)
    exact ⟨h1.off fun a e => (h3 a e).1, h2, fun a e => ⟨(h3 a e).1, by simpa using (h3 a e).2⟩⟩
theorem cat_forms {w : World} {g : Nat} {P : Nat → Piece} {L : List Nat} {V : Nat → RV} : ∀ (k : Nat), k ≤ L.length → PGood w g P k L V → cat P k = forms (L.take k) (means V k)
  | 0, _, _ => by simp [cat, forms]
  | k + 1, hk, h => by
    rw [forms_next (V := V) (s := L) (k := k) hk, ← cat_forms k (by omega) (fun i hi => h i (by omega)), pick_getD, cat, (h k (by omega)).2.1]
theorem PRow.pieces {w : World} {g n : Nat} {P : Nat → Piece} {L : List Nat} {V : Nat → RV} (h : PRow w g n P n) (hp : PGood w g P n L V) : Pieces w (some ⟨g, 0, none⟩) n P := by
  refine ⟨fun j hj => (hp j hj).1, fun _ => ⟨g, 0, rfl, h.lt, fun j hj => ?_⟩⟩
  obtain ⟨cur, h1, h2, h3⟩ := h
  rw [cell_of_row w g _ _ _ _ h1, Nat.zero_add, h3 j hj]
theorem total_le {P : Nat → Piece} {n M : Nat} (h : ∀ j, j < n → (P j).n ≤ M) : total P n ≤ M * n := by
  induction n with
  | zero => exact Nat.zero_le _
  | succ n ih =>
    have h1 := ih fun j hj => h j (by omega)
    have h2 := h n (by omega)
    show total P n + _ ≤ _
    rw [Nat.mul_succ]
    omega

set_option maxRecDepth 100000 in
set_option maxHeartbeats 8000000 in
/-- the first loop: is each value its letter's? -/
theorem putW_any : PutOK := by
  intro s A n c V w hs hV
  have KO1 := Lib.hid (fun W => kindsOf_any s W hs)
  have H := Lib.hid hV.1
  have HIN := Lib.hid hV
  have n1 := hV.2.2.2
  have LS := Lib.hid (letters_len s)
  clear hV
  go_enter Try.func12, Try.ntmps12
  go_wp2_with fail
  refine (KO1.out w).mono ?_
  rintro e w1 ⟨hb1, h | h⟩
  · obtain ⟨hns, rfl⟩ := h
    have B1 := Lib.hid hb1
    have NG : Hid (¬ Good (letters s) (means V n)) := Lib.hid (fun hG => hns hG.1)
    clear hb1 hns
    go_wp2
    go_ret2
    exact ⟨B1.out, .inl ⟨NG.out, rfl⟩⟩
  · obtain ⟨hsc, g, rfl, hg, hK⟩ := h
    have B1 := Lib.hid hb1
    have K1 := Lib.hid hK
    have SC := Lib.hid hsc
    have h64 : s.size ≤ 64 := by have := hsc.2; rw [letters_len] at this; exact this
    clear hb1 hK hsc
    by_cases hln : s.size = n
    · obtain rfl := hln
      have hx : ((s.size : Int) != (s.size : Int)) = false := by simp
      go_wp2_with fail
      go_loopg [29] s.size (fun g1 vi wr => ∃ k : Nat, vi = .int .i64 k ∧ k ≤ s.size ∧ s.size - k ≤ g1 ∧ Hid (∀ j, j < k → Fits (pick (letters s) j) (V j).mean) ∧ Hid (KRow wr g s.size (letters s) s.size) ∧ Hid (Below w.heap.size w wr))
      case atStart => exact ⟨0, rfl, by omega, by omega, Lib.hid (fun j hj => by omega), K1, B1⟩
      case round =>
        rename World => W
        obtain ⟨k, rfl, hk, hg1, P, K, Bl⟩ := hrel
        by_cases hlt : k < s.size
        · have hkz : (k : Int) < s.size := by omega
          have hk0 : (0 : Int) ≤ k := by omega
          obtain ⟨b, off, rfl, hb, hfive⟩ := H.out.at_ hlt
          obtain ⟨h1, h2, h3, h4, h5⟩ := hfive.keep (w' := W) fun o => Bl.out.cell (p := ⟨b, o, none⟩) hb
          have LT : Hid (Letter (pick (letters s) k)) := Lib.hid (SC.out.1 _ (List.mem_of_getElem? (pick_get (l := letters s) (by rw [LS.out]; exact hlt))))
          have VO := Lib.hid ((H.out.1 k hlt).below Bl.out)
          have PE : Hid (Fits (pick (letters s) k) (V k).mean → ∀ j, j < k + 1 → Fits (pick (letters s) j) (V j).mean) := Lib.hid (fun he j hj => by
            rcases Nat.lt_or_ge j k with h | h
            · exact P.out j h
            · obtain rfl : j = k := by omega
              exact he)
          have PN : Hid (¬ Fits (pick (letters s) k) (V k).mean → ¬ Good (letters s) (means V s.size)) := Lib.hid (fun he hG => he (by
            have := ((allFit_iff _ _ _).1 hG.2).2 k hlt
            rwa [pick_getD] at this))
          have F4 : Hid (FourAt W g (k * 4) (pick (letters s) k)) := Lib.hid (K.out.four hlt)
          have ZG := Lib.hid K.out.lt
          clear hfive hb P
          generalize V k = v at h1 h2 h3 h4 h5 VO PE PN
          generalize pick (letters s) k = x at LT PE PN F4
          have X := Lib.hid (box5_new W v)
          have BA : Hid (Below W.heap.size W (W.alloc (.cells #[.int .u64 (v.n : Nat), .int .i64 v.i, .bool v.f, .slice v.bA v.bn v.bc, .slice v.lA v.ln v.lc] 42))) := Lib.hid ((Below.refl _ W).alloc (Nat.le_refl _) _)
          have KO := Lib.hid (onlyK LT.out v)
          have EN := fnO_enters LT.out
          have OO := Lib.hid (onlyOf_ok VO.out LT.out)
          have FI := Lib.hid (only_fits LT.out v)
          have CF : Hid ((W.alloc (.cells #[.int .u64 (v.n : Nat), .int .i64 v.i, .bool v.f, .slice v.bA v.bn v.bc, .slice v.lA v.ln v.lc] 42)).cell? ⟨g, k * 4 + 1, none⟩ = some (.func (.func (fnO x)) #[] #[])) := Lib.hid (by rw [World.cell?_alloc_lt W _ _ (lt_of_cell F4.out.2.1)]; exact F4.out.2.1)
          clear F4
          generalize fnO x = y at KO EN CF
          generalize onlyOf x v = o at KO OO FI
          have SO : Hid (∀ W', Below W.heap.size W W' → Calls Try.prog 25 #[v.val, o.val] W' fun e w' => e = .returned (.bool (decide (v.mean = o.mean))) ∧ Below W'.heap.size W' w') := Lib.hid (fun W' hW => same_one v o W' (VO.out.below hW) (OO.out.below hW))
          clear OO VO LT
          generalize hfd : decide (v.mean = o.mean) = r at SO
          have FD := Lib.hid hfd
          clear hfd
          unfold RV.val at KO SO
          go_wp2_with fail
          generalize W.alloc (.cells #[.int .u64 (v.n : Nat), .int .i64 v.i, .bool v.f, .slice v.bA v.bn v.bc, .slice v.lA v.ln v.lc] 42) = W1 at X BA CF ⊢
          have S0 : Hid (Below W.heap.size W W1.drew) := Lib.hid BA.out.drew
          have XD : Hid (Box5 W1.drew W.heap.size v) := Lib.hid X.out
          have ZF : Hid (g < W1.heap.size) := Lib.hid (lt_of_cell CF.out)
          clear h1 h2 h3 h4 h5
          go_region_held3 (fun W' => W'.cell? ⟨W.heap.size, 0, none⟩ = some (.int .u64 (v.n : Nat)) ∧ W'.cell? ⟨W.heap.size, 1, none⟩ = some (.int .i64 v.i) ∧ W'.cell? ⟨W.heap.size, 2, none⟩ = some (.bool v.f) ∧ W'.cell? ⟨W.heap.size, 3, none⟩ = some (.slice v.bA v.bn v.bc) ∧ W'.cell? ⟨W.heap.size, 4, none⟩ = some (.slice v.lA v.ln v.lc) ∧ W'.cell? ⟨g, k * 4 + 1, none⟩ = some (.func (.func y) #[] #[]))
            (first | exact ⟨X.out.1, X.out.2.1, X.out.2.2.1, X.out.2.2.2.1, X.out.2.2.2.2, CF.out⟩ | exact ⟨X3.out.1, X3.out.2.1, X3.out.2.2.1, X3.out.2.2.2.1, X3.out.2.2.2.2, CF3.out⟩ | exact ⟨X4.out.1, X4.out.2.1, X4.out.2.2.1, X4.out.2.2.2.1, X4.out.2.2.2.2, CF4.out⟩)
            (first
            | (go_at_fn y; (with_reducible refine (KO.out _).mono ?_); rintro e w3 ⟨rfl, hb3⟩; have X3 : Hid (Box5 w3 W.heap.size v) := Lib.hid (XD.out.below hb3); have CF3 : Hid (w3.cell? ⟨g, k * 4 + 1, none⟩ = some (.func (.func y) #[] #[])) := Lib.hid ((hb3.cell (p := ⟨g, k * 4 + 1, none⟩) ZF.out).trans CF.out); have B3 : Hid (Below W.heap.size W w3) := Lib.hid (S0.out.trans (hb3.mono S0.out.size)); clear hb3)
            | (go_at_call 25; (with_reducible refine (SO.out _ B3.out).mono ?_); rintro e w4 ⟨rfl, hb4⟩; have X4 : Hid (Box5 w4 W.heap.size v) := Lib.hid (X3.out.below hb4); have CF4 : Hid (w4.cell? ⟨g, k * 4 + 1, none⟩ = some (.func (.func y) #[] #[])) := Lib.hid ((hb4.cell (p := ⟨g, k * 4 + 1, none⟩) (lt_of_cell CF3.out)).trans CF3.out); have B4 : Hid (Below W.heap.size W w4) := Lib.hid (B3.out.trans (hb4.mono B3.out.size)); clear hb4))
          rename_i hS
          clear hS
          have B5 : Hid (Below w.heap.size w w4) := Lib.hid (Bl.out.trans (B4.out.mono Bl.out.size))
          have K5 : Hid (KRow w4 g s.size (letters s) s.size) := Lib.hid (K.out.keep (B4.out.block g ZG.out))
          clear X3 CF3 B3 X4 CF4 B4 X BA CF XD S0 EN KO SO K Bl
          cases r with
          | true =>
            have P2 := Lib.hid (PE.out (FI.out.1 (of_decide_eq_true FD.out)))
            clear PE PN FI FD
            go_wp2
            go_roundg (s.size - (k + 1))
            case measure => omega
            case rel => exact ⟨k + 1, by go_num, by omega, Nat.le_refl _, P2, K5, B5⟩
          | false =>
            have NG := Lib.hid (PN.out (fun h => of_decide_eq_false FD.out (FI.out.2 h)))
            clear PE PN FI FD
            go_wp2
            go_ret2
            exact ⟨B5.out, .inl ⟨NG.out, rfl⟩⟩
        · obtain rfl : k = s.size := by omega
          have GD : Hid (Good (letters s) (means V s.size)) := Lib.hid ⟨SC.out, (allFit_iff _ _ _).2 ⟨LS.out, fun j hj => by rw [pick_getD]; exact P.out j hj⟩⟩
          clear P
          have VI : Hid (ValsIn W A s.size c V) := Lib.hid ⟨H.out.below Bl.out, HIN.out.2⟩
          by_cases hlong : ∃ j, j < s.size ∧ tooLong (V j)
          · have AL := Lib.hid (anyLong_any A s.size c V W VI.out true (by simp [hlong]))
            have NS : Hid (¬ AllShort (means V s.size)) := Lib.hid (fun h => by
              obtain ⟨j, hj, ht⟩ := hlong
              obtain ⟨q1, q2⟩ := h _ (List.mem_of_getElem? (means_get V s.size j hj))
              have q1 : (seg (V j).bf 0 (V j).bn).length ≤ 262144 := q1
              have q2 : (seg (V j).lf 0 (V j).ln).length ≤ 4096 := q2
              rw [seg_len] at q1 q2
              unfold tooLong at ht
              omega)
            clear hlong
            go_wp2_with (go_at_call 26; refine AL.out.mono ?_; rintro e w5 ⟨rfl, hb⟩; have B5 : Hid (Below w.heap.size w w5) := Lib.hid (Bl.out.trans (hb.mono Bl.out.size)); clear hb)
            go_ret2
            exact ⟨B5.out, .inr (.inl ⟨GD.out, NS.out, rfl⟩)⟩
          · have AL := Lib.hid (anyLong_any A s.size c V W VI.out false (by simp only [hlong]; simp))
            have SH : Hid (∀ j, j < s.size → (V j).bn ≤ 262144 ∧ (V j).ln ≤ 4096) := Lib.hid (fun j hj => by
              have : ¬ tooLong (V j) := fun h => hlong ⟨j, hj, h⟩
              unfold tooLong at this
              omega)
            have AS : Hid (AllShort (means V s.size)) := Lib.hid (fun v hv => by
              obtain ⟨j, hj, rfl⟩ := List.mem_map.1 hv
              have := SH.out j (List.mem_range.1 hj)
              refine ⟨?_, ?_⟩
              · show (seg (V j).bf 0 (V j).bn).length ≤ _
                rw [seg_len]; exact this.1
              · show (seg (V j).lf 0 (V j).ln).length ≤ _
                rw [seg_len]; exact this.2)
            obtain ⟨cs, hcs, hmk⟩ := made_rows s.size (by omega)
            have HC := Lib.hid hcs
            clear hlong hcs VI
            go_wp2_with (go_at_call 26; refine AL.out.mono ?_; rintro e w5 ⟨rfl, hb⟩; have B5 : Hid (Below w.heap.size w w5) := Lib.hid (Bl.out.trans (hb.mono Bl.out.size)); have K5 : Hid (KRow w5 g s.size (letters s) s.size) := Lib.hid (K.out.keep (hb.block g K.out.lt)); clear hb)
            have ZG : Hid (g < w5.heap.size) := Lib.hid K5.out.lt
            obtain ⟨g2, hg2⟩ : ∃ g2, w5.heap.size = g2 := ⟨_, rfl⟩
            have R6 : Hid (PRow (w5.alloc (.cells cs 25)) g2 s.size (fun _ => default) 0) := Lib.hid ⟨cs, by rw [← hg2]; exact heap_alloc_new _ _, HC.out, fun i hi => by omega⟩
            have K6 : Hid (KRow (w5.alloc (.cells cs 25)) g s.size (letters s) s.size) := Lib.hid (K5.out.keep (Below.heap_alloc _ _ _ ZG.out))
            have B6 : Hid (Below w.heap.size w (w5.alloc (.cells cs 25))) := Lib.hid (B5.out.alloc B5.out.size _)
            have Z2 : Hid (w.heap.size ≤ g2 ∧ g < g2) := Lib.hid ⟨by rw [← hg2]; exact B5.out.size, by rw [← hg2]; exact ZG.out⟩
            rw [hg2]
            generalize w5.alloc (.cells cs 25) = w6 at R6 K6 B6 ⊢
            clear hg2 K5 B5 hmk HC ZG K Bl K1 B1 AL
            go_loopg [52] s.size (fun g1 vi wr => ∃ (k : Nat) (P : Nat → Piece), vi = .int .i64 k ∧ k ≤ s.size ∧ s.size - k ≤ g1 ∧ Hid (PRow wr g2 s.size P k) ∧ Hid (PGood wr g2 P k (letters s) V) ∧ Hid (KRow wr g s.size (letters s) s.size) ∧ Hid (Below w.heap.size w wr))
            case atStart => exact ⟨0, fun _ => default, rfl, by omega, by omega, R6, Lib.hid (fun i hi => by omega), K6, B6⟩
            case round =>
              clear R6 K6 B6
              rename World => W
              obtain ⟨k, P, rfl, hk, hg1, R, G, K, Bl⟩ := hrel
              by_cases hlt : k < s.size
              · have hkz : (k : Int) < s.size := by omega
                have hk0 : (0 : Int) ≤ k := by omega
                obtain ⟨b, off, rfl, hb, hfive⟩ := H.out.at_ hlt
                obtain ⟨h1, h2, h3, h4, h5⟩ := hfive.keep (w' := W) fun o => Bl.out.cell (p := ⟨b, o, none⟩) hb
                have LT : Hid (Letter (pick (letters s) k)) := Lib.hid (SC.out.1 _ (List.mem_of_getElem? (pick_get (l := letters s) (by rw [LS.out]; exact hlt))))
                have VO := Lib.hid ((H.out.1 k hlt).below Bl.out)
                have SK := Lib.hid (SH.out k hlt)
                have F4 : Hid (FourAt W g (k * 4) (pick (letters s) k)) := Lib.hid (K.out.four hlt)
                have ZR := Lib.hid R.out.lt
                have ZK := Lib.hid K.out.lt
                obtain ⟨Q1, hQ1⟩ : ∃ Q1, form (pick (letters s) k) (V k).mean = Q1 := ⟨_, rfl⟩
                have FQ := Lib.hid hQ1
                have QB : Hid (∀ x ∈ Q1, x < 256) := Lib.hid (by rw [← hQ1]; exact form_byte VO.out _)
                clear hfive hb hQ1
                have FQ2 := FQ
                generalize V k = v at h1 h2 h3 h4 h5 VO SK FQ2
                generalize pick (letters s) k = x at LT F4 FQ2
                have X := Lib.hid (box5_new W v)
                have BA : Hid (Below W.heap.size W (W.alloc (.cells #[.int .u64 (v.n : Nat), .int .i64 v.i, .bool v.f, .slice v.bA v.bn v.bc, .slice v.lA v.ln v.lc] 42))) := Lib.hid ((Below.refl _ W).alloc (Nat.le_refl _) _)
                have KO : Hid (∀ W', Below W.heap.size W W' → Calls Try.prog (fnP x) #[v.val] W' (Made W' Q1)) := Lib.hid (fun W' hW => by rw [← FQ2.out]; exact putK LT.out v W' (VO.out.below hW) SK.out.1 SK.out.2)
                have EN := fnP_enters LT.out
                have CF : Hid ((W.alloc (.cells #[.int .u64 (v.n : Nat), .int .i64 v.i, .bool v.f, .slice v.bA v.bn v.bc, .slice v.lA v.ln v.lc] 42)).cell? ⟨g, k * 4 + 2, none⟩ = some (.func (.func (fnP x)) #[] #[])) := Lib.hid (by rw [World.cell?_alloc_lt W _ _ (lt_of_cell F4.out.2.2.1)]; exact F4.out.2.2.1)
                clear F4
                generalize fnP x = y at KO EN CF
                clear VO SK LT FQ2
                unfold RV.val at KO
                go_wp2_with fail
                generalize W.alloc (.cells #[.int .u64 (v.n : Nat), .int .i64 v.i, .bool v.f, .slice v.bA v.bn v.bc, .slice v.lA v.ln v.lc] 42) = W1 at X BA CF ⊢
                have S0 : Hid (Below W.heap.size W W1.drew) := Lib.hid BA.out.drew
                have XD : Hid (Box5 W1.drew W.heap.size v) := Lib.hid X.out
                have CD : Hid (W1.drew.cell? ⟨g, k * 4 + 2, none⟩ = some (.func (.func y) #[] #[])) := Lib.hid CF.out
                clear h1 h2 h3 h4 h5
                go_region_held3 (fun W' => W'.cell? ⟨W.heap.size, 0, none⟩ = some (.int .u64 (v.n : Nat)) ∧ W'.cell? ⟨W.heap.size, 1, none⟩ = some (.int .i64 v.i) ∧ W'.cell? ⟨W.heap.size, 2, none⟩ = some (.bool v.f) ∧ W'.cell? ⟨W.heap.size, 3, none⟩ = some (.slice v.bA v.bn v.bc) ∧ W'.cell? ⟨W.heap.size, 4, none⟩ = some (.slice v.lA v.ln v.lc) ∧ W'.cell? ⟨g, k * 4 + 2, none⟩ = some (.func (.func y) #[] #[]))
                  (first | exact ⟨X.out.1, X.out.2.1, X.out.2.2.1, X.out.2.2.2.1, X.out.2.2.2.2, CF.out⟩ | exact ⟨X3.out.1, X3.out.2.1, X3.out.2.2.1, X3.out.2.2.2.1, X3.out.2.2.2.2, CF3.out⟩ | exact ⟨(X4.out _).1, (X4.out _).2.1, (X4.out _).2.2.1, (X4.out _).2.2.2.1, (X4.out _).2.2.2.2, CF4.out _⟩)
                  (first
                  | (go_at_fn y; (with_reducible refine (KO.out _ S0.out).mono ?_); rintro e w3 ⟨A3, c3, rfl, q1, q2, q3, hB, hO, hbel⟩; have X3 : Hid (Box5 w3 W.heap.size v) := Lib.hid (XD.out.below hbel); have CF3 : Hid (w3.cell? ⟨g, k * 4 + 2, none⟩ = some (.func (.func y) #[] #[])) := Lib.hid ((hbel.cell (p := ⟨g, k * 4 + 2, none⟩) (lt_of_cell CD.out)).trans CD.out); have B3 : Hid (Below W.heap.size W w3) := Lib.hid (S0.out.trans (hbel.mono S0.out.size)); have R3 : Hid (PRow w3 g2 s.size P k) := Lib.hid (R.out.keep (B3.out.block g2 ZR.out)); have z3 := R3.out.free k; have NB : Hid (Bytes w3 A3 Q1.length (pick Q1)) := Lib.hid hB; have NO : Hid (∀ a, A3 = some a → W.heap.size ≤ a.block ∧ a.block < w3.heap.size) := Lib.hid (hO.newAt S0.out.size); obtain ⟨vo, o3⟩ := R3.out.there hlt; have PO : Hid ((Piece.mk A3 Q1.length c3 (pick Q1)).ok w3) := Lib.hid ⟨hB, q3, q1, (by unfold maxLen at q2; dsimp only; omega)⟩; have X4 : Hid (∀ u, Box5 (w3.setCell ⟨g2, k, none⟩ u) W.heap.size v) := Lib.hid (fun u => X3.out.off (by have := ZR.out; omega)); have CF4 : Hid (∀ u, (w3.setCell ⟨g2, k, none⟩ u).cell? ⟨g, k * 4 + 2, none⟩ = some (.func (.func y) #[] #[])) := Lib.hid (fun u => (World.cell?_of_block (a := ⟨g, k * 4 + 2, none⟩) (Below.heap_setCell _ _ _ _ (by show g ≠ g2; have := Z2.out; omega))).trans CF3.out); clear q1 q2 q3 hB hO hbel))
                rename_i hS
                clear hS
                have R5 := Lib.hid (R3.out.put (by omega) ⟨A3, Q1.length, c3, pick Q1⟩)
                have G5 := Lib.hid ((G.out.below B3.out).put (j := k) (v := .slice A3 Q1.length c3) PO.out (by dsimp only; rw [pick_seg]; exact FQ.out.symm) (fun a e => ⟨by have := NO.out a e; have := ZR.out; omega, (NO.out a e).2⟩))
                have K5 : Hid (KRow (w3.setCell ⟨g2, k, none⟩ (.slice A3 Q1.length c3)) g s.size (letters s) s.size) := Lib.hid (K.out.keep ((Below.heap_setCell _ _ _ _ (by show g ≠ g2; have := Z2.out; omega)).trans (B3.out.block g ZK.out)))
                have B5 : Hid (Below w.heap.size w (w3.setCell ⟨g2, k, none⟩ (.slice A3 Q1.length c3))) := Lib.hid ((Bl.out.trans (B3.out.mono Bl.out.size)).setCell Z2.out.1 _)
                clear X3 CF3 B3 R3 z3 NB NO o3 PO X4 CF4 X BA CF XD CD S0 EN KO K Bl R G
                dsimp only at R5 G5
                go_wp2
                go_roundg (s.size - (k + 1))
                case measure => omega
                case rel => exact ⟨k + 1, updP P k ⟨A3, Q1.length, c3, pick Q1⟩, by go_num, by omega, Nat.le_refl _, R5, G5, K5, B5⟩
              · obtain rfl : k = s.size := by omega
                have e3 : (letters s).take s.size = letters s := List.take_of_length_le (by rw [LS.out]; omega)
                have CA : Hid (cat P s.size = forms (letters s) (means V s.size)) := Lib.hid (by rw [cat_forms s.size (by rw [LS.out]; omega) G.out, e3])
                have TL : Hid (total P s.size ≤ 100000000) := Lib.hid (by
                  have h1 := total_le (P := P) (n := s.size) (M := 262154) (fun j hj => by
                    have h2 := congrArg List.length (G.out j hj).2.1
                    rw [seg_len] at h2
                    rw [h2]
                    exact form_short (H.out.1 j hj) (SH.out j hj).1 (SH.out j hj).2 _)
                  have h3 : 262154 * s.size ≤ 262154 * 64 := Nat.mul_le_mul_left _ h64
                  omega)
                have CC := Lib.hid (concat_any (some ⟨g2, 0, none⟩) s.size s.size P W (R.out.pieces G.out) (by omega) TL.out)
                rw [CA.out] at CC
                obtain ⟨L9, hL9⟩ : ∃ L9, forms (letters s) (means V s.size) = L9 := ⟨_, rfl⟩
                rw [hL9] at CC
                have FL := Lib.hid hL9
                clear hL9 CA TL
                go_wp2_with (go_at_call 28; refine CC.out.mono ?_; rintro e w9 ⟨A9, c9, rfl, q1, q2, q3, hB, -, hbel⟩; have B9 : Hid (Below w.heap.size w w9) := Lib.hid (Bl.out.trans (hbel.mono Bl.out.size)); have N9 := Lib.hid hB; have Q3 := Lib.hid q3; unfold maxLen at q2; clear hB hbel q3)
                go_ret2
                refine ⟨B9.out, .inr (.inr ⟨GD.out, AS.out, A9, c9, ?_⟩)⟩
                rw [FL.out]
                exact ⟨rfl, Q3.out, q1, by omega, N9.out⟩
    · have NG : Hid (¬ Good (letters s) (means V n)) := Lib.hid (fun hG => hln (by have := ((allFit_iff _ _ _).1 hG.2).1; rw [LS.out] at this; exact this))
      have hx : ((s.size : Int) != (n : Int)) = true := bne_iff_ne.2 (by omega)
      go_wp2_with fail
      go_ret2
      exact ⟨B1.out, .inl ⟨NG.out, rfl⟩⟩
end Go.Proofs.Ytkjndgnjilfobaa
