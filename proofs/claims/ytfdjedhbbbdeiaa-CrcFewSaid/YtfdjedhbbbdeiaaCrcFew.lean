/-
  The law CrcFew: a datagram with its sum, of which one, two or three bits are turned about, is none.
-/
import Derived.Test.YtfdjedhbbbdeiaaCrcRow
import Derived.Laws.CopyOwn
namespace Go.Proofs.Ytfdjedhbbbdeiaa
open Go.RowKit

theorem made_row (W : World) (n : Nat) (hn : n ≤ 1048576) : ∃ W' cur, (Instr.makeSlice 22 (.int .i64 (n : Int)) (.int .i64 (n : Int))).run Try.prog W = .ok (.slice (some ⟨W.heap.size, 0, none⟩) n n) W' ∧ W'.heap[W.heap.size]? = some (.cells cur 5 (0, 0)) ∧ cur.size = n ∧ Below W.heap.size W W' := by
  obtain ⟨i0, hi, hz0, hz1, hz2⟩ := info_parts Try.info5
  have h := run_make (P := Try.prog) W 22 5 i0 (.int .u8 0) Try.underlying22 hi hz0 .i64 .i64 n n (by omega) (by omega) (by rw [hz2]; omega) (by omega)
  rw [hz1] at h
  simp only [Int.toNat_natCast] at h
  exact ⟨_, _, h, heap_alloc_new W _, by rw [size_madeCells, Nat.mul_one], (Below.refl _ W).alloc (Nat.le_refl _) _⟩
theorem size5 : (Try.prog.info? 5).map (·.size) = some 1 := by kernel_rfl
theorem ownB_row {w : World} {g m : Nat} {f : Nat → Nat} {cs : List Value} (hg : w.heap[g]? = some (.cells cs.toArray 5 (0, 0))) (hc : ∀ i, i < m → cs[i]? = some (.int .u8 (f i : Nat))) (hf : ∀ i, i < m → f i < 256) (base : Nat) (hb : base ≤ g) : OwnB w base (some ⟨g, 0, none⟩) m f :=
  ⟨hf, .inr ⟨g, cs.toArray, rfl, hb, hg, fun i hi => by simpa using hc i hi⟩⟩
/-- the three bits -/
def three (i j k : Int) (t : Nat) : Int := ([i, j, k] : List Int).getD t 0
theorem three_cell {w : World} {g : Nat} {i j k : Int} (h : w.heap[g]? = some (.cells #[.int .i64 i, .int .i64 j, .int .i64 k] 3 (0, 0))) {t : Nat} (ht : t < 3) : w.cell? ⟨g, t, none⟩ = some (.int .i64 (three i j k t)) := by
  rcases (show t = 0 ∨ t = 1 ∨ t = 2 by omega) with rfl | rfl | rfl <;> simp [World.cell?, h, three]

set_option maxRecDepth 100000 in
set_option maxHeartbeats 16000000 in
theorem few_walk (A : Option Addr) (n c : Nat) (f : Nat → Nat) (i j l : Int) (w : World) (h : Bytes w A n f) (hA : A = none → n = 0 ∧ c = 0) :
    Calls Try.prog 6 #[.slice A n c, .int .i64 i, .int .i64 j, .int .i64 l] w fun e w' => e = .returned (.bool true) ∧ Below w.heap.size w w' := by
  have H := Lib.hid h
  have HA := Lib.hid hA
  have HF : Hid (∀ i, i < n → f i < 256) := Lib.hid (fun i hi => h.bd hi)
  clear h hA
  by_cases hbig : 128 < n
  · have d1 : (128 : Int) < n := by omega
    go_enter Try.func6, Try.ntmps6
    go_wp2_with fail
    refine (awake_any w).mono ?_
    rintro e w1 ⟨rfl, hb⟩
    go_wp2
    go_ret
    exact ⟨rfl, hb⟩
  · have d1 : ¬ (128 : Int) < n := by omega
    go_enter Try.func6, Try.ntmps6
    go_wp2_with fail
    refine (awake_any w).mono ?_
    rintro e w1 ⟨rfl, hb⟩
    have K1 := Lib.hid hb
    have H1 := Lib.hid (H.out.below hb)
    clear hb H
    go_wp2_with fail
    refine (with_any A n c f w1 H1.out (by omega) HA.out).mono ?_
    rintro e w2 ⟨C, c2, rfl, hc1, hc2, _, hC, -, hbel⟩
    have E2 := Lib.hid (made_bytes hC)
    rw [seg_len] at *
    have K2 := Lib.hid (K1.out.trans (hbel.mono K1.out.size))
    have H2 := Lib.hid (H1.out.below hbel)
    clear hC hbel H1 K1
    obtain ⟨w3, cur, hmk, hrow, hsz, hb⟩ := made_row w2 (n + 4) (by omega)
    rw [show ((n + 4 : Nat) : Int) = (n : Int) + 4 by omega] at hmk
    have R3 := Lib.hid hrow
    have E3 := Lib.hid (E2.out.below hb)
    have K3 := Lib.hid hb
    have SZ := Lib.hid hsz
    clear hrow hb hsz
    obtain ⟨cb, co, rfl, -, -⟩ := E2.out.at_ (show 0 < n + 4 by omega)
    have CS := Lib.hid (Nums.cells E3.out)
    have C1 := Lib.hid (one_cells .u8 (seg (withSum f n) 0 (n + 4)))
    have CL : Hid (((seg (withSum f n) 0 (n + 4)).map fun (x : Nat) => Value.int .u8 (x : Nat)).length = n + 4) := Lib.hid (by rw [List.length_map, seg_len])
    have CG : Hid (∀ i, i < n + 4 → ((seg (withSum f n) 0 (n + 4)).map fun (x : Nat) => Value.int .u8 (x : Nat))[i]? = some (.int .u8 (withSum f n i : Nat))) := Lib.hid (fun i hi => by rw [List.getElem?_map, seg_get _ _ _ _ hi, Nat.zero_add]; rfl)
    generalize ((seg (withSum f n) 0 (n + 4)).map fun (x : Nat) => Value.int .u8 (x : Nat)) = cs at CS C1 CL CG
    go_wp2_with (refine wpList_copy_splice (o := ⟨some 34, _, _, _, _, _⟩) rfl _ _ 22 22 rfl 5 Try.underlying22 size5 _ _ _ _ _ _ rfl rfl w2.heap.size 0 cur.toList 5 R3.out cs (by rw [CL.out]; exact (Nat.min_self _).symm) (fun _ => ⟨rfl, _, rfl, CS.out⟩) (by rw [CL.out, Array.length_toList, SZ.out]; omega) C1.out w2.heap.size w2 K3.out (Nat.le_refl _) ?_)
    intro w4 hg hB
    have O4 : Hid (OwnB w4 w2.heap.size (some ⟨w2.heap.size, 0, none⟩) (n + 4) (withSum f n)) := Lib.hid (ownB_row hg.out (fun i hi => by
      have := CG.out i hi
      unfold splice
      rw [List.take_zero, List.nil_append, List.getElem?_append_left (by rw [CL.out]; exact hi)]
      exact this) (fun i _ => withSum_lt HF.out i) w2.heap.size (Nat.le_refl _))
    have B4 := Lib.hid hB
    rw [CL.out]
    clear hg hB CS C1 CL CG R3 E3 K3 SZ hmk
    have O5 := Lib.hid (O4.out.below ((Below.refl _ w4).alloc (Nat.le_refl _) (.cells #[.int .i64 i, .int .i64 j, .int .i64 l] 3)))
    have B5 := Lib.hid (B4.out.alloc B4.out.size (.cells #[.int .i64 i, .int .i64 j, .int .i64 l] 3))
    have L5 : Hid ((w4.alloc (.cells #[.int .i64 i, .int .i64 j, .int .i64 l] 3)).heap[w4.heap.size]? = some (.cells #[.int .i64 i, .int .i64 j, .int .i64 l] 3 (0, 0))) := Lib.hid (heap_alloc_new w4 _)
    have NE : Hid (w2.heap.size < w4.heap.size) := Lib.hid (by
      rcases O4.out.2 with h | ⟨g, _, e, _, hh, _⟩
      · omega
      · injection e with e; injection e with e; subst e
        exact (Array.getElem?_eq_some_iff.1 hh).1)
    clear O4 B4
    go_wp2
    go_loopg [12] 3 (fun g1 vi wr => ∃ k : Nat, vi = .int .i64 k ∧ k ≤ 3 ∧ 3 - k ≤ g1 ∧ Hid (∃ x, OwnB wr w2.heap.size (some ⟨w2.heap.size, 0, none⟩) (n + 4) x ∧ ones (diff x (withSum f n)) (8 * (n + 4)) ≤ k) ∧ Hid (wr.heap[w4.heap.size]? = some (.cells #[.int .i64 i, .int .i64 j, .int .i64 l] 3 (0, 0))) ∧ Hid (Below w2.heap.size w2 wr))
    case atStart => exact ⟨0, rfl, by omega, by omega, Lib.hid ⟨_, O5.out, Nat.le_of_eq (ones_same _ _)⟩, L5, B5⟩
    case round =>
      clear O5 B5 L5
      obtain ⟨k, rfl, hk, hg1, OX, L, B⟩ := hrel
      by_cases hlt : k < 3
      · have hkz : (k : Int) < 3 := by omega
        obtain ⟨x, hx, hx3⟩ := OX.out
        have hl := three_cell L.out hlt
        have FL := Lib.hid (flip_all w2.heap.size (some ⟨w2.heap.size, 0, none⟩) (n + 4) (n + 4) x (three i j l k) wr hx (by omega) (by omega))
        have D3 := Nat.le_trans (few_flip x (withSum f n) (bitOf (three i j l k) (n + 4)) (8 * (n + 4))) (Nat.add_le_add_right hx3 1)
        generalize flipped x (bitOf (three i j l k) (n + 4)) = y at FL D3
        generalize three i j l k = v at hl FL
        clear OX hx hx3
        go_wp2_with fail
        refine FL.out.mono ?_
        rintro e w6 ⟨rfl, hO, hb, hoth⟩
        have L6 : Hid (w6.heap[w4.heap.size]? = some (.cells #[.int .i64 i, .int .i64 j, .int .i64 l] 3 (0, 0))) := Lib.hid ((hoth w4.heap.size (fun e => by injection e with e; injection e with e; have := NE.out; omega)).trans L.out)
        have O6 := Lib.hid hO
        have B6 := Lib.hid (B.out.trans hb)
        clear hl FL L B hO hb hoth
        have FW := Lib.hid (few_law (f := f) (x := y) (n := n) (by omega) HF.out (fun i hi => O6.out.bytes.bd hi) (by omega))
        have DD := differ_one y (withSum f n) (n + 4)
        have E6 := Lib.hid (E2.out.below B6.out)
        have H6 := Lib.hid (H2.out.below B6.out)
        have WO := Lib.hid (without_any (some ⟨w2.heap.size, 0, none⟩) (n + 4) (n + 4) y w6 O6.out.bytes (by omega) (Nat.le_refl _) (by unfold maxLen; omega))
        have DZ := Lib.hid (diff_none (f := y) (g := withSum f n) (n := n + 4) (fun i hi => O6.out.bytes.bd hi) (fun i hi => E6.out.bd hi))
        have DN : Hid (∀ W', Bytes W' (some ⟨w2.heap.size, 0, none⟩) (n + 4) y → Bytes W' (some ⟨cb, co, none⟩) (n + 4) (withSum f n) → Calls Try.prog 19 #[.slice (some ⟨w2.heap.size, 0, none⟩) (n + 4) (n + 4), .slice (some ⟨cb, co, none⟩) (n + 4) c2] W' fun e w' => e = .returned (.int .i64 (ones (diff y (withSum f n)) (8 * (n + 4)) : Nat)) ∧ w' = W') := Lib.hid (fun W' h1 h2 => by
          have := differ_any (some ⟨w2.heap.size, 0, none⟩) (some ⟨cb, co, none⟩) (n + 4) (n + 4) (n + 4) c2 y (withSum f n) W' h1 h2 (by omega) (by omega)
          rwa [DD] at this)
        clear DD
        have D4 := Lib.hid D3
        generalize ones (diff y (withSum f n)) (8 * (n + 4)) = D at D3 FW DZ DN
        have hD : ¬ ((k : Int) + 1 < D) := by omega
        by_cases h0 : D = 0
        · subst h0
          have ST : Hid (Stands y (n + 4)) := Lib.hid ⟨by omega, by rw [Nat.add_sub_cancel]; exact FW.out.2 rfl⟩
          have EQ := Lib.hid (DZ.out.1 rfl)
          clear FW DZ
          go_wp2_with fail
          refine WO.out.mono ?_
          rintro e w7 ⟨hb, ho⟩
          rcases ho with ⟨hn, _⟩ | ⟨_, A7, c7, rfl, k1, k2, hO⟩
          · exact absurd ST.out hn
          · rw [Nat.add_sub_cancel] at hO k1 ⊢
            have O7 := Lib.hid (O6.out.below hb)
            have E7 := Lib.hid (E6.out.below hb)
            have H7 := Lib.hid (H6.out.below hb)
            have N7 := Lib.hid hO
            have L7 : Hid (w7.heap[w4.heap.size]? = some (.cells #[.int .i64 i, .int .i64 j, .int .i64 l] 3 (0, 0))) := Lib.hid ((hb.block _ (lt_of_block L6.out)).trans L6.out)
            have B7 := Lib.hid (B6.out.trans (hb.mono B6.out.size))
            clear hb hO O6 E6 H6 L6 B6 WO
            go_wp2_with fail
            refine (DN.out w7 O7.out.bytes E7.out).mono ?_
            rintro e w8 ⟨rfl, rfl⟩
            go_wp2_with fail
            refine (same03_any A7 A n n c7 c y f w8 N7.out.bytes H7.out (by omega) (by omega) true ⟨fun _ => ⟨rfl, fun i hi => by rw [EQ.out i (by omega)]; unfold withSum; rw [if_pos hi]⟩, fun _ => rfl⟩).mono ?_
            rintro e w9 ⟨rfl, rfl⟩
            go_wp2
            go_roundg (3 - (k + 1))
            case measure => omega
            case rel => exact ⟨k + 1, by go_num, by omega, Nat.le_refl _, Lib.hid ⟨y, O7.out, D4.out⟩, L7, B7⟩
        · have ST : Hid (¬ Stands y (n + 4)) := Lib.hid (fun h => h0 (FW.out.1 (by have := h.2; rwa [Nat.add_sub_cancel] at this)))
          have e1 : (((D : Nat) : Int) == 0) = false := by simp; omega
          clear FW DZ h0
          go_wp2_with fail
          refine WO.out.mono ?_
          rintro e w7 ⟨hb, ho⟩
          rcases ho with ⟨_, rfl⟩ | ⟨hs, _⟩
          · have O7 := Lib.hid (O6.out.below hb)
            have E7 := Lib.hid (E6.out.below hb)
            have L7 : Hid (w7.heap[w4.heap.size]? = some (.cells #[.int .i64 i, .int .i64 j, .int .i64 l] 3 (0, 0))) := Lib.hid ((hb.block _ (lt_of_block L6.out)).trans L6.out)
            have B7 := Lib.hid (B6.out.trans (hb.mono B6.out.size))
            clear hb O6 E6 H6 L6 B6 WO
            go_wp2_with fail
            refine (DN.out w7 O7.out.bytes E7.out).mono ?_
            rintro e w8 ⟨rfl, rfl⟩
            go_wp2
            go_roundg (3 - (k + 1))
            case measure => omega
            case rel => exact ⟨k + 1, by go_num, by omega, Nat.le_refl _, Lib.hid ⟨y, O7.out, D4.out⟩, L7, B7⟩
          · exact absurd hs ST.out
      · obtain rfl : k = 3 := by omega
        have K9 := Lib.hid (K2.out.trans (B.out.mono K2.out.size))
        go_wp2
        go_ret
        exact ⟨rfl, K9.out⟩

theorem walkCrcFew (a0 : Option Addr) (len0 cap0 : Nat) (z0 : List Int) (a1 : Int) (a2 : Int) (a3 : Int) (w : World) (w0 : RowIn .u8 w a0 len0 cap0 z0) (_w1 : (Lit.int .i64 a1).wf = true) (_w2 : (Lit.int .i64 a2).wf = true) (_w3 : (Lit.int .i64 a3).wf = true) :
    Calls Try.prog 6 #[.slice a0 len0 cap0, .int .i64 a1, .int .i64 a2, .int .i64 a3] w fun e w' => e = .returned (.bool true) ∧ Below w.heap.size w w' :=
  few_walk a0 len0 cap0 _ a1 a2 a3 w w0.bytes w0.nil
end Go.Proofs.Ytfdjedhbbbdeiaa
