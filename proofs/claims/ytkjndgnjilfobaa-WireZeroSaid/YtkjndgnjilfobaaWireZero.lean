/-
  The law WireZero: a value that has a field which its letter hasn't is refused; so is a letter that there isn't.
-/
import Derived.Test.YtkjndgnjilfobaaZeros
import Derived.Test.YtkjndgnjilfobaaTakesFacts
import Derived.Test.YtkjndgnjilfobaaAwake4
import Derived.Test.YtkjndgnjilfobaaWireTorn
import Derived.Laws.BytesArg
namespace Go.Proofs.Ytkjndgnjilfobaa
open Go.RowKit

theorem put_arg {s : List Nat} {l : List WV} {W w' : World} {e : Ending} (h : PutAns s l W e w') (hg : ¬ Good s l) : e = .returned (.tuple #[.slice none 0 0, .int .i64 2]) ∧ Below W.heap.size W w' := by
  obtain ⟨hb, ⟨h1, h2⟩ | ⟨h1, h2, h3⟩ | ⟨h1, h2, h3⟩⟩ := h
  · exact ⟨h2, hb⟩
  · exact absurd h1 hg
  · exact absurd h1 hg
/-- the law's five values: each has just one field -/
def zeroV5 (m : Nat) (mi : Int) (n b1 b2 : Nat) (j : Nat) : RV :=
  if j = 0 then onlyRV m 0 false else if j = 1 then onlyRV 0 mi false else if j = 2 then onlyRV 0 0 true
  else if j = 3 then ⟨0, 0, false, some ⟨b1, 0, none⟩, 1, 1, fun _ => 1, none, 0, 0, fun _ => 0⟩ else ⟨0, 0, false, none, 0, 0, fun _ => 0, some ⟨b2, 0, none⟩, 1, 1, fun _ => n⟩
theorem seg_one (f : Nat → Nat) : seg f 0 1 = [f 0] := rfl
theorem zero_fits {m : Nat} {mi : Int} {n b1 b2 i K : Nat} (hm : m ≠ 0) (hmi : mi ≠ 0) (hi : i < 5) (hK : K < 5) : Fits (pick allK K) (zeroV5 m mi n b1 b2 i).mean ↔ i = K := by
  rcases (show i = 0 ∨ i = 1 ∨ i = 2 ∨ i = 3 ∨ i = 4 by omega) with rfl | rfl | rfl | rfl | rfl <;> rcases (show K = 0 ∨ K = 1 ∨ K = 2 ∨ K = 3 ∨ K = 4 by omega) with rfl | rfl | rfl | rfl | rfl <;>
    simp [Fits, zeroV5, RV.mean, onlyRV, seg_zero, seg_one, pick, allK, hm, hmi]
theorem zero_short {m : Nat} {mi : Int} {n b1 b2 i : Nat} (hi : i < 5) : Short (zeroV5 m mi n b1 b2 i).mean := by
  rcases (show i = 0 ∨ i = 1 ∨ i = 2 ∨ i = 3 ∨ i = 4 by omega) with rfl | rfl | rfl | rfl | rfl <;> simp [Short, zeroV5, RV.mean, onlyRV, seg_zero, seg_one]
theorem zero_ok {m : Nat} {mi : Int} {n b1 b2 i : Nat} {w : World} (hi : i < 5) (hm : m < 18446744073709551616) (hmi : -9223372036854775808 ≤ mi ∧ mi ≤ 9223372036854775807) (h1 : Bytes w (some ⟨b1, 0, none⟩) 1 (fun _ => 1)) (h2 : Longs w (some ⟨b2, 0, none⟩) 1 (fun _ => n)) : (zeroV5 m mi n b1 b2 i).ok w := by
  have zn : (0 : Nat) < 18446744073709551616 := by decide
  have zi : -9223372036854775808 ≤ (0 : Int) ∧ (0 : Int) ≤ 9223372036854775807 := by decide
  have zb : ∀ K M, Nums K M w none 0 (fun _ => 0) ∧ ((none : Option Addr) = none → (0 : Nat) = 0 ∧ (0 : Nat) = 0) ∧ (0 : Nat) ≤ 140737488351232 ∧ (0 : Nat) ≤ 0 ∧ (0 : Nat) ≤ 9223372036854775807 := fun K M => ⟨Nums.zero _ _, fun _ => ⟨rfl, rfl⟩, Nat.zero_le _, Nat.le_refl _, Nat.zero_le _⟩
  rcases (show i = 0 ∨ i = 1 ∨ i = 2 ∨ i = 3 ∨ i = 4 by omega) with rfl | rfl | rfl | rfl | rfl
  · exact ⟨hm, zi, zb _ _, zb _ _⟩
  · exact ⟨zn, hmi, zb _ _, zb _ _⟩
  · exact ⟨zn, zi, zb _ _, zb _ _⟩
  · exact ⟨zn, zi, ⟨h1, (fun e => (by cases e)), by show 1 ≤ _; omega, Nat.le_refl _, by show 1 ≤ _; omega⟩, zb _ _⟩
  · exact ⟨zn, zi, zb _ _, ⟨h2, (fun e => (by cases e)), by show 1 ≤ _; omega, Nat.le_refl _, by show 1 ≤ _; omega⟩⟩
theorem or_odd (n : Nat) (hn : n < 18446744073709551616) : n ||| 1 < 18446744073709551616 ∧ (n ||| 1) % 2 = 1 := by
  exact ⟨Nat.or_lt_two_pow (n := 64) hn (by decide), Nat.or_mod_two_eq_one.2 (.inr rfl)⟩
theorem made_vals0 (n : Nat) (hn : n ≤ 1000) : ∃ cs : Array Value, (∀ W : World, (Instr.makeSlice 22 (.int .i64 (n : Nat)) (.int .i64 (n : Nat))).run Try.prog W = .ok (.slice (some ⟨W.heap.size, 0, none⟩) n n) (W.alloc (.cells cs 42))) ∧ ∀ W : World, ValsIn (W.alloc (.cells cs 42)) (some ⟨W.heap.size, 0, none⟩) n n (fun _ => onlyRV 0 0 false) := by
  obtain ⟨i0, hi, hz0, hz1, hz2⟩ := info_parts Try.infoV
  refine ⟨madeCells #[.int .u64 0, .int .i64 0, .bool false, .slice none 0 0, .slice none 0 0] (n * 5), fun W => ?_, fun W => ⟨⟨fun j hj => onlyOk _ (by decide) (by decide), fun _ => ⟨_, 0, rfl, by simp, fun j hj => ?_⟩⟩, fun e => (by cases e), ⟨Nat.le_refl _, by omega⟩, by omega⟩⟩
  · have := run_make (P := Try.prog) W 22 42 i0 _ Try.underlying22 hi hz0 .i64 .i64 (n : Nat) (n : Nat) (by omega) (by omega) (by rw [hz2]; omega) (by omega)
    rw [Int.toNat_natCast, hz1] at this
    exact this
  · have key : ∀ k, k < 5 → (madeCells #[Value.int .u64 0, .int .i64 0, .bool false, .slice none 0 0, .slice none 0 0] (n * 5))[0 + j * 5 + k]? = [Value.int .u64 0, .int .i64 0, .bool false, .slice none 0 0, .slice none 0 0][k]? := fun k hk => by
      have h1 : 0 + j * 5 + k < n * 5 := by omega
      have h2 : (0 + j * 5 + k) % 5 = k := by omega
      rcases (show k = 0 ∨ k = 1 ∨ k = 2 ∨ k = 3 ∨ k = 4 by omega) with rfl | rfl | rfl | rfl | rfl <;> simp [madeCells] <;> simp at h1 h2 <;> first | (simp [h1]; done) | simp [h1, h2]
    refine ⟨?_, ?_, ?_, ?_, ?_⟩ <;> rw [cell_of_row _ _ _ _ _ _ (heap_alloc_new W _)]
    · exact key 0 (by omega)
    · exact key 1 (by omega)
    · exact key 2 (by omega)
    · exact key 3 (by omega)
    · exact key 4 (by omega)
def s5 : ByteArray := { data := #[110, 105, 102, 98, 108] }
theorem s5_letters : letters s5 = allK := rfl
theorem s5_extract (K : Nat) (hK : K < 5) : letters (s5.extract K (K + 1)) = [pick allK K] := by
  rcases (show K = 0 ∨ K = 1 ∨ K = 2 ∨ K = 3 ∨ K = 4 by omega) with rfl | rfl | rfl | rfl | rfl <;> rfl
theorem pick_letter {K : Nat} (hK : K < 5) : Letter (pick allK K) := by
  rcases (show K = 0 ∨ K = 1 ∨ K = 2 ∨ K = 3 ∨ K = 4 by omega) with rfl | rfl | rfl | rfl | rfl <;> simp [Letter, pick, allK]

set_option maxRecDepth 100000 in
set_option maxHeartbeats 8000000 in
theorem zero_walk (which : Int) (n other : Nat) (place : Int) (w : World) (hn : n < 18446744073709551616) (ho : other < 256) :
    Calls Try.prog 9 #[.int .i64 which, .int .u64 (n : Nat), .int .u8 (other : Nat), .int .i64 place] w fun e w' => e = .returned (.bool true) ∧ Below w.heap.size w w' := by
  have AW := Lib.hid (awake4_any putW_any takeW_any wholeW_any w)
  obtain ⟨u, hu⟩ : ∃ u : Nat, IntKind.u64.wrap which = (u : Int) := ⟨(IntKind.u64.wrap which).toNat, by rw [show IntKind.u64.wrap which = which % 18446744073709551616 from rfl]; omega⟩
  obtain ⟨K, hK⟩ : ∃ K : Nat, (u : Int) % 5 = (K : Int) := ⟨u % 5, by omega⟩
  have hK5 : K < 5 := by omega
  obtain ⟨u2, hu2⟩ : ∃ u2 : Nat, IntKind.u64.wrap place = (u2 : Int) := ⟨(IntKind.u64.wrap place).toNat, by rw [show IntKind.u64.wrap place = place % 18446744073709551616 from rfl]; omega⟩
  obtain ⟨P, hP⟩ : ∃ P : Nat, (u2 : Int) % 20 = (P : Int) := ⟨u2 % 20, by omega⟩
  have hP20 : P < 20 := by omega
  obtain ⟨m, hm⟩ : ∃ m : Nat, bits BinOp.or IntKind.u64 (n : Int) 1 = (m : Int) ∧ m < 18446744073709551616 ∧ m % 2 = 1 := ⟨n ||| 1, u64_or_nat n 1 hn (by decide), or_odd n hn⟩
  obtain ⟨hm, hm64, hmo⟩ := hm
  obtain ⟨mi, hmi⟩ : ∃ mi : Int, wrap64 (m : Int) = mi ∧ mi ≠ 0 ∧ (-9223372036854775808 ≤ mi ∧ mi ≤ 9223372036854775807) := ⟨wrap64 m, rfl, by unfold wrap64; omega, by unfold wrap64; omega⟩
  obtain ⟨hmi, hmi0, hmi1⟩ := hmi
  go_enter Try.func9, Try.ntmps9
  go_wp2_with (first | (go_at_call 23; refine AW.out.mono ?_))
  rintro e w1 ⟨rfl, hb1⟩
  have B1 := Lib.hid hb1
  clear hb1 AW
  go_wp2_with fail
  have HK := Lib.hid hK
  have HM := Lib.hid hm
  have HI := Lib.hid hmi
  clear hK hm hmi
  obtain ⟨g, hg⟩ : ∃ g, w1.heap.size + 1 + 1 = g := ⟨_, rfl⟩
  obtain ⟨W5, hW5⟩ : ∃ W5, ((w1.alloc (.cells #[.int .u8 1] 5)).alloc (.cells #[.int .u64 (n : Nat)] 39)).alloc (.cells #[.int .u64 (m : Nat), .int .i64 0, .bool false, .slice none 0 0, .slice none 0 0, .int .u64 0, .int .i64 mi, .bool false, .slice none 0 0, .slice none 0 0, .int .u64 0, .int .i64 0, .bool true, .slice none 0 0, .slice none 0 0, .int .u64 0, .int .i64 0, .bool false, .slice (some ⟨w1.heap.size, 0, none⟩) 1 1, .slice none 0 0, .int .u64 0, .int .i64 0, .bool false, .slice none 0 0, .slice (some ⟨w1.heap.size + 1, 0, none⟩) 1 1] 42) = W5 := ⟨_, rfl⟩
  rw [hW5, hg]
  have XR : Hid (W5.heap[g]? = some (.cells #[.int .u64 (m : Nat), .int .i64 0, .bool false, .slice none 0 0, .slice none 0 0, .int .u64 0, .int .i64 mi, .bool false, .slice none 0 0, .slice none 0 0, .int .u64 0, .int .i64 0, .bool true, .slice none 0 0, .slice none 0 0, .int .u64 0, .int .i64 0, .bool false, .slice (some ⟨w1.heap.size, 0, none⟩) 1 1, .slice none 0 0, .int .u64 0, .int .i64 0, .bool false, .slice none 0 0, .slice (some ⟨w1.heap.size + 1, 0, none⟩) 1 1] 42 (0, 0))) := Lib.hid (by
    rw [← hW5, ← hg]
    have := heap_alloc_new ((w1.alloc (.cells #[.int .u8 1] 5)).alloc (.cells #[.int .u64 (n : Nat)] 39)) (.cells #[.int .u64 (m : Nat), .int .i64 0, .bool false, .slice none 0 0, .slice none 0 0, .int .u64 0, .int .i64 mi, .bool false, .slice none 0 0, .slice none 0 0, .int .u64 0, .int .i64 0, .bool true, .slice none 0 0, .slice none 0 0, .int .u64 0, .int .i64 0, .bool false, .slice (some ⟨w1.heap.size, 0, none⟩) 1 1, .slice none 0 0, .int .u64 0, .int .i64 0, .bool false, .slice none 0 0, .slice (some ⟨w1.heap.size + 1, 0, none⟩) 1 1] 42)
    simpa using this)
  have B5 : Hid (Below w.heap.size w W5) := Lib.hid (by
    rw [← hW5]
    exact ((B1.out.alloc B1.out.size _).alloc (by have := B1.out.size; simp; omega) _).alloc (by have := B1.out.size; simp; omega) _)
  have BY5 : Hid (Bytes W5 (some ⟨w1.heap.size, 0, none⟩) 1 (fun _ => 1)) := Lib.hid (by
    rw [← hW5]
    refine ⟨fun _ _ => by dsimp only; omega, fun _ => ⟨_, 0, rfl, by simp; omega, fun i hi => ?_⟩⟩
    obtain rfl : i = 0 := by omega
    rw [World.cell?_alloc_lt _ _ _ (by simp; omega), World.cell?_alloc_lt _ _ _ (by simp)]
    simp)
  have LO5 : Hid (Longs W5 (some ⟨w1.heap.size + 1, 0, none⟩) 1 (fun _ => n)) := Lib.hid (by
    rw [← hW5]
    refine ⟨fun _ _ => hn, fun _ => ⟨_, 0, rfl, by simp, fun i hi => ?_⟩⟩
    obtain rfl : i = 0 := by omega
    rw [World.cell?_alloc_lt _ _ _ (by simp), cell_of_row _ _ _ _ _ _ (heap_alloc2_new _ _ _)]
    rfl)
  have FV : Hid (∀ j, j < 5 → FiveAt W5 g (j * 5) (zeroV5 m mi n w1.heap.size (w1.heap.size + 1) j)) := Lib.hid (fun j hj => by
    rcases (show j = 0 ∨ j = 1 ∨ j = 2 ∨ j = 3 ∨ j = 4 by omega) with rfl | rfl | rfl | rfl | rfl <;> (refine ⟨?_, ?_, ?_, ?_, ?_⟩ <;> rw [cell_of_row _ _ _ _ _ _ XR.out] <;> rfl))
  have OK5 : Hid (∀ j, j < 5 → (zeroV5 m mi n w1.heap.size (w1.heap.size + 1) j).ok W5) := Lib.hid (fun j hj => zero_ok hj hm64 hmi1 BY5.out LO5.out)
  have FT : Hid (∀ j, j < 5 → (Fits (pick allK K) (zeroV5 m mi n w1.heap.size (w1.heap.size + 1) j).mean ↔ j = K)) := Lib.hid (fun j hj => zero_fits (by omega) hmi0 hj hK5)
  have SH : Hid (∀ j, j < 5 → Short (zeroV5 m mi n w1.heap.size (w1.heap.size + 1) j).mean) := Lib.hid (fun j hj => zero_short hj)
  have ZG : Hid (g < W5.heap.size) := Lib.hid (lt_of_block XR.out)
  clear hW5 XR BY5 LO5
  generalize zeroV5 m mi n w1.heap.size (w1.heap.size + 1) = V at FV OK5 FT SH
  obtain ⟨S5, hS5⟩ : ∃ S5 : ByteArray, ({ data := #[110, 105, 102, 98, 108] } : ByteArray) = S5 := ⟨_, rfl⟩
  rw [hS5]
  have LS5 : Hid (letters S5 = allK) := Lib.hid (by rw [← hS5]; rfl)
  have sz5 : S5.size = 5 := by rw [← hS5]; rfl
  obtain ⟨sK, hsK⟩ : ∃ sK, S5.extract K (K + 1) = sK := ⟨_, rfl⟩
  have EX : Hid (letters sK = [pick allK K] ∧ sK.size ≤ 9223372036854775807) := Lib.hid (by
    have := s5_extract K hK5
    rw [← hsK, ← hS5]
    refine ⟨this, ?_⟩
    have h2 := congrArg List.length this
    rw [letters_len] at h2
    show ((s5).extract K (K + 1)).size ≤ _
    rw [h2]
    simp)
  have hsl : ∀ W : World, (Instr.slice 9 (.string S5) (some (.int .i64 (K : Nat))) (some (.int .i64 ((K : Int) + 1))) none).run Try.prog W = .ok (.string sK) W := fun W => by
    rw [run_slice_string W 9 S5 .i64 .i64 (K : Nat) ((K : Int) + 1) Try.underlying9 (by omega) (by omega) (by rw [sz5]; omega), ← hsK]
    rfl
  have hwk : IntKind.i64.wrap ((K : Int) + 1) = (K : Int) + 1 := IntWalk.i64_in _ (by omega)
  have LK : Hid (Letter (pick allK K)) := Lib.hid (pick_letter hK5)
  clear hsK hS5
  go_loopg [12] 5 (fun g1 vi wr => ∃ i : Nat, vi = .int .i64 i ∧ i ≤ 5 ∧ 5 - i ≤ g1 ∧ Hid (Below W5.heap.size W5 wr))
  case atStart => exact ⟨0, rfl, by omega, by omega, Lib.hid (Below.refl _ _)⟩
  case round =>
    rename World => W
    obtain ⟨i, rfl, hi, hg1, Bl⟩ := hrel
    by_cases hlt : i < 5
    · have hiz : (i : Int) < 5 := by omega
      have hi0 : (0 : Int) ≤ i := by omega
      have FA : Hid (∀ W', Below W5.heap.size W5 W' → FiveAt W' g (i * 5) (V i)) := Lib.hid (fun W' hW => (FV.out i hlt).keep fun o => hW.cell (p := ⟨g, o, none⟩) ZG.out)
      have VO : Hid (∀ W', Below W5.heap.size W5 W' → (V i).ok W') := Lib.hid (fun W' hW => (OK5.out i hlt).below hW)
      have FTi := Lib.hid (FT.out i hlt)
      have SHi := Lib.hid (SH.out i hlt)
      generalize V i = v at FA VO FTi SHi
      have KP : Hid (∀ A c W', ValsIn W' A 1 c (fun _ => v) → Calls Try.prog 12 #[.string sK, .slice A 1 c] W' (PutAns [pick allK K] [v.mean] W')) := Lib.hid (fun A c W' h => by
        have := putW_any sK A 1 c (fun _ => v) W' EX.out.2 h
        rw [EX.out.1] at this
        exact this)
      have BD : Hid (Below W5.heap.size W5 W.drew) := Lib.hid Bl.out.drew
      have BA : Hid (∀ o, Below W5.heap.size W5 (W.alloc o)) := Lib.hid (fun o => Bl.out.alloc Bl.out.size o)
      have BX : Hid (Below W5.heap.size W5 (W.alloc (.cells #[.int .u64 (v.n : Nat), .int .i64 v.i, .bool v.f, .slice v.bA v.bn v.bc, .slice v.lA v.ln v.lc] 42)).drew) := Lib.hid (BA.out _).drew
      have P1 : Hid (Calls Try.prog 12 #[.string sK, .slice (some ⟨W.heap.size, 0, none⟩) 1 1] (W.alloc (.cells #[.int .u64 (v.n : Nat), .int .i64 v.i, .bool v.f, .slice v.bA v.bn v.bc, .slice v.lA v.ln v.lc] 42)).drew (PutAns [pick allK K] [v.mean] (W.alloc (.cells #[.int .u64 (v.n : Nat), .int .i64 v.i, .bool v.f, .slice v.bA v.bn v.bc, .slice v.lA v.ln v.lc] 42)).drew)) := Lib.hid (KP.out _ 1 _ ⟨(vals_one (VO.out _ Bl.out)).below (Below.refl _ _).drew, fun e => (by cases e), ⟨Nat.le_refl _, by omega⟩, by omega⟩)
      have C0 := Lib.hid (FA.out _ Bl.out)
      go_wp2_with fail
      by_cases hik : i = K
      · have GD : Hid (Good [pick allK K] [v.mean]) := Lib.hid ⟨⟨fun c hc => by rw [List.mem_singleton.1 hc]; exact LK.out, by simp⟩, FTi.out.2 hik, trivial⟩
        have SHY : Hid (AllShort [v.mean]) := Lib.hid (fun x hx => by rw [List.mem_singleton.1 hx]; exact SHi.out)
        have hiK : ((i : Int) == (K : Int)) = true := by rw [hik]; simp
        clear hik
        go_region_held3 (fun W' => W'.cell? ⟨g, i * 5, none⟩ = some (.int .u64 (v.n : Nat)) ∧ W'.cell? ⟨g, i * 5 + 1, none⟩ = some (.int .i64 v.i) ∧ W'.cell? ⟨g, i * 5 + 2, none⟩ = some (.bool v.f) ∧ W'.cell? ⟨g, i * 5 + 3, none⟩ = some (.slice v.bA v.bn v.bc) ∧ W'.cell? ⟨g, i * 5 + 4, none⟩ = some (.slice v.lA v.ln v.lc))
          (first | (with_reducible exact C0.out) | exact FA.out _ BD.out | exact FA.out _ Bl.out | exact FA.out _ (BA.out _) | exact FA.out _ BX.out | exact FA.out _ B4.out)
          ((go_at_call 12; (with_reducible refine (P1.out).mono ?_); intro e w4 hp; obtain ⟨A4, c4, rfl, q1, q2, q3, q4, hb4⟩ := put_short hp GD.out SHY.out; have B4 : Hid (Below W5.heap.size W5 w4) := Lib.hid (BX.out.trans (hb4.mono BX.out.size)); clear hp q1 q2 q3 q4 hb4))
        rename_i hS
        clear hS
        clear C0 KP P1 BX BA BD FA VO FTi SHi
        go_wp2
        go_roundg (5 - (i + 1))
        case measure => omega
        case rel => exact ⟨i + 1, by go_num, by omega, Nat.le_refl _, B4⟩
      · have NG : Hid (¬ Good [pick allK K] [v.mean]) := Lib.hid (fun h => hik (FTi.out.1 h.2.1))
        have hiK : ((i : Int) == (K : Int)) = false := by simp; omega
        clear hik
        go_region_held3 (fun W' => W'.cell? ⟨g, i * 5, none⟩ = some (.int .u64 (v.n : Nat)) ∧ W'.cell? ⟨g, i * 5 + 1, none⟩ = some (.int .i64 v.i) ∧ W'.cell? ⟨g, i * 5 + 2, none⟩ = some (.bool v.f) ∧ W'.cell? ⟨g, i * 5 + 3, none⟩ = some (.slice v.bA v.bn v.bc) ∧ W'.cell? ⟨g, i * 5 + 4, none⟩ = some (.slice v.lA v.ln v.lc))
          (first | (with_reducible exact C0.out) | exact FA.out _ BD.out | exact FA.out _ Bl.out | exact FA.out _ (BA.out _) | exact FA.out _ BX.out | exact FA.out _ B4.out)
          ((go_at_call 12; (with_reducible refine (P1.out).mono ?_); intro e w4 hp; obtain ⟨rfl, hb4⟩ := put_arg hp NG.out; have B4 : Hid (Below W5.heap.size W5 w4) := Lib.hid (BX.out.trans (hb4.mono BX.out.size)); clear hp hb4))
        rename_i hS
        clear hS
        clear C0 KP P1 BX BA BD FA VO FTi SHi
        go_wp2
        go_roundg (5 - (i + 1))
        case measure => omega
        case rel => exact ⟨i + 1, by go_num, by omega, Nat.le_refl _, B4⟩
    · obtain rfl : i = 5 := by omega
      have B6 := Lib.hid (B5.out.trans (Bl.out.mono B5.out.size))
      clear FV OK5 FT SH ZG EX hsl hwk LK B5 B1
      go_wp2_with fail
      go_loopg [15] 5 (fun g1 vi wr => ∃ i : Nat, vi = .int .i64 i ∧ i ≤ 5 ∧ 5 - i ≤ g1 ∧ Hid (∀ j, j < i → pick allK j ≠ other) ∧ Hid (Below w.heap.size w wr))
      case atStart => exact ⟨0, rfl, by omega, by omega, Lib.hid (fun j hj => by omega), B6⟩
      case round =>
        clear B6 Bl
        rename World => W
        obtain ⟨i, rfl, hi, hg1, NL, Bl⟩ := hrel
        by_cases hlt : i < 5
        · have hiz : (i : Int) < 5 := by omega
          have hi0 : (0 : Int) ≤ i := by omega
          have hs : i < S5.size := by omega
          obtain ⟨y, hy⟩ : ∃ y, S5[i].toNat = y := ⟨_, rfl⟩
          have HY : Hid (pick allK i = y) := Lib.hid (by
            have := letters_get S5 hs
            rw [LS5.out, hy] at this
            unfold pick
            rw [this]
            rfl)
          by_cases he : y = other
          · have hx : ((y : Int) == (other : Int)) = true := by rw [he]; simp
            clear he
            go_wp2_with fail
            go_ret
            exact ⟨rfl, Bl.out⟩
          · have hx : ((y : Int) == (other : Int)) = false := by simp; omega
            have N2 : Hid (∀ j, j < i + 1 → pick allK j ≠ other) := Lib.hid (fun j hj => by
              rcases Nat.lt_or_ge j i with h | h
              · exact NL.out j h
              · obtain rfl : j = i := by omega
                rw [HY.out]; exact he)
            clear he
            go_wp2_with fail
            go_roundg (5 - (i + 1))
            case measure => omega
            case rel => exact ⟨i + 1, by go_num, by omega, Nat.le_refl _, N2, Bl⟩
        · obtain rfl : i = 5 := by omega
          have NO : Hid (¬ Letter other) := Lib.hid (idxK_none NL.out).2
          have E0 : Hid (∀ j, j < 0 → (letters ByteArray.empty)[j]? = some (if j = P then other else 102)) := Lib.hid (fun j hj => by omega)
          clear NL LS5
          go_wp2_with fail
          go_loopg [16, 17] 20 (fun g1 vs vi wr => ∃ (i : Nat) (t : ByteArray), vs = .string t ∧ vi = .int .i64 i ∧ i ≤ 20 ∧ 20 - i ≤ g1 ∧ t.size = i ∧ Hid (∀ j, j < i → (letters t)[j]? = some (if j = P then other else 102)) ∧ Hid (Below w.heap.size w wr))
          case atStart => exact ⟨0, _, rfl, rfl, by omega, by omega, rfl, E0, Bl⟩
          case round =>
            clear E0 Bl
            rename World => W
            obtain ⟨i, t, rfl, rfl, hi, hg1, hts, LT, Bl⟩ := hrel
            have HT := Lib.hid hts
            by_cases hlt : i < 20
            · have hiz : (i : Int) < 20 := by omega
              have hi0 : (0 : Int) ≤ i := by omega
              have STEP : Hid (∀ x : ByteArray, letters x = [if i = P then other else 102] → (t ++ x).size = i + 1 ∧ ∀ j, j < i + 1 → (letters (t ++ x))[j]? = some (if j = P then other else 102)) := Lib.hid (fun x hx => by
                have hl := letters_append t x
                refine ⟨?_, fun j hj => ?_⟩
                · have h1 := congrArg List.length hl
                  rw [letters_len, List.length_append, letters_len, hx, HT.out] at h1
                  exact h1
                · rw [hl]
                  rcases Nat.lt_or_ge j i with h | h
                  · rw [List.getElem?_append_left (by rw [letters_len, HT.out]; exact h)]
                    exact LT.out j h
                  · obtain rfl : j = i := by omega
                    rw [List.getElem?_append_right (by rw [letters_len, HT.out]; omega), letters_len, HT.out, hx]
                    simp)
              by_cases hiP : i = P
              · have hx : ((i : Int) == (P : Int)) = true := by rw [hiP]; simp
                obtain ⟨x1, hx1⟩ : ∃ x1, strOfNums [(other : Int)] = x1 := ⟨_, rfl⟩
                have L1 : Hid (letters x1 = [other] ∧ x1.size = 1) := Lib.hid (by
                  rw [← hx1]
                  refine ⟨?_, by rw [strOfNums_size]; rfl⟩
                  unfold letters
                  rw [strOfNums_data]
                  simp
                  omega)
                have hcv : (convert 25 9 (.slice (some ⟨W.heap.size, 0, none⟩) 1 1)).run Try.prog (W.alloc (.cells #[.int .u8 (other : Nat)] 5)) = .ok (.string x1) (W.alloc (.cells #[.int .u8 (other : Nat)] 5)) := by
                  rw [← hx1]
                  refine run_convert_bytes_arg (P := Try.prog) _ 25 5 Try.underlying25 Try.underlying5 W.heap.size 0 1 1 [(other : Int)] rfl (fun j hj => ?_) 9 Try.underlying9
                  obtain rfl : j = 0 := by omega
                  simp
                have x1s : x1.size = 1 := L1.out.2
                obtain ⟨s1, s2⟩ := STEP.out x1 (by rw [L1.out.1, if_pos hiP])
                have S1 := Lib.hid s1
                have S2 := Lib.hid s2
                have B2 := Lib.hid (Bl.out.alloc Bl.out.size (.cells #[.int .u8 (other : Nat)] 5))
                clear hx1 s1 s2 hiP STEP
                go_wp2_with fail
                go_roundg (20 - (i + 1))
                case measure => omega
                case rel => exact ⟨i + 1, _, rfl, by go_num, by omega, Nat.le_refl _, S1.out, S2, B2⟩
              · have hx : ((i : Int) == (P : Int)) = false := by simp; omega
                obtain ⟨s1, s2⟩ := STEP.out { data := #[102] } (by rw [if_neg hiP]; rfl)
                have S1 := Lib.hid s1
                have S2 := Lib.hid s2
                clear s1 s2 hiP STEP
                go_wp2_with fail
                go_roundg (20 - (i + 1))
                case measure => omega
                case rel => exact ⟨i + 1, _, rfl, by go_num, by omega, Nat.le_refl _, S1.out, S2, Bl⟩
            · obtain rfl : i = 20 := by omega
              have NS : Hid (¬ Schema (letters t)) := Lib.hid (fun h => NO.out (by
                have := LT.out P hP20
                rw [if_pos rfl] at this
                exact h.1 _ (List.mem_of_getElem? this)))
              obtain ⟨cv, hmv, hvi⟩ := made_vals0 20 (by omega)
              obtain ⟨cb, hmb, hby⟩ := made_bytes0 20 (by omega)
              have VI := Lib.hid (hvi W)
              have BY := Lib.hid hby
              have KP := Lib.hid (putW_any t _ 20 20 _ _ (by rw [hts]; omega) VI.out)
              have KT := Lib.hid (fun A c f W' h1 h2 h3 h4 => takeW_any t A 20 c f W' (by rw [hts]; omega) h1 h2 h3 h4 (by omega))
              have hmv2 : ∀ W : World, (Instr.makeSlice 22 (.int .i64 20) (.int .i64 20)).run Try.prog W = .ok (.slice (some ⟨W.heap.size, 0, none⟩) 20 20) (W.alloc (.cells cv 42)) := hmv
              have hmb2 : ∀ W : World, (Instr.makeSlice 25 (.int .i64 20) (.int .i64 20)).run Try.prog W = .ok (.slice (some ⟨W.heap.size, 0, none⟩) 20 20) (W.alloc (.cells cb 5)) := hmb
              have BA := Lib.hid (Bl.out.alloc Bl.out.size (.cells cv 42))
              clear hmv hmb hvi hby LT
              go_wp2_with (first | (go_at_call 12; refine KP.out.mono ?_))
              intro e w6 hp
              obtain ⟨rfl, hb6⟩ := put_arg hp (fun h => NS.out h.1)
              have B6 := Lib.hid (BA.out.trans (hb6.mono BA.out.size))
              clear hp hb6
              have BB := Lib.hid (B6.out.alloc B6.out.size (.cells cb 5))
              have T6 := Lib.hid (KT.out _ 20 _ _ (BY.out w6) (fun e => (by cases e)) (Nat.le_refl _) (by omega))
              go_wp2_with (first | (go_at_call 18; refine T6.out.mono ?_))
              intro e w7 ht
              obtain ⟨code, u7, m7, C7, d7, V7, rfl, hb7, tf⟩ := take_facts ht
              have hcode : code = 2 := by
                rcases tf.2 with ⟨a1, -⟩ | ⟨-, a2, -⟩ | ⟨-, r, a2, -⟩
                · exact a1
                · exact absurd a2 NS.out
                · exact absurd a2.1.1 NS.out
              subst hcode
              have B7 := Lib.hid (BB.out.trans (hb7.mono BB.out.size))
              clear ht tf hb7
              go_wp2_with fail
              go_ret
              exact ⟨rfl, B7.out⟩

theorem wf_u64' {a : Int} (h : (Lit.int .u64 a).wf = true) : 0 ≤ a ∧ a < 18446744073709551616 := by
  simp only [Lit.wf, Bool.and_eq_true, decide_eq_true_eq] at h
  have h1 : IntKind.u64.min = 0 := rfl
  have h2 : IntKind.u64.max = 18446744073709551615 := rfl
  omega
theorem walkWireZero (a0 a1 a2 a3 : Int) (_w0 : (Lit.int .i64 a0).wf = true) (w1 : (Lit.int .u64 a1).wf = true) (w2 : (Lit.int .u8 a2).wf = true) (_w3 : (Lit.int .i64 a3).wf = true) (w : World) :
    Calls Try.prog 9 #[.int .i64 a0, .int .u64 a1, .int .u8 a2, .int .i64 a3] w fun e w' => e = .returned (.bool true) ∧ Below w.heap.size w w' := by
  obtain ⟨h1, h2⟩ := wf_u64' w1
  obtain ⟨h3, h4⟩ := wf_u8' w2
  obtain ⟨x, rfl⟩ : ∃ x : Nat, a1 = x := ⟨a1.toNat, by omega⟩
  obtain ⟨y, rfl⟩ : ∃ y : Nat, a2 = y := ⟨a2.toNat, by omega⟩
  exact zero_walk a0 x y a3 w (by omega) (by omega)
end Go.Proofs.Ytkjndgnjilfobaa
