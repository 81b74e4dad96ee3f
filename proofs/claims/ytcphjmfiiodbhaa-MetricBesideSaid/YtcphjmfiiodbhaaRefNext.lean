/-
  The document's Next: the character that begins at a place of a text, as the model decodes it.
-/
import Derived.Test.YtcphjmfiiodbhaaRefShare8
namespace Go.Proofs.Ytcphjmfiiodbhaa
open Go.RowKit Go.Lib

/-- a character's number, from its bytes so far -/
def accI (n0 : Int) (B : Nat → Nat) : Nat → Int
  | 0 => n0
  | j + 1 => 64 * accI n0 B j + (B (j + 1) : Int) - 128
def bytesAt (s : ByteArray) (i j : Nat) : Nat := (s.get! (i + j)).toNat
theorem bytesAt_lt (s : ByteArray) (i j : Nat) : bytesAt s i j < 256 := (s.get! (i + j)).toNat_lt
theorem dec_bytes (s : ByteArray) (i : Nat) : Utf8.decode s i = decodeN (s.size - i) (bytesAt s i 0) (bytesAt s i 1) (bytesAt s i 2) (bytesAt s i 3) := by rw [decode_at]; rfl
theorem index_at (s : ByteArray) (i j : Nat) (z : Int) (hz : z = (i : Int) + j) (h : i + j < s.size) (W : World) : (Instr.index 9 (.string s) (.int .i64 z)).run Try.prog W = .ok (.int .u8 (bytesAt s i j)) W := by
  rw [run_index_string W _ _ _ _ Try.underlying9, dif_pos ⟨by omega, by omega⟩]
  congr 3
  unfold bytesAt
  simp only [show z.toNat = i + j by omega]
  congr 1
  simp [ByteArray.get!, getElem!_pos, h]
  rfl
def DecIs (s : ByteArray) (i : Nat) (r w : Nat) : Prop := Utf8.decode s i = (r, w)
theorem dec_bad2 {n b0 b1 b2 b3 : Nat} (h1 : 194 ≤ b0) (h2 : b0 ≤ 223) (l1 : b1 < 256) (hb : n < 2 ∨ b1 < 128 ∨ 191 < b1) : decodeN n b0 b1 b2 b3 = (65533, 1) := by
  unfold decodeN
  repeat' split
  all_goals first | rfl | (exfalso; omega)
theorem dec_bad3 {n b0 b1 b2 b3 : Nat} (h1 : 224 ≤ b0) (h2 : b0 ≤ 239) (l1 : b1 < 256) (l2 : b2 < 256) (hb : n < 3 ∨ b1 < 128 ∨ 191 < b1 ∨ b2 < 128 ∨ 191 < b2) : decodeN n b0 b1 b2 b3 = (65533, 1) := by
  unfold decodeN
  repeat' split
  all_goals first | rfl | (exfalso; omega)
theorem dec_bad4 {n b0 b1 b2 b3 : Nat} (h1 : 240 ≤ b0) (h2 : b0 ≤ 244) (l1 : b1 < 256) (l2 : b2 < 256) (l3 : b3 < 256) (hb : n < 4 ∨ b1 < 128 ∨ 191 < b1 ∨ b2 < 128 ∨ 191 < b2 ∨ b3 < 128 ∨ 191 < b3) : decodeN n b0 b1 b2 b3 = (65533, 1) := by
  unfold decodeN
  repeat' split
  all_goals first | rfl | (exfalso; omega)
theorem dec_none {n b0 b1 b2 b3 : Nat} (l0 : b0 < 256) (h : 128 ≤ b0) (h2 : ¬ (194 ≤ b0 ∧ b0 ≤ 244)) : decodeN n b0 b1 b2 b3 = (65533, 1) := by
  unfold decodeN
  repeat' split
  all_goals first | rfl | (exfalso; omega)
theorem dec_one {n b0 b1 b2 b3 : Nat} (h : b0 < 128) : decodeN n b0 b1 b2 b3 = (b0, 1) := by
  unfold decodeN
  rw [if_pos h]
theorem dec_ok2 {n b0 b1 b2 b3 : Nat} (h1 : 194 ≤ b0) (h2 : b0 ≤ 223) (c1 : 128 ≤ b1 ∧ b1 ≤ 191) (hn : 2 ≤ n) : ∃ v : Nat, decodeN n b0 b1 b2 b3 = (v, 2) ∧ 64 * ((b0 : Int) - 192) + b1 - 128 = v ∧ v < 2048 := by
  refine ⟨b0 % 32 * 64 + b1 % 64, ?_, by omega, by omega⟩
  unfold decodeN
  rw [if_neg (by omega), if_pos (by omega), if_pos (by omega)]
theorem dec_ok3 {n b0 b1 b2 b3 : Nat} (h1 : 224 ≤ b0) (h2 : b0 ≤ 239) (c1 : 128 ≤ b1 ∧ b1 ≤ 191) (c2 : 128 ≤ b2 ∧ b2 ≤ 191) (hn : 3 ≤ n) : ∃ v : Nat, 64 * (64 * ((b0 : Int) - 224) + b1 - 128) + b2 - 128 = v ∧ v < 65536 ∧ decodeN n b0 b1 b2 b3 = (if 2048 ≤ v ∧ (v < 55296 ∨ 57344 ≤ v) then (v, 3) else (65533, 1)) := by
  refine ⟨b0 % 16 * 4096 + b1 % 64 * 64 + b2 % 64, by omega, by omega, ?_⟩
  unfold decodeN
  rw [if_neg (by omega), if_neg (by omega), if_pos (by omega)]
  generalize hv : b0 % 16 * 4096 + b1 % 64 * 64 + b2 % 64 = v
  have : v < 65536 := by omega
  congr 1
  apply propext
  constructor <;> intro h <;> omega
theorem dec_ok4 {n b0 b1 b2 b3 : Nat} (h1 : 240 ≤ b0) (h2 : b0 ≤ 244) (c1 : 128 ≤ b1 ∧ b1 ≤ 191) (c2 : 128 ≤ b2 ∧ b2 ≤ 191) (c3 : 128 ≤ b3 ∧ b3 ≤ 191) (hn : 4 ≤ n) : ∃ v : Nat, 64 * (64 * (64 * ((b0 : Int) - 240) + b1 - 128) + b2 - 128) + b3 - 128 = v ∧ v < 2097152 ∧ decodeN n b0 b1 b2 b3 = (if 65536 ≤ v ∧ v ≤ 1114111 then (v, 4) else (65533, 1)) := by
  refine ⟨b0 % 8 * 262144 + b1 % 64 * 4096 + b2 % 64 * 64 + b3 % 64, by omega, by omega, ?_⟩
  unfold decodeN
  rw [if_neg (by omega), if_neg (by omega), if_neg (by omega), if_pos (by omega)]
  generalize hv : b0 % 8 * 262144 + b1 % 64 * 4096 + b2 % 64 * 64 + b3 % 64 = v
  congr 1
  apply propext
  constructor <;> intro h <;> omega
set_option maxRecDepth 100000 in
set_option maxHeartbeats 4000000 in
theorem next_2 (s : ByteArray) (i : Nat) (w : World) (hi : i < s.size) (hs : s.size ≤ 4611686018427387904) (b : Nat) (hb : bytesAt s i 0 = b) (h1 : 194 ≤ b) (h2 : b ≤ 223) :
    Calls Try.prog 24 #[.string s, .int .i64 i] w fun e w' => e = .returned (.tuple #[.int .i32 (Utf8.decode s i).1, .int .i64 (Utf8.decode s i).2]) ∧ w' = w := by
  have D := Lib.hid (dec_bytes s i)
  have LT := Lib.hid (bytesAt_lt s i)
  rw [hb] at D
  obtain ⟨v, u, hd⟩ : ∃ v u, Utf8.decode s i = (v, u) := ⟨_, _, rfl⟩
  rw [hd] at D ⊢
  have ix0 := index_at s i 0 i (by omega) (by omega)
  rw [hb] at ix0
  have wb : IntKind.i64.wrap (b : Int) = b := IntWalk.i64_in _ (by omega)
  have q1 : ¬ (b : Int) < 128 := by omega
  have q2 : (194 : Int) ≤ b := by omega
  have q3 : (b : Int) ≤ 223 := by omega
  obtain ⟨z0, hz0⟩ : ∃ z, (b : Int) - 192 = z := ⟨_, rfl⟩
  have wn : IntKind.i64.wrap ((b : Int) - 192) = z0 := by rw [← hz0]; exact IntWalk.i64_in _ (by omega)
  have wl : IntKind.i64.wrap ((s.size : Int) - i) = (s.size : Int) - i := IntWalk.i64_in _ (by omega)
  have Z0 := Lib.hid hz0
  have HI := Lib.hid (And.intro hi hs)
  have H12 := Lib.hid (And.intro h1 h2)
  clear hd hb
  by_cases hl : s.size < i + 2
  · have gl : (s.size : Int) - i < 2 := by omega
    obtain ⟨rfl, rfl⟩ : v = 65533 ∧ u = 1 := by
      have := D.out.trans (dec_bad2 h1 h2 (LT.out 1) (.inl (by omega)))
      exact ⟨congrArg Prod.fst this, congrArg Prod.snd this⟩
    clear hz0 h1 h2
    go_enter Try.func24, Try.ntmps24
    go_wp2_with fail
    go_ret2
    exact ⟨rfl, rfl⟩
  · have gl : ¬ (s.size : Int) - i < 2 := by omega
    have HL := Lib.hid hl
    clear hz0 h1 h2 hl
    go_enter Try.func24, Try.ntmps24
    go_wp2_with fail
    go_loopg [9, 8, 10] 1 (fun g1 v9 v8 _ wr => ∃ k : Nat, v9 = .int .i64 ((k + 1 : Nat) : Int) ∧ v8 = .int .i64 (accI z0 (bytesAt s i) k) ∧ k ≤ 1 ∧ 1 - k ≤ g1 ∧ (∀ j, 1 ≤ j → j ≤ k → 128 ≤ bytesAt s i j ∧ bytesAt s i j ≤ 191) ∧ Hid (w = wr))
    case atStart => exact ⟨0, rfl, rfl, by omega, by omega, fun j h1 h2 => absurd h1 (by omega), Lib.hid rfl⟩
    case round =>
      obtain ⟨k, rfl, rfl, hk, hg1, hc, E⟩ := hrel
      obtain rfl := E.out
      have C := Lib.hid hc
      clear E hc
      have zb := Z0.out
      have hb := H12.out
      by_cases hlt : k < 1
      · have hio := HI.out
        have hlo := HL.out
        have ab : 0 ≤ accI z0 (bytesAt s i) k ∧ accI z0 (bytesAt s i) k ≤ 1000000 := by
          rcases (show k = 0 ∨ k = 1 ∨ k = 2 by omega) with rfl | rfl | rfl
          · simp only [accI]; omega
          · have := C.out 1 (by omega) (by omega)
            simp only [accI, Nat.zero_add]; omega
          · have := C.out 1 (by omega) (by omega)
            have := C.out 2 (by omega) (by omega)
            simp only [accI, Nat.zero_add, Nat.reduceAdd]; omega
        have A1 := Lib.hid (show accI z0 (bytesAt s i) (k + 1) = 64 * accI z0 (bytesAt s i) k + (bytesAt s i (k + 1) : Int) - 128 from rfl)
        obtain ⟨a, ha⟩ : ∃ a, accI z0 (bytesAt s i) k = a := ⟨_, rfl⟩
        rw [ha] at ab A1 ⊢
        have wk : IntKind.i64.wrap ((i : Int) + ((k : Int) + 1)) = (i : Int) + ((k : Int) + 1) := IntWalk.i64_in _ (by omega)
        have ix := index_at s i (k + 1) ((i : Int) + ((k : Int) + 1)) (by omega) (by omega)
        have lx := LT.out (k + 1)
        have CK := Lib.hid (C.out)
        obtain ⟨x, hx⟩ : ∃ x, bytesAt s i (k + 1) = x := ⟨_, rfl⟩
        rw [hx] at ix lx A1
        have HX := Lib.hid hx
        have wx : IntKind.i64.wrap (x : Int) = x := IntWalk.i64_in _ (by omega)
        have gk : (k : Int) + 1 < 2 := by omega
        by_cases cx : 128 ≤ x ∧ x ≤ 191
        · have g1 : ¬ (x : Int) < 128 := by omega
          have g2 : ¬ (191 : Int) < x := by omega
          have w1 : IntKind.i64.wrap (64 * a) = 64 * a := IntWalk.i64_in _ (by omega)
          have w2 : IntKind.i64.wrap (64 * a + x) = 64 * a + x := IntWalk.i64_in _ (by omega)
          have w3 : IntKind.i64.wrap (64 * a + x - 128) = accI z0 (bytesAt s i) (k + 1) := by rw [A1.out]; exact IntWalk.i64_in _ (by omega)
          have wk2 : IntKind.i64.wrap ((k : Int) + 1 + 1) = (k : Int) + 1 + 1 := IntWalk.i64_in _ (by omega)
          have C2 : Hid (∀ j, 1 ≤ j → j ≤ k + 1 → 128 ≤ bytesAt s i j ∧ bytesAt s i j ≤ 191) := Lib.hid (fun j j1 j2 => by
            by_cases e : j = k + 1
            · rw [e, HX.out]; exact cx
            · exact C.out j j1 (by omega))
          clear hlo hx ha zb hb cx
          go_wp2_with fail
          go_roundg (1 - (k + 1))
          case measure => omega
          case rel => exact ⟨k + 1, by go_num, rfl, by omega, Nat.le_refl _, C2.out, Lib.hid rfl⟩
        · obtain ⟨rfl, rfl⟩ : v = 65533 ∧ u = 1 := by
            have := D.out.trans (dec_bad2 hb.1 hb.2 (LT.out 1) (by
              rcases (show k = 0 ∨ k = 1 ∨ k = 2 by omega) with rfl | rfl | rfl <;> simp only [Nat.zero_add, Nat.reduceAdd] at hx <;> omega))
            exact ⟨congrArg Prod.fst this, congrArg Prod.snd this⟩
          clear hlo hx ha zb hb
          by_cases c1 : x < 128
          · have g1 : (x : Int) < 128 := by omega
            clear cx c1
            go_wp2_with fail
            go_ret2
            exact ⟨rfl, rfl⟩
          · have g1 : ¬ (x : Int) < 128 := by omega
            have g2 : (191 : Int) < x := by omega
            clear cx c1
            go_wp2_with fail
            go_ret2
            exact ⟨rfl, rfl⟩
      · obtain rfl : k = 1 := by omega
        clear hlt
        obtain ⟨y, hd, hy, hy2⟩ := dec_ok2 (n := s.size - i) (b2 := bytesAt s i 2) (b3 := bytesAt s i 3) hb.1 hb.2 (C.out 1 (by omega) (by omega)) (by have := HL.out; omega)
        rw [zb] at hy
        have ea : accI z0 (bytesAt s i) 1 = y := by rw [← hy]; rfl
        obtain ⟨rfl, rfl⟩ : v = y ∧ u = 2 := by
          have := D.out.trans hd
          exact ⟨congrArg Prod.fst this, congrArg Prod.snd this⟩
        have wi : IntKind.i32.wrap (v : Int) = v := by unfold IntKind.wrap; simp [IntKind.bits, IntKind.signed]; omega
        have g1 : ¬ (1114111 : Int) < v := by omega
        have g2 : ¬ (55296 : Int) ≤ v := by omega
        rw [ea]
        clear hd hy ea zb hb hy2
        go_wp2_with fail
        go_ret2
        exact ⟨rfl, rfl⟩
set_option maxRecDepth 100000 in
set_option maxHeartbeats 4000000 in
theorem next_3 (s : ByteArray) (i : Nat) (w : World) (hi : i < s.size) (hs : s.size ≤ 4611686018427387904) (b : Nat) (hb : bytesAt s i 0 = b) (h1 : 224 ≤ b) (h2 : b ≤ 239) :
    Calls Try.prog 24 #[.string s, .int .i64 i] w fun e w' => e = .returned (.tuple #[.int .i32 (Utf8.decode s i).1, .int .i64 (Utf8.decode s i).2]) ∧ w' = w := by
  have D := Lib.hid (dec_bytes s i)
  have LT := Lib.hid (bytesAt_lt s i)
  rw [hb] at D
  obtain ⟨v, u, hd⟩ : ∃ v u, Utf8.decode s i = (v, u) := ⟨_, _, rfl⟩
  rw [hd] at D ⊢
  have ix0 := index_at s i 0 i (by omega) (by omega)
  rw [hb] at ix0
  have wb : IntKind.i64.wrap (b : Int) = b := IntWalk.i64_in _ (by omega)
  have q1 : ¬ (b : Int) < 128 := by omega
  have q2 : (224 : Int) ≤ b := by omega
  have q3 : (b : Int) ≤ 239 := by omega
  have p1 : (194 : Int) ≤ b := by omega
  have p2 : ¬ (b : Int) ≤ 223 := by omega
  obtain ⟨z0, hz0⟩ : ∃ z, (b : Int) - 224 = z := ⟨_, rfl⟩
  have wn : IntKind.i64.wrap ((b : Int) - 224) = z0 := by rw [← hz0]; exact IntWalk.i64_in _ (by omega)
  have wl : IntKind.i64.wrap ((s.size : Int) - i) = (s.size : Int) - i := IntWalk.i64_in _ (by omega)
  have Z0 := Lib.hid hz0
  have HI := Lib.hid (And.intro hi hs)
  have H12 := Lib.hid (And.intro h1 h2)
  clear hd hb
  by_cases hl : s.size < i + 3
  · have gl : (s.size : Int) - i < 3 := by omega
    obtain ⟨rfl, rfl⟩ : v = 65533 ∧ u = 1 := by
      have := D.out.trans (dec_bad3 h1 h2 (LT.out 1) (LT.out 2) (.inl (by omega)))
      exact ⟨congrArg Prod.fst this, congrArg Prod.snd this⟩
    clear hz0 h1 h2
    go_enter Try.func24, Try.ntmps24
    go_wp2_with fail
    go_ret2
    exact ⟨rfl, rfl⟩
  · have gl : ¬ (s.size : Int) - i < 3 := by omega
    have HL := Lib.hid hl
    clear hz0 h1 h2 hl
    go_enter Try.func24, Try.ntmps24
    go_wp2_with fail
    go_loopg [9, 8, 10] 2 (fun g1 v9 v8 _ wr => ∃ k : Nat, v9 = .int .i64 ((k + 1 : Nat) : Int) ∧ v8 = .int .i64 (accI z0 (bytesAt s i) k) ∧ k ≤ 2 ∧ 2 - k ≤ g1 ∧ (∀ j, 1 ≤ j → j ≤ k → 128 ≤ bytesAt s i j ∧ bytesAt s i j ≤ 191) ∧ Hid (w = wr))
    case atStart => exact ⟨0, rfl, rfl, by omega, by omega, fun j h1 h2 => absurd h1 (by omega), Lib.hid rfl⟩
    case round =>
      obtain ⟨k, rfl, rfl, hk, hg1, hc, E⟩ := hrel
      obtain rfl := E.out
      have C := Lib.hid hc
      clear E hc
      have zb := Z0.out
      have hb := H12.out
      by_cases hlt : k < 2
      · have hio := HI.out
        have hlo := HL.out
        have ab : 0 ≤ accI z0 (bytesAt s i) k ∧ accI z0 (bytesAt s i) k ≤ 1000000 := by
          rcases (show k = 0 ∨ k = 1 ∨ k = 2 by omega) with rfl | rfl | rfl
          · simp only [accI]; omega
          · have := C.out 1 (by omega) (by omega)
            simp only [accI, Nat.zero_add]; omega
          · have := C.out 1 (by omega) (by omega)
            have := C.out 2 (by omega) (by omega)
            simp only [accI, Nat.zero_add, Nat.reduceAdd]; omega
        have A1 := Lib.hid (show accI z0 (bytesAt s i) (k + 1) = 64 * accI z0 (bytesAt s i) k + (bytesAt s i (k + 1) : Int) - 128 from rfl)
        obtain ⟨a, ha⟩ : ∃ a, accI z0 (bytesAt s i) k = a := ⟨_, rfl⟩
        rw [ha] at ab A1 ⊢
        have wk : IntKind.i64.wrap ((i : Int) + ((k : Int) + 1)) = (i : Int) + ((k : Int) + 1) := IntWalk.i64_in _ (by omega)
        have ix := index_at s i (k + 1) ((i : Int) + ((k : Int) + 1)) (by omega) (by omega)
        have lx := LT.out (k + 1)
        have CK := Lib.hid (C.out)
        obtain ⟨x, hx⟩ : ∃ x, bytesAt s i (k + 1) = x := ⟨_, rfl⟩
        rw [hx] at ix lx A1
        have HX := Lib.hid hx
        have wx : IntKind.i64.wrap (x : Int) = x := IntWalk.i64_in _ (by omega)
        have gk : (k : Int) + 1 < 3 := by omega
        by_cases cx : 128 ≤ x ∧ x ≤ 191
        · have g1 : ¬ (x : Int) < 128 := by omega
          have g2 : ¬ (191 : Int) < x := by omega
          have w1 : IntKind.i64.wrap (64 * a) = 64 * a := IntWalk.i64_in _ (by omega)
          have w2 : IntKind.i64.wrap (64 * a + x) = 64 * a + x := IntWalk.i64_in _ (by omega)
          have w3 : IntKind.i64.wrap (64 * a + x - 128) = accI z0 (bytesAt s i) (k + 1) := by rw [A1.out]; exact IntWalk.i64_in _ (by omega)
          have wk2 : IntKind.i64.wrap ((k : Int) + 1 + 1) = (k : Int) + 1 + 1 := IntWalk.i64_in _ (by omega)
          have C2 : Hid (∀ j, 1 ≤ j → j ≤ k + 1 → 128 ≤ bytesAt s i j ∧ bytesAt s i j ≤ 191) := Lib.hid (fun j j1 j2 => by
            by_cases e : j = k + 1
            · rw [e, HX.out]; exact cx
            · exact C.out j j1 (by omega))
          clear hlo hx ha zb hb cx
          go_wp2_with fail
          go_roundg (2 - (k + 1))
          case measure => omega
          case rel => exact ⟨k + 1, by go_num, rfl, by omega, Nat.le_refl _, C2.out, Lib.hid rfl⟩
        · obtain ⟨rfl, rfl⟩ : v = 65533 ∧ u = 1 := by
            have := D.out.trans (dec_bad3 hb.1 hb.2 (LT.out 1) (LT.out 2) (by
              rcases (show k = 0 ∨ k = 1 ∨ k = 2 by omega) with rfl | rfl | rfl <;> simp only [Nat.zero_add, Nat.reduceAdd] at hx <;> omega))
            exact ⟨congrArg Prod.fst this, congrArg Prod.snd this⟩
          clear hlo hx ha zb hb
          by_cases c1 : x < 128
          · have g1 : (x : Int) < 128 := by omega
            clear cx c1
            go_wp2_with fail
            go_ret2
            exact ⟨rfl, rfl⟩
          · have g1 : ¬ (x : Int) < 128 := by omega
            have g2 : (191 : Int) < x := by omega
            clear cx c1
            go_wp2_with fail
            go_ret2
            exact ⟨rfl, rfl⟩
      · obtain rfl : k = 2 := by omega
        clear hlt
        obtain ⟨y, hy, hy2, hd⟩ := dec_ok3 (n := s.size - i) (b3 := bytesAt s i 3) hb.1 hb.2 (C.out 1 (by omega) (by omega)) (C.out 2 (by omega) (by omega)) (by have := HL.out; omega)
        rw [zb] at hy
        have ea : accI z0 (bytesAt s i) 2 = y := by rw [← hy]; rfl
        rw [ea]
        clear ea hy zb hb
        have g3 : ¬ (1114111 : Int) < y := by omega
        by_cases t1 : y < 2048
        · have g1 : (y : Int) < 2048 := by omega
          obtain ⟨rfl, rfl⟩ : v = 65533 ∧ u = 1 := by
            have := D.out.trans (hd.trans (if_neg (by omega)))
            exact ⟨congrArg Prod.fst this, congrArg Prod.snd this⟩
          clear hd t1 hy2 g3
          go_wp2_with fail
          go_ret2
          exact ⟨rfl, rfl⟩
        · have g1 : ¬ (y : Int) < 2048 := by omega
          by_cases t2 : 55296 ≤ y
          · have g2 : (55296 : Int) ≤ y := by omega
            by_cases t3 : y ≤ 57343
            · have g4 : (y : Int) ≤ 57343 := by omega
              obtain ⟨rfl, rfl⟩ : v = 65533 ∧ u = 1 := by
                have := D.out.trans (hd.trans (if_neg (by omega)))
                exact ⟨congrArg Prod.fst this, congrArg Prod.snd this⟩
              clear hd t1 t2 t3 hy2
              go_wp2_with fail
              go_ret2
              exact ⟨rfl, rfl⟩
            · have g4 : ¬ (y : Int) ≤ 57343 := by omega
              obtain ⟨rfl, rfl⟩ : v = y ∧ u = 3 := by
                have := D.out.trans (hd.trans (if_pos (by omega)))
                exact ⟨congrArg Prod.fst this, congrArg Prod.snd this⟩
              have wi : IntKind.i32.wrap (v : Int) = v := by unfold IntKind.wrap; simp [IntKind.bits, IntKind.signed]; omega
              clear hd t1 t2 t3 hy2
              go_wp2_with fail
              go_ret2
              exact ⟨rfl, rfl⟩
          · have g2 : ¬ (55296 : Int) ≤ y := by omega
            obtain ⟨rfl, rfl⟩ : v = y ∧ u = 3 := by
              have := D.out.trans (hd.trans (if_pos (by omega)))
              exact ⟨congrArg Prod.fst this, congrArg Prod.snd this⟩
            have wi : IntKind.i32.wrap (v : Int) = v := by unfold IntKind.wrap; simp [IntKind.bits, IntKind.signed]; omega
            clear hd t1 t2 hy2
            go_wp2_with fail
            go_ret2
            exact ⟨rfl, rfl⟩
set_option maxRecDepth 100000 in
set_option maxHeartbeats 4000000 in
theorem next_4 (s : ByteArray) (i : Nat) (w : World) (hi : i < s.size) (hs : s.size ≤ 4611686018427387904) (b : Nat) (hb : bytesAt s i 0 = b) (h1 : 240 ≤ b) (h2 : b ≤ 244) :
    Calls Try.prog 24 #[.string s, .int .i64 i] w fun e w' => e = .returned (.tuple #[.int .i32 (Utf8.decode s i).1, .int .i64 (Utf8.decode s i).2]) ∧ w' = w := by
  have D := Lib.hid (dec_bytes s i)
  have LT := Lib.hid (bytesAt_lt s i)
  rw [hb] at D
  obtain ⟨v, u, hd⟩ : ∃ v u, Utf8.decode s i = (v, u) := ⟨_, _, rfl⟩
  rw [hd] at D ⊢
  have ix0 := index_at s i 0 i (by omega) (by omega)
  rw [hb] at ix0
  have wb : IntKind.i64.wrap (b : Int) = b := IntWalk.i64_in _ (by omega)
  have q1 : ¬ (b : Int) < 128 := by omega
  have q2 : (240 : Int) ≤ b := by omega
  have q3 : (b : Int) ≤ 244 := by omega
  have p1 : (194 : Int) ≤ b := by omega
  have p2 : ¬ (b : Int) ≤ 223 := by omega
  have p3 : (224 : Int) ≤ b := by omega
  have p4 : ¬ (b : Int) ≤ 239 := by omega
  obtain ⟨z0, hz0⟩ : ∃ z, (b : Int) - 240 = z := ⟨_, rfl⟩
  have wn : IntKind.i64.wrap ((b : Int) - 240) = z0 := by rw [← hz0]; exact IntWalk.i64_in _ (by omega)
  have wl : IntKind.i64.wrap ((s.size : Int) - i) = (s.size : Int) - i := IntWalk.i64_in _ (by omega)
  have Z0 := Lib.hid hz0
  have HI := Lib.hid (And.intro hi hs)
  have H12 := Lib.hid (And.intro h1 h2)
  clear hd hb
  by_cases hl : s.size < i + 4
  · have gl : (s.size : Int) - i < 4 := by omega
    obtain ⟨rfl, rfl⟩ : v = 65533 ∧ u = 1 := by
      have := D.out.trans (dec_bad4 h1 h2 (LT.out 1) (LT.out 2) (LT.out 3) (.inl (by omega)))
      exact ⟨congrArg Prod.fst this, congrArg Prod.snd this⟩
    clear hz0 h1 h2
    go_enter Try.func24, Try.ntmps24
    go_wp2_with fail
    go_ret2
    exact ⟨rfl, rfl⟩
  · have gl : ¬ (s.size : Int) - i < 4 := by omega
    have HL := Lib.hid hl
    clear hz0 h1 h2 hl
    go_enter Try.func24, Try.ntmps24
    go_wp2_with fail
    go_loopg [9, 8, 10] 3 (fun g1 v9 v8 _ wr => ∃ k : Nat, v9 = .int .i64 ((k + 1 : Nat) : Int) ∧ v8 = .int .i64 (accI z0 (bytesAt s i) k) ∧ k ≤ 3 ∧ 3 - k ≤ g1 ∧ (∀ j, 1 ≤ j → j ≤ k → 128 ≤ bytesAt s i j ∧ bytesAt s i j ≤ 191) ∧ Hid (w = wr))
    case atStart => exact ⟨0, rfl, rfl, by omega, by omega, fun j h1 h2 => absurd h1 (by omega), Lib.hid rfl⟩
    case round =>
      obtain ⟨k, rfl, rfl, hk, hg1, hc, E⟩ := hrel
      obtain rfl := E.out
      have C := Lib.hid hc
      clear E hc
      have zb := Z0.out
      have hb := H12.out
      by_cases hlt : k < 3
      · have hio := HI.out
        have hlo := HL.out
        have ab : 0 ≤ accI z0 (bytesAt s i) k ∧ accI z0 (bytesAt s i) k ≤ 1000000 := by
          rcases (show k = 0 ∨ k = 1 ∨ k = 2 by omega) with rfl | rfl | rfl
          · simp only [accI]; omega
          · have := C.out 1 (by omega) (by omega)
            simp only [accI, Nat.zero_add]; omega
          · have := C.out 1 (by omega) (by omega)
            have := C.out 2 (by omega) (by omega)
            simp only [accI, Nat.zero_add, Nat.reduceAdd]; omega
        have A1 := Lib.hid (show accI z0 (bytesAt s i) (k + 1) = 64 * accI z0 (bytesAt s i) k + (bytesAt s i (k + 1) : Int) - 128 from rfl)
        obtain ⟨a, ha⟩ : ∃ a, accI z0 (bytesAt s i) k = a := ⟨_, rfl⟩
        rw [ha] at ab A1 ⊢
        have wk : IntKind.i64.wrap ((i : Int) + ((k : Int) + 1)) = (i : Int) + ((k : Int) + 1) := IntWalk.i64_in _ (by omega)
        have ix := index_at s i (k + 1) ((i : Int) + ((k : Int) + 1)) (by omega) (by omega)
        have lx := LT.out (k + 1)
        have CK := Lib.hid (C.out)
        obtain ⟨x, hx⟩ : ∃ x, bytesAt s i (k + 1) = x := ⟨_, rfl⟩
        rw [hx] at ix lx A1
        have HX := Lib.hid hx
        have wx : IntKind.i64.wrap (x : Int) = x := IntWalk.i64_in _ (by omega)
        have gk : (k : Int) + 1 < 4 := by omega
        by_cases cx : 128 ≤ x ∧ x ≤ 191
        · have g1 : ¬ (x : Int) < 128 := by omega
          have g2 : ¬ (191 : Int) < x := by omega
          have w1 : IntKind.i64.wrap (64 * a) = 64 * a := IntWalk.i64_in _ (by omega)
          have w2 : IntKind.i64.wrap (64 * a + x) = 64 * a + x := IntWalk.i64_in _ (by omega)
          have w3 : IntKind.i64.wrap (64 * a + x - 128) = accI z0 (bytesAt s i) (k + 1) := by rw [A1.out]; exact IntWalk.i64_in _ (by omega)
          have wk2 : IntKind.i64.wrap ((k : Int) + 1 + 1) = (k : Int) + 1 + 1 := IntWalk.i64_in _ (by omega)
          have C2 : Hid (∀ j, 1 ≤ j → j ≤ k + 1 → 128 ≤ bytesAt s i j ∧ bytesAt s i j ≤ 191) := Lib.hid (fun j j1 j2 => by
            by_cases e : j = k + 1
            · rw [e, HX.out]; exact cx
            · exact C.out j j1 (by omega))
          clear hlo hx ha zb hb cx
          go_wp2_with fail
          go_roundg (3 - (k + 1))
          case measure => omega
          case rel => exact ⟨k + 1, by go_num, rfl, by omega, Nat.le_refl _, C2.out, Lib.hid rfl⟩
        · obtain ⟨rfl, rfl⟩ : v = 65533 ∧ u = 1 := by
            have := D.out.trans (dec_bad4 hb.1 hb.2 (LT.out 1) (LT.out 2) (LT.out 3) (by
              rcases (show k = 0 ∨ k = 1 ∨ k = 2 by omega) with rfl | rfl | rfl <;> simp only [Nat.zero_add, Nat.reduceAdd] at hx <;> omega))
            exact ⟨congrArg Prod.fst this, congrArg Prod.snd this⟩
          clear hlo hx ha zb hb
          by_cases c1 : x < 128
          · have g1 : (x : Int) < 128 := by omega
            clear cx c1
            go_wp2_with fail
            go_ret2
            exact ⟨rfl, rfl⟩
          · have g1 : ¬ (x : Int) < 128 := by omega
            have g2 : (191 : Int) < x := by omega
            clear cx c1
            go_wp2_with fail
            go_ret2
            exact ⟨rfl, rfl⟩
      · obtain rfl : k = 3 := by omega
        clear hlt
        obtain ⟨y, hy, hy2, hd⟩ := dec_ok4 (n := s.size - i) hb.1 hb.2 (C.out 1 (by omega) (by omega)) (C.out 2 (by omega) (by omega)) (C.out 3 (by omega) (by omega)) (by have := HL.out; omega)
        rw [zb] at hy
        have ea : accI z0 (bytesAt s i) 3 = y := by rw [← hy]; rfl
        rw [ea]
        clear ea hy zb hb
        by_cases t1 : y < 65536
        · have g1 : (y : Int) < 65536 := by omega
          obtain ⟨rfl, rfl⟩ : v = 65533 ∧ u = 1 := by
            have := D.out.trans (hd.trans (if_neg (by omega)))
            exact ⟨congrArg Prod.fst this, congrArg Prod.snd this⟩
          clear hd t1 hy2
          go_wp2_with fail
          go_ret2
          exact ⟨rfl, rfl⟩
        · have g1 : ¬ (y : Int) < 65536 := by omega
          by_cases t2 : 1114111 < y
          · have g2 : (1114111 : Int) < y := by omega
            obtain ⟨rfl, rfl⟩ : v = 65533 ∧ u = 1 := by
              have := D.out.trans (hd.trans (if_neg (by omega)))
              exact ⟨congrArg Prod.fst this, congrArg Prod.snd this⟩
            clear hd t1 t2 hy2
            go_wp2_with fail
            go_ret2
            exact ⟨rfl, rfl⟩
          · have g2 : ¬ (1114111 : Int) < y := by omega
            have g3 : (55296 : Int) ≤ y := by omega
            have g4 : ¬ (y : Int) ≤ 57343 := by omega
            obtain ⟨rfl, rfl⟩ : v = y ∧ u = 4 := by
              have := D.out.trans (hd.trans (if_pos (by omega)))
              exact ⟨congrArg Prod.fst this, congrArg Prod.snd this⟩
            have wi : IntKind.i32.wrap (v : Int) = v := by unfold IntKind.wrap; simp [IntKind.bits, IntKind.signed]; omega
            clear hd t1 t2 hy2
            go_wp2_with fail
            go_ret2
            exact ⟨rfl, rfl⟩
set_option maxRecDepth 100000 in
set_option maxHeartbeats 4000000 in
theorem next_1 (s : ByteArray) (i : Nat) (w : World) (hi : i < s.size) (b : Nat) (hb : bytesAt s i 0 = b) (h1 : b < 128) :
    Calls Try.prog 24 #[.string s, .int .i64 i] w fun e w' => e = .returned (.tuple #[.int .i32 (Utf8.decode s i).1, .int .i64 (Utf8.decode s i).2]) ∧ w' = w := by
  have hd : Utf8.decode s i = (b, 1) := by rw [dec_bytes, hb, dec_one h1]
  rw [hd]
  have ix0 := index_at s i 0 i (by omega) (by omega)
  rw [hb] at ix0
  have wb : IntKind.i64.wrap (b : Int) = b := IntWalk.i64_in _ (by omega)
  have wi : IntKind.i32.wrap (b : Int) = b := by unfold IntKind.wrap; simp [IntKind.bits, IntKind.signed]; omega
  have q1 : (b : Int) < 128 := by omega
  clear hd hb h1
  go_enter Try.func24, Try.ntmps24
  go_wp2_with fail
  go_ret2
  exact ⟨rfl, rfl⟩
set_option maxRecDepth 100000 in
set_option maxHeartbeats 4000000 in
theorem next_0 (s : ByteArray) (i : Nat) (w : World) (hi : i < s.size) (b : Nat) (hb : bytesAt s i 0 = b) (h1 : 128 ≤ b) (h2 : ¬ (194 ≤ b ∧ b ≤ 244)) :
    Calls Try.prog 24 #[.string s, .int .i64 i] w fun e w' => e = .returned (.tuple #[.int .i32 (Utf8.decode s i).1, .int .i64 (Utf8.decode s i).2]) ∧ w' = w := by
  have lb : b < 256 := by rw [← hb]; exact bytesAt_lt s i 0
  have hd : Utf8.decode s i = (65533, 1) := by rw [dec_bytes, hb, dec_none lb h1 h2]
  rw [hd]
  have ix0 := index_at s i 0 i (by omega) (by omega)
  rw [hb] at ix0
  have wb : IntKind.i64.wrap (b : Int) = b := IntWalk.i64_in _ (by omega)
  have q1 : ¬ (b : Int) < 128 := by omega
  by_cases h3 : b < 194
  · have q2 : ¬ (194 : Int) ≤ b := by omega
    have q3 : ¬ (224 : Int) ≤ b := by omega
    have q4 : ¬ (240 : Int) ≤ b := by omega
    clear hd hb h1 h2 h3 lb
    go_enter Try.func24, Try.ntmps24
    go_wp2_with fail
    go_ret2
    exact ⟨rfl, rfl⟩
  · have q2 : (194 : Int) ≤ b := by omega
    have q3 : ¬ (b : Int) ≤ 223 := by omega
    have q4 : (224 : Int) ≤ b := by omega
    have q5 : ¬ (b : Int) ≤ 239 := by omega
    have q6 : (240 : Int) ≤ b := by omega
    have q7 : ¬ (b : Int) ≤ 244 := by omega
    clear hd hb h1 h2 h3 lb
    go_enter Try.func24, Try.ntmps24
    go_wp2_with fail
    go_ret2
    exact ⟨rfl, rfl⟩
theorem next_any (s : ByteArray) (i : Nat) (w : World) (hi : i < s.size) (hs : s.size ≤ 4611686018427387904) :
    Calls Try.prog 24 #[.string s, .int .i64 i] w fun e w' => e = .returned (.tuple #[.int .i32 (Utf8.decode s i).1, .int .i64 (Utf8.decode s i).2]) ∧ w' = w := by
  obtain ⟨b, hb⟩ : ∃ b, bytesAt s i 0 = b := ⟨_, rfl⟩
  by_cases h1 : b < 128
  · exact next_1 s i w hi b hb h1
  · by_cases h2 : 194 ≤ b ∧ b ≤ 244
    · by_cases h3 : b ≤ 223
      · exact next_2 s i w hi hs b hb h2.1 h3
      · by_cases h4 : b ≤ 239
        · exact next_3 s i w hi hs b hb (by omega) h4
        · exact next_4 s i w hi hs b hb (by omega) h2.2
    · exact next_0 s i w hi b hb (by omega) h2
end Go.Proofs.Ytcphjmfiiodbhaa
