/-
  strings.ContainsRune of a text of bytes below 128: at a character from 128 to 4351, and below 0, it isn't there.
-/
import Derived.Test.YtcphjmfiiodbhaaShelf8
import Derived.Test.YtcphjmfiiodbhaaRefShare8
import Derived.Deep.QuietTactic
import Derived.BigQuiet
import Derived.WalkSpells
import Derived.WalkMore
import Derived.Lib.IndexLaws
namespace Go.Proofs.Ytcphjmfiiodbhaa
open Go.RowKit

theorem indexByte_high (s : ByteArray) (a b : Nat) (c : UInt8) (ha : ∀ b ∈ s.data.toList, b.toNat < 128) (hc : 128 ≤ c.toNat) : Lib.indexByte (s.extract a b).data.toList c = -1 := by
  have g := Lib.indexByte_ge (s.extract a b).data.toList c
  by_cases h : Lib.indexByte (s.extract a b).data.toList c = -1
  · exact h
  · obtain ⟨o, ho⟩ : ∃ o : Nat, Lib.indexByte (s.extract a b).data.toList c = o := ⟨(Lib.indexByte (s.extract a b).data.toList c).toNat, by omega⟩
    have := (Lib.indexByte_some ho).1
    have := ha c (mem_extract (List.mem_of_getElem? this))
    omega

set_option maxRecDepth 100000 in
set_option maxHeartbeats 4000000 in
theorem indexRune_high (s : ByteArray) (r : Int) (w : World) (h1 : 128 ≤ r) (h2 : r < 4352) (hs : 4 ≤ s.size) (hs2 : s.size ≤ 1000) (ha : ∀ b ∈ s.data.toList, b.toNat < 128) :
    Calls Try.prog 31 #[.string s, .int .i32 r] w fun e w' => e = .returned (.int .i64 (-1)) ∧ ∃ q, w' = w.drewN q := by
  have hv : Utf8.valid r = true := by rw [validRune_eq]; unfold validRune; exact decide_eq_true (.inl ⟨by omega, by omega⟩)
  obtain ⟨f1, f2, f3⟩ := encode_facts r hv h1
  have V : Hid (∀ W, Calls Try.prog 33 #[.int .i32 r] W fun e w' => e = .returned (.bool true) ∧ w' = W) := Lib.hid (fun W => by
    have := Try.utf8_ValidRune r W
    rwa [show Lib.validRune r = true from by unfold Lib.validRune; simp; omega] at this)
  obtain ⟨e, he⟩ : ∃ e, Utf8.encode r = e := ⟨_, rfl⟩
  rw [he] at f1 f2 f3
  obtain ⟨l, hl⟩ : ∃ l, e.size = l + 1 := ⟨e.size - 1, by omega⟩
  have l1 : l < e.size := by omega
  have l2 : l < s.size := by omega
  obtain ⟨y, hy⟩ : ∃ y, e[l].toNat = y := ⟨_, rfl⟩
  obtain ⟨x, hx⟩ : ∃ x, s[l].toNat = x := ⟨_, rfl⟩
  have y128 : 128 ≤ y := by
    have := f3 (by omega)
    have e1 : e.size - 1 = l := by omega
    simp only [e1] at this
    omega
  have x128 : x < 128 := by
    rw [← hx]
    exact ha _ (by rw [show s[l] = s.data.toList[l]'(by rw [← Lib.size_eq]; exact l2) from by simp; rfl]; exact List.getElem_mem _)
  have hne : ((x : Int) != y) = true := by simp; omega
  have wl : IntKind.i64.wrap ((e.size : Int) - 1) = (l : Int) := by rw [IntWalk.i64_in _ (by omega)]; omega
  have zl : (0 : Int) ≤ l := by omega
  have zl1 : (l : Int) < e.size := by omega
  have zl2 : (l : Int) < s.size := by omega
  have hr0 : (0 : Int) ≤ r := by omega
  have hr1 : ¬ r < 128 := by omega
  have hr2 : (r == 65533) = false := by simp; omega
  have IB : Hid (∀ W a b, Calls Try.prog 32 #[.string (s.extract a b), .int .u8 y] W fun e w' => e = .returned (.int .i64 (-1)) ∧ w' = W) := Lib.hid (fun W a b => by
    have y256 : y < 256 := by rw [← hy]; exact (e[l]).toNat_lt
    have := Try.strings_IndexByte (s.extract a b) y W
    rwa [indexByte_high s a b _ ha (by simp; omega)] at this)
  have wl1 : IntKind.i64.wrap ((l : Int) + 1) = (l : Int) + 1 := IntWalk.i64_in _ (by omega)
  have sl : ∀ W : World, (Instr.slice 9 (.string s) (some (.int .i64 ((l : Int) + 1))) none none).run Try.prog W = .ok (.string (s.extract (l + 1) s.size)) W := fun W => by
    rw [run_slice_string_from_if W _ _ _ _ Try.underlying9, if_pos (by omega)]
    rfl
  clear f1 f2 f3 hl x128 y128 ha hs hs2 hv
  go_enter Try.func31, Try.ntmps31
  go_wp2_with (go_at_call 33; refine (V.out _).mono ?_; rintro e w' ⟨rfl, hw⟩; rw [hw])
  have cv : ∀ W, (convert 21 9 (.int .i32 r)).run Try.prog W = .ok (.string e) W := fun W => by rw [run_convert_int_string W _ _ _ _ (by rw [Try.underlying21]; rfl) Try.underlying9, he]
  go_step3
  go_wp2_with fail
  refine wp_loop_rounds 2 ?_
  rw [rounds_succ]
  go_wp2_with fail
  go_step3
  go_wp2_with fail
  go_quiet (fail)
  obtain ⟨W1, hW1⟩ : ∃ W1, w.drewN nq = W1 := ⟨_, rfl⟩
  rw [hW1]
  go_wp2_with fail
  go_quiet ((go_at_call 32; exact Calls.quiet_of_same (IB.out _ _ _)))
  go_wp2_with fail
  rw [Exit.noGoto_ret]
  go_wp2_with fail
  rw [Exit.noGoto_ret]
  go_wp2_with fail
  go_ret
  exact ⟨rfl, by rw [← hW1]; exact ⟨_, World.drewN_drewN _ _ _⟩⟩
set_option maxRecDepth 100000 in
set_option maxHeartbeats 4000000 in
theorem indexRune_low (s : ByteArray) (r : Int) (w : World) (h1 : r < 0) :
    Calls Try.prog 31 #[.string s, .int .i32 r] w fun e w' => e = .returned (.int .i64 (-1)) ∧ ∃ q, w' = w.drewN q := by
  have V : Hid (∀ W, Calls Try.prog 33 #[.int .i32 r] W fun e w' => e = .returned (.bool false) ∧ w' = W) := Lib.hid (fun W => by
    have := Try.utf8_ValidRune r W
    rwa [show Lib.validRune r = false from by unfold Lib.validRune; simp; omega] at this)
  have hr0 : ¬ (0 : Int) ≤ r := by omega
  have hr2 : (r == 65533) = false := by simp; omega
  clear h1
  go_enter Try.func31, Try.ntmps31
  go_wp2_with (go_at_call 33; refine (V.out _).mono ?_; rintro e w' ⟨rfl, hw⟩; rw [hw])
  go_ret
  exact ⟨rfl, 0, rfl⟩
set_option maxRecDepth 100000 in
set_option maxHeartbeats 4000000 in
theorem contains_by (s : ByteArray) (r : Int) (w : World) (K : ∀ W, Calls Try.prog 31 #[.string s, .int .i32 r] W fun e w' => e = .returned (.int .i64 (-1)) ∧ ∃ q, w' = W.drewN q) :
    Calls Try.prog 30 #[.string s, .int .i32 r] w fun e w' => e = .returned (.bool false) ∧ ∃ q, w' = w.drewN q := by
  have K := Lib.hid K
  go_enter Try.func30, Try.ntmps30
  go_wp2_with (go_at_call 31; refine (K.out _).mono ?_; rintro e w' ⟨rfl, q, hw⟩; rw [hw])
  go_ret
  exact ⟨rfl, _, rfl⟩
/-- of a text whose bytes below 128 are those of a row -/
theorem contains_any (s : ByteArray) (L : List Int) (hs : 4 ≤ s.size) (hs2 : s.size ≤ 1000) (ha : ∀ b ∈ s.data.toList, b.toNat < 128) (hL : ∀ n : Nat, n < 128 → (decide (0 ≤ Lib.indexByte s.data.toList n.toUInt8) = decide ((n : Int) ∈ L))) (hb : ∀ x ∈ L, (0 : Int) ≤ x ∧ x < 128)
    (r : Int) (w : World) (h2 : r < 4352) (b : Bool) (e : decide (r ∈ L) = b) :
    Calls Try.prog 30 #[.string s, .int .i32 r] w fun e w' => e = .returned (.bool b) ∧ ∃ q, w' = w.drewN q := by
  subst e
  by_cases h0 : 0 ≤ r
  · by_cases h1 : r < 128
    · refine (Try.strings_ContainsRune_ascii s r w h0 h1).mono ?_
      rintro e w' ⟨rfl, rfl⟩
      refine ⟨?_, 0, rfl⟩
      rw [hL r.toNat (by omega), Int.toNat_of_nonneg h0]
    · rw [show decide (r ∈ L) = false from decide_eq_false fun h => by have := hb r h; omega]
      exact contains_by s r w fun W => indexRune_high s r W (by omega) h2 hs hs2 ha
  · rw [show decide (r ∈ L) = false from decide_eq_false fun h => by have := hb r h; omega]
    exact contains_by s r w fun W => indexRune_low s r W (by omega)
def nb8 : ByteArray := ⟨#[10, 32, 33, 39, 40, 41, 44, 46, 58, 59, 91, 93, 102, 105, 106, 108, 116, 124]⟩
def bb8 : ByteArray := ⟨#[37, 64, 77, 87, 109, 119]⟩
set_option maxRecDepth 100000 in
theorem contains_nb (r : Int) (w : World) (h2 : r < 4352) (b : Bool) (e : decide (r ∈ narrowL) = b) :
    Calls Try.prog 30 #[.string nb8, .int .i32 r] w fun e w' => e = .returned (.bool b) ∧ ∃ q, w' = w.drewN q :=
  contains_any nb8 narrowL (by decide) (by decide) (by decide) (by decide) (by decide) r w h2 b e
set_option maxRecDepth 100000 in
theorem contains_bb (r : Int) (w : World) (h2 : r < 4352) (b : Bool) (e : decide (r ∈ broadL) = b) :
    Calls Try.prog 30 #[.string bb8, .int .i32 r] w fun e w' => e = .returned (.bool b) ∧ ∃ q, w' = w.drewN q :=
  contains_any bb8 broadL (by decide) (by decide) (by decide) (by decide) (by decide) r w h2 b e
/-- metric.among's closure, its text in a box -/
theorem among_nb (q : Nat) (r : Int) (w : World) (hq : w.cell? ⟨q, 0, none⟩ = some (.string nb8)) (h2 : r < 4352) (b : Bool) (e : decide (r ∈ narrowL) = b) :
    Calls Try.prog 29 #[.int .i32 r, .pointer (some ⟨q, 0, none⟩)] w fun e w' => e = .returned (.bool b) ∧ ∃ q, w' = w.drewN q := by
  have K := Lib.hid (fun W => contains_nb r W h2 b e)
  clear e
  generalize nb8 = s at hq K
  go_enter Try.func29, Try.ntmps29
  go_wp2_with (go_at_call 30; refine (K.out _).mono ?_; rintro e w' ⟨rfl, q, hw⟩; rw [hw])
  go_ret
  exact ⟨rfl, _, rfl⟩
theorem among_bb (q : Nat) (r : Int) (w : World) (hq : w.cell? ⟨q, 0, none⟩ = some (.string bb8)) (h2 : r < 4352) (b : Bool) (e : decide (r ∈ broadL) = b) :
    Calls Try.prog 29 #[.int .i32 r, .pointer (some ⟨q, 0, none⟩)] w fun e w' => e = .returned (.bool b) ∧ ∃ q, w' = w.drewN q := by
  have K := Lib.hid (fun W => contains_bb r W h2 b e)
  clear e
  generalize bb8 = s at hq K
  go_enter Try.func29, Try.ntmps29
  go_wp2_with (go_at_call 30; refine (K.out _).mono ?_; rintro e w' ⟨rfl, q, hw⟩; rw [hw])
  go_ret
  exact ⟨rfl, _, rfl⟩
/-- metric.between's closure, its bounds in boxes -/
theorem between_any (p q : Nat) (x y r : Int) (w : World) (hp : w.cell? ⟨p, 0, none⟩ = some (.int .i32 x)) (hq : w.cell? ⟨q, 0, none⟩ = some (.int .i32 y)) (b : Bool) (e : decide (x ≤ r ∧ r ≤ y) = b) :
    Calls Try.prog 28 #[.int .i32 r, .pointer (some ⟨p, 0, none⟩), .pointer (some ⟨q, 0, none⟩)] w fun e w' => e = .returned (.bool b) ∧ w' = w := by
  subst e
  by_cases h1 : x ≤ r
  · by_cases h2 : r ≤ y
    · rw [decide_eq_true (show x ≤ r ∧ r ≤ y from ⟨h1, h2⟩)]
      go_enter Try.func28, Try.ntmps28
      go_wp2_with fail
      go_ret
      exact ⟨rfl, rfl⟩
    · rw [decide_eq_false (show ¬ (x ≤ r ∧ r ≤ y) from fun h => h2 h.2)]
      go_enter Try.func28, Try.ntmps28
      go_wp2_with fail
      go_ret
      exact ⟨rfl, rfl⟩
  · rw [decide_eq_false (show ¬ (x ≤ r ∧ r ≤ y) from fun h => h1 h.1)]
    go_enter Try.func28, Try.ntmps28
    go_wp2_with fail
    go_ret
    exact ⟨rfl, rfl⟩
end Go.Proofs.Ytcphjmfiiodbhaa
