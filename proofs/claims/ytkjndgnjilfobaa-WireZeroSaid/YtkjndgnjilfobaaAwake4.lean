/-
  The chapter's examples of forms, which each of the outright laws of wire begins with, are met by any program whose Put, Take, Whole answer as is asked.
-/
import Derived.Test.YtkjndgnjilfobaaWireOK
import Derived.Test.YtkjndgnjilfobaaSameBytes
namespace Go.Proofs.Ytkjndgnjilfobaa
open Go.RowKit

theorem lit_marked (w : World) (l : List Nat) (hl : ∀ x ∈ l, x < 256) (t : TypeId) (fr : Nat × Nat) : Bytes (w.alloc (.cells (l.map fun (x : Nat) => Value.int .u8 (x : Nat)).toArray t fr)) (some ⟨w.heap.size, 0, none⟩) l.length (pick l) := by
  refine ⟨fun i hi => pick_lt hl hi, fun _ => ⟨_, 0, rfl, by simp, fun i hi => ?_⟩⟩
  have h := pick_get hi
  rw [World.cell?_alloc_mark]
  simp [h]
theorem lit_bytes (w : World) (l : List Nat) (hl : ∀ x ∈ l, x < 256) (t : TypeId) : Bytes (w.alloc (.cells (l.map fun (x : Nat) => Value.int .u8 (x : Nat)).toArray t)) (some ⟨w.heap.size, 0, none⟩) l.length (pick l) := lit_marked w l hl t (0, 0)
theorem seg_pick (l : List Nat) : seg (pick l) 0 l.length = l := pick_seg l

/-- a row of values that has just been laid -/
theorem lit_vals (w : World) (cs : Array Value) (t : TypeId) (n : Nat) (hn : n ≤ 100) (V : Nat → RV) (hok : ∀ j, j < n → (V j).ok (w.alloc (.cells cs t)))
    (hc : ∀ j, j < n → cs[j * 5]? = some (.int .u64 ((V j).n : Nat)) ∧ cs[j * 5 + 1]? = some (.int .i64 (V j).i) ∧ cs[j * 5 + 2]? = some (.bool (V j).f) ∧ cs[j * 5 + 3]? = some (.slice (V j).bA (V j).bn (V j).bc) ∧ cs[j * 5 + 4]? = some (.slice (V j).lA (V j).ln (V j).lc)) :
    ValsIn (w.alloc (.cells cs t)) (some ⟨w.heap.size, 0, none⟩) n n V := by
  refine ⟨⟨hok, fun _ => ⟨w.heap.size, 0, rfl, by simp, fun j hj => ?_⟩⟩, (fun e => by cases e), ⟨Nat.le_refl _, by omega⟩, by omega⟩
  obtain ⟨h1, h2, h3, h4, h5⟩ := hc j hj
  unfold FiveAt
  rw [Nat.zero_add]
  exact ⟨(World.cell?_alloc_mark w cs t (0, 0) _).trans h1, (World.cell?_alloc_mark w cs t (0, 0) _).trans h2, (World.cell?_alloc_mark w cs t (0, 0) _).trans h3, (World.cell?_alloc_mark w cs t (0, 0) _).trans h4, (World.cell?_alloc_mark w cs t (0, 0) _).trans h5⟩

/-- a value with one number, integer or bool -/
def plain (n : Nat) (i : Int) (f : Bool) : RV := ⟨n, i, f, none, 0, 0, fun _ => 0, none, 0, 0, fun _ => 0⟩
theorem plain_ok (w : World) {n : Nat} {i : Int} {f : Bool} (h : n < 18446744073709551616) (hi : -9223372036854775808 ≤ i ∧ i ≤ 9223372036854775807) : (plain n i f).ok w :=
  ⟨h, hi, ⟨Nums.zero _ _, fun _ => ⟨rfl, rfl⟩, by show 0 ≤ _; omega, by show 0 ≤ 0; omega, by show 0 ≤ _; omega⟩, ⟨Nums.zero _ _, fun _ => ⟨rfl, rfl⟩, by show 0 ≤ _; omega, by show 0 ≤ 0; omega, by show 0 ≤ _; omega⟩⟩
def with_b (A : Option Addr) (n c : Nat) (f : Nat → Nat) : RV := ⟨0, 0, false, A, n, c, f, none, 0, 0, fun _ => 0⟩
def with_l (A : Option Addr) (n c : Nat) (f : Nat → Nat) : RV := ⟨0, 0, false, none, 0, 0, fun _ => 0, A, n, c, f⟩
theorem w300 : word 300 = [172, 2] := by rw [word_big (by omega), word_small (by omega)]
theorem w1 : word 1 = [1] := word_small (by omega)
theorem w2 : word 2 = [2] := word_small (by omega)
theorem nif_form : forms [110, 105, 102] [(plain 300 0 false).mean, (plain 0 (-1) false).mean, (plain 0 0 true).mean] = [172, 2, 1, 1] := by
  have e : foldN (-1) = 1 := by decide
  simp [forms, form, plain, RV.mean, w300, e, w1]
def nifV (j : Nat) : RV := if j = 0 then plain 300 0 false else if j = 1 then plain 0 (-1) false else plain 0 0 true

theorem put_nif (hP : PutOK) (w : World) (H : Nat) (hH : w.heap.size = H) : Calls Try.prog 12 #[.string { data := #[110, 105, 102] }, .slice (some ⟨H, 0, none⟩) 3 3]
    (w.alloc (.cells #[.int .u64 300, .int .i64 0, .bool false, .slice none 0 0, .slice none 0 0, .int .u64 0, .int .i64 (-1), .bool false, .slice none 0 0, .slice none 0 0, .int .u64 0, .int .i64 0, .bool true, .slice none 0 0, .slice none 0 0] 42))
    fun e w' => ∃ A c, e = .returned (.tuple #[.slice A 4 c, .int .i64 0]) ∧ Bytes w' A 4 (pick [172, 2, 1, 1]) ∧ Below w.heap.size w w' := by
  subst hH
  refine (hP _ _ 3 3 nifV _ (by decide) (lit_vals w _ _ 3 (by omega) nifV (fun j hj => ?_) (fun j hj => ?_))).mono ?_
  · unfold nifV
    split
    · exact plain_ok _ (by omega) (by omega)
    · split
      · exact plain_ok _ (by omega) (by omega)
      · exact plain_ok _ (by omega) (by omega)
  · rcases (show j = 0 ∨ j = 1 ∨ j = 2 by omega) with rfl | rfl | rfl <;> simp [nifV, plain]
  · have em : means nifV 3 = [(plain 300 0 false).mean, (plain 0 (-1) false).mean, (plain 0 0 true).mean] := rfl
    have el : letters { data := #[110, 105, 102] } = [110, 105, 102] := rfl
    rw [em, el]
    have hG : Good [110, 105, 102] [(plain 300 0 false).mean, (plain 0 (-1) false).mean, (plain 0 0 true).mean] := by
      refine ⟨by decide, ?_, ?_, ?_, trivial⟩ <;> · unfold Fits plain RV.mean; simp [seg_zero]
    have hS : AllShort [(plain 300 0 false).mean, (plain 0 (-1) false).mean, (plain 0 0 true).mean] := by
      intro v hv
      simp at hv
      rcases hv with rfl | rfl | rfl <;> · unfold Short plain RV.mean; simp [seg_zero]
    rintro e w' ⟨hb, h | h | ⟨-, -, A, c, rfl, -, -, -, hB⟩⟩
    · exact absurd hG h.1
    · exact absurd hS h.2.1
    · rw [nif_form] at hB ⊢
      exact ⟨A, c, rfl, hB, ((Below.refl _ w).alloc (Nat.le_refl _) _).trans (hb.mono (by simp))⟩

theorem bl_form (A B : Option Addr) (c d : Nat) : forms [98, 108] [(with_b A 2 c (pick [7, 8])).mean, (with_l B 2 d (pick [1, 300])).mean] = [2, 7, 8, 2, 1, 172, 2] := by
  have e1 : seg (pick [7, 8]) 0 2 = [7, 8] := rfl
  have e2 : seg (pick [1, 300]) 0 2 = [1, 300] := rfl
  simp [forms, form, with_b, with_l, RV.mean, e1, e2, w2, w1, w300]
def blV (H : Nat) (j : Nat) : RV := if j = 0 then with_b (some ⟨H, 0, none⟩) 2 2 (pick [7, 8]) else with_l (some ⟨H + 1, 0, none⟩) 2 2 (pick [1, 300])
theorem lit_longs (w : World) (l : List Nat) (hl : ∀ x ∈ l, x < 18446744073709551616) (t : TypeId) : Longs (w.alloc (.cells (l.map fun (x : Nat) => Value.int .u64 (x : Nat)).toArray t)) (some ⟨w.heap.size, 0, none⟩) l.length (pick l) := by
  refine ⟨fun i hi => pick_lt hl hi, fun _ => ⟨_, 0, rfl, by simp, fun i hi => ?_⟩⟩
  have h := pick_get hi
  rw [World.cell?_alloc_mark]
  simp [h]
theorem put_bl (hP : PutOK) (w : World) (H : Nat) (hH : w.heap.size = H) : Calls Try.prog 12 #[.string { data := #[98, 108] }, .slice (some ⟨H + 2, 0, none⟩) 2 2]
    (((w.alloc (.cells #[.int .u8 7, .int .u8 8] 5)).alloc (.cells #[.int .u64 1, .int .u64 300] 39)).alloc
      (.cells #[.int .u64 0, .int .i64 0, .bool false, .slice (some ⟨H, 0, none⟩) 2 2, .slice none 0 0, .int .u64 0, .int .i64 0, .bool false, .slice none 0 0, .slice (some ⟨H + 1, 0, none⟩) 2 2] 42))
    fun e w' => ∃ A c, e = .returned (.tuple #[.slice A 7 c, .int .i64 0]) ∧ Bytes w' A 7 (pick [2, 7, 8, 2, 1, 172, 2]) ∧ Below w.heap.size w w' := by
  subst hH
  have hb1 := lit_bytes w [7, 8] (by simp) 5
  have hb2 := lit_longs (w.alloc (.cells #[.int .u8 7, .int .u8 8] 5)) [1, 300] (by simp) 39
  rw [World.size_alloc] at hb2
  have h3 := lit_vals ((w.alloc (.cells #[.int .u8 7, .int .u8 8] 5)).alloc (.cells #[.int .u64 1, .int .u64 300] 39))
    #[.int .u64 0, .int .i64 0, .bool false, .slice (some ⟨w.heap.size, 0, none⟩) 2 2, .slice none 0 0, .int .u64 0, .int .i64 0, .bool false, .slice none 0 0, .slice (some ⟨w.heap.size + 1, 0, none⟩) 2 2] 42 2 (by omega) (blV w.heap.size) (fun j hj => by
      unfold blV
      split
      · exact ⟨by show 0 < _; omega, by show _ ≤ (0 : Int) ∧ (0 : Int) ≤ _; omega, ⟨(hb1.alloc _).alloc _, (fun e => by cases e), by show 2 ≤ _; omega, by show 2 ≤ 2; omega, by show 2 ≤ _; omega⟩, ⟨Nums.zero _ _, fun _ => ⟨rfl, rfl⟩, by show 0 ≤ _; omega, by show 0 ≤ 0; omega, by show 0 ≤ _; omega⟩⟩
      · exact ⟨by show 0 < _; omega, by show _ ≤ (0 : Int) ∧ (0 : Int) ≤ _; omega, ⟨Nums.zero _ _, fun _ => ⟨rfl, rfl⟩, by show 0 ≤ _; omega, by show 0 ≤ 0; omega, by show 0 ≤ _; omega⟩, ⟨hb2.alloc _, (fun e => by cases e), by show 2 ≤ _; omega, by show 2 ≤ 2; omega, by show 2 ≤ _; omega⟩⟩) (fun j hj => by
      rcases (show j = 0 ∨ j = 1 by omega) with rfl | rfl <;> simp [blV, with_b, with_l])
  rw [World.size_alloc, World.size_alloc] at h3
  refine (hP _ _ 2 2 (blV w.heap.size) _ (by decide) h3).mono ?_
  have em : means (blV w.heap.size) 2 = [(with_b (some ⟨w.heap.size, 0, none⟩) 2 2 (pick [7, 8])).mean, (with_l (some ⟨w.heap.size + 1, 0, none⟩) 2 2 (pick [1, 300])).mean] := rfl
  have el : letters { data := #[98, 108] } = [98, 108] := rfl
  have e1 : seg (pick [7, 8]) 0 2 = [7, 8] := rfl
  have e2 : seg (pick [1, 300]) 0 2 = [1, 300] := rfl
  rw [em, el]
  have hG : Good [98, 108] [(with_b (some ⟨w.heap.size, 0, none⟩) 2 2 (pick [7, 8])).mean, (with_l (some ⟨w.heap.size + 1, 0, none⟩) 2 2 (pick [1, 300])).mean] := by
    refine ⟨by decide, ?_, ?_, trivial⟩ <;> · unfold Fits RV.mean; simp [with_b, with_l, seg_zero]
  have hS : AllShort [(with_b (some ⟨w.heap.size, 0, none⟩) 2 2 (pick [7, 8])).mean, (with_l (some ⟨w.heap.size + 1, 0, none⟩) 2 2 (pick [1, 300])).mean] := by
    intro v hv
    simp at hv
    rcases hv with rfl | rfl <;> · unfold Short RV.mean; simp [with_b, with_l, seg_len]
  rintro e w' ⟨hb, h | h | ⟨-, -, A, c, rfl, -, -, -, hB⟩⟩
  · exact absurd hG h.1
  · exact absurd hS h.2.1
  · rw [bl_form] at hB ⊢
    exact ⟨A, c, rfl, hB, (((Below.refl _ w).alloc (Nat.le_refl _) _).alloc (by simp) _ |>.alloc (by simp; omega) _).trans (hb.mono (by simp; omega))⟩
/-- no values by no schema, or by another one -/
theorem put_no (hP : PutOK) (s : ByteArray) (hs : s.size ≤ 100) (hn : ¬ Good (letters s) []) (w : World) : Calls Try.prog 12 #[.string s, .slice none 0 0] w fun e w' => e = .returned (.tuple #[.slice none 0 0, .int .i64 2]) ∧ Below w.heap.size w w' := by
  refine (hP s none 0 0 (fun _ => default) w (by omega) ⟨Vals.zero _ _ _, fun _ => ⟨rfl, rfl⟩, ⟨Nat.le_refl _, by omega⟩, by omega⟩).mono ?_
  have em : means (fun _ => default) 0 = [] := rfl
  rw [em]
  rintro e w' ⟨hb, h | h | h⟩
  · exact ⟨h.2, hb⟩
  · exact absurd h.1 hn
  · exact absurd h.1 hn
theorem put_i1 (hP : PutOK) (w : World) (H : Nat) (hH : w.heap.size = H) : Calls Try.prog 12 #[.string { data := #[110] }, .slice (some ⟨H, 0, none⟩) 1 1]
    (w.alloc (.cells #[.int .u64 0, .int .i64 1, .bool false, .slice none 0 0, .slice none 0 0] 42))
    fun e w' => e = .returned (.tuple #[.slice none 0 0, .int .i64 2]) ∧ Below w.heap.size w w' := by
  subst hH
  refine (hP _ _ 1 1 (fun _ => plain 0 1 false) _ (by decide) (lit_vals w _ _ 1 (by omega) (fun _ => plain 0 1 false) (fun j hj => plain_ok _ (by omega) (by omega)) (fun j hj => ?_))).mono ?_
  · obtain rfl : j = 0 := by omega
    simp [plain]
  · have em : means (fun _ => plain 0 1 false) 1 = [(plain 0 1 false).mean] := rfl
    have el : letters { data := #[110] } = [110] := rfl
    rw [em, el]
    have hG : ¬ Good [110] [(plain 0 1 false).mean] := by
      rintro ⟨-, ⟨-, h, -⟩, -⟩
      simp [plain, RV.mean] at h
    rintro e w' ⟨hb, h | h | h⟩
    · exact ⟨h.2, ((Below.refl _ w).alloc (Nat.le_refl _) _).trans (hb.mono (by simp))⟩
    · exact absurd h.1 hG
    · exact absurd h.1 hG
theorem one_of {c : Nat} {l : List WV} (h : AllFit [c] l) : ∃ v, l = [v] ∧ Fits c v := by
  match l, h with
  | [v], h => exact ⟨v, rfl, h.1⟩
theorem take_no (hT : TakeOK) (s : ByteArray) (hs : s.size ≤ 100) (hS : Schema (letters s)) (A : Option Addr) (n : Nat) (hn : n ≤ 100) (f : Nat → Nat) (W : World) (h : Bytes W A n f) (hA : A = none → n = 0) (hno : ∀ l r, Valid (letters s) l → forms (letters s) l ++ r ≠ seg f 0 n) :
    Calls Try.prog 18 #[.string s, .slice A n n] W fun e w' => e = .returned (.tuple #[.slice none 0 0, .int .i64 0, .int .i64 40]) ∧ Below W.heap.size W w' := by
  refine (hT s A n n f W (by omega) h (fun e => ⟨hA e, hA e⟩) (Nat.le_refl _) (by omega) (by omega)).mono ?_
  rintro e w' ⟨hb, h | h | ⟨_, _, _, V, r, hv, hf, -⟩⟩
  · exact absurd hS h.1
  · exact ⟨h.2.2, hb⟩
  · exact absurd hf (hno _ r hv)

theorem no_x : ¬ Good (letters { data := #[120] }) [] := fun h => by
  have := h.2
  exact this
theorem no_n : ¬ Good (letters { data := #[110] }) [] := fun h => by
  have := h.2
  exact this
theorem no_f2 : ∀ l r, Valid (letters { data := #[102] }) l → forms (letters { data := #[102] }) l ++ r ≠ seg (pick [2]) 0 1 := by
  intro l r hv h
  obtain ⟨v, rfl, -⟩ := one_of (c := 102) hv.1.2
  have el : letters { data := #[102] } = [102] := rfl
  have e1 : seg (pick [2]) 0 1 = [2] := rfl
  rw [el, e1] at h
  simp [forms, form] at h
  cases hf : v.f <;> simp [hf] at h
theorem no_f0 (f : Nat → Nat) : ∀ l r, Valid (letters { data := #[102] }) l → forms (letters { data := #[102] }) l ++ r ≠ seg f 0 0 := by
  intro l r hv h
  obtain ⟨v, rfl, -⟩ := one_of (c := 102) hv.1.2
  have el : letters { data := #[102] } = [102] := rfl
  rw [el, seg_zero] at h
  simp [forms, form] at h
theorem no_b27 : ∀ l r, Valid (letters { data := #[98] }) l → forms (letters { data := #[98] }) l ++ r ≠ seg (pick [2, 7]) 0 2 := by
  intro l r hv h
  obtain ⟨v, rfl, -⟩ := one_of (c := 98) hv.1.2
  have el : letters { data := #[98] } = [98] := rfl
  have e1 : seg (pick [2, 7]) 0 2 = word 2 ++ [7] := by rw [w2]; rfl
  rw [el, e1] at h
  simp only [forms, List.append_nil] at h
  have e2 : form 98 v = word v.b.length ++ v.b := by unfold form; simp
  rw [e2, List.append_assoc] at h
  have e3 := word_inj h
  rw [e3] at h
  have h2 := congrArg List.length (List.append_cancel_left h)
  simp at h2
  omega
theorem no_n56 : ∀ l, Valid (letters { data := #[110] }) l → forms (letters { data := #[110] }) l ≠ seg (pick [5, 6]) 0 2 := by
  intro l hv h
  obtain ⟨v, rfl, -⟩ := one_of (c := 110) hv.1.2
  have el : letters { data := #[110] } = [110] := rfl
  have e1 : seg (pick [5, 6]) 0 2 = word 5 ++ [6] := by rw [word_small (by omega)]; rfl
  rw [el, e1] at h
  have e2 : form 110 v = word v.n := by unfold form; simp
  simp only [forms, e2, List.append_nil] at h
  have h' : word v.n ++ [] = word 5 ++ [6] := by rw [List.append_nil]; exact h
  have e3 := word_inj h'
  rw [e3] at h'
  have := List.append_cancel_left h'
  cases this
theorem take_f2 (hT : TakeOK) (w : World) (H : Nat) (hH : w.heap.size = H) : Calls Try.prog 18 #[.string { data := #[102] }, .slice (some ⟨H, 0, none⟩) 1 1] (w.alloc (.cells #[.int .u8 2] 5))
    fun e w' => e = .returned (.tuple #[.slice none 0 0, .int .i64 0, .int .i64 40]) ∧ Below w.heap.size w w' := by
  subst hH
  refine (take_no hT _ (by decide) (by decide) _ 1 (by omega) (pick [2]) _ (lit_bytes w [2] (by simp) 5) (fun e => by cases e) no_f2).mono ?_
  rintro e w' ⟨rfl, hb⟩
  exact ⟨rfl, ((Below.refl _ w).alloc (Nat.le_refl _) _).trans (hb.mono (by simp))⟩
theorem take_b27 (hT : TakeOK) (w : World) (H : Nat) (hH : w.heap.size = H) : Calls Try.prog 18 #[.string { data := #[98] }, .slice (some ⟨H, 0, none⟩) 2 2] (w.alloc (.cells #[.int .u8 2, .int .u8 7] 5))
    fun e w' => e = .returned (.tuple #[.slice none 0 0, .int .i64 0, .int .i64 40]) ∧ Below w.heap.size w w' := by
  subst hH
  refine (take_no hT _ (by decide) (by decide) _ 2 (by omega) (pick [2, 7]) _ (lit_bytes w [2, 7] (by simp) 5) (fun e => by cases e) no_b27).mono ?_
  rintro e w' ⟨rfl, hb⟩
  exact ⟨rfl, ((Below.refl _ w).alloc (Nat.le_refl _) _).trans (hb.mono (by simp))⟩
theorem whole_n56 (hW : WholeOK4) (w : World) (H : Nat) (hH : w.heap.size = H) : Calls Try.prog 20 #[.string { data := #[110] }, .slice (some ⟨H, 0, none⟩) 2 2] (w.alloc (.cells #[.int .u8 5, .int .u8 6] 5))
    fun e w' => e = .returned (.tuple #[.slice none 0 0, .int .i64 40]) ∧ Below w.heap.size w w' := by
  subst hH
  refine (hW { data := #[110] } _ 2 2 (pick [5, 6]) _ (by decide) (lit_bytes w [5, 6] (by simp) 5) (fun e => by cases e) (by omega) (by omega) (by omega)).mono ?_
  rintro e w' ⟨hb, h | h | ⟨_, _, _, V, hv, hf, -⟩⟩
  · exact absurd (by decide) h.1
  · exact ⟨h.2.2, ((Below.refl _ w).alloc (Nat.le_refl _) _).trans (hb.mono (by simp))⟩
  · exact absurd hf (no_n56 _ hv)
theorem same_lit (w : World) (l : List Nat) (hl : ∀ x ∈ l, x < 256) (hn : l.length ≤ 100) (cs : Array Value) (hcs : cs = (l.map fun (x : Nat) => Value.int .u8 (x : Nat)).toArray) (k : Nat) (hk : k = l.length) (A : Option Addr) (c : Nat) (h : Bytes w A k (pick l)) (H : Nat) (hH : w.heap.size = H) :
    Calls Try.prog 14 #[.slice A k c, .slice (some ⟨H, 0, none⟩) k k] (w.alloc (.cells cs 5)) fun e w' => e = .returned (.bool true) ∧ Below w.heap.size w w' := by
  subst hH hcs hk
  refine (same_any A (some ⟨w.heap.size, 0, none⟩) l.length l.length c l.length (pick l) (pick l) _ (h.alloc _) (lit_bytes w l hl 5) (by omega) (by omega) true ⟨fun _ => rfl, fun _ => rfl⟩).mono ?_
  rintro e w' ⟨rfl, hd⟩
  exact ⟨rfl, ((Below.refl _ w).alloc (Nat.le_refl _) _).trans (hd.below.mono (by simp))⟩

set_option maxRecDepth 100000 in
set_option maxHeartbeats 8000000 in
theorem awake4_any (hP : PutOK) (hT : TakeOK) (hW : WholeOK4) (w : World) : Calls Try.prog 23 #[] w fun e w' => e = .returned (.bool true) ∧ Below w.heap.size w w' := by
  have KP := Lib.hid hP
  have KT := Lib.hid hT
  have KW := Lib.hid hW
  clear hP hT hW
  go_enter Try.func23, Try.ntmps23
  go_wp2_with fail
  refine (put_nif KP.out w _ rfl).mono ?_
  rintro e w1 ⟨A, cA, rfl, hB, hb⟩
  have J1 := Lib.hid hB
  have K1 := Lib.hid hb
  clear hB hb
  go_wp2_with fail
  refine (put_bl KP.out w1 _ rfl).mono ?_
  rintro e w2 ⟨B, cB, rfl, hB, hb⟩
  have J2 := Lib.hid (J1.out.below hb)
  have L2 := Lib.hid hB
  have K2 := Lib.hid (K1.out.trans (hb.mono K1.out.size))
  clear hB hb J1 K1
  go_wp2_with fail
  refine (put_no KP.out _ (by decide) no_x w2).mono ?_
  rintro e w3 ⟨rfl, hb⟩
  have J3 := Lib.hid (J2.out.below hb)
  have L3 := Lib.hid (L2.out.below hb)
  have K3 := Lib.hid (K2.out.trans (hb.mono K2.out.size))
  clear hb J2 L2 K2
  go_wp2_with fail
  refine (put_no KP.out _ (by decide) no_n w3).mono ?_
  rintro e w4 ⟨rfl, hb⟩
  have J4 := Lib.hid (J3.out.below hb)
  have L4 := Lib.hid (L3.out.below hb)
  have K4 := Lib.hid (K3.out.trans (hb.mono K3.out.size))
  clear hb J3 L3 K3
  go_wp2_with fail
  refine (put_i1 KP.out w4 _ rfl).mono ?_
  rintro e w5 ⟨rfl, hb⟩
  have J5 := Lib.hid (J4.out.below hb)
  have L5 := Lib.hid (L4.out.below hb)
  have K5 := Lib.hid (K4.out.trans (hb.mono K4.out.size))
  clear hb J4 L4 K4
  go_wp2_with fail
  refine (take_f2 KT.out w5 _ rfl).mono ?_
  rintro e w6 ⟨rfl, hb⟩
  have J6 := Lib.hid (J5.out.below hb)
  have L6 := Lib.hid (L5.out.below hb)
  have K6 := Lib.hid (K5.out.trans (hb.mono K5.out.size))
  clear hb J5 L5 K5
  go_wp2_with fail
  refine (take_no KT.out { data := #[102] } (by decide) (by decide) none 0 (by omega) (fun _ => 0) w6 (Nums.zero _ _) (fun _ => rfl) (no_f0 _)).mono ?_
  rintro e w7 ⟨rfl, hb⟩
  have J7 := Lib.hid (J6.out.below hb)
  have L7 := Lib.hid (L6.out.below hb)
  have K7 := Lib.hid (K6.out.trans (hb.mono K6.out.size))
  clear hb J6 L6 K6
  go_wp2_with fail
  refine (take_b27 KT.out w7 _ rfl).mono ?_
  rintro e w8 ⟨rfl, hb⟩
  have J8 := Lib.hid (J7.out.below hb)
  have L8 := Lib.hid (L7.out.below hb)
  have K8 := Lib.hid (K7.out.trans (hb.mono K7.out.size))
  clear hb J7 L7 K7
  go_wp2_with fail
  refine (whole_n56 KW.out w8 _ rfl).mono ?_
  rintro e w9 ⟨rfl, hb⟩
  have J9 := Lib.hid (J8.out.below hb)
  have L9 := Lib.hid (L8.out.below hb)
  have K9 := Lib.hid (K8.out.trans (hb.mono K8.out.size))
  clear hb J8 L8 K8
  go_wp2_with fail
  refine (same_lit w9 [172, 2, 1, 1] (by simp) (by decide) _ (by rfl) 4 rfl A cA J9.out _ rfl).mono ?_
  rintro e w10 ⟨rfl, hb⟩
  have L10 := Lib.hid (L9.out.below hb)
  have K10 := Lib.hid (K9.out.trans (hb.mono K9.out.size))
  clear hb J9 L9 K9
  go_wp2_with fail
  refine (same_lit w10 [2, 7, 8, 2, 1, 172, 2] (by simp) (by decide) _ (by rfl) 7 rfl B cB L10.out _ rfl).mono ?_
  rintro e w11 ⟨rfl, hb⟩
  have K11 := Lib.hid (K10.out.trans (hb.mono K10.out.size))
  clear hb L10 K10
  go_wp2
  go_ret
  exact ⟨rfl, K11.out⟩
end Go.Proofs.Ytkjndgnjilfobaa
