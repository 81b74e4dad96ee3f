/-
  Rows of bytes that a call made; the document's Same tells whether bytes are the same, its Copy hands back bytes of its own.
-/
import Derived.WalkKit
import Derived.Laws.AppendOwnNone
import Derived.BigQuiet
import Derived.Deep.QuietTactic
import Derived.Test.YtkjndgnjilfobaaProg
import Derived.Test.YtkjndgnjilfobaaNums
namespace Go.Proofs.Ytkjndgnjilfobaa
open Go.RowKit

theorem Try.info5 : (Try.prog.info? 5).map (fun i => (i.zero, i.size, i.bytes)) = some (some (.int .u8 0), 1, 1) := by kernel_rfl
/-- A row of bytes that the call made: its slice value, and what it reads as. -/
def Made (w : World) (l : List Nat) (e : Ending) (w' : World) : Prop :=
  ∃ A c, e = .returned (.slice A l.length c) ∧ l.length ≤ c ∧ c ≤ maxLen ∧ (A = none → l.length = 0 ∧ c = 0) ∧ Bytes w' A l.length (pick l) ∧ owns w' w.heap.size 5 .u8 (.slice A l.length c) l ∧ Below w.heap.size w w'

theorem made_of {w w' W : World} {l : List Nat} {v : Value} (hl : ∀ x ∈ l, x < 256) (h : owns w' w.heap.size 5 .u8 v l) (hW : W.heap.size ≤ w.heap.size) (hb : Below W.heap.size W w') : Made W l (.returned v) w' := by
  obtain ⟨A, c, rfl, h1, h2, h3⟩ := h.form
  exact ⟨A, c, rfl, h1, h2, h3, h.nums hl, h.down hW, hb⟩

theorem Nums.cells {K : IntKind} {M : Nat} {w : World} {ad : Addr} {n : Nat} {f : Nat → Nat} (h : Nums K M w (some ad) n f) :
    ∀ j u, ((seg f 0 n).map fun (x : Nat) => Value.int K (x : Nat))[j]? = some u → w.cell? (ad.add j) = some u := by
  intro j u hj
  have hlt : j < n := by
    obtain ⟨h1, _⟩ := List.getElem?_eq_some_iff.1 hj
    simpa [seg_len] using h1
  obtain ⟨b, off, e, _, hc⟩ := h.at_ hlt
  injection e with e
  subst e
  rw [List.getElem?_map, seg_get f 0 n j hlt] at hj
  simp at hj
  subst hj
  have e : (Addr.add ⟨b, off, none⟩ j) = ⟨b, off + j, none⟩ := by unfold Addr.add; split <;> simp_all
  rw [e]; exact hc
theorem one_cells (K : IntKind) (l : List Nat) : ∀ u ∈ l.map (fun (x : Nat) => Value.int K (x : Nat)), u.oneCell' = true := by
  intro u hu
  obtain ⟨x, _, rfl⟩ := List.mem_map.1 hu
  rfl
theorem owns.one (w : World) (e : Nat) (K : IntKind) (x : Nat) : owns (w.alloc (.cells #[.int K (x : Nat)] e)) w.heap.size e K (.slice (some ⟨w.heap.size, 0, none⟩) 1 1) [x] :=
  ⟨by simp, .inr ⟨w.heap.size, 1, #[.int K (x : Nat)], rfl, Nat.le_refl _, heap_alloc_new w _, Nat.le_refl _, by unfold maxLen; omega, by simp, by simp⟩⟩

theorem below_drewN {B : Nat} {a w : World} (h : Below B a w) (n : Nat) : Below B a (w.drewN n) := ⟨h.os, h.tape, h.output, h.size, h.block⟩
/-- the world behind a call that reads in an order that Go leaves open -/
def Drawn (w w' : World) : Prop := ∃ q, w' = w.drewN q
theorem Drawn.step {w w' : World} (h : Drawn w w') (n : Nat) : Drawn w (w'.drewN n) := by
  obtain ⟨q, rfl⟩ := h
  exact ⟨q + n, by simp [World.drewN, Nat.add_assoc]⟩
theorem Drawn.below {w w' : World} (h : Drawn w w') : Below w.heap.size w w' := by
  obtain ⟨q, rfl⟩ := h
  exact below_drewN (Below.refl _ _) q

set_option maxHeartbeats 1000000 in
theorem same_any (A B : Option Addr) (n m c d : Nat) (f g : Nat → Nat) (w : World) (h : Bytes w A n f) (h' : Bytes w B m g) (hn : n ≤ 4611686018427387904) (hm : m ≤ 4611686018427387904) (r : Bool) (hr : r = true ↔ seg f 0 n = seg g 0 m) :
    Calls Try.prog 14 #[.slice A n c, .slice B m d] w fun e w' => e = .returned (.bool r) ∧ Drawn w w' := by
  have H := Lib.hid h
  have G := Lib.hid h'
  have R := Lib.hid hr
  clear h h' hr
  by_cases hnm : n = m
  · subst hnm
    go_enter Try.func14, Try.ntmps14
    go_wp2
    go_loopw [5] (fun i wr => ∃ k : Nat, k ≤ n ∧ (∀ j, j < k → f j = g j) ∧ i = .int .i64 k ∧ Drawn w wr) (fun i _ => n - (intOf i).toNat)
    case atStart => exact ⟨0, Nat.zero_le _, fun j hj => by omega, rfl, 0, rfl⟩
    case round =>
      obtain ⟨k, hk, hpre, rfl, hd⟩ := hrel
      have D := Lib.hid hd
      have P := Lib.hid hpre; clear hpre
      by_cases hlt : k < n
      · obtain ⟨q, rfl⟩ := hd
        obtain ⟨b, off, rfl, hb, hc⟩ := H.out.at_ hlt
        obtain ⟨b', off', rfl, hb', hc'⟩ := G.out.at_ hlt
        clear hb hb'
        have hlt' : (k : Int) < n := by omega
        have hk0 : (0 : Int) ≤ k := by omega
        by_cases he : f k = g k
        · rw [← he] at hc'
          have hx : ((f k : Int) != (f k : Int)) = false := by simp
          have P2 : Hid (∀ j, j < k + 1 → f j = g j) := Lib.hid (by
            intro j hj
            rcases Nat.lt_or_ge j k with h | h
            · exact P.out j h
            · obtain rfl : j = k := by omega
              exact he)
          clear he
          generalize f k = x at hc hc' hx
          go_wp2_with (fail)
          go_quiet (fail)
          go_wp2
          go_roundw
          case rel => exact ⟨k + 1, by omega, P2.out, by go_num, _, rfl⟩
          case measure => simp [intOf]; omega
        · have hx : ((f k : Int) != (g k : Int)) = true := by simp; omega
          have hr0 : r = false := by
            cases r
            · rfl
            · have := seg_inj (R.out.1 rfl) hlt
              simp only [Nat.zero_add] at this
              exact absurd this he
          subst hr0
          clear he
          generalize f k = x at hc hx
          generalize g k = y at hc' hx
          go_wp2_with (fail)
          go_quiet (fail)
          go_wp2
          go_ret
          exact ⟨rfl, Drawn.step ⟨q, rfl⟩ _⟩
      · obtain rfl : k = n := by omega
        have hr1 : r = true := R.out.2 (seg_congr fun i hi => by rw [Nat.zero_add]; exact P.out i hi)
        subst hr1
        go_wp2
        go_ret
        exact ⟨rfl, D.out⟩
  · have hr0 : r = false := by
      cases r
      · rfl
      · have := congrArg List.length (R.out.1 rfl)
        simp only [seg_len] at this
        exact absurd this hnm
    subst hr0
    have hx : ((n : Int) != (m : Int)) = true := by simp; omega
    go_enter Try.func14, Try.ntmps14
    go_wp2
    go_ret
    exact ⟨rfl, 0, rfl⟩

set_option maxHeartbeats 1000000 in
theorem copy_any (A : Option Addr) (n c : Nat) (f : Nat → Nat) (w : World) (h : Bytes w A n f) (hn : n ≤ 1048576) (hA : A = none → n = 0 ∧ c = 0) :
    Calls Try.prog 17 #[.slice A n c] w (Made w (seg f 0 n)) := by
  obtain ⟨i0, hi, hz0, hz1, hz2⟩ := info_parts Try.info5
  have hb : ∀ x ∈ seg f 0 n, x < 256 := fun x hx => by obtain ⟨i, hi, rfl⟩ := seg_mem hx; rw [Nat.zero_add]; exact h.bd hi
  have HB := Lib.hid hb; clear hb
  cases A with
  | none =>
    obtain ⟨rfl, rfl⟩ := hA rfl
    clear hA h
    go_enter Try.func17, Try.ntmps17
    go_wp2_with (at_builtin; refine wpList_append_own_none rfl _ _ 25 rfl w.heap.size 5 i0 1 Try.underlying25 hi _ 0 [] rfl (World.ownsRow_nil _ _ _ _) rfl ?_)
    go_ret
    exact made_of HB.out (w := w) (World.ownsRow_nil _ _ _ _) (Nat.le_refl _) (Below.refl _ _)
  | some ad =>
    have C1 := Lib.hid (Nums.cells h)
    have C2 := Lib.hid (one_cells .u8 (seg f 0 n))
    have C3 : Hid _ := Lib.hid (seg_len f 0 n)
    clear hA h
    go_enter Try.func17, Try.ntmps17
    go_wp2_with (at_builtin; refine wpList_append_own _ rfl _ _ 25 rfl w.heap.size 5 i0 (.int .u8 0) 1 1 Try.underlying25 hi hz0 hz1 hz2 rfl (by decide) _ 0 [] rfl (World.ownsRow_nil _ _ _ _) ad n c _ rfl (by rw [List.length_map, C3.out, Nat.mul_one]) C1.out C2.out (by unfold maxLen; omega) (by omega) (Nat.le_refl _) ?_)
    intro v' w1 hown hg hnil
    have hbel : Below w.heap.size w w1 := (Below.refl _ _).grown hg (Nat.le_refl _) (fun k e => by cases e)
    have R : Hid (Made w (seg f 0 n) (.returned v') w1) := Lib.hid (made_of HB.out (w := w) (by
      try simp only [Nat.zero_add, List.nil_append] at hown
      unfold owns; rw [C3.out]; exact hown) (Nat.le_refl _) hbel)
    clear hown hg hnil hbel
    go_wp2
    go_ret
    exact R.out
end Go.Proofs.Ytkjndgnjilfobaa
