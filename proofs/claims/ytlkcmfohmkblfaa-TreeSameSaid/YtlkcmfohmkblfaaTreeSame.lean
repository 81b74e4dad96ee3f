/-
  The law TreeSame, of any program that answers as is asked.
-/
import Derived.Test.YtlkcmfohmkblfaaTreeNested
import Derived.Test.YtlkcmfohmkblfaaSame5
import Derived.Deep.MidRow
namespace Go.Proofs.Ytlkcmfohmkblfaa
open Go.RowKit

/-- where the walk stands: two documents and their variables -/
structure Two (H : Nat) (A : Option Addr) (n c : Nat) (x : Int) (N : Nat → RN) (B : Option Addr) (m d : Nat) (y : Int) (M : Nat → RN) (w W : World) : Prop where
  below : Below H w W
  size : H ≤ W.heap.size
  d1 : DocIn W A n c x N
  d2 : DocIn W B m d y M
  x10 : W.cell? ⟨H, 0, none⟩ = some (.slice A n c)
  x11 : W.cell? ⟨H, 1, none⟩ = some (.int .i64 x)
  x20 : W.cell? ⟨H + 1, 0, none⟩ = some (.slice B m d)
  x21 : W.cell? ⟨H + 1, 1, none⟩ = some (.int .i64 y)
theorem Two.next {H : Nat} {A : Option Addr} {n c : Nat} {x : Int} {N : Nat → RN} {B : Option Addr} {m d : Nat} {y : Int} {M : Nat → RN} {w W W' : World} (h : Two H A n c x N B m d y M w W) (hb : Below W.heap.size W W') : Two H A n c x N B m d y M w W' := by
  have k : ∀ {q o : Nat} {v : Value}, W.cell? ⟨q, o, none⟩ = some v → W'.cell? ⟨q, o, none⟩ = some v := fun {q o v} hv => (hb.cell (lt_of_cell hv)).trans hv
  exact ⟨h.below.trans (hb.mono h.size), Nat.le_trans h.size hb.size, h.d1.below hb, h.d2.below hb, k h.x10, k h.x11, k h.x20, k h.x21⟩
theorem two_start {A : Option Addr} {n c : Nat} {x : Int} {N : Nat → RN} {B : Option Addr} {m d : Nat} {y : Int} {M : Nat → RN} {w : World} (h : DocIn w A n c x N) (h' : DocIn w B m d y M) :
    Two w.heap.size A n c x N B m d y M w ((w.alloc (.cells #[.slice A n c, .int .i64 x] 24)).alloc (.cells #[.slice B m d, .int .i64 y] 24)) := by
  have hb : Below w.heap.size w ((w.alloc (.cells #[.slice A n c, .int .i64 x] 24)).alloc (.cells #[.slice B m d, .int .i64 y] 24)) := ((Below.refl _ _).alloc (Nat.le_refl _) _).alloc (by simp) _
  exact ⟨hb, hb.size, h.below hb, h'.below hb, by simp, by simp, by simp [World.cell?_alloc_at], by simp [World.cell?_alloc_at]⟩
theorem two_S {H : Nat} {A : Option Addr} {n c : Nat} {x : Int} {N : Nat → RN} {B : Option Addr} {m d : Nat} {y : Int} {M : Nat → RN} {w W : World} (h : Two H A n c x N B m d y M w W) :
    Two H A n c x N B m d y M w W ∧ W.cell? ⟨H, 0, none⟩ = some (.slice A n c) ∧ W.cell? ⟨H, 1, none⟩ = some (.int .i64 x) ∧ W.cell? ⟨H + 1, 0, none⟩ = some (.slice B m d) ∧ W.cell? ⟨H + 1, 1, none⟩ = some (.int .i64 y) := ⟨h, h.x10, h.x11, h.x20, h.x21⟩
theorem Two.drew {H : Nat} {A : Option Addr} {n c : Nat} {x : Int} {N : Nat → RN} {B : Option Addr} {m d : Nat} {y : Int} {M : Nat → RN} {w W : World} (h : Two H A n c x N B m d y M w W) : Two H A n c x N B m d y M w W.drew := h.next (Below.refl _ _).drew
theorem SameDoc.symm {n : Nat} {x : Int} {N : Nat → RN} {m : Nat} {y : Int} {M : Nat → RN} (h : SameDoc n x N m y M) : SameDoc m y M n x N := ⟨h.1.symm, h.2.1.symm, fun j hj => (h.2.2 j (by have := h.2.1; omega)).symm⟩
section
variable {H : Nat} {A : Option Addr} {n c : Nat} {x : Int} {N : Nat → RN} {B : Option Addr} {m d : Nat} {y : Int} {M : Nat → RN} {w : World} {sm : Bool}
theorem same_ab (hS : SameOK5) (hs : sm = true ↔ SameDoc n x N m y M) : ∀ W, Two H A n c x N B m d y M w W →
    Calls Try.prog 16 #[.agg #[.slice A n c, .int .i64 x], .agg #[.slice B m d, .int .i64 y]] W fun e w' => e = .returned (.bool sm) ∧ Below W.heap.size W w' := fun W h =>
  (hS A n c x N B m d y M W h.d1 h.d2).mono fun e w' ⟨b, he, hb, hl⟩ => ⟨by rw [he, Bool.eq_iff_iff.2 (hb.trans hs.symm)], hl⟩
theorem same_ba (hS : SameOK5) (hs : sm = true ↔ SameDoc n x N m y M) : ∀ W, Two H A n c x N B m d y M w W →
    Calls Try.prog 16 #[.agg #[.slice B m d, .int .i64 y], .agg #[.slice A n c, .int .i64 x]] W fun e w' => e = .returned (.bool sm) ∧ Below W.heap.size W w' := fun W h =>
  (hS B m d y M A n c x N W h.d2 h.d1).mono fun e w' ⟨b, he, hb, hl⟩ => ⟨by rw [he, Bool.eq_iff_iff.2 (hb.trans (Iff.trans ⟨SameDoc.symm, SameDoc.symm⟩ hs.symm))], hl⟩
theorem copy_a (hC : CopyOK5) : ∀ W, Two H A n c x N B m d y M w W →
    Calls Try.prog 15 #[.agg #[.slice A n c, .int .i64 x]] W fun e w' => ∃ BC cC, e = .returned (.agg #[.slice BC n cC, .int .i64 x]) ∧ DocIn w' BC n cC x N ∧ Below W.heap.size W w' := fun W h =>
  (hC A n c x N W h.d1).mono fun _ _ ⟨BC, cC, he, hd, _, hb⟩ => ⟨BC, cC, he, hd, hb⟩
theorem same_ac (hS : SameOK5) (BC : Option Addr) (cC : Nat) : ∀ W, Two H A n c x N B m d y M w W → DocIn W BC n cC x N →
    Calls Try.prog 16 #[.agg #[.slice A n c, .int .i64 x], .agg #[.slice BC n cC, .int .i64 x]] W fun e w' => e = .returned (.bool true) ∧ Below W.heap.size W w' := fun W h hd =>
  (hS A n c x N BC n cC x N W h.d1 hd).mono fun e w' ⟨b, he, hb, hl⟩ => ⟨by rw [he, hb.2 ⟨rfl, rfl, fun _ _ => rfl⟩], hl⟩
end

set_option maxRecDepth 100000 in
set_option maxHeartbeats 4000000 in
theorem same5 (hM : MayOK) (hS : SameOK5) (hC : CopyOK5) (hF : FindOK) (hE : EndOK) (hP : ParentOK) (hK : KidsOK)
    (a0 : Option Addr) (len0 cap0 : Nat) (x0 : Int) (z0 : Nat → RN) (a1 : Option Addr) (len1 cap1 : Nat) (x1 : Int) (z1 : Nat → RN) (w : World) (w0 : DocIn w a0 len0 cap0 x0 z0) (w1 : DocIn w a1 len1 cap1 x1 z1) :
    Calls Try.prog 7 #[docV a0 len0 cap0 x0, docV a1 len1 cap1 x1] w fun e w' => e = .returned (.bool true) ∧ Below w.heap.size w w' := by
  have AW := Lib.hid (awake5_any hM hS hC hF hE hP hK)
  have KS := Lib.hid hS
  have KC := Lib.hid hC
  have D0 := Lib.hid (two_start w0 w1)
  clear hM hS hC hF hE hP hK w0 w1
  unfold docV
  go_enter Try.func7, Try.ntmps7
  go_wp2_with fail
  refine (AW.out _).mono ?_
  rintro e v1 ⟨rfl, hb⟩
  have T1 := Lib.hid (D0.out.next hb)
  clear hb D0 AW
  obtain ⟨-, -, -, -, q0, q1, q2, q3⟩ := T1.out
  go_wp2_with fail
  clear q0 q1 q2 q3
  refine (great_call _ T1.out.d1).mono ?_
  rintro e v2 ⟨g, rfl, hg, hb⟩
  have T2 := Lib.hid (T1.out.next hb)
  clear hb T1
  obtain ⟨-, -, -, -, q0, q1, q2, q3⟩ := T2.out
  cases g
  case true =>
    go_wp2_with fail
    go_ret
    exact ⟨rfl, T2.out.below⟩
  have hn := (hg rfl).1
  clear hg
  go_wp2_with fail
  clear q0 q1 q2 q3
  refine (great_call _ T2.out.d2).mono ?_
  rintro e v3 ⟨g, rfl, hg, hb⟩
  have T3 := Lib.hid (T2.out.next hb)
  clear hb T2
  obtain ⟨-, -, -, -, q0, q1, q2, q3⟩ := T3.out
  cases g
  case true =>
    go_wp2_with fail
    go_ret
    exact ⟨rfl, T3.out.below⟩
  have hm := (hg rfl).1
  clear hg
  by_cases hx : x0 = x1
  · have hxx : (x0 == x1) = true := by simpa using hx
    have HX := Lib.hid hx
    clear hx
    by_cases hl : len0 = len1
    · have hlz : ((len0 : Int) == (len1 : Int)) = true := by simp; omega
      have HLn := Lib.hid hl
      clear hl
      go_wp2_with fail
      clear hxx hlz
      go_loopg [5, 6] len0 (fun g1 sv ii wr => ∃ (k : Nat) (sm : Bool), ii = .int .i64 k ∧ sv = .bool sm ∧ k ≤ len0 ∧ len0 - k ≤ g1 ∧ Hid (sm = true → ∀ j, j < k → z0 j = z1 j) ∧ Hid (sm = false → ¬ SameDoc len0 x0 z0 len1 x1 z1) ∧
        Hid (Two w.heap.size a0 len0 cap0 x0 z0 a1 len1 cap1 x1 z1 w wr))
      case atStart => exact ⟨0, true, rfl, rfl, by omega, by omega, Lib.hid (fun _ j hj => absurd hj (by omega)), Lib.hid (fun h => by cases h), T3⟩
      case round =>
        obtain ⟨k, sm, rfl, rfl, hk, hg1, EQ, NE, T5⟩ := hrel
        clear T3 q0 q1 q2 q3
        obtain ⟨-, -, -, -, q0, q1, q2, q3⟩ := T5.out
        by_cases hlt : k < len0
        · cases sm
          · have hkz : (k : Int) < len0 := by omega
            have HS : Hid (false = true ↔ SameDoc len0 x0 z0 len1 x1 z1) := Lib.hid ⟨(fun h => by cases h), fun h => absurd h (NE.out rfl)⟩
            clear EQ NE HX HLn
            go_wp2_with fail
            clear q0 q1 q2 q3
            have KS1 := Lib.hid (same_ab (H := w.heap.size) (A := a0) (n := len0) (c := cap0) (x := x0) (N := z0) (B := a1) (m := len1) (d := cap1) (y := x1) (M := z1) (w := w) KS.out HS.out)
            have KS2 := Lib.hid (same_ba (H := w.heap.size) (A := a0) (n := len0) (c := cap0) (x := x0) (N := z0) (B := a1) (m := len1) (d := cap1) (y := x1) (M := z1) (w := w) KS.out HS.out)
            have KC1 := Lib.hid (copy_a (H := w.heap.size) (A := a0) (n := len0) (c := cap0) (x := x0) (N := z0) (B := a1) (m := len1) (d := cap1) (y := x1) (M := z1) (w := w) KC.out)
            have KS3 := Lib.hid (same_ac (H := w.heap.size) (A := a0) (n := len0) (c := cap0) (x := x0) (N := z0) (B := a1) (m := len1) (d := cap1) (y := x1) (M := z1) (w := w) KS.out)
            clear KS KC HS
            go_region_held3 (fun W' => Two w.heap.size a0 len0 cap0 x0 z0 a1 len1 cap1 x1 z1 w W' ∧ W'.cell? ⟨w.heap.size, 0, none⟩ = some (.slice a0 len0 cap0) ∧ W'.cell? ⟨w.heap.size, 1, none⟩ = some (.int .i64 x0) ∧ W'.cell? ⟨w.heap.size + 1, 0, none⟩ = some (.slice a1 len1 cap1) ∧ W'.cell? ⟨w.heap.size + 1, 1, none⟩ = some (.int .i64 x1))
              (first | (with_reducible exact two_S KB.out) | (with_reducible exact two_S T5.out.drew))
              (first
              | (go_at_call 16; (with_reducible refine (KS1.out _ (And.left (by assumption))).mono ?_); rintro e w5 ⟨rfl, hb⟩; have KB : Hid (Two w.heap.size a0 len0 cap0 x0 z0 a1 len1 cap1 x1 z1 w w5) := Lib.hid (Two.next (And.left (by assumption)) hb); clear hb)
              | (go_at_call 16; (with_reducible refine (KS2.out _ (And.left (by assumption))).mono ?_); rintro e w5 ⟨rfl, hb⟩; have KB : Hid (Two w.heap.size a0 len0 cap0 x0 z0 a1 len1 cap1 x1 z1 w w5) := Lib.hid (Two.next (And.left (by assumption)) hb); clear hb)
              | (go_at_call 15; (with_reducible refine (KC1.out _ (And.left (by assumption))).mono ?_); rintro e w5 ⟨BC, cC, rfl, hd, hb⟩; have KB : Hid (Two w.heap.size a0 len0 cap0 x0 z0 a1 len1 cap1 x1 z1 w w5) := Lib.hid (Two.next (And.left (by assumption)) hb); have DC := Lib.hid hd; clear hb hd)
              | (go_at_call 16; (with_reducible refine (KS3.out BC cC _ (And.left (by assumption)) DC.out).mono ?_); rintro e w5 ⟨rfl, hb⟩; have KB : Hid (Two w.heap.size a0 len0 cap0 x0 z0 a1 len1 cap1 x1 z1 w w5) := Lib.hid (Two.next (And.left (by assumption)) hb); clear hb))
            go_wp2_with fail
            go_ret
            exact ⟨rfl, KB.out.below⟩
          · have hkz : (k : Int) < len0 := by omega
            have hkz1 : (k : Int) < len1 := by have := HLn.out; omega
            have hk0 : (0 : Int) ≤ k := by omega
            obtain ⟨bA, oA, rfl, hbA, nA⟩ := T5.out.d1.1.1.2 (by omega)
            obtain ⟨bB, oB, rfl, hbB, nB⟩ := T5.out.d2.1.1.2 (by have := HLn.out; omega)
            have okA := T5.out.d1.1.1.1 k hlt
            have okB := T5.out.d2.1.1.1 k (by have := HLn.out; omega)
            have rA : Hid (wr.drew.rangeAt bA (oA + k * 51) (z0 k).cells) := Lib.hid (node_range okA (nA k hlt))
            have rB : Hid (wr.drew.rangeAt bB (oB + k * 51) (z1 k).cells) := Lib.hid (node_range okB (nB k (by have := HLn.out; omega)))
            obtain ⟨r, hr, hiff⟩ := run_node_eq_all okA okB
            have RR := Lib.hid hr
            have RI : Hid (r = true ∧ z0 k = z1 k ∨ r = false ∧ z0 k ≠ z1 k) := Lib.hid (by cases r <;> simp at hiff <;> simp [hiff])
            have LA : Hid ((Try.prog.info? 36).map (·.size) = some (z0 k).cells.length) := Lib.hid (by rw [okA.len]; exact node_isize)
            have LB : Hid ((Try.prog.info? 36).map (·.size) = some (z1 k).cells.length) := Lib.hid (by rw [okB.len]; exact node_isize)
            have TD : Hid (Two w.heap.size (some ⟨bA, oA, none⟩) len0 cap0 x0 z0 (some ⟨bB, oB, none⟩) len1 cap1 x1 z1 w wr.drew) := Lib.hid (T5.out.next (Below.refl _ _).drew)
            clear nA nB okA okB hr hiff
            generalize hX : (z0 k).cells = X at rA RR LA
            generalize hY : (z1 k).cells = Y at rB RR LB
            clear hX hY
            go_wp2_with fail
            refine wp_region_still_d (by kernel_rfl) (by kernel_rfl) ?_
            iterate 4 still_step
            refine wpStill_load_mid rfl 36 _ rfl bA (oA + k * 51) rfl X _ rA.out Try.underlying36 rfl LA.out ?_
            iterate 4 still_step
            refine wpStill_load_mid rfl 36 _ rfl bB (oB + k * 51) rfl Y _ rB.out Try.underlying36 rfl LB.out ?_
            refine wpStill_eq_struct rfl false 36 _ _ _ rfl X.toArray Y.toArray rfl rfl node_guard r RR.out ?_
            repeat still_step
            refine wpStill_nil ?_
            go_simp
            go_wp2_with fail
            go_roundg (len0 - (k + 1))
            case measure => omega
            case rel =>
              refine ⟨k + 1, r, by go_num, rfl, by omega, Nat.le_refl _, Lib.hid (fun hr j hj => ?_), Lib.hid (fun hr hsd => ?_), TD⟩
              · rcases Nat.lt_or_ge j k with h | h
                · exact EQ.out (by trivial) j h
                · obtain rfl : j = k := by omega
                  rcases RI.out with ⟨_, h2⟩ | ⟨h2, _⟩
                  · exact h2
                  · rw [hr] at h2; cases h2
              · rcases RI.out with ⟨h2, _⟩ | ⟨_, h2⟩
                · rw [hr] at h2; cases h2
                · exact h2 (hsd.2.2 k hlt)
        · obtain rfl : k = len0 := by omega
          have HS : Hid (sm = true ↔ SameDoc k x0 z0 len1 x1 z1) := Lib.hid ⟨fun h => ⟨HX.out, HLn.out, EQ.out h⟩, fun h => by
            cases sm
            · exact absurd h (NE.out rfl)
            · rfl⟩
          clear EQ NE HX HLn
          go_wp2_with fail
          clear q0 q1 q2 q3
          have KS1 := Lib.hid (same_ab (H := w.heap.size) (A := a0) (n := k) (c := cap0) (x := x0) (N := z0) (B := a1) (m := len1) (d := cap1) (y := x1) (M := z1) (w := w) KS.out HS.out)
          have KS2 := Lib.hid (same_ba (H := w.heap.size) (A := a0) (n := k) (c := cap0) (x := x0) (N := z0) (B := a1) (m := len1) (d := cap1) (y := x1) (M := z1) (w := w) KS.out HS.out)
          have KC1 := Lib.hid (copy_a (H := w.heap.size) (A := a0) (n := k) (c := cap0) (x := x0) (N := z0) (B := a1) (m := len1) (d := cap1) (y := x1) (M := z1) (w := w) KC.out)
          have KS3 := Lib.hid (same_ac (H := w.heap.size) (A := a0) (n := k) (c := cap0) (x := x0) (N := z0) (B := a1) (m := len1) (d := cap1) (y := x1) (M := z1) (w := w) KS.out)
          clear KS KC HS
          go_region_held3 (fun W' => Two w.heap.size a0 k cap0 x0 z0 a1 len1 cap1 x1 z1 w W' ∧ W'.cell? ⟨w.heap.size, 0, none⟩ = some (.slice a0 k cap0) ∧ W'.cell? ⟨w.heap.size, 1, none⟩ = some (.int .i64 x0) ∧ W'.cell? ⟨w.heap.size + 1, 0, none⟩ = some (.slice a1 len1 cap1) ∧ W'.cell? ⟨w.heap.size + 1, 1, none⟩ = some (.int .i64 x1))
            (first | (with_reducible exact two_S KB.out) | (with_reducible exact two_S T5.out.drew))
            (first
            | (go_at_call 16; (with_reducible refine (KS1.out _ (And.left (by assumption))).mono ?_); rintro e w5 ⟨rfl, hb⟩; have KB : Hid (Two w.heap.size a0 k cap0 x0 z0 a1 len1 cap1 x1 z1 w w5) := Lib.hid (Two.next (And.left (by assumption)) hb); clear hb)
            | (go_at_call 16; (with_reducible refine (KS2.out _ (And.left (by assumption))).mono ?_); rintro e w5 ⟨rfl, hb⟩; have KB : Hid (Two w.heap.size a0 k cap0 x0 z0 a1 len1 cap1 x1 z1 w w5) := Lib.hid (Two.next (And.left (by assumption)) hb); clear hb)
            | (go_at_call 15; (with_reducible refine (KC1.out _ (And.left (by assumption))).mono ?_); rintro e w5 ⟨BC, cC, rfl, hd, hb⟩; have KB : Hid (Two w.heap.size a0 k cap0 x0 z0 a1 len1 cap1 x1 z1 w w5) := Lib.hid (Two.next (And.left (by assumption)) hb); have DC := Lib.hid hd; clear hb hd)
            | (go_at_call 16; (with_reducible refine (KS3.out BC cC _ (And.left (by assumption)) DC.out).mono ?_); rintro e w5 ⟨rfl, hb⟩; have KB : Hid (Two w.heap.size a0 k cap0 x0 z0 a1 len1 cap1 x1 z1 w w5) := Lib.hid (Two.next (And.left (by assumption)) hb); clear hb))
          go_wp2_with fail
          go_ret
          exact ⟨rfl, KB.out.below⟩
    · have hlz : ((len0 : Int) == (len1 : Int)) = false := by simp; omega
      have HS : Hid (false = true ↔ SameDoc len0 x0 z0 len1 x1 z1) := Lib.hid ⟨(fun h => by cases h), fun h => absurd h.2.1 hl⟩
      have T5 := T3
      clear HX hl
      go_wp2_with fail
      clear hxx hlz
      refine wp_loop_rounds 1 ?_
      rw [rounds_succ]
      by_cases h0 : (0 : Int) < len0
      · go_wp2_with fail
        clear q0 q1 q2 q3
        have KS1 := Lib.hid (same_ab (H := w.heap.size) (A := a0) (n := len0) (c := cap0) (x := x0) (N := z0) (B := a1) (m := len1) (d := cap1) (y := x1) (M := z1) (w := w) KS.out HS.out)
        have KS2 := Lib.hid (same_ba (H := w.heap.size) (A := a0) (n := len0) (c := cap0) (x := x0) (N := z0) (B := a1) (m := len1) (d := cap1) (y := x1) (M := z1) (w := w) KS.out HS.out)
        have KC1 := Lib.hid (copy_a (H := w.heap.size) (A := a0) (n := len0) (c := cap0) (x := x0) (N := z0) (B := a1) (m := len1) (d := cap1) (y := x1) (M := z1) (w := w) KC.out)
        have KS3 := Lib.hid (same_ac (H := w.heap.size) (A := a0) (n := len0) (c := cap0) (x := x0) (N := z0) (B := a1) (m := len1) (d := cap1) (y := x1) (M := z1) (w := w) KS.out)
        clear KS KC HS
        go_region_held3 (fun W' => Two w.heap.size a0 len0 cap0 x0 z0 a1 len1 cap1 x1 z1 w W' ∧ W'.cell? ⟨w.heap.size, 0, none⟩ = some (.slice a0 len0 cap0) ∧ W'.cell? ⟨w.heap.size, 1, none⟩ = some (.int .i64 x0) ∧ W'.cell? ⟨w.heap.size + 1, 0, none⟩ = some (.slice a1 len1 cap1) ∧ W'.cell? ⟨w.heap.size + 1, 1, none⟩ = some (.int .i64 x1))
          (first | (with_reducible exact two_S KB.out) | (with_reducible exact two_S T5.out.drew))
          (first
          | (go_at_call 16; (with_reducible refine (KS1.out _ (And.left (by assumption))).mono ?_); rintro e w5 ⟨rfl, hb⟩; have KB : Hid (Two w.heap.size a0 len0 cap0 x0 z0 a1 len1 cap1 x1 z1 w w5) := Lib.hid (Two.next (And.left (by assumption)) hb); clear hb)
          | (go_at_call 16; (with_reducible refine (KS2.out _ (And.left (by assumption))).mono ?_); rintro e w5 ⟨rfl, hb⟩; have KB : Hid (Two w.heap.size a0 len0 cap0 x0 z0 a1 len1 cap1 x1 z1 w w5) := Lib.hid (Two.next (And.left (by assumption)) hb); clear hb)
          | (go_at_call 15; (with_reducible refine (KC1.out _ (And.left (by assumption))).mono ?_); rintro e w5 ⟨BC, cC, rfl, hd, hb⟩; have KB : Hid (Two w.heap.size a0 len0 cap0 x0 z0 a1 len1 cap1 x1 z1 w w5) := Lib.hid (Two.next (And.left (by assumption)) hb); have DC := Lib.hid hd; clear hb hd)
          | (go_at_call 16; (with_reducible refine (KS3.out BC cC _ (And.left (by assumption)) DC.out).mono ?_); rintro e w5 ⟨rfl, hb⟩; have KB : Hid (Two w.heap.size a0 len0 cap0 x0 z0 a1 len1 cap1 x1 z1 w w5) := Lib.hid (Two.next (And.left (by assumption)) hb); clear hb))
        go_wp2_with fail
        go_ret
        exact ⟨rfl, KB.out.below⟩
      · go_wp2_with fail
        clear q0 q1 q2 q3
        have KS1 := Lib.hid (same_ab (H := w.heap.size) (A := a0) (n := len0) (c := cap0) (x := x0) (N := z0) (B := a1) (m := len1) (d := cap1) (y := x1) (M := z1) (w := w) KS.out HS.out)
        have KS2 := Lib.hid (same_ba (H := w.heap.size) (A := a0) (n := len0) (c := cap0) (x := x0) (N := z0) (B := a1) (m := len1) (d := cap1) (y := x1) (M := z1) (w := w) KS.out HS.out)
        have KC1 := Lib.hid (copy_a (H := w.heap.size) (A := a0) (n := len0) (c := cap0) (x := x0) (N := z0) (B := a1) (m := len1) (d := cap1) (y := x1) (M := z1) (w := w) KC.out)
        have KS3 := Lib.hid (same_ac (H := w.heap.size) (A := a0) (n := len0) (c := cap0) (x := x0) (N := z0) (B := a1) (m := len1) (d := cap1) (y := x1) (M := z1) (w := w) KS.out)
        clear KS KC HS
        go_region_held3 (fun W' => Two w.heap.size a0 len0 cap0 x0 z0 a1 len1 cap1 x1 z1 w W' ∧ W'.cell? ⟨w.heap.size, 0, none⟩ = some (.slice a0 len0 cap0) ∧ W'.cell? ⟨w.heap.size, 1, none⟩ = some (.int .i64 x0) ∧ W'.cell? ⟨w.heap.size + 1, 0, none⟩ = some (.slice a1 len1 cap1) ∧ W'.cell? ⟨w.heap.size + 1, 1, none⟩ = some (.int .i64 x1))
          (first | (with_reducible exact two_S KB.out) | (with_reducible exact two_S T5.out.drew))
          (first
          | (go_at_call 16; (with_reducible refine (KS1.out _ (And.left (by assumption))).mono ?_); rintro e w5 ⟨rfl, hb⟩; have KB : Hid (Two w.heap.size a0 len0 cap0 x0 z0 a1 len1 cap1 x1 z1 w w5) := Lib.hid (Two.next (And.left (by assumption)) hb); clear hb)
          | (go_at_call 16; (with_reducible refine (KS2.out _ (And.left (by assumption))).mono ?_); rintro e w5 ⟨rfl, hb⟩; have KB : Hid (Two w.heap.size a0 len0 cap0 x0 z0 a1 len1 cap1 x1 z1 w w5) := Lib.hid (Two.next (And.left (by assumption)) hb); clear hb)
          | (go_at_call 15; (with_reducible refine (KC1.out _ (And.left (by assumption))).mono ?_); rintro e w5 ⟨BC, cC, rfl, hd, hb⟩; have KB : Hid (Two w.heap.size a0 len0 cap0 x0 z0 a1 len1 cap1 x1 z1 w w5) := Lib.hid (Two.next (And.left (by assumption)) hb); have DC := Lib.hid hd; clear hb hd)
          | (go_at_call 16; (with_reducible refine (KS3.out BC cC _ (And.left (by assumption)) DC.out).mono ?_); rintro e w5 ⟨rfl, hb⟩; have KB : Hid (Two w.heap.size a0 len0 cap0 x0 z0 a1 len1 cap1 x1 z1 w w5) := Lib.hid (Two.next (And.left (by assumption)) hb); clear hb))
        go_wp2_with fail
        go_ret
        exact ⟨rfl, KB.out.below⟩
  · have hxx : (x0 == x1) = false := by simpa using hx
    have HS : Hid (false = true ↔ SameDoc len0 x0 z0 len1 x1 z1) := Lib.hid ⟨(fun h => by cases h), fun h => absurd h.1 hx⟩
    have T5 := T3
    clear hx
    go_wp2_with fail
    clear hxx
    refine wp_loop_rounds 1 ?_
    rw [rounds_succ]
    by_cases h0 : (0 : Int) < len0
    · go_wp2_with fail
      clear q0 q1 q2 q3
      have KS1 := Lib.hid (same_ab (H := w.heap.size) (A := a0) (n := len0) (c := cap0) (x := x0) (N := z0) (B := a1) (m := len1) (d := cap1) (y := x1) (M := z1) (w := w) KS.out HS.out)
      have KS2 := Lib.hid (same_ba (H := w.heap.size) (A := a0) (n := len0) (c := cap0) (x := x0) (N := z0) (B := a1) (m := len1) (d := cap1) (y := x1) (M := z1) (w := w) KS.out HS.out)
      have KC1 := Lib.hid (copy_a (H := w.heap.size) (A := a0) (n := len0) (c := cap0) (x := x0) (N := z0) (B := a1) (m := len1) (d := cap1) (y := x1) (M := z1) (w := w) KC.out)
      have KS3 := Lib.hid (same_ac (H := w.heap.size) (A := a0) (n := len0) (c := cap0) (x := x0) (N := z0) (B := a1) (m := len1) (d := cap1) (y := x1) (M := z1) (w := w) KS.out)
      clear KS KC HS
      go_region_held3 (fun W' => Two w.heap.size a0 len0 cap0 x0 z0 a1 len1 cap1 x1 z1 w W' ∧ W'.cell? ⟨w.heap.size, 0, none⟩ = some (.slice a0 len0 cap0) ∧ W'.cell? ⟨w.heap.size, 1, none⟩ = some (.int .i64 x0) ∧ W'.cell? ⟨w.heap.size + 1, 0, none⟩ = some (.slice a1 len1 cap1) ∧ W'.cell? ⟨w.heap.size + 1, 1, none⟩ = some (.int .i64 x1))
        (first | (with_reducible exact two_S KB.out) | (with_reducible exact two_S T5.out.drew))
        (first
        | (go_at_call 16; (with_reducible refine (KS1.out _ (And.left (by assumption))).mono ?_); rintro e w5 ⟨rfl, hb⟩; have KB : Hid (Two w.heap.size a0 len0 cap0 x0 z0 a1 len1 cap1 x1 z1 w w5) := Lib.hid (Two.next (And.left (by assumption)) hb); clear hb)
        | (go_at_call 16; (with_reducible refine (KS2.out _ (And.left (by assumption))).mono ?_); rintro e w5 ⟨rfl, hb⟩; have KB : Hid (Two w.heap.size a0 len0 cap0 x0 z0 a1 len1 cap1 x1 z1 w w5) := Lib.hid (Two.next (And.left (by assumption)) hb); clear hb)
        | (go_at_call 15; (with_reducible refine (KC1.out _ (And.left (by assumption))).mono ?_); rintro e w5 ⟨BC, cC, rfl, hd, hb⟩; have KB : Hid (Two w.heap.size a0 len0 cap0 x0 z0 a1 len1 cap1 x1 z1 w w5) := Lib.hid (Two.next (And.left (by assumption)) hb); have DC := Lib.hid hd; clear hb hd)
        | (go_at_call 16; (with_reducible refine (KS3.out BC cC _ (And.left (by assumption)) DC.out).mono ?_); rintro e w5 ⟨rfl, hb⟩; have KB : Hid (Two w.heap.size a0 len0 cap0 x0 z0 a1 len1 cap1 x1 z1 w w5) := Lib.hid (Two.next (And.left (by assumption)) hb); clear hb))
      go_wp2_with fail
      go_ret
      exact ⟨rfl, KB.out.below⟩
    · go_wp2_with fail
      clear q0 q1 q2 q3
      have KS1 := Lib.hid (same_ab (H := w.heap.size) (A := a0) (n := len0) (c := cap0) (x := x0) (N := z0) (B := a1) (m := len1) (d := cap1) (y := x1) (M := z1) (w := w) KS.out HS.out)
      have KS2 := Lib.hid (same_ba (H := w.heap.size) (A := a0) (n := len0) (c := cap0) (x := x0) (N := z0) (B := a1) (m := len1) (d := cap1) (y := x1) (M := z1) (w := w) KS.out HS.out)
      have KC1 := Lib.hid (copy_a (H := w.heap.size) (A := a0) (n := len0) (c := cap0) (x := x0) (N := z0) (B := a1) (m := len1) (d := cap1) (y := x1) (M := z1) (w := w) KC.out)
      have KS3 := Lib.hid (same_ac (H := w.heap.size) (A := a0) (n := len0) (c := cap0) (x := x0) (N := z0) (B := a1) (m := len1) (d := cap1) (y := x1) (M := z1) (w := w) KS.out)
      clear KS KC HS
      go_region_held3 (fun W' => Two w.heap.size a0 len0 cap0 x0 z0 a1 len1 cap1 x1 z1 w W' ∧ W'.cell? ⟨w.heap.size, 0, none⟩ = some (.slice a0 len0 cap0) ∧ W'.cell? ⟨w.heap.size, 1, none⟩ = some (.int .i64 x0) ∧ W'.cell? ⟨w.heap.size + 1, 0, none⟩ = some (.slice a1 len1 cap1) ∧ W'.cell? ⟨w.heap.size + 1, 1, none⟩ = some (.int .i64 x1))
        (first | (with_reducible exact two_S KB.out) | (with_reducible exact two_S T5.out.drew))
        (first
        | (go_at_call 16; (with_reducible refine (KS1.out _ (And.left (by assumption))).mono ?_); rintro e w5 ⟨rfl, hb⟩; have KB : Hid (Two w.heap.size a0 len0 cap0 x0 z0 a1 len1 cap1 x1 z1 w w5) := Lib.hid (Two.next (And.left (by assumption)) hb); clear hb)
        | (go_at_call 16; (with_reducible refine (KS2.out _ (And.left (by assumption))).mono ?_); rintro e w5 ⟨rfl, hb⟩; have KB : Hid (Two w.heap.size a0 len0 cap0 x0 z0 a1 len1 cap1 x1 z1 w w5) := Lib.hid (Two.next (And.left (by assumption)) hb); clear hb)
        | (go_at_call 15; (with_reducible refine (KC1.out _ (And.left (by assumption))).mono ?_); rintro e w5 ⟨BC, cC, rfl, hd, hb⟩; have KB : Hid (Two w.heap.size a0 len0 cap0 x0 z0 a1 len1 cap1 x1 z1 w w5) := Lib.hid (Two.next (And.left (by assumption)) hb); have DC := Lib.hid hd; clear hb hd)
        | (go_at_call 16; (with_reducible refine (KS3.out BC cC _ (And.left (by assumption)) DC.out).mono ?_); rintro e w5 ⟨rfl, hb⟩; have KB : Hid (Two w.heap.size a0 len0 cap0 x0 z0 a1 len1 cap1 x1 z1 w w5) := Lib.hid (Two.next (And.left (by assumption)) hb); clear hb))
      go_wp2_with fail
      go_ret
      exact ⟨rfl, KB.out.below⟩
end Go.Proofs.Ytlkcmfohmkblfaa
