/-
  The law CrcApart: two datagrams of one length, with their sums, that aren't the same differ in at least four bits.
-/
import Derived.Test.YtfdjedhbbbdeiaaAwakeC
import Derived.Test.YtfdjedhbbbdeiaaFlip
import Derived.Deep.RegionWith
import Derived.BigQuiet
import Derived.Deep.QuietTactic
namespace Go.Proofs.Ytfdjedhbbbdeiaa
open Go.RowKit

theorem add_zero (a : Addr) : a.add 0 = a := by
  obtain ⟨b, o, s⟩ := a
  cases s <;> simp [Addr.add]
theorem slice_to (A : Option Addr) (n c k : Nat) (hk : k ≤ c) (W : World) : (Instr.slice 22 (.slice A n c) none (some (.int .i64 (k : Nat))) none).run Try.prog W = .ok (.slice A k c) W := by
  have hsz : ∀ W : World, (sizeOf (Try.prog.elem 22)).run Try.prog W = .ok 1 W := fun W => by kernel_rfl
  rw [run_slice_h W 22 A n c (by kernel_rfl) .i64 (k : Nat) (by omega) (by omega), hsz]
  have e : A.map (·.add 0) = A := by cases A <;> simp [add_zero]
  simp [Result.andThen, sliced, e]

def WithPost (f : Nat → Nat) (n : Nat) (W : World) (e : Ending) (w' : World) : Prop := ∃ A c, e = .returned (.slice A (n + 4) c) ∧ Bytes w' A (n + 4) (withSum f n) ∧ Below W.heap.size W w'
theorem with_post (A : Option Addr) (n c : Nat) (f : Nat → Nat) (w : World) (h : Bytes w A n f) (hn : n ≤ 1000000) (hA : A = none → n = 0 ∧ c = 0) :
    Calls Try.prog 11 #[.slice A n c] w (WithPost f n w) := by
  refine (with_any A n c f w h hn hA).mono ?_
  rintro e w' ⟨C, c2, rfl, _, _, _, hC, -, hb⟩
  have E := made_bytes hC
  rw [seg_len]
  exact ⟨C, c2, rfl, E, hb⟩

set_option maxRecDepth 100000 in
set_option maxHeartbeats 8000000 in
theorem apart_walk (A B : Option Addr) (n m c d : Nat) (f g : Nat → Nat) (w : World) (h : Bytes w A n f) (h' : Bytes w B m g) (hA : A = none → n = 0 ∧ c = 0) (hB : B = none → m = 0 ∧ d = 0) (hnc : n ≤ c) (hmd : m ≤ d) (hnm : n ≤ m) :
    Calls Try.prog 7 #[.slice A n c, .slice B m d] w fun e w' => e = .returned (.bool true) ∧ Below w.heap.size w w' := by
  have H := Lib.hid h
  have G := Lib.hid h'
  clear h h'
  have hz : ¬ ((m : Int) < n) := by omega
  by_cases hbig : 128 < n
  · have d1 : (128 : Int) < n := by omega
    go_enter Try.func7, Try.ntmps7
    go_wp2_with fail
    refine (awake_any w).mono ?_
    rintro e w1 ⟨rfl, hb⟩
    go_wp2
    go_ret
    exact ⟨rfl, hb⟩
  · have d1 : ¬ (128 : Int) < n := by omega
    have sa := slice_to A n c n hnc
    have sb := slice_to B m d n (by omega)
    go_enter Try.func7, Try.ntmps7
    go_wp2_with fail
    refine (awake_any w).mono ?_
    rintro e w1 ⟨rfl, hb⟩
    have K1 := Lib.hid hb
    have H1 := Lib.hid (H.out.below hb)
    have G1 := Lib.hid ((G.out.below hb).less hnm)
    clear hb H G
    have KA : Hid (∀ W, Below w1.heap.size w1 W → Calls Try.prog 11 #[.slice A n c] W (WithPost f n W)) := Lib.hid (fun W hW => with_post A n c f W (H1.out.below hW) (by omega) hA)
    have KB : Hid (∀ W, Below w1.heap.size w1 W → Calls Try.prog 11 #[.slice B n d] W (WithPost g n W)) := Lib.hid (fun W hW => with_post B n d g W (G1.out.below hW) (by omega) (fun e => ⟨by have := (hB e).1; omega, (hB e).2⟩))
    have DN : Hid (∀ A2 B2 cA cB W', Bytes W' A2 (n + 4) (withSum f n) → Bytes W' B2 (n + 4) (withSum g n) → Calls Try.prog 19 #[.slice A2 (n + 4) cA, .slice B2 (n + 4) cB] W' fun e w' => e = .returned (.int .i64 (ones (diff (withSum f n) (withSum g n)) (8 * (n + 4)) : Nat)) ∧ w' = W') := Lib.hid (fun A2 B2 cA cB W' h1 h2 => by
      have := differ_any A2 B2 (n + 4) (n + 4) cA cB (withSum f n) (withSum g n) W' h1 h2 (by omega) (by omega)
      rwa [differ_one] at this)
    have T := Lib.hid (apart_told (f := f) (g := g) (n := n) (by omega) (fun i hi => H1.out.bd hi) (fun i hi => G1.out.bd hi))
    generalize ones (diff (withSum f n) (withSum g n)) (8 * (n + 4)) = D at DN T
    have S0 : Hid (Below w1.heap.size w1 w1.drew) := Lib.hid (Below.refl _ w1).drew
    have Z1 : Hid (∀ (r : Bool), (r = true ↔ ∀ i, i < n → f i = g i) → ∀ W, Below w1.heap.size w1 W → Calls Try.prog 23 #[.slice A n c, .slice B n d] W fun e w' => e = .returned (.bool r) ∧ w' = W) := Lib.hid (fun r hr W hW =>
      same03_any A B n n c d f g W (H1.out.below hW) (G1.out.below hW) (by omega) (by omega) r ⟨fun h => ⟨rfl, hr.1 h⟩, fun h => hr.2 h.2⟩)
    clear H1 G1 hA hB
    go_wp2
    go_region_with (first
      | (go_at_call 11; refine (KA.out _ S0.out).mono ?_; rintro e w2 ⟨A2, cA, rfl, hJ, hS⟩; have J := Lib.hid hJ; have S2 := Lib.hid (S0.out.trans (hS.mono S0.out.size)); clear hJ hS S0)
      | (go_at_call 11; refine (KB.out _ S2.out).mono ?_; rintro e w3 ⟨B2, cB, rfl, hJ, hS⟩; have J1 := Lib.hid (J.out.below hS); have J2 := Lib.hid hJ; have S3 := Lib.hid (S2.out.trans (hS.mono S2.out.size)); clear hJ hS S2 J)
      | (go_at_call 19; refine (DN.out _ _ _ _ _ J1.out J2.out).mono ?_; rintro e w4 ⟨rfl, rfl⟩; clear J1 J2))
    all_goals
      have SF : Hid (Below w.heap.size w w4) := Lib.hid (K1.out.trans (S3.out.mono K1.out.size))
      rcases T.out with ⟨rfl, he⟩ | ⟨h4, he⟩
      · have ZC : Hid (∀ q, Calls Try.prog 23 #[.slice A n c, .slice B n d] (w4.drewN q) fun e w' => e = .returned (.bool true) ∧ w' = w4.drewN q) := Lib.hid (fun q => Z1.out true ⟨fun _ => he, fun _ => rfl⟩ _ (below_drewN S3.out q))
        clear T KA KB DN Z1 S3 he
        go_simp
        go_wp2_with fail
        go_quiet ((go_at_call 23; exact Calls.quiet_of_same (ZC.out _)))
        go_wp2
        go_ret
        exact ⟨rfl, below_drewN SF.out _⟩
      · have ZC : Hid (∀ q, Calls Try.prog 23 #[.slice A n c, .slice B n d] (w4.drewN q) fun e w' => e = .returned (.bool false) ∧ w' = w4.drewN q) := Lib.hid (fun q => Z1.out false ⟨(fun e => by cases e), fun e => absurd e he⟩ _ (below_drewN S3.out q))
        have e1 : (((D : Nat) : Int) == 0) = false := by simp; omega
        have e2 : (4 : Int) ≤ D := by omega
        have e3 : decide ((4 : Int) ≤ D) = true := by simp; omega
        clear T KA KB DN Z1 S3 he h4
        go_simp
        go_wp2_with fail
        go_quiet ((go_at_call 23; exact Calls.quiet_of_same (ZC.out _)))
        go_wp2
        go_ret
        exact ⟨rfl, below_drewN SF.out _⟩

set_option maxRecDepth 100000 in
set_option maxHeartbeats 8000000 in
theorem apart_walk2 (A B : Option Addr) (n m c d : Nat) (f g : Nat → Nat) (w : World) (h : Bytes w A n f) (h' : Bytes w B m g) (hA : A = none → n = 0 ∧ c = 0) (hB : B = none → m = 0 ∧ d = 0) (hnc : n ≤ c) (hmd : m ≤ d) (hnm : m < n) :
    Calls Try.prog 7 #[.slice A n c, .slice B m d] w fun e w' => e = .returned (.bool true) ∧ Below w.heap.size w w' := by
  have H := Lib.hid h
  have G := Lib.hid h'
  clear h h'
  have hz : ((m : Int) < n) := by omega
  by_cases hbig : 128 < m
  · have d1 : (128 : Int) < m := by omega
    go_enter Try.func7, Try.ntmps7
    go_wp2_with fail
    refine (awake_any w).mono ?_
    rintro e w1 ⟨rfl, hb⟩
    go_wp2
    go_ret
    exact ⟨rfl, hb⟩
  · have d1 : ¬ (128 : Int) < m := by omega
    have sa := slice_to A n c m (by omega)
    have sb := slice_to B m d m hmd
    go_enter Try.func7, Try.ntmps7
    go_wp2_with fail
    refine (awake_any w).mono ?_
    rintro e w1 ⟨rfl, hb⟩
    have K1 := Lib.hid hb
    have H1 := Lib.hid ((H.out.below hb).less (Nat.le_of_lt hnm))
    have G1 := Lib.hid (G.out.below hb)
    clear hb H G
    have KA : Hid (∀ W, Below w1.heap.size w1 W → Calls Try.prog 11 #[.slice A m c] W (WithPost f m W)) := Lib.hid (fun W hW => with_post A m c f W (H1.out.below hW) (by omega) (fun e => ⟨by have := (hA e).1; omega, (hA e).2⟩))
    have KB : Hid (∀ W, Below w1.heap.size w1 W → Calls Try.prog 11 #[.slice B m d] W (WithPost g m W)) := Lib.hid (fun W hW => with_post B m d g W (G1.out.below hW) (by omega) hB)
    have DN : Hid (∀ A2 B2 cA cB W', Bytes W' A2 (m + 4) (withSum f m) → Bytes W' B2 (m + 4) (withSum g m) → Calls Try.prog 19 #[.slice A2 (m + 4) cA, .slice B2 (m + 4) cB] W' fun e w' => e = .returned (.int .i64 (ones (diff (withSum f m) (withSum g m)) (8 * (m + 4)) : Nat)) ∧ w' = W') := Lib.hid (fun A2 B2 cA cB W' h1 h2 => by
      have := differ_any A2 B2 (m + 4) (m + 4) cA cB (withSum f m) (withSum g m) W' h1 h2 (by omega) (by omega)
      rwa [differ_one] at this)
    have T := Lib.hid (apart_told (f := f) (g := g) (n := m) (by omega) (fun i hi => H1.out.bd hi) (fun i hi => G1.out.bd hi))
    generalize ones (diff (withSum f m) (withSum g m)) (8 * (m + 4)) = D at DN T
    have S0 : Hid (Below w1.heap.size w1 w1.drew) := Lib.hid (Below.refl _ w1).drew
    have Z1 : Hid (∀ (r : Bool), (r = true ↔ ∀ i, i < m → f i = g i) → ∀ W, Below w1.heap.size w1 W → Calls Try.prog 23 #[.slice A m c, .slice B m d] W fun e w' => e = .returned (.bool r) ∧ w' = W) := Lib.hid (fun r hr W hW =>
      same03_any A B m m c d f g W (H1.out.below hW) (G1.out.below hW) (by omega) (by omega) r ⟨fun h => ⟨rfl, hr.1 h⟩, fun h => hr.2 h.2⟩)
    clear H1 G1 hA hB
    go_wp2
    go_region_with (first
      | (go_at_call 11; refine (KA.out _ S0.out).mono ?_; rintro e w2 ⟨A2, cA, rfl, hJ, hS⟩; have J := Lib.hid hJ; have S2 := Lib.hid (S0.out.trans (hS.mono S0.out.size)); clear hJ hS S0)
      | (go_at_call 11; refine (KB.out _ S2.out).mono ?_; rintro e w3 ⟨B2, cB, rfl, hJ, hS⟩; have J1 := Lib.hid (J.out.below hS); have J2 := Lib.hid hJ; have S3 := Lib.hid (S2.out.trans (hS.mono S2.out.size)); clear hJ hS S2 J)
      | (go_at_call 19; refine (DN.out _ _ _ _ _ J1.out J2.out).mono ?_; rintro e w4 ⟨rfl, rfl⟩; clear J1 J2))
    all_goals
      have SF : Hid (Below w.heap.size w w4) := Lib.hid (K1.out.trans (S3.out.mono K1.out.size))
      rcases T.out with ⟨rfl, he⟩ | ⟨h4, he⟩
      · have ZC : Hid (∀ q, Calls Try.prog 23 #[.slice A m c, .slice B m d] (w4.drewN q) fun e w' => e = .returned (.bool true) ∧ w' = w4.drewN q) := Lib.hid (fun q => Z1.out true ⟨fun _ => he, fun _ => rfl⟩ _ (below_drewN S3.out q))
        clear T KA KB DN Z1 S3 he
        go_simp
        go_wp2_with fail
        go_quiet ((go_at_call 23; exact Calls.quiet_of_same (ZC.out _)))
        go_wp2
        go_ret
        exact ⟨rfl, below_drewN SF.out _⟩
      · have ZC : Hid (∀ q, Calls Try.prog 23 #[.slice A m c, .slice B m d] (w4.drewN q) fun e w' => e = .returned (.bool false) ∧ w' = w4.drewN q) := Lib.hid (fun q => Z1.out false ⟨(fun e => by cases e), fun e => absurd e he⟩ _ (below_drewN S3.out q))
        have e1 : (((D : Nat) : Int) == 0) = false := by simp; omega
        have e2 : (4 : Int) ≤ D := by omega
        have e3 : decide ((4 : Int) ≤ D) = true := by simp; omega
        clear T KA KB DN Z1 S3 he h4
        go_simp
        go_wp2_with fail
        go_quiet ((go_at_call 23; exact Calls.quiet_of_same (ZC.out _)))
        go_wp2
        go_ret
        exact ⟨rfl, below_drewN SF.out _⟩

theorem walkCrcApart (a0 : Option Addr) (len0 cap0 : Nat) (z0 : List Int) (a1 : Option Addr) (len1 cap1 : Nat) (z1 : List Int) (w : World) (w0 : RowIn .u8 w a0 len0 cap0 z0) (w1 : RowIn .u8 w a1 len1 cap1 z1) :
    Calls Try.prog 7 #[.slice a0 len0 cap0, .slice a1 len1 cap1] w fun e w' => e = .returned (.bool true) ∧ Below w.heap.size w w' := by
  by_cases h : len0 ≤ len1
  · exact apart_walk a0 a1 len0 len1 cap0 cap1 _ _ w w0.bytes w1.bytes w0.nil w1.nil w0.bd.1 w1.bd.1 h
  · exact apart_walk2 a0 a1 len0 len1 cap0 cap1 _ _ w w0.bytes w1.bytes w0.nil w1.nil w0.bd.1 w1.bd.1 (by omega)
end Go.Proofs.Ytfdjedhbbbdeiaa
