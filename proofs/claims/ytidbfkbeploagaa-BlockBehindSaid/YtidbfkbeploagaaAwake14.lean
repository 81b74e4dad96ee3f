/-
  The chapter's examples (awake): of any Stack, One that answer as is asked.
-/
import Derived.Test.YtidbfkbeploagaaNear14
namespace Go.Proofs.Ytidbfkbeploagaa
open Go.RowKit

def AwakeOK14 (f : Nat) : Prop := ∀ w : World, Calls Try.prog f #[] w fun e w' => e = .returned (.bool true) ∧ Below w.heap.size w w'
/-- a variable of what is told, and its places -/
def TV (W : World) (g : Nat) (v : Value) (r : Sk) : Prop := SkAt W g v r ∧ ∃ B, ownsI14 W B v r.ats
theorem TV.keep {W W' : World} {g : Nat} {v : Value} {r : Sk} (h : TV W g v r) (hb : Below W.heap.size W W') : TV W' g v r := by
  obtain ⟨h1, B, h2⟩ := h
  exact ⟨h1.keep hb, B, h2.keep hb⟩
theorem TV.told {W : World} {g n c : Nat} {A : Option Addr} {r : Sk} (h : TV W g (.slice A n c) r) (hn : n = r.ats.length) (hb : ∀ y ∈ r.ats, -9223372036854775808 ≤ y ∧ y ≤ 9223372036854775807) (hl : r.ats.length ≤ 1000) :
    Calls Try.prog 29 #[.slice A n c, .slice (some ⟨W.heap.size, 0, none⟩) n n] (W.alloc (.cells (r.ats.map (Value.int .i64)).toArray 3)) fun e w' => e = .returned (.bool true) ∧ Below W.heap.size W w' := by
  obtain ⟨-, B, ho⟩ := h
  subst hn
  have C : Below W.heap.size W (W.alloc (.cells (r.ats.map (Value.int .i64)).toArray 3)) := (Below.refl _ _).alloc (Nat.le_refl _) _
  have I1 : Ints W A r.ats.length (pk r.ats) := Ints.of_own ho (fun i hi => pk_at _ i hi) (fun i hi => hb _ (List.mem_of_getElem? (pk_at _ i hi)))
  refine (told_any14 A _ r.ats.length c r.ats.length (pk r.ats) _ (I1.below C) (pk_new W 3 r.ats hb) (by omega)).mono ?_
  rintro e w' ⟨rfl, hb'⟩
  exact ⟨rfl, b_next C hb'⟩
theorem own_len14 {w : World} {B : Nat} {v : Value} {l : List Int} (h : ownsI14 w B v l) : ∃ A c, v = .slice A l.length c := by
  obtain ⟨A, c, e, -⟩ := own_form h
  exact ⟨A, c, e⟩
set_option maxRecDepth 100000 in
set_option maxHeartbeats 8000000 in
theorem awake14_any (hS : StackOK 10) (hO : OneOK 37) (w : World) : Calls Try.prog 12 #[] w fun e w' => e = .returned (.bool true) ∧ Below w.heap.size w w' := by
  have Ka : Hid (∀ W v, KdIn W v [⟨(10, 0), (20, 0), 5, false⟩, ⟨(15, 0), (7, 0), 5, false⟩] → Calls Try.prog 10 #[v, .bool false, .bool false] W fun e w' => ∃ vA, e = .returned (.tuple #[skV vA ⟨[10, 35], 47, (0, 0), (0, 0), false⟩, .int .i64 0]) ∧ ownsI14 w' W.heap.size vA [10, 35] ∧ Below W.heap.size W w') := Lib.hid (fun W v h => by
    have h1 := hS [⟨(10, 0), (20, 0), 5, false⟩, ⟨(15, 0), (7, 0), 5, false⟩] v false false W h (by decide) (by unfold BigK; decide)
    rw [show stackA [⟨(10, 0), (20, 0), 5, false⟩, ⟨(15, 0), (7, 0), 5, false⟩] false false = (⟨[10, 35], 47, (0, 0), (0, 0), false⟩, 0) by kernel_rfl] at h1
    exact h1)
  have Kb : Hid (∀ W v, KdIn W v [⟨(10, 0), (20, 0), 5, false⟩, ⟨(15, 0), (7, 0), 5, false⟩] → Calls Try.prog 10 #[v, .bool true, .bool true] W fun e w' => ∃ vA, e = .returned (.tuple #[skV vA ⟨[0, 25], 30, (10, 0), (7, 0), false⟩, .int .i64 0]) ∧ ownsI14 w' W.heap.size vA [0, 25] ∧ Below W.heap.size W w') := Lib.hid (fun W v h => by
    have h1 := hS [⟨(10, 0), (20, 0), 5, false⟩, ⟨(15, 0), (7, 0), 5, false⟩] v true true W h (by decide) (by unfold BigK; decide)
    rw [show stackA [⟨(10, 0), (20, 0), 5, false⟩, ⟨(15, 0), (7, 0), 5, false⟩] true true = (⟨[0, 25], 30, (10, 0), (7, 0), false⟩, 0) by kernel_rfl] at h1
    exact h1)
  have Kc : Hid (∀ W v, KdIn W v [⟨(10, 0), (0, -4), 5, false⟩, ⟨(3, 0), (0, 0), 5, false⟩] → Calls Try.prog 10 #[v, .bool false, .bool false] W fun e w' => ∃ vA, e = .returned (.tuple #[skV vA ⟨[10, 14], 19, (0, 0), (0, 0), false⟩, .int .i64 0]) ∧ ownsI14 w' W.heap.size vA [10, 14] ∧ Below W.heap.size W w') := Lib.hid (fun W v h => by
    have h1 := hS [⟨(10, 0), (0, -4), 5, false⟩, ⟨(3, 0), (0, 0), 5, false⟩] v false false W h (by decide) (by unfold BigK; decide)
    rw [show stackA [⟨(10, 0), (0, -4), 5, false⟩, ⟨(3, 0), (0, 0), 5, false⟩] false false = (⟨[10, 14], 19, (0, 0), (0, 0), false⟩, 0) by kernel_rfl] at h1
    exact h1)
  have Kd : Hid (∀ W v, KdIn W v [⟨(8, 0), (9, 0), 0, true⟩, ⟨(4, 0), (0, 0), 5, false⟩] → Calls Try.prog 10 #[v, .bool true, .bool false] W fun e w' => ∃ vA, e = .returned (.tuple #[skV vA ⟨[0, 0], 5, (9, 0), (0, 0), false⟩, .int .i64 0]) ∧ ownsI14 w' W.heap.size vA [0, 0] ∧ Below W.heap.size W w') := Lib.hid (fun W v h => by
    have h1 := hS [⟨(8, 0), (9, 0), 0, true⟩, ⟨(4, 0), (0, 0), 5, false⟩] v true false W h (by decide) (by unfold BigK; decide)
    rw [show stackA [⟨(8, 0), (9, 0), 0, true⟩, ⟨(4, 0), (0, 0), 5, false⟩] true false = (⟨[0, 0], 5, (9, 0), (0, 0), false⟩, 0) by kernel_rfl] at h1
    exact h1)
  have Ke : Hid (∀ W v, KdIn W v [⟨(8, 0), (9, 0), 0, true⟩, ⟨(4, 0), (0, 0), 5, false⟩] → Calls Try.prog 10 #[v, .bool false, .bool false] W fun e w' => ∃ vA, e = .returned (.tuple #[skV vA ⟨[8, 9], 14, (0, 0), (0, 0), false⟩, .int .i64 0]) ∧ ownsI14 w' W.heap.size vA [8, 9] ∧ Below W.heap.size W w') := Lib.hid (fun W v h => by
    have h1 := hS [⟨(8, 0), (9, 0), 0, true⟩, ⟨(4, 0), (0, 0), 5, false⟩] v false false W h (by decide) (by unfold BigK; decide)
    rw [show stackA [⟨(8, 0), (9, 0), 0, true⟩, ⟨(4, 0), (0, 0), 5, false⟩] false false = (⟨[8, 9], 14, (0, 0), (0, 0), false⟩, 0) by kernel_rfl] at h1
    exact h1)
  have Kf : Hid (∀ W v, KdIn W v [⟨(8, 0), (9, 0), 0, true⟩] → Calls Try.prog 10 #[v, .bool true, .bool true] W fun e w' => ∃ vA, e = .returned (.tuple #[skV vA ⟨[0], 0, (9, 0), (0, 0), true⟩, .int .i64 0]) ∧ ownsI14 w' W.heap.size vA [0] ∧ Below W.heap.size W w') := Lib.hid (fun W v h => by
    have h1 := hS [⟨(8, 0), (9, 0), 0, true⟩] v true true W h (by decide) (by unfold BigK; decide)
    rw [show stackA [⟨(8, 0), (9, 0), 0, true⟩] true true = (⟨[0], 0, (9, 0), (0, 0), true⟩, 0) by kernel_rfl] at h1
    exact h1)
  have Kg : Hid (∀ W v, KdIn W v [⟨(8, 0), (9, 0), 0, true⟩] → Calls Try.prog 10 #[v, .bool true, .bool false] W fun e w' => ∃ vA, e = .returned (.tuple #[skV vA ⟨[0], 0, (9, 0), (0, 0), false⟩, .int .i64 0]) ∧ ownsI14 w' W.heap.size vA [0] ∧ Below W.heap.size W w') := Lib.hid (fun W v h => by
    have h1 := hS [⟨(8, 0), (9, 0), 0, true⟩] v true false W h (by decide) (by unfold BigK; decide)
    rw [show stackA [⟨(8, 0), (9, 0), 0, true⟩] true false = (⟨[0], 0, (9, 0), (0, 0), false⟩, 0) by kernel_rfl] at h1
    exact h1)
  have Kh : Hid (∀ W v, KdIn W v [] → Calls Try.prog 10 #[v, .bool false, .bool false] W fun e w' => ∃ vA, e = .returned (.tuple #[skV vA ⟨[], 0, (0, 0), (0, 0), false⟩, .int .i64 0]) ∧ ownsI14 w' W.heap.size vA [] ∧ Below W.heap.size W w') := Lib.hid (fun W v h => by
    have h1 := hS [] v false false W h (by decide) (by unfold BigK; decide)
    rw [show stackA [] false false = (⟨[], 0, (0, 0), (0, 0), false⟩, 0) by kernel_rfl] at h1
    exact h1)
  have Ki : Hid (∀ W v, KdIn W v [⟨(0, -3), (0, 0), 1, false⟩] → Calls Try.prog 10 #[v, .bool false, .bool false] W fun e w' => ∃ vA, e = .returned (.tuple #[skV vA ⟨[-3], 0, (0, 0), (0, 0), false⟩, .int .i64 0]) ∧ ownsI14 w' W.heap.size vA [-3] ∧ Below W.heap.size W w') := Lib.hid (fun W v h => by
    have h1 := hS [⟨(0, -3), (0, 0), 1, false⟩] v false false W h (by decide) (by unfold BigK; decide)
    rw [show stackA [⟨(0, -3), (0, 0), 1, false⟩] false false = (⟨[-3], 0, (0, 0), (0, 0), false⟩, 0) by kernel_rfl] at h1
    exact h1)
  have KK := Lib.hid (fun t h b W => kid_any hO t h b W)
  have BW := Lib.hid (Below.refl w.heap.size w)
  clear hS hO
  unfold skV at Ka
  dsimp only at Ka
  unfold skV at Kb
  dsimp only at Kb
  unfold skV at Kc
  dsimp only at Kc
  unfold skV at Kd
  dsimp only at Kd
  unfold skV at Ke
  dsimp only at Ke
  unfold skV at Kf
  dsimp only at Kf
  unfold skV at Kg
  dsimp only at Kg
  unfold skV at Kh
  dsimp only at Kh
  unfold skV at Ki
  dsimp only at Ki
  have Q1 : Hid (∀ W, Calls Try.prog 28 #[.int .i64 (10), .int .i64 (5), .int .i64 (20)] W fun e w' => e = .returned (.agg #[.int .i64 10, .int .i64 0, .int .i64 20, .int .i64 0, .int .i64 5, .bool false]) ∧ Below W.heap.size W w') := Lib.hid (fun W => KK.out (10) (5) (20) W)
  have Q2 : Hid (∀ W, Calls Try.prog 28 #[.int .i64 (15), .int .i64 (5), .int .i64 (7)] W fun e w' => e = .returned (.agg #[.int .i64 15, .int .i64 0, .int .i64 7, .int .i64 0, .int .i64 5, .bool false]) ∧ Below W.heap.size W w') := Lib.hid (fun W => KK.out (15) (5) (7) W)
  have Q3 : Hid (∀ W, Calls Try.prog 28 #[.int .i64 (8), .int .i64 (-1), .int .i64 (9)] W fun e w' => e = .returned (.agg #[.int .i64 8, .int .i64 0, .int .i64 9, .int .i64 0, .int .i64 0, .bool true]) ∧ Below W.heap.size W w') := Lib.hid (fun W => KK.out (8) (-1) (9) W)
  have Q4 : Hid (∀ W, Calls Try.prog 28 #[.int .i64 (4), .int .i64 (5), .int .i64 (0)] W fun e w' => e = .returned (.agg #[.int .i64 4, .int .i64 0, .int .i64 0, .int .i64 0, .int .i64 5, .bool false]) ∧ Below W.heap.size W w') := Lib.hid (fun W => KK.out (4) (5) (0) W)
  have Q5 : Hid (∀ W, Calls Try.prog 28 #[.int .i64 (10), .int .i64 (5), .int .i64 (-4)] W fun e w' => e = .returned (.agg #[.int .i64 10, .int .i64 0, .int .i64 0, .int .i64 (-4), .int .i64 5, .bool false]) ∧ Below W.heap.size W w') := Lib.hid (fun W => KK.out (10) (5) (-4) W)
  have Q6 : Hid (∀ W, Calls Try.prog 28 #[.int .i64 (3), .int .i64 (5), .int .i64 (0)] W fun e w' => e = .returned (.agg #[.int .i64 3, .int .i64 0, .int .i64 0, .int .i64 0, .int .i64 5, .bool false]) ∧ Below W.heap.size W w') := Lib.hid (fun W => KK.out (3) (5) (0) W)
  have Q7 : Hid (∀ W, Calls Try.prog 28 #[.int .i64 (-3), .int .i64 (1), .int .i64 (0)] W fun e w' => e = .returned (.agg #[.int .i64 0, .int .i64 (-3), .int .i64 0, .int .i64 0, .int .i64 1, .bool false]) ∧ Below W.heap.size W w') := Lib.hid (fun W => KK.out (-3) (1) (0) W)
  clear KK
  go_enter Try.func12, Try.ntmps12
  go_wp2_with fail
  (with_reducible refine (Q1.out _).mono ?_)
  rintro e w1 ⟨rfl, hb⟩
  replace BW := Lib.hid (b_next BW.out hb)
  clear hb
  go_wp2_with fail
  (with_reducible refine (Q2.out _).mono ?_)
  rintro e w2 ⟨rfl, hb⟩
  replace BW := Lib.hid (b_next BW.out hb)
  clear hb
  go_wp2_with fail
  have hb : Below w2.heap.size w2 (w2.alloc (.cells #[.int .i64 10, .int .i64 0, .int .i64 20, .int .i64 0, .int .i64 5, .bool false, .int .i64 15, .int .i64 0, .int .i64 7, .int .i64 0, .int .i64 5, .bool false] 35)) := (Below.refl _ _).alloc (Nat.le_refl _) _
  have TWO : Hid (KdIn (w2.alloc (.cells #[.int .i64 10, .int .i64 0, .int .i64 20, .int .i64 0, .int .i64 5, .bool false, .int .i64 15, .int .i64 0, .int .i64 7, .int .i64 0, .int .i64 5, .bool false] 35)) (.slice (some ⟨w2.heap.size, 0, none⟩) 2 2) [⟨(10, 0), (20, 0), 5, false⟩, ⟨(15, 0), (7, 0), 5, false⟩]) := Lib.hid (kids_new [⟨(10, 0), (20, 0), 5, false⟩, ⟨(15, 0), (7, 0), 5, false⟩] (by simp) _)
  replace BW := Lib.hid (b_next BW.out hb)
  clear hb
  generalize w2.alloc (.cells #[.int .i64 10, .int .i64 0, .int .i64 20, .int .i64 0, .int .i64 5, .bool false, .int .i64 15, .int .i64 0, .int .i64 7, .int .i64 0, .int .i64 5, .bool false] 35) = w3 at TWO BW ⊢
  generalize w2.heap.size = gTWO at TWO ⊢
  (with_reducible refine (Q3.out _).mono ?_)
  rintro e w4 ⟨rfl, hb⟩
  replace TWO := Lib.hid (TWO.out.keep hb)
  replace BW := Lib.hid (b_next BW.out hb)
  clear hb
  go_wp2_with fail
  (with_reducible refine (Q4.out _).mono ?_)
  rintro e w5 ⟨rfl, hb⟩
  replace TWO := Lib.hid (TWO.out.keep hb)
  replace BW := Lib.hid (b_next BW.out hb)
  clear hb
  go_wp2_with fail
  have hb : Below w5.heap.size w5 (w5.alloc (.cells #[.int .i64 8, .int .i64 0, .int .i64 9, .int .i64 0, .int .i64 0, .bool true, .int .i64 4, .int .i64 0, .int .i64 0, .int .i64 0, .int .i64 5, .bool false] 35)) := (Below.refl _ _).alloc (Nat.le_refl _) _
  have THR : Hid (KdIn (w5.alloc (.cells #[.int .i64 8, .int .i64 0, .int .i64 9, .int .i64 0, .int .i64 0, .bool true, .int .i64 4, .int .i64 0, .int .i64 0, .int .i64 0, .int .i64 5, .bool false] 35)) (.slice (some ⟨w5.heap.size, 0, none⟩) 2 2) [⟨(8, 0), (9, 0), 0, true⟩, ⟨(4, 0), (0, 0), 5, false⟩]) := Lib.hid (kids_new [⟨(8, 0), (9, 0), 0, true⟩, ⟨(4, 0), (0, 0), 5, false⟩] (by simp) _)
  replace TWO := Lib.hid (TWO.out.keep hb)
  replace BW := Lib.hid (b_next BW.out hb)
  clear hb
  generalize w5.alloc (.cells #[.int .i64 8, .int .i64 0, .int .i64 9, .int .i64 0, .int .i64 0, .bool true, .int .i64 4, .int .i64 0, .int .i64 0, .int .i64 0, .int .i64 5, .bool false] 35) = w6 at THR BW TWO ⊢
  generalize w5.heap.size = gTHR at THR ⊢
  (with_reducible refine (Ka.out _ _ TWO.out).mono ?_)
  rintro e w7 ⟨va, rfl, hO, hb⟩
  obtain ⟨Aa, ca, rfl⟩ := own_len14 hO
  replace TWO := Lib.hid (TWO.out.keep hb)
  replace THR := Lib.hid (THR.out.keep hb)
  replace BW := Lib.hid (b_next BW.out hb)
  have hb2 : Below w7.heap.size w7 (w7.alloc (.cells #[.slice Aa 2 ca, .int .i64 47, .int .i64 0, .int .i64 0, .int .i64 0, .int .i64 0, .bool false] 27)) := (Below.refl _ _).alloc (Nat.le_refl _) _
  have Xa : Hid (TV (w7.alloc (.cells #[.slice Aa 2 ca, .int .i64 47, .int .i64 0, .int .i64 0, .int .i64 0, .int .i64 0, .bool false] 27)) w7.heap.size (.slice Aa 2 ca) ⟨[10, 35], 47, (0, 0), (0, 0), false⟩) := Lib.hid ⟨SkAt.new w7 (.slice Aa 2 ca) ⟨[10, 35], 47, (0, 0), (0, 0), false⟩, _, ownsI14.keep hO hb2⟩
  clear hO hb
  go_wp2_with fail
  replace TWO := Lib.hid (TWO.out.keep hb2)
  replace THR := Lib.hid (THR.out.keep hb2)
  replace BW := Lib.hid (b_next BW.out hb2)
  clear hb2
  generalize w7.alloc (.cells #[.slice Aa 2 ca, .int .i64 47, .int .i64 0, .int .i64 0, .int .i64 0, .int .i64 0, .bool false] 27) = w8 at Xa BW TWO THR ⊢
  generalize w7.heap.size = ga at Xa ⊢
  (with_reducible refine (Kb.out _ _ TWO.out).mono ?_)
  rintro e w9 ⟨vb, rfl, hO, hb⟩
  obtain ⟨Ab, cb, rfl⟩ := own_len14 hO
  replace TWO := Lib.hid (TWO.out.keep hb)
  replace THR := Lib.hid (THR.out.keep hb)
  replace Xa := Lib.hid (Xa.out.keep hb)
  replace BW := Lib.hid (b_next BW.out hb)
  have hb2 : Below w9.heap.size w9 (w9.alloc (.cells #[.slice Ab 2 cb, .int .i64 30, .int .i64 10, .int .i64 0, .int .i64 7, .int .i64 0, .bool false] 27)) := (Below.refl _ _).alloc (Nat.le_refl _) _
  have Xb : Hid (TV (w9.alloc (.cells #[.slice Ab 2 cb, .int .i64 30, .int .i64 10, .int .i64 0, .int .i64 7, .int .i64 0, .bool false] 27)) w9.heap.size (.slice Ab 2 cb) ⟨[0, 25], 30, (10, 0), (7, 0), false⟩) := Lib.hid ⟨SkAt.new w9 (.slice Ab 2 cb) ⟨[0, 25], 30, (10, 0), (7, 0), false⟩, _, ownsI14.keep hO hb2⟩
  clear hO hb
  go_wp2_with fail
  replace TWO := Lib.hid (TWO.out.keep hb2)
  replace THR := Lib.hid (THR.out.keep hb2)
  replace Xa := Lib.hid (Xa.out.keep hb2)
  replace BW := Lib.hid (b_next BW.out hb2)
  clear hb2
  generalize w9.alloc (.cells #[.slice Ab 2 cb, .int .i64 30, .int .i64 10, .int .i64 0, .int .i64 7, .int .i64 0, .bool false] 27) = w10 at Xb BW TWO THR Xa ⊢
  generalize w9.heap.size = gb at Xb ⊢
  (with_reducible refine (Q5.out _).mono ?_)
  rintro e w11 ⟨rfl, hb⟩
  replace TWO := Lib.hid (TWO.out.keep hb)
  replace THR := Lib.hid (THR.out.keep hb)
  replace Xa := Lib.hid (Xa.out.keep hb)
  replace Xb := Lib.hid (Xb.out.keep hb)
  replace BW := Lib.hid (b_next BW.out hb)
  clear hb
  go_wp2_with fail
  (with_reducible refine (Q6.out _).mono ?_)
  rintro e w12 ⟨rfl, hb⟩
  replace TWO := Lib.hid (TWO.out.keep hb)
  replace THR := Lib.hid (THR.out.keep hb)
  replace Xa := Lib.hid (Xa.out.keep hb)
  replace Xb := Lib.hid (Xb.out.keep hb)
  replace BW := Lib.hid (b_next BW.out hb)
  clear hb
  go_wp2_with fail
  have hb : Below w12.heap.size w12 (w12.alloc (.cells #[.int .i64 10, .int .i64 0, .int .i64 0, .int .i64 (-4), .int .i64 5, .bool false, .int .i64 3, .int .i64 0, .int .i64 0, .int .i64 0, .int .i64 5, .bool false] 35)) := (Below.refl _ _).alloc (Nat.le_refl _) _
  have RC : Hid (KdIn (w12.alloc (.cells #[.int .i64 10, .int .i64 0, .int .i64 0, .int .i64 (-4), .int .i64 5, .bool false, .int .i64 3, .int .i64 0, .int .i64 0, .int .i64 0, .int .i64 5, .bool false] 35)) (.slice (some ⟨w12.heap.size, 0, none⟩) 2 2) [⟨(10, 0), (0, -4), 5, false⟩, ⟨(3, 0), (0, 0), 5, false⟩]) := Lib.hid (kids_new [⟨(10, 0), (0, -4), 5, false⟩, ⟨(3, 0), (0, 0), 5, false⟩] (by simp) _)
  replace TWO := Lib.hid (TWO.out.keep hb)
  replace THR := Lib.hid (THR.out.keep hb)
  replace Xa := Lib.hid (Xa.out.keep hb)
  replace Xb := Lib.hid (Xb.out.keep hb)
  replace BW := Lib.hid (b_next BW.out hb)
  clear hb
  generalize w12.alloc (.cells #[.int .i64 10, .int .i64 0, .int .i64 0, .int .i64 (-4), .int .i64 5, .bool false, .int .i64 3, .int .i64 0, .int .i64 0, .int .i64 0, .int .i64 5, .bool false] 35) = w13 at RC BW TWO THR Xa Xb ⊢
  generalize w12.heap.size = gRC at RC ⊢
  (with_reducible refine (Kc.out _ _ RC.out).mono ?_)
  rintro e w14 ⟨vc, rfl, hO, hb⟩
  obtain ⟨Ac, cc, rfl⟩ := own_len14 hO
  replace TWO := Lib.hid (TWO.out.keep hb)
  replace THR := Lib.hid (THR.out.keep hb)
  replace Xa := Lib.hid (Xa.out.keep hb)
  replace Xb := Lib.hid (Xb.out.keep hb)
  replace RC := Lib.hid (RC.out.keep hb)
  replace BW := Lib.hid (b_next BW.out hb)
  have hb2 : Below w14.heap.size w14 (w14.alloc (.cells #[.slice Ac 2 cc, .int .i64 19, .int .i64 0, .int .i64 0, .int .i64 0, .int .i64 0, .bool false] 27)) := (Below.refl _ _).alloc (Nat.le_refl _) _
  have Xc : Hid (TV (w14.alloc (.cells #[.slice Ac 2 cc, .int .i64 19, .int .i64 0, .int .i64 0, .int .i64 0, .int .i64 0, .bool false] 27)) w14.heap.size (.slice Ac 2 cc) ⟨[10, 14], 19, (0, 0), (0, 0), false⟩) := Lib.hid ⟨SkAt.new w14 (.slice Ac 2 cc) ⟨[10, 14], 19, (0, 0), (0, 0), false⟩, _, ownsI14.keep hO hb2⟩
  clear hO hb
  go_wp2_with fail
  replace TWO := Lib.hid (TWO.out.keep hb2)
  replace THR := Lib.hid (THR.out.keep hb2)
  replace Xa := Lib.hid (Xa.out.keep hb2)
  replace Xb := Lib.hid (Xb.out.keep hb2)
  replace RC := Lib.hid (RC.out.keep hb2)
  replace BW := Lib.hid (b_next BW.out hb2)
  clear hb2
  generalize w14.alloc (.cells #[.slice Ac 2 cc, .int .i64 19, .int .i64 0, .int .i64 0, .int .i64 0, .int .i64 0, .bool false] 27) = w15 at Xc BW TWO THR Xa Xb RC ⊢
  generalize w14.heap.size = gc at Xc ⊢
  (with_reducible refine (Kd.out _ _ THR.out).mono ?_)
  rintro e w16 ⟨vd, rfl, hO, hb⟩
  obtain ⟨Ad, cd, rfl⟩ := own_len14 hO
  replace TWO := Lib.hid (TWO.out.keep hb)
  replace THR := Lib.hid (THR.out.keep hb)
  replace Xa := Lib.hid (Xa.out.keep hb)
  replace Xb := Lib.hid (Xb.out.keep hb)
  replace RC := Lib.hid (RC.out.keep hb)
  replace Xc := Lib.hid (Xc.out.keep hb)
  replace BW := Lib.hid (b_next BW.out hb)
  have hb2 : Below w16.heap.size w16 (w16.alloc (.cells #[.slice Ad 2 cd, .int .i64 5, .int .i64 9, .int .i64 0, .int .i64 0, .int .i64 0, .bool false] 27)) := (Below.refl _ _).alloc (Nat.le_refl _) _
  have Xd : Hid (TV (w16.alloc (.cells #[.slice Ad 2 cd, .int .i64 5, .int .i64 9, .int .i64 0, .int .i64 0, .int .i64 0, .bool false] 27)) w16.heap.size (.slice Ad 2 cd) ⟨[0, 0], 5, (9, 0), (0, 0), false⟩) := Lib.hid ⟨SkAt.new w16 (.slice Ad 2 cd) ⟨[0, 0], 5, (9, 0), (0, 0), false⟩, _, ownsI14.keep hO hb2⟩
  clear hO hb
  go_wp2_with fail
  replace TWO := Lib.hid (TWO.out.keep hb2)
  replace THR := Lib.hid (THR.out.keep hb2)
  replace Xa := Lib.hid (Xa.out.keep hb2)
  replace Xb := Lib.hid (Xb.out.keep hb2)
  replace RC := Lib.hid (RC.out.keep hb2)
  replace Xc := Lib.hid (Xc.out.keep hb2)
  replace BW := Lib.hid (b_next BW.out hb2)
  clear hb2
  generalize w16.alloc (.cells #[.slice Ad 2 cd, .int .i64 5, .int .i64 9, .int .i64 0, .int .i64 0, .int .i64 0, .bool false] 27) = w17 at Xd BW TWO THR Xa Xb RC Xc ⊢
  generalize w16.heap.size = gd at Xd ⊢
  (with_reducible refine (Ke.out _ _ THR.out).mono ?_)
  rintro e w18 ⟨ve, rfl, hO, hb⟩
  obtain ⟨Ae, ce, rfl⟩ := own_len14 hO
  replace TWO := Lib.hid (TWO.out.keep hb)
  replace THR := Lib.hid (THR.out.keep hb)
  replace Xa := Lib.hid (Xa.out.keep hb)
  replace Xb := Lib.hid (Xb.out.keep hb)
  replace RC := Lib.hid (RC.out.keep hb)
  replace Xc := Lib.hid (Xc.out.keep hb)
  replace Xd := Lib.hid (Xd.out.keep hb)
  replace BW := Lib.hid (b_next BW.out hb)
  have hb2 : Below w18.heap.size w18 (w18.alloc (.cells #[.slice Ae 2 ce, .int .i64 14, .int .i64 0, .int .i64 0, .int .i64 0, .int .i64 0, .bool false] 27)) := (Below.refl _ _).alloc (Nat.le_refl _) _
  have Xe : Hid (TV (w18.alloc (.cells #[.slice Ae 2 ce, .int .i64 14, .int .i64 0, .int .i64 0, .int .i64 0, .int .i64 0, .bool false] 27)) w18.heap.size (.slice Ae 2 ce) ⟨[8, 9], 14, (0, 0), (0, 0), false⟩) := Lib.hid ⟨SkAt.new w18 (.slice Ae 2 ce) ⟨[8, 9], 14, (0, 0), (0, 0), false⟩, _, ownsI14.keep hO hb2⟩
  clear hO hb
  go_wp2_with fail
  replace TWO := Lib.hid (TWO.out.keep hb2)
  replace THR := Lib.hid (THR.out.keep hb2)
  replace Xa := Lib.hid (Xa.out.keep hb2)
  replace Xb := Lib.hid (Xb.out.keep hb2)
  replace RC := Lib.hid (RC.out.keep hb2)
  replace Xc := Lib.hid (Xc.out.keep hb2)
  replace Xd := Lib.hid (Xd.out.keep hb2)
  replace BW := Lib.hid (b_next BW.out hb2)
  clear hb2
  generalize w18.alloc (.cells #[.slice Ae 2 ce, .int .i64 14, .int .i64 0, .int .i64 0, .int .i64 0, .int .i64 0, .bool false] 27) = w19 at Xe BW TWO THR Xa Xb RC Xc Xd ⊢
  generalize w18.heap.size = ge at Xe ⊢
  (with_reducible refine (Kf.out _ _ (KdIn.first THR.out)).mono ?_)
  rintro e w20 ⟨vf, rfl, hO, hb⟩
  obtain ⟨Af, cf, rfl⟩ := own_len14 hO
  replace TWO := Lib.hid (TWO.out.keep hb)
  replace THR := Lib.hid (THR.out.keep hb)
  replace Xa := Lib.hid (Xa.out.keep hb)
  replace Xb := Lib.hid (Xb.out.keep hb)
  replace RC := Lib.hid (RC.out.keep hb)
  replace Xc := Lib.hid (Xc.out.keep hb)
  replace Xd := Lib.hid (Xd.out.keep hb)
  replace Xe := Lib.hid (Xe.out.keep hb)
  replace BW := Lib.hid (b_next BW.out hb)
  have hb2 : Below w20.heap.size w20 (w20.alloc (.cells #[.slice Af 1 cf, .int .i64 0, .int .i64 9, .int .i64 0, .int .i64 0, .int .i64 0, .bool true] 27)) := (Below.refl _ _).alloc (Nat.le_refl _) _
  have Xf : Hid (TV (w20.alloc (.cells #[.slice Af 1 cf, .int .i64 0, .int .i64 9, .int .i64 0, .int .i64 0, .int .i64 0, .bool true] 27)) w20.heap.size (.slice Af 1 cf) ⟨[0], 0, (9, 0), (0, 0), true⟩) := Lib.hid ⟨SkAt.new w20 (.slice Af 1 cf) ⟨[0], 0, (9, 0), (0, 0), true⟩, _, ownsI14.keep hO hb2⟩
  clear hO hb
  go_wp2_with fail
  replace TWO := Lib.hid (TWO.out.keep hb2)
  replace THR := Lib.hid (THR.out.keep hb2)
  replace Xa := Lib.hid (Xa.out.keep hb2)
  replace Xb := Lib.hid (Xb.out.keep hb2)
  replace RC := Lib.hid (RC.out.keep hb2)
  replace Xc := Lib.hid (Xc.out.keep hb2)
  replace Xd := Lib.hid (Xd.out.keep hb2)
  replace Xe := Lib.hid (Xe.out.keep hb2)
  replace BW := Lib.hid (b_next BW.out hb2)
  clear hb2
  generalize w20.alloc (.cells #[.slice Af 1 cf, .int .i64 0, .int .i64 9, .int .i64 0, .int .i64 0, .int .i64 0, .bool true] 27) = w21 at Xf BW TWO THR Xa Xb RC Xc Xd Xe ⊢
  generalize w20.heap.size = gf at Xf ⊢
  (with_reducible refine (Kg.out _ _ (KdIn.first THR.out)).mono ?_)
  rintro e w22 ⟨vg, rfl, hO, hb⟩
  obtain ⟨Ag, cg, rfl⟩ := own_len14 hO
  replace TWO := Lib.hid (TWO.out.keep hb)
  replace THR := Lib.hid (THR.out.keep hb)
  replace Xa := Lib.hid (Xa.out.keep hb)
  replace Xb := Lib.hid (Xb.out.keep hb)
  replace RC := Lib.hid (RC.out.keep hb)
  replace Xc := Lib.hid (Xc.out.keep hb)
  replace Xd := Lib.hid (Xd.out.keep hb)
  replace Xe := Lib.hid (Xe.out.keep hb)
  replace Xf := Lib.hid (Xf.out.keep hb)
  replace BW := Lib.hid (b_next BW.out hb)
  have hb2 : Below w22.heap.size w22 (w22.alloc (.cells #[.slice Ag 1 cg, .int .i64 0, .int .i64 9, .int .i64 0, .int .i64 0, .int .i64 0, .bool false] 27)) := (Below.refl _ _).alloc (Nat.le_refl _) _
  have Xg : Hid (TV (w22.alloc (.cells #[.slice Ag 1 cg, .int .i64 0, .int .i64 9, .int .i64 0, .int .i64 0, .int .i64 0, .bool false] 27)) w22.heap.size (.slice Ag 1 cg) ⟨[0], 0, (9, 0), (0, 0), false⟩) := Lib.hid ⟨SkAt.new w22 (.slice Ag 1 cg) ⟨[0], 0, (9, 0), (0, 0), false⟩, _, ownsI14.keep hO hb2⟩
  clear hO hb
  go_wp2_with fail
  replace TWO := Lib.hid (TWO.out.keep hb2)
  replace THR := Lib.hid (THR.out.keep hb2)
  replace Xa := Lib.hid (Xa.out.keep hb2)
  replace Xb := Lib.hid (Xb.out.keep hb2)
  replace RC := Lib.hid (RC.out.keep hb2)
  replace Xc := Lib.hid (Xc.out.keep hb2)
  replace Xd := Lib.hid (Xd.out.keep hb2)
  replace Xe := Lib.hid (Xe.out.keep hb2)
  replace Xf := Lib.hid (Xf.out.keep hb2)
  replace BW := Lib.hid (b_next BW.out hb2)
  clear hb2
  generalize w22.alloc (.cells #[.slice Ag 1 cg, .int .i64 0, .int .i64 9, .int .i64 0, .int .i64 0, .int .i64 0, .bool false] 27) = w23 at Xg BW TWO THR Xa Xb RC Xc Xd Xe Xf ⊢
  generalize w22.heap.size = gg at Xg ⊢
  (with_reducible refine (Kh.out _ _ (KdIn.nil _)).mono ?_)
  rintro e w24 ⟨vh, rfl, hO, hb⟩
  obtain ⟨Ah, ch, rfl⟩ := own_len14 hO
  replace TWO := Lib.hid (TWO.out.keep hb)
  replace THR := Lib.hid (THR.out.keep hb)
  replace Xa := Lib.hid (Xa.out.keep hb)
  replace Xb := Lib.hid (Xb.out.keep hb)
  replace RC := Lib.hid (RC.out.keep hb)
  replace Xc := Lib.hid (Xc.out.keep hb)
  replace Xd := Lib.hid (Xd.out.keep hb)
  replace Xe := Lib.hid (Xe.out.keep hb)
  replace Xf := Lib.hid (Xf.out.keep hb)
  replace Xg := Lib.hid (Xg.out.keep hb)
  replace BW := Lib.hid (b_next BW.out hb)
  have hb2 : Below w24.heap.size w24 (w24.alloc (.cells #[.slice Ah 0 ch, .int .i64 0, .int .i64 0, .int .i64 0, .int .i64 0, .int .i64 0, .bool false] 27)) := (Below.refl _ _).alloc (Nat.le_refl _) _
  have Xh : Hid (TV (w24.alloc (.cells #[.slice Ah 0 ch, .int .i64 0, .int .i64 0, .int .i64 0, .int .i64 0, .int .i64 0, .bool false] 27)) w24.heap.size (.slice Ah 0 ch) ⟨[], 0, (0, 0), (0, 0), false⟩) := Lib.hid ⟨SkAt.new w24 (.slice Ah 0 ch) ⟨[], 0, (0, 0), (0, 0), false⟩, _, ownsI14.keep hO hb2⟩
  clear hO hb
  go_wp2_with fail
  replace TWO := Lib.hid (TWO.out.keep hb2)
  replace THR := Lib.hid (THR.out.keep hb2)
  replace Xa := Lib.hid (Xa.out.keep hb2)
  replace Xb := Lib.hid (Xb.out.keep hb2)
  replace RC := Lib.hid (RC.out.keep hb2)
  replace Xc := Lib.hid (Xc.out.keep hb2)
  replace Xd := Lib.hid (Xd.out.keep hb2)
  replace Xe := Lib.hid (Xe.out.keep hb2)
  replace Xf := Lib.hid (Xf.out.keep hb2)
  replace Xg := Lib.hid (Xg.out.keep hb2)
  replace BW := Lib.hid (b_next BW.out hb2)
  clear hb2
  generalize w24.alloc (.cells #[.slice Ah 0 ch, .int .i64 0, .int .i64 0, .int .i64 0, .int .i64 0, .int .i64 0, .bool false] 27) = w25 at Xh BW TWO THR Xa Xb RC Xc Xd Xe Xf Xg ⊢
  generalize w24.heap.size = gh at Xh ⊢
  (with_reducible refine (Q7.out _).mono ?_)
  rintro e w26 ⟨rfl, hb⟩
  replace TWO := Lib.hid (TWO.out.keep hb)
  replace THR := Lib.hid (THR.out.keep hb)
  replace Xa := Lib.hid (Xa.out.keep hb)
  replace Xb := Lib.hid (Xb.out.keep hb)
  replace RC := Lib.hid (RC.out.keep hb)
  replace Xc := Lib.hid (Xc.out.keep hb)
  replace Xd := Lib.hid (Xd.out.keep hb)
  replace Xe := Lib.hid (Xe.out.keep hb)
  replace Xf := Lib.hid (Xf.out.keep hb)
  replace Xg := Lib.hid (Xg.out.keep hb)
  replace Xh := Lib.hid (Xh.out.keep hb)
  replace BW := Lib.hid (b_next BW.out hb)
  clear hb
  go_wp2_with fail
  have hb : Below w26.heap.size w26 (w26.alloc (.cells #[.int .i64 0, .int .i64 (-3), .int .i64 0, .int .i64 0, .int .i64 1, .bool false] 35)) := (Below.refl _ _).alloc (Nat.le_refl _) _
  have RI : Hid (KdIn (w26.alloc (.cells #[.int .i64 0, .int .i64 (-3), .int .i64 0, .int .i64 0, .int .i64 1, .bool false] 35)) (.slice (some ⟨w26.heap.size, 0, none⟩) 1 1) [⟨(0, -3), (0, 0), 1, false⟩]) := Lib.hid (kids_new [⟨(0, -3), (0, 0), 1, false⟩] (by simp) _)
  replace TWO := Lib.hid (TWO.out.keep hb)
  replace THR := Lib.hid (THR.out.keep hb)
  replace Xa := Lib.hid (Xa.out.keep hb)
  replace Xb := Lib.hid (Xb.out.keep hb)
  replace RC := Lib.hid (RC.out.keep hb)
  replace Xc := Lib.hid (Xc.out.keep hb)
  replace Xd := Lib.hid (Xd.out.keep hb)
  replace Xe := Lib.hid (Xe.out.keep hb)
  replace Xf := Lib.hid (Xf.out.keep hb)
  replace Xg := Lib.hid (Xg.out.keep hb)
  replace Xh := Lib.hid (Xh.out.keep hb)
  replace BW := Lib.hid (b_next BW.out hb)
  clear hb
  generalize w26.alloc (.cells #[.int .i64 0, .int .i64 (-3), .int .i64 0, .int .i64 0, .int .i64 1, .bool false] 35) = w27 at RI BW TWO THR Xa Xb RC Xc Xd Xe Xf Xg Xh ⊢
  generalize w26.heap.size = gRI at RI ⊢
  (with_reducible refine (Ki.out _ _ RI.out).mono ?_)
  rintro e w28 ⟨vi, rfl, hO, hb⟩
  obtain ⟨Ai, ci, rfl⟩ := own_len14 hO
  replace TWO := Lib.hid (TWO.out.keep hb)
  replace THR := Lib.hid (THR.out.keep hb)
  replace Xa := Lib.hid (Xa.out.keep hb)
  replace Xb := Lib.hid (Xb.out.keep hb)
  replace RC := Lib.hid (RC.out.keep hb)
  replace Xc := Lib.hid (Xc.out.keep hb)
  replace Xd := Lib.hid (Xd.out.keep hb)
  replace Xe := Lib.hid (Xe.out.keep hb)
  replace Xf := Lib.hid (Xf.out.keep hb)
  replace Xg := Lib.hid (Xg.out.keep hb)
  replace Xh := Lib.hid (Xh.out.keep hb)
  replace RI := Lib.hid (RI.out.keep hb)
  replace BW := Lib.hid (b_next BW.out hb)
  have hb2 : Below w28.heap.size w28 (w28.alloc (.cells #[.slice Ai 1 ci, .int .i64 0, .int .i64 0, .int .i64 0, .int .i64 0, .int .i64 0, .bool false] 27)) := (Below.refl _ _).alloc (Nat.le_refl _) _
  have Xi : Hid (TV (w28.alloc (.cells #[.slice Ai 1 ci, .int .i64 0, .int .i64 0, .int .i64 0, .int .i64 0, .int .i64 0, .bool false] 27)) w28.heap.size (.slice Ai 1 ci) ⟨[-3], 0, (0, 0), (0, 0), false⟩) := Lib.hid ⟨SkAt.new w28 (.slice Ai 1 ci) ⟨[-3], 0, (0, 0), (0, 0), false⟩, _, ownsI14.keep hO hb2⟩
  clear hO hb
  go_upto_region 12 with fail
  replace TWO := Lib.hid (TWO.out.keep hb2)
  replace THR := Lib.hid (THR.out.keep hb2)
  replace Xa := Lib.hid (Xa.out.keep hb2)
  replace Xb := Lib.hid (Xb.out.keep hb2)
  replace RC := Lib.hid (RC.out.keep hb2)
  replace Xc := Lib.hid (Xc.out.keep hb2)
  replace Xd := Lib.hid (Xd.out.keep hb2)
  replace Xe := Lib.hid (Xe.out.keep hb2)
  replace Xf := Lib.hid (Xf.out.keep hb2)
  replace Xg := Lib.hid (Xg.out.keep hb2)
  replace Xh := Lib.hid (Xh.out.keep hb2)
  replace RI := Lib.hid (RI.out.keep hb2)
  replace BW := Lib.hid (b_next BW.out hb2)
  clear hb2
  generalize w28.alloc (.cells #[.slice Ai 1 ci, .int .i64 0, .int .i64 0, .int .i64 0, .int .i64 0, .int .i64 0, .bool false] 27) = w29 at Xi BW TWO THR Xa Xb RC Xc Xd Xe Xf Xg Xh RI ⊢
  generalize w28.heap.size = gi at Xi ⊢
  clear TWO THR RC RI Ka Kb Kc Kd Ke Kf Kg Kh Ki Q1 Q2 Q3 Q4 Q5 Q6 Q7
  obtain ⟨ca0, ca1, ca2, ca3, ca4, ca5, ca6⟩ := Xa.out.1.cells
  dsimp only at ca1 ca2 ca3 ca4 ca5 ca6
  go_wp2_with fail
  refine (Xa.out.told rfl (by decide) (by decide)).mono ?_
  rintro e w30 ⟨rfl, hb⟩
  clear ca0 ca1 ca2 ca3 ca4 ca5 ca6
  replace Xa := Lib.hid (Xa.out.keep hb)
  replace Xb := Lib.hid (Xb.out.keep hb)
  replace Xc := Lib.hid (Xc.out.keep hb)
  replace Xd := Lib.hid (Xd.out.keep hb)
  replace Xe := Lib.hid (Xe.out.keep hb)
  replace Xf := Lib.hid (Xf.out.keep hb)
  replace Xg := Lib.hid (Xg.out.keep hb)
  replace Xh := Lib.hid (Xh.out.keep hb)
  replace Xi := Lib.hid (Xi.out.keep hb)
  replace BW := Lib.hid (b_next BW.out hb)
  clear hb
  obtain ⟨ca0, ca1, ca2, ca3, ca4, ca5, ca6⟩ := Xa.out.1.cells
  dsimp only at ca1 ca2 ca3 ca4 ca5 ca6
  obtain ⟨cb0, cb1, cb2, cb3, cb4, cb5, cb6⟩ := Xb.out.1.cells
  dsimp only at cb1 cb2 cb3 cb4 cb5 cb6
  go_wp2_with fail
  refine (Xb.out.told rfl (by decide) (by decide)).mono ?_
  rintro e w31 ⟨rfl, hb⟩
  clear ca0 ca1 ca2 ca3 ca4 ca5 ca6
  clear cb0 cb1 cb2 cb3 cb4 cb5 cb6
  replace Xa := Lib.hid (Xa.out.keep hb)
  replace Xb := Lib.hid (Xb.out.keep hb)
  replace Xc := Lib.hid (Xc.out.keep hb)
  replace Xd := Lib.hid (Xd.out.keep hb)
  replace Xe := Lib.hid (Xe.out.keep hb)
  replace Xf := Lib.hid (Xf.out.keep hb)
  replace Xg := Lib.hid (Xg.out.keep hb)
  replace Xh := Lib.hid (Xh.out.keep hb)
  replace Xi := Lib.hid (Xi.out.keep hb)
  replace BW := Lib.hid (b_next BW.out hb)
  clear hb
  obtain ⟨cb0, cb1, cb2, cb3, cb4, cb5, cb6⟩ := Xb.out.1.cells
  dsimp only at cb1 cb2 cb3 cb4 cb5 cb6
  obtain ⟨cc0, cc1, cc2, cc3, cc4, cc5, cc6⟩ := Xc.out.1.cells
  dsimp only at cc1 cc2 cc3 cc4 cc5 cc6
  go_wp2_with fail
  refine (Xc.out.told rfl (by decide) (by decide)).mono ?_
  rintro e w32 ⟨rfl, hb⟩
  clear cb0 cb1 cb2 cb3 cb4 cb5 cb6
  clear cc0 cc1 cc2 cc3 cc4 cc5 cc6
  replace Xa := Lib.hid (Xa.out.keep hb)
  replace Xb := Lib.hid (Xb.out.keep hb)
  replace Xc := Lib.hid (Xc.out.keep hb)
  replace Xd := Lib.hid (Xd.out.keep hb)
  replace Xe := Lib.hid (Xe.out.keep hb)
  replace Xf := Lib.hid (Xf.out.keep hb)
  replace Xg := Lib.hid (Xg.out.keep hb)
  replace Xh := Lib.hid (Xh.out.keep hb)
  replace Xi := Lib.hid (Xi.out.keep hb)
  replace BW := Lib.hid (b_next BW.out hb)
  clear hb
  obtain ⟨cc0, cc1, cc2, cc3, cc4, cc5, cc6⟩ := Xc.out.1.cells
  dsimp only at cc1 cc2 cc3 cc4 cc5 cc6
  obtain ⟨cd0, cd1, cd2, cd3, cd4, cd5, cd6⟩ := Xd.out.1.cells
  dsimp only at cd1 cd2 cd3 cd4 cd5 cd6
  go_wp2_with fail
  refine (Xd.out.told rfl (by decide) (by decide)).mono ?_
  rintro e w33 ⟨rfl, hb⟩
  clear cc0 cc1 cc2 cc3 cc4 cc5 cc6
  clear cd0 cd1 cd2 cd3 cd4 cd5 cd6
  replace Xa := Lib.hid (Xa.out.keep hb)
  replace Xb := Lib.hid (Xb.out.keep hb)
  replace Xc := Lib.hid (Xc.out.keep hb)
  replace Xd := Lib.hid (Xd.out.keep hb)
  replace Xe := Lib.hid (Xe.out.keep hb)
  replace Xf := Lib.hid (Xf.out.keep hb)
  replace Xg := Lib.hid (Xg.out.keep hb)
  replace Xh := Lib.hid (Xh.out.keep hb)
  replace Xi := Lib.hid (Xi.out.keep hb)
  replace BW := Lib.hid (b_next BW.out hb)
  clear hb
  obtain ⟨cd0, cd1, cd2, cd3, cd4, cd5, cd6⟩ := Xd.out.1.cells
  dsimp only at cd1 cd2 cd3 cd4 cd5 cd6
  obtain ⟨ce0, ce1, ce2, ce3, ce4, ce5, ce6⟩ := Xe.out.1.cells
  dsimp only at ce1 ce2 ce3 ce4 ce5 ce6
  go_wp2_with fail
  refine (Xe.out.told rfl (by decide) (by decide)).mono ?_
  rintro e w34 ⟨rfl, hb⟩
  clear cd0 cd1 cd2 cd3 cd4 cd5 cd6
  clear ce0 ce1 ce2 ce3 ce4 ce5 ce6
  replace Xa := Lib.hid (Xa.out.keep hb)
  replace Xb := Lib.hid (Xb.out.keep hb)
  replace Xc := Lib.hid (Xc.out.keep hb)
  replace Xd := Lib.hid (Xd.out.keep hb)
  replace Xe := Lib.hid (Xe.out.keep hb)
  replace Xf := Lib.hid (Xf.out.keep hb)
  replace Xg := Lib.hid (Xg.out.keep hb)
  replace Xh := Lib.hid (Xh.out.keep hb)
  replace Xi := Lib.hid (Xi.out.keep hb)
  replace BW := Lib.hid (b_next BW.out hb)
  clear hb
  obtain ⟨ce0, ce1, ce2, ce3, ce4, ce5, ce6⟩ := Xe.out.1.cells
  dsimp only at ce1 ce2 ce3 ce4 ce5 ce6
  obtain ⟨cf0, cf1, cf2, cf3, cf4, cf5, cf6⟩ := Xf.out.1.cells
  dsimp only at cf1 cf2 cf3 cf4 cf5 cf6
  go_wp2_with fail
  refine (Xf.out.told rfl (by decide) (by decide)).mono ?_
  rintro e w35 ⟨rfl, hb⟩
  clear ce0 ce1 ce2 ce3 ce4 ce5 ce6
  clear cf0 cf1 cf2 cf3 cf4 cf5 cf6
  replace Xa := Lib.hid (Xa.out.keep hb)
  replace Xb := Lib.hid (Xb.out.keep hb)
  replace Xc := Lib.hid (Xc.out.keep hb)
  replace Xd := Lib.hid (Xd.out.keep hb)
  replace Xe := Lib.hid (Xe.out.keep hb)
  replace Xf := Lib.hid (Xf.out.keep hb)
  replace Xg := Lib.hid (Xg.out.keep hb)
  replace Xh := Lib.hid (Xh.out.keep hb)
  replace Xi := Lib.hid (Xi.out.keep hb)
  replace BW := Lib.hid (b_next BW.out hb)
  clear hb
  obtain ⟨cf0, cf1, cf2, cf3, cf4, cf5, cf6⟩ := Xf.out.1.cells
  dsimp only at cf1 cf2 cf3 cf4 cf5 cf6
  obtain ⟨cg0, cg1, cg2, cg3, cg4, cg5, cg6⟩ := Xg.out.1.cells
  dsimp only at cg1 cg2 cg3 cg4 cg5 cg6
  obtain ⟨ch0, ch1, ch2, ch3, ch4, ch5, ch6⟩ := Xh.out.1.cells
  dsimp only at ch1 ch2 ch3 ch4 ch5 ch6
  obtain ⟨ci0, ci1, ci2, ci3, ci4, ci5, ci6⟩ := Xi.out.1.cells
  dsimp only at ci1 ci2 ci3 ci4 ci5 ci6
  go_wp2_with fail
  refine (Xi.out.told rfl (by decide) (by decide)).mono ?_
  rintro e w36 ⟨rfl, hb⟩
  clear cf0 cf1 cf2 cf3 cf4 cf5 cf6
  clear cg0 cg1 cg2 cg3 cg4 cg5 cg6
  clear ch0 ch1 ch2 ch3 ch4 ch5 ch6
  clear ci0 ci1 ci2 ci3 ci4 ci5 ci6
  replace Xa := Lib.hid (Xa.out.keep hb)
  replace Xb := Lib.hid (Xb.out.keep hb)
  replace Xc := Lib.hid (Xc.out.keep hb)
  replace Xd := Lib.hid (Xd.out.keep hb)
  replace Xe := Lib.hid (Xe.out.keep hb)
  replace Xf := Lib.hid (Xf.out.keep hb)
  replace Xg := Lib.hid (Xg.out.keep hb)
  replace Xh := Lib.hid (Xh.out.keep hb)
  replace Xi := Lib.hid (Xi.out.keep hb)
  replace BW := Lib.hid (b_next BW.out hb)
  clear hb
  obtain ⟨ci0, ci1, ci2, ci3, ci4, ci5, ci6⟩ := Xi.out.1.cells
  dsimp only at ci1 ci2 ci3 ci4 ci5 ci6
  go_wp2_with fail
  go_ret
  exact ⟨by first | rfl | simp, BW.out⟩
end Go.Proofs.Ytidbfkbeploagaa
