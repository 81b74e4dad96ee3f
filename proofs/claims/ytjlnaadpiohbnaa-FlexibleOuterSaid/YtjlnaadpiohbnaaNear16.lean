/-
  The furniture of stage 16's laws: near, first.
-/
import Derived.Test.YtjlnaadpiohbnaaSizesOK16
import Derived.Test.YtjlnaadpiohbnaaRely
import Derived.Deep.Cut
import Derived.Deep.LoopGhost
import Derived.IntWalk
namespace Go.Proofs.Ytjlnaadpiohbnaa
open Go.RowKit

/-- boxes near 0, a gap, a room -/
structure NearR (l : List It16) (gap room : Int) : Prop where
  hn : l.length ≤ 100
  hgap : 0 ≤ gap ∧ gap ≤ 268435456
  hroom : -1 ≤ room ∧ room ≤ 68719476736
  hI : ∀ i, i < l.length → NearI (itA l i) ∧ (itA l i).most ≤ 274877906944
def NearP (x : It16) : Prop := (0 ≤ x.base ∧ x.base ≤ 268435456) ∧ (0 ≤ x.least ∧ x.least ≤ 268435456) ∧ (0 ≤ x.most ∧ x.most ≤ 274877906944) ∧ (0 ≤ x.grow ∧ x.grow ≤ 1000) ∧ (0 ≤ x.shrink ∧ x.shrink ≤ 1000) ∧ -268435456 ≤ x.outer ∧ x.outer ≤ 268435456
theorem nearP_iff (x : It16) : NearP x ↔ NearI x ∧ x.most ≤ 274877906944 := by
  constructor
  · rintro ⟨a, b, c, d, e, f⟩
    exact ⟨⟨a, b, ⟨c.1, by omega⟩, d, e, f⟩, c.2⟩
  · rintro ⟨⟨a, b, c, d, e, f⟩, h⟩
    exact ⟨a, b, ⟨c.1, h⟩, d, e, f⟩
instance (x : It16) : Decidable (NearP x) := by unfold NearP; infer_instance
instance (l : List It16) (gap room : Int) : Decidable (NearR l gap room) :=
  decidable_of_iff (l.length ≤ 100 ∧ (0 ≤ gap ∧ gap ≤ 268435456) ∧ (-1 ≤ room ∧ room ≤ 68719476736) ∧ ∀ i, i < l.length → NearP (itA l i)) ⟨fun h => ⟨h.1, h.2.1, h.2.2.1, fun i hi => (nearP_iff _).1 (h.2.2.2 i hi)⟩, fun h => ⟨h.hn, h.hgap, h.hroom, fun i hi => (nearP_iff _).2 (h.hI i hi)⟩⟩
/-- boxes' cells, in every world behind one -/
theorem TmIn.later {w : World} {b off n c : Nat} {l : List It16} (h : TmIn w (.slice (some ⟨b, off, none⟩) n c) l) {k : Nat} (hk : k < l.length) : ∀ W, Below w.heap.size w W → TmAt W b (off + k * 6) (itA l k) := fun W hW => by
  obtain ⟨b', off', c', e, -, -, h1⟩ := (h.keep hW).get hk
  injection e with e1 e2 e3
  injection e1 with e1
  injection e1 with e1 e4
  subst e1 e4
  exact h1 k hk
theorem b_next16 {w0 W W' : World} (h : Below w0.heap.size w0 W) (hb : Below W.heap.size W W') : Below w0.heap.size w0 W' := h.trans (hb.mono h.size)
set_option maxRecDepth 100000 in
set_option maxHeartbeats 8000000 in
theorem near16 (A : Option Addr) (n c : Nat) (l : List It16) (gap room : Int) (w : World) (hv : TmIn w (.slice A n c) l) (hl : l.length = n) (b : Bool) (hb : decide (NearR l gap room) = b) :
    Calls Try.prog 16 #[.slice A n c, .int .i64 gap, .int .i64 room] w fun e w' => e = .returned (.bool b) ∧ Below w.heap.size w w' := by
  have HV := Lib.hid hv
  have HL := Lib.hid hl
  have R : Hid (¬ NearR l gap room → b = false) := Lib.hid (fun h => by rw [← hb]; exact decide_eq_false h)
  have R2 : Hid (NearR l gap room → b = true) := Lib.hid (fun h => by rw [← hb]; exact decide_eq_true h)
  clear hv hl hb
  by_cases a1 : 100 < n
  · have RT : Hid (b = false) := Lib.hid (R.out (fun h => by have := h.hn; have := HL.out; omega))
    have hz : (100 : Int) < n := by omega
    go_enter Try.func16, Try.ntmps16
    go_wp2_with fail
    go_ret
    exact ⟨by rw [RT.out]; rfl, Below.refl _ _⟩
  have z1 : ¬ (100 : Int) < n := by omega
  by_cases a2 : gap < 0
  · have RT : Hid (b = false) := Lib.hid (R.out (fun h => by have := h.hgap; have := HL.out; omega))
    go_enter Try.func16, Try.ntmps16
    go_wp2_with fail
    go_ret
    exact ⟨by rw [RT.out]; rfl, Below.refl _ _⟩
  by_cases a3 : 268435456 < gap
  · have RT : Hid (b = false) := Lib.hid (R.out (fun h => by have := h.hgap; have := HL.out; omega))
    go_enter Try.func16, Try.ntmps16
    go_wp2_with fail
    go_ret
    exact ⟨by rw [RT.out]; rfl, Below.refl _ _⟩
  by_cases a4 : room < -1
  · have RT : Hid (b = false) := Lib.hid (R.out (fun h => by have := h.hroom; have := HL.out; omega))
    go_enter Try.func16, Try.ntmps16
    go_wp2_with fail
    go_ret
    exact ⟨by rw [RT.out]; rfl, Below.refl _ _⟩
  by_cases a5 : 68719476736 < room
  · have RT : Hid (b = false) := Lib.hid (R.out (fun h => by have := h.hroom; have := HL.out; omega))
    go_enter Try.func16, Try.ntmps16
    go_wp2_with fail
    go_ret
    exact ⟨by rw [RT.out]; rfl, Below.refl _ _⟩
  have Y := Lib.hid (show (n ≤ 100 ∧ (0 ≤ gap ∧ gap ≤ 268435456)) ∧ (-1 ≤ room ∧ room ≤ 68719476736) by omega)
  go_enter Try.func16, Try.ntmps16
  go_wp2_with fail
  clear z1 a1 a2 a3 a4 a5
  go_loopg [7] n (fun g1 vi wr => ∃ k : Nat, vi = .int .i64 k ∧ k ≤ n ∧ n - k ≤ g1 ∧ Hid (∀ i, i < k → NearP (itA l i)) ∧ Hid (Below w.heap.size w wr))
  case atStart => exact ⟨0, rfl, by omega, by omega, Lib.hid (fun i hi => absurd hi (by omega)), Lib.hid (Below.refl _ _)⟩
  case round =>
    obtain ⟨k, rfl, hk, hg1, HF, HB⟩ := hrel
    obtain ⟨wo, hwo⟩ : ∃ wo, wo = wr := ⟨_, rfl⟩
    subst hwo
    by_cases hlt : k < n
    · have hz : (k : Int) < n := by omega
      have hz0 : (0 : Int) ≤ k := by omega
      have wi : IntKind.i64.wrap ((k : Int) + 1) = (k : Int) + 1 := IntWalk.i64_in _ (by have := Y.out; omega)
      obtain ⟨bb, off, c1, e, -, -, -⟩ := HV.out.get (i := k) (by have := HL.out; omega)
      injection e with e1 e2 e3
      subst e1 e3
      clear e2
      have K6 := Lib.hid (HV.out.later (k := k) (by have := HL.out; omega) wo HB.out)
      have RB : Hid (¬ NearP (itA l k) → b = false) := Lib.hid (fun hb => R.out (fun h => hb ((nearP_iff _).2 (h.hI k (by have := HL.out; omega)))))
      have NX : Hid (NearP (itA l k) → ∀ i, i < k + 1 → NearP (itA l i)) := Lib.hid (fun hb i hi => by
        rcases Nat.lt_or_ge i k with h | h
        · exact HF.out i h
        · obtain rfl : i = k := by omega
          exact hb)
      clear HF
      generalize itA l k = x at K6 RB NX
      obtain ⟨x0, x1, x2, x3, x4, x5⟩ := x
      unfold TmAt at K6
      unfold NearP at RB NX
      dsimp only at K6 RB NX
      obtain ⟨a0, a1, a2, a3, a4, a5⟩ := K6.out
      go_upto_region 7 with fail
      clear a0 a1 a2 a3 a4 a5 K6
      have B5 : Hid (Below w.heap.size w (wo.alloc (.cells #[.int .i64 x0, .int .i64 x1, .int .i64 x2, .int .i64 x3, .int .i64 x4, .int .i64 x5] 32))) := Lib.hid (HB.out.alloc HB.out.size _)
      have K5 : Hid ((wo.alloc (.cells #[.int .i64 x0, .int .i64 x1, .int .i64 x2, .int .i64 x3, .int .i64 x4, .int .i64 x5] 32)).heap[wo.heap.size]? = some (.cells #[.int .i64 x0, .int .i64 x1, .int .i64 x2, .int .i64 x3, .int .i64 x4, .int .i64 x5] 32)) := Lib.hid (heap_alloc_new wo _)
      generalize wo.alloc (.cells #[.int .i64 x0, .int .i64 x1, .int .i64 x2, .int .i64 x3, .int .i64 x4, .int .i64 x5] 32) = w5 at B5 K5 ⊢
      generalize wo.heap.size = g at K5 ⊢
      have a0 : w5.cell? ⟨g, 0, none⟩ = some (.int .i64 x0) := by simp [World.cell?, K5.out]
      have a1 : w5.cell? ⟨g, 1, none⟩ = some (.int .i64 x1) := by simp [World.cell?, K5.out]
      have a2 : w5.cell? ⟨g, 2, none⟩ = some (.int .i64 x2) := by simp [World.cell?, K5.out]
      have a3 : w5.cell? ⟨g, 3, none⟩ = some (.int .i64 x3) := by simp [World.cell?, K5.out]
      have a4 : w5.cell? ⟨g, 4, none⟩ = some (.int .i64 x4) := by simp [World.cell?, K5.out]
      have a5 : w5.cell? ⟨g, 5, none⟩ = some (.int .i64 x5) := by simp [World.cell?, K5.out]
      by_cases q0 : x0 < 0
      · have RT : Hid (b = false) := Lib.hid (RB.out (by omega))
        clear RB NX
        go_wp2_with fail
        go_ret
        exact ⟨by rw [RT.out]; rfl, B5.out⟩
      by_cases q1 : 268435456 < x0
      · have RT : Hid (b = false) := Lib.hid (RB.out (by omega))
        clear RB NX
        go_wp2_with fail
        go_ret
        exact ⟨by rw [RT.out]; rfl, B5.out⟩
      by_cases q2 : x1 < 0
      · have RT : Hid (b = false) := Lib.hid (RB.out (by omega))
        clear RB NX
        go_wp2_with fail
        go_ret
        exact ⟨by rw [RT.out]; rfl, B5.out⟩
      by_cases q3 : 268435456 < x1
      · have RT : Hid (b = false) := Lib.hid (RB.out (by omega))
        clear RB NX
        go_wp2_with fail
        go_ret
        exact ⟨by rw [RT.out]; rfl, B5.out⟩
      by_cases q4 : x2 < 0
      · have RT : Hid (b = false) := Lib.hid (RB.out (by omega))
        clear RB NX
        go_wp2_with fail
        go_ret
        exact ⟨by rw [RT.out]; rfl, B5.out⟩
      by_cases q5 : 274877906944 < x2
      · have RT : Hid (b = false) := Lib.hid (RB.out (by omega))
        clear RB NX
        go_wp2_with fail
        go_ret
        exact ⟨by rw [RT.out]; rfl, B5.out⟩
      by_cases q6 : x5 < -268435456
      · have RT : Hid (b = false) := Lib.hid (RB.out (by omega))
        clear RB NX
        go_wp2_with fail
        go_ret
        exact ⟨by rw [RT.out]; rfl, B5.out⟩
      by_cases q7 : 268435456 < x5
      · have RT : Hid (b = false) := Lib.hid (RB.out (by omega))
        clear RB NX
        go_wp2_with fail
        go_ret
        exact ⟨by rw [RT.out]; rfl, B5.out⟩
      by_cases q8 : x3 < 0
      · have RT : Hid (b = false) := Lib.hid (RB.out (by omega))
        clear RB NX
        go_wp2_with fail
        go_ret
        exact ⟨by rw [RT.out]; rfl, B5.out⟩
      by_cases q9 : 1000 < x3
      · have RT : Hid (b = false) := Lib.hid (RB.out (by omega))
        clear RB NX
        go_wp2_with fail
        go_ret
        exact ⟨by rw [RT.out]; rfl, B5.out⟩
      by_cases q10 : x4 < 0
      · have RT : Hid (b = false) := Lib.hid (RB.out (by omega))
        clear RB NX
        go_wp2_with fail
        go_ret
        exact ⟨by rw [RT.out]; rfl, B5.out⟩
      by_cases q11 : 1000 < x4
      · have RT : Hid (b = false) := Lib.hid (RB.out (by omega))
        clear RB NX
        go_wp2_with fail
        go_ret
        exact ⟨by rw [RT.out]; rfl, B5.out⟩
      have NY := Lib.hid (NX.out (by omega))
      clear RB NX
      go_wp2_with fail
      go_roundg (n - (k + 1))
      case measure => omega
      case rel => exact ⟨k + 1, by go_num, by omega, Nat.le_refl _, NY, B5⟩
    · obtain rfl : k = n := by omega
      have hz : ¬ (k : Int) < k := by omega
      have RT : Hid (b = true) := Lib.hid (R2.out ⟨by have := Y.out; have := HL.out; omega, Y.out.1.2, Y.out.2, fun i hi => (nearP_iff _).1 (HF.out i (by have := HL.out; omega))⟩)
      go_wp2_with fail
      go_ret
      exact ⟨by rw [RT.out]; rfl, HB.out⟩
/-- how long a line is at first, so far -/
def firstS (l : List It16) (gap : Int) (k : Nat) : Int := allI l k + aroundI l gap k
theorem firstS_succ (l : List It16) (gap : Int) (k : Nat) : firstS l gap (k + 1) = firstS l gap k + (itA l k).outer + firstI (itA l k) + (if 0 < k then gap else 0) := by
  unfold firstS allI aroundI
  rw [sumB, sumB]
  by_cases h : k = 0
  · subst h; simp; omega
  · have e : gap * (((k + 1 : Nat) : Int) - 1) = gap * ((k : Int) - 1) + gap := by
      rw [show ((k + 1 : Nat) : Int) - 1 = ((k : Int) - 1) + 1 by omega, Int.mul_add]; omega
    rw [if_neg (by omega), if_neg h, if_pos (by omega), e]
    omega
theorem first_bd {l : List It16} {gap : Int} {k : Nat} (hk : k ≤ 100) (hg : 0 ≤ gap ∧ gap ≤ 268435456) (hI : ∀ i, i < k → NearI (itA l i)) : -107374182400 ≤ firstS l gap k ∧ firstS l gap k ≤ 107374182400 := by
  have h1 := around_bd hk hg hI
  have h2 := sumB_bd (f := fun i => firstI (itA l i)) (c := 268435456) (n := k) (fun i hi => by have := (hI i hi).first; omega)
  unfold firstS allI
  omega
set_option maxRecDepth 100000 in
set_option maxHeartbeats 8000000 in
theorem first16I (hFi : FirstOK 13) (A : Option Addr) (n c : Nat) (l : List It16) (gap room : Int) (w : World) (hv : TmIn w (.slice A n c) l) (hl : l.length = n) (hn : n ≤ 100) (hgap : 0 ≤ gap ∧ gap ≤ 268435456) (hI : ∀ i, i < n → NearI (itA l i)) :
    Calls Try.prog 17 #[.slice A n c, .int .i64 gap, .int .i64 room] w fun e w' => e = .returned (.tuple #[.int .i64 (firstS l gap n), .bool (decide (firstS l gap n < room))]) ∧ Below w.heap.size w w' := by
  have HV := Lib.hid hv
  have HL := Lib.hid hl
  have KF := Lib.hid (fun x W => hFi x W)
  have SB := Lib.hid (fun k (hk : k ≤ n) => first_bd (l := l) (k := k) (by omega) hgap (fun i hi => hI i (by omega)))
  have OB := Lib.hid (fun k (hk : k < n) => (hI k hk).houter)
  have FB := Lib.hid (fun k (hk : k < n) => (hI k hk).first)
  have GB := Lib.hid hgap
  clear hv hl hFi hI hgap
  go_enter Try.func17, Try.ntmps17
  go_wp2_with fail
  go_loopg [8, 9] n (fun g1 vs vi wr => ∃ k : Nat, vi = .int .i64 k ∧ vs = .int .i64 (firstS l gap k) ∧ k ≤ n ∧ n - k ≤ g1 ∧ Hid (Below w.heap.size w wr))
  case atStart => exact ⟨0, rfl, by simp [firstS, allI, aroundI, sumB], by omega, by omega, Lib.hid (Below.refl _ _)⟩
  case round =>
    obtain ⟨k, rfl, rfl, hk, hg1, HB⟩ := hrel
    obtain ⟨wo, hwo⟩ : ∃ wo, wo = wr := ⟨_, rfl⟩
    subst hwo
    by_cases hlt : k < n
    · have hz : (k : Int) < n := by omega
      have hz0 : (0 : Int) ≤ k := by omega
      have wi : IntKind.i64.wrap ((k : Int) + 1) = (k : Int) + 1 := IntWalk.i64_in _ (by omega)
      obtain ⟨bb, off, c1, e, -, -, -⟩ := HV.out.get (i := k) (by have := HL.out; omega)
      injection e with e1 e2 e3
      subst e1 e3
      clear e2
      have CT : Hid (∀ W, Below wo.heap.size wo W → TmAt W bb (off + k * 6) (itA l k)) := Lib.hid (fun W hW => HV.out.later (k := k) (by have := HL.out; omega) W (b_next16 HB.out hW))
      have HS : Hid (∀ W, Below wo.heap.size wo W → Below w.heap.size w W) := Lib.hid (fun W hW => b_next16 HB.out hW)
      have s0 := SB.out k (by omega)
      have s1 := SB.out (k + 1) (by omega)
      have o1 := OB.out k hlt
      have f1 := FB.out k hlt
      have gb := GB.out
      have KF1 := Lib.hid (fun W => KF.out (itA l k) W)
      obtain ⟨s', hs'⟩ : ∃ s', firstS l gap (k + 1) = s' := ⟨_, rfl⟩
      have E := Lib.hid hs'
      rw [firstS_succ] at hs'
      rw [E.out] at s1
      obtain ⟨fi, hfi⟩ : ∃ fi, firstI (itA l k) = fi := ⟨_, rfl⟩
      rw [hfi] at hs' f1 KF1
      generalize firstS l gap k = s at s0 hs' ⊢
      generalize itA l k = x at CT o1 KF1 hs'
      obtain ⟨x0, x1, x2, x3, x4, x5⟩ := x
      unfold TmAt at CT
      unfold tmV at KF1
      dsimp only at CT o1 KF1 hs'
      have wa : IntKind.i64.wrap (s + x5) = s + x5 := IntWalk.i64_in _ (by omega)
      have wb0 : IntKind.i64.wrap (s + x5 + fi) = s + x5 + fi := IntWalk.i64_in _ (by omega)
      obtain ⟨t, ht⟩ : ∃ t, s + x5 + fi = t := ⟨_, rfl⟩
      have wb : IntKind.i64.wrap (s + x5 + fi) = t := wb0.trans ht
      clear wb0
      rw [ht] at hs'
      have wc0 : IntKind.i64.wrap (t + gap) = t + gap := IntWalk.i64_in _ (by omega)
      obtain ⟨t2, ht2⟩ : ∃ t2, t + gap = t2 := ⟨_, rfl⟩
      have wc : IntKind.i64.wrap (t + gap) = t2 := wc0.trans ht2
      have HT : Hid ((if 0 < k then t2 else t) = s') := Lib.hid (by rw [← hs', ← ht2]; split <;> omega)
      clear wc0 ht2
      clear s0 s1 o1 f1 gb hfi ht hs'
      go_upto_region 5 with fail
      refine' wp_region_below [opV _, opV _, opV _, opV _, opV _, opV _, opV _, opV _, opV _, opV _, opV _, opV (.int .i64 fi), opV _, opV _] rfl (by kernel_rfl) ⟨?s0, ?s1, ?s2, ?s3, ?s4, ?s5, ?s6, ?s7, ?s8, ?s9, ?s10, ?s11, ?s12, ?s13, trivial⟩ ?fin
      case s0 =>
        refine BStep.of [] [] (opV _) (by kernel_rfl) (fun _ _ => by kernel_rfl) rfl ?_
        intro vs wv hB hA
        clear hA
        simp only [fillP]
        have ct := CT.out wv hB; have a0 := ct.1; have a1 := ct.2.1; have a2 := ct.2.2.1; have a3 := ct.2.2.2.1; have a4 := ct.2.2.2.2.1; have a5 := ct.2.2.2.2.2; clear ct; go_wp2_with fail
        refine postB_val ?_ (Below.refl _ _)
        simp only [List.getElem?_cons_succ, List.getElem?_cons_zero]
        rfl
      case s1 =>
        refine BStep.of [] [] (opV _) (by kernel_rfl) (fun _ _ => by kernel_rfl) rfl ?_
        intro vs wv hB hA
        clear hA
        simp only [fillP]
        have ct := CT.out wv hB; have a0 := ct.1; have a1 := ct.2.1; have a2 := ct.2.2.1; have a3 := ct.2.2.2.1; have a4 := ct.2.2.2.2.1; have a5 := ct.2.2.2.2.2; clear ct; go_wp2_with fail
        refine postB_val ?_ (Below.refl _ _)
        simp only [List.getElem?_cons_succ, List.getElem?_cons_zero]
        rfl
      case s2 =>
        refine BStep.of [] [] (opV _) (by kernel_rfl) (fun _ _ => by kernel_rfl) rfl ?_
        intro vs wv hB hA
        clear hA
        simp only [fillP]
        have ct := CT.out wv hB; have a0 := ct.1; have a1 := ct.2.1; have a2 := ct.2.2.1; have a3 := ct.2.2.2.1; have a4 := ct.2.2.2.2.1; have a5 := ct.2.2.2.2.2; clear ct; go_wp2_with fail
        refine postB_val ?_ (Below.refl _ _)
        simp only [List.getElem?_cons_succ, List.getElem?_cons_zero]
        rfl
      case s3 =>
        refine BStep.of [1, 2] [(17, 1), (18, 2)] (opV _) (by kernel_rfl) (fun _ _ => by kernel_rfl) rfl ?_
        intro vs wv hB hA
        have h1 : vs 1 = _ := hA.1
        have h2 : vs 2 = _ := hA.2.1
        clear hA
        simp only [fillP, List.setIfInBounds_toArray, List.set_cons_zero, List.set_cons_succ, h1, h2]
        have ct := CT.out wv hB; have a0 := ct.1; have a1 := ct.2.1; have a2 := ct.2.2.1; have a3 := ct.2.2.2.1; have a4 := ct.2.2.2.2.1; have a5 := ct.2.2.2.2.2; clear ct; go_wp2_with fail
        refine postB_val ?_ (Below.refl _ _)
        simp only [List.getElem?_cons_succ, List.getElem?_cons_zero]
        rfl
      case s4 =>
        refine BStep.of [3] [(19, 3)] (opV _) (by kernel_rfl) (fun _ _ => by kernel_rfl) rfl ?_
        intro vs wv hB hA
        have h3 : vs 3 = _ := hA.1
        clear hA
        simp only [fillP, List.setIfInBounds_toArray, List.set_cons_zero, List.set_cons_succ, h3]
        have ct := CT.out wv hB; have a0 := ct.1; have a1 := ct.2.1; have a2 := ct.2.2.1; have a3 := ct.2.2.2.1; have a4 := ct.2.2.2.2.1; have a5 := ct.2.2.2.2.2; clear ct; go_wp2_with fail
        refine postB_val ?_ (Below.refl _ _)
        simp only [List.getElem?_cons_succ, List.getElem?_cons_zero]
        rfl
      case s5 =>
        refine BStep.of [4] [(20, 4)] (opV _) (by kernel_rfl) (fun _ _ => by kernel_rfl) rfl ?_
        intro vs wv hB hA
        have h4 : vs 4 = _ := hA.1
        clear hA
        simp only [fillP, List.setIfInBounds_toArray, List.set_cons_zero, List.set_cons_succ, h4]
        have ct := CT.out wv hB; have a0 := ct.1; have a1 := ct.2.1; have a2 := ct.2.2.1; have a3 := ct.2.2.2.1; have a4 := ct.2.2.2.2.1; have a5 := ct.2.2.2.2.2; clear ct; go_wp2_with fail
        refine postB_val ?_ (Below.refl _ _)
        simp only [List.getElem?_cons_succ, List.getElem?_cons_zero]
        rfl
      case s6 =>
        refine BStep.of [0, 5] [(16, 0), (21, 5)] (opV _) (by kernel_rfl) (fun _ _ => by kernel_rfl) rfl ?_
        intro vs wv hB hA
        have h0 : vs 0 = _ := hA.1
        have h5 : vs 5 = _ := hA.2.1
        clear hA
        simp only [fillP, List.setIfInBounds_toArray, List.set_cons_zero, List.set_cons_succ, h0, h5]
        have ct := CT.out wv hB; have a0 := ct.1; have a1 := ct.2.1; have a2 := ct.2.2.1; have a3 := ct.2.2.2.1; have a4 := ct.2.2.2.2.1; have a5 := ct.2.2.2.2.2; clear ct; go_wp2_with fail
        refine postB_val ?_ (Below.refl _ _)
        simp only [List.getElem?_cons_succ, List.getElem?_cons_zero]
        rfl
      case s7 =>
        refine BStep.of [] [] (opV _) (by kernel_rfl) (fun _ _ => by kernel_rfl) rfl ?_
        intro vs wv hB hA
        clear hA
        simp only [fillP]
        have ct := CT.out wv hB; have a0 := ct.1; have a1 := ct.2.1; have a2 := ct.2.2.1; have a3 := ct.2.2.2.1; have a4 := ct.2.2.2.2.1; have a5 := ct.2.2.2.2.2; clear ct; go_wp2_with fail
        refine postB_val ?_ (Below.refl _ _)
        simp only [List.getElem?_cons_succ, List.getElem?_cons_zero]
        rfl
      case s8 =>
        refine BStep.of [] [] (opV _) (by kernel_rfl) (fun _ _ => by kernel_rfl) rfl ?_
        intro vs wv hB hA
        clear hA
        simp only [fillP]
        have ct := CT.out wv hB; have a0 := ct.1; have a1 := ct.2.1; have a2 := ct.2.2.1; have a3 := ct.2.2.2.1; have a4 := ct.2.2.2.2.1; have a5 := ct.2.2.2.2.2; clear ct; go_wp2_with fail
        refine postB_val ?_ (Below.refl _ _)
        simp only [List.getElem?_cons_succ, List.getElem?_cons_zero]
        rfl
      case s9 =>
        refine BStep.of [7, 8] [(23, 7), (24, 8)] (opV _) (by kernel_rfl) (fun _ _ => by kernel_rfl) rfl ?_
        intro vs wv hB hA
        have h7 : vs 7 = _ := hA.1
        have h8 : vs 8 = _ := hA.2.1
        clear hA
        simp only [fillP, List.setIfInBounds_toArray, List.set_cons_zero, List.set_cons_succ, h7, h8]
        have ct := CT.out wv hB; have a0 := ct.1; have a1 := ct.2.1; have a2 := ct.2.2.1; have a3 := ct.2.2.2.1; have a4 := ct.2.2.2.2.1; have a5 := ct.2.2.2.2.2; clear ct; go_wp2_with fail
        refine postB_val ?_ (Below.refl _ _)
        simp only [List.getElem?_cons_succ, List.getElem?_cons_zero]
        rfl
      case s10 =>
        refine BStep.of [9] [(25, 9)] (opV _) (by kernel_rfl) (fun _ _ => by kernel_rfl) rfl ?_
        intro vs wv hB hA
        have h9 : vs 9 = _ := hA.1
        clear hA
        simp only [fillP, List.setIfInBounds_toArray, List.set_cons_zero, List.set_cons_succ, h9]
        have ct := CT.out wv hB; have a0 := ct.1; have a1 := ct.2.1; have a2 := ct.2.2.1; have a3 := ct.2.2.2.1; have a4 := ct.2.2.2.2.1; have a5 := ct.2.2.2.2.2; clear ct; go_wp2_with fail
        refine postB_val ?_ (Below.refl _ _)
        simp only [List.getElem?_cons_succ, List.getElem?_cons_zero]
        rfl
      case s11 =>
        refine BStep.of [10] [(26, 10)] (opV (.int .i64 fi)) (by kernel_rfl) (fun _ _ => by kernel_rfl) rfl ?_
        intro vs wv hB hA
        have h10 : vs 10 = _ := hA.1
        clear hA
        simp only [fillP, List.setIfInBounds_toArray, List.set_cons_zero, List.set_cons_succ, h10]
        (go_wp2_with (go_at_call 13; (with_reducible refine (KF1.out _).mono ?_); rintro e w7 ⟨rfl, hb⟩)); exact postB_val rfl hb
      case s12 =>
        refine BStep.of [6, 11] [(22, 6), (27, 11)] (opV _) (by kernel_rfl) (fun _ _ => by kernel_rfl) rfl ?_
        intro vs wv hB hA
        have h6 : vs 6 = _ := hA.1
        have h11 : vs 11 = _ := hA.2.1
        clear hA
        simp only [fillP, List.setIfInBounds_toArray, List.set_cons_zero, List.set_cons_succ, h6, h11]
        have ct := CT.out wv hB; have a0 := ct.1; have a1 := ct.2.1; have a2 := ct.2.2.1; have a3 := ct.2.2.2.1; have a4 := ct.2.2.2.2.1; have a5 := ct.2.2.2.2.2; clear ct; go_wp2_with fail
        refine postB_val ?_ (Below.refl _ _)
        simp only [List.getElem?_cons_succ, List.getElem?_cons_zero]
        rfl
      case s13 =>
        refine BStep.of [0, 1, 2, 3, 4, 5, 6, 7, 8, 9, 10, 11, 12] [(16, 0), (17, 1), (18, 2), (19, 3), (20, 4), (21, 5), (22, 6), (23, 7), (24, 8), (25, 9), (26, 10), (27, 11), (28, 12)] (opV _) (by kernel_rfl) (fun _ _ => by kernel_rfl) rfl ?_
        intro vs wv hB hA
        have h0 : vs 0 = _ := hA.1
        have h1 : vs 1 = _ := hA.2.1
        have h2 : vs 2 = _ := hA.2.2.1
        have h3 : vs 3 = _ := hA.2.2.2.1
        have h4 : vs 4 = _ := hA.2.2.2.2.1
        have h5 : vs 5 = _ := hA.2.2.2.2.2.1
        have h6 : vs 6 = _ := hA.2.2.2.2.2.2.1
        have h7 : vs 7 = _ := hA.2.2.2.2.2.2.2.1
        have h8 : vs 8 = _ := hA.2.2.2.2.2.2.2.2.1
        have h9 : vs 9 = _ := hA.2.2.2.2.2.2.2.2.2.1
        have h10 : vs 10 = _ := hA.2.2.2.2.2.2.2.2.2.2.1
        have h11 : vs 11 = _ := hA.2.2.2.2.2.2.2.2.2.2.2.1
        have h12 : vs 12 = _ := hA.2.2.2.2.2.2.2.2.2.2.2.2.1
        clear hA
        simp only [fillP, List.setIfInBounds_toArray, List.set_cons_zero, List.set_cons_succ, h0, h1, h2, h3, h4, h5, h6, h7, h8, h9, h10, h11, h12]
        have ct := CT.out wv hB; have a0 := ct.1; have a1 := ct.2.1; have a2 := ct.2.2.1; have a3 := ct.2.2.2.1; have a4 := ct.2.2.2.2.1; have a5 := ct.2.2.2.2.2; clear ct; go_wp2_with fail
        refine postB_val ?_ (Below.refl _ _)
        simp only [List.getElem?_cons_succ, List.getElem?_cons_zero]
        rfl
      case fin =>
        refine fin_of [0, 1, 2, 3, 4, 5, 6, 7, 8, 9, 10, 11, 12, 13] [(16, 0), (17, 1), (18, 2), (19, 3), (20, 4), (21, 5), (22, 6), (23, 7), (24, 8), (25, 9), (26, 10), (27, 11), (28, 12), (8, 13)] (by kernel_rfl) (fun _ _ => by kernel_rfl) ?_
        intro vs wv hB hA
        have h0 : vs 0 = _ := hA.1
        have h1 : vs 1 = _ := hA.2.1
        have h2 : vs 2 = _ := hA.2.2.1
        have h3 : vs 3 = _ := hA.2.2.2.1
        have h4 : vs 4 = _ := hA.2.2.2.2.1
        have h5 : vs 5 = _ := hA.2.2.2.2.2.1
        have h6 : vs 6 = _ := hA.2.2.2.2.2.2.1
        have h7 : vs 7 = _ := hA.2.2.2.2.2.2.2.1
        have h8 : vs 8 = _ := hA.2.2.2.2.2.2.2.2.1
        have h9 : vs 9 = _ := hA.2.2.2.2.2.2.2.2.2.1
        have h10 : vs 10 = _ := hA.2.2.2.2.2.2.2.2.2.2.1
        have h11 : vs 11 = _ := hA.2.2.2.2.2.2.2.2.2.2.2.1
        have h12 : vs 12 = _ := hA.2.2.2.2.2.2.2.2.2.2.2.2.1
        have h13 : vs 13 = _ := hA.2.2.2.2.2.2.2.2.2.2.2.2.2.1
        clear hA
        simp only [fillP, List.setIfInBounds_toArray, List.set_cons_zero, List.set_cons_succ, h0, h1, h2, h3, h4, h5, h6, h7, h8, h9, h10, h11, h12, h13]
        have B7 := Lib.hid (HS.out wv hB)
        by_cases h0 : 0 < k
        · have d0 : decide ((0 : Int) < k) = true := decide_eq_true (by omega)
          have d0' : (0 : Int) < k := by omega
          have e := HT.out
          rw [if_pos h0] at e
          go_wp2_with fail
          go_roundg (n - (k + 1))
          case measure => omega
          case rel => exact ⟨k + 1, by go_num, by rw [E.out, ← e], by omega, Nat.le_refl _, B7⟩
        · have d0 : decide ((0 : Int) < k) = false := decide_eq_false (by omega)
          have e := HT.out
          rw [if_neg h0] at e
          go_wp2_with fail
          go_roundg (n - (k + 1))
          case measure => omega
          case rel => exact ⟨k + 1, by go_num, by rw [E.out, ← e], by omega, Nat.le_refl _, B7⟩
    · obtain rfl : k = n := by omega
      have hz : ¬ (k : Int) < k := by omega
      go_wp2_with fail
      go_ret2
      exact ⟨rfl, HB.out⟩
theorem first16 (hFi : FirstOK 13) (A : Option Addr) (n c : Nat) (l : List It16) (gap room : Int) (w : World) (hv : TmIn w (.slice A n c) l) (hl : l.length = n) (hN : NearR l gap 0) :
    Calls Try.prog 17 #[.slice A n c, .int .i64 gap, .int .i64 room] w fun e w' => e = .returned (.tuple #[.int .i64 (firstS l gap n), .bool (decide (firstS l gap n < room))]) ∧ Below w.heap.size w w' :=
  first16I hFi A n c l gap room w hv hl (by have := hN.hn; omega) hN.hgap (fun i hi => (hN.hI i (by omega)).1)
end Go.Proofs.Ytjlnaadpiohbnaa
