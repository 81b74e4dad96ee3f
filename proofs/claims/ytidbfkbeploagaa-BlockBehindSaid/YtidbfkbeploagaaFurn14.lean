/-
  The laws' furniture: near, small, solid, kid, told; the document's Same.
-/
import Derived.Test.YtidbfkbeploagaaStackAt14
import Derived.Test.YtidbfkbeploagaaRef13
import Derived.Test.YtidbfkbeploagaaSame
import Derived.Deep.LoopGhost
namespace Go.Proofs.Ytidbfkbeploagaa
open Go.RowKit

def SmallM (m : Mg) : Prop := MayM m ∧ m.1 ≤ 268435456 ∧ -268435456 ≤ m.2
instance (m : Mg) : Decidable (SmallM m) := by unfold SmallM; infer_instance
def NearAt (k : Kd) : Prop := 0 ≤ k.h ∧ k.h ≤ 268435456 ∧ ¬ (k.thr = true ∧ k.h ≠ 0) ∧ SmallM k.t ∧ SmallM k.b
instance (k : Kd) : Decidable (NearAt k) := by unfold NearAt; infer_instance
def NearK (l : List Kd) : Prop := l.length ≤ 200 ∧ ∀ i, i < l.length → NearAt (kAt l i)
instance (l : List Kd) : Decidable (NearK l) := by unfold NearK; infer_instance
def SolidK (l : List Kd) : Prop := ∀ i, i < l.length → (kAt l i).thr = false
instance (l : List Kd) : Decidable (SolidK l) := by unfold SolidK; infer_instance
theorem near_good {k : Kd} (h : NearAt k) : GoodK k := by
  obtain ⟨h1, h2, h3, h4, h5⟩ := h
  refine ⟨by omega, h4.1, h5.1, fun ht => ?_⟩
  by_cases e : k.h = 0
  · exact e
  · exact absurd ⟨ht, e⟩ h3
theorem near_all {l : List Kd} (h : NearK l) : ∀ k ∈ l, NearAt k := fun k hk => by
  obtain ⟨i, hi, rfl⟩ := List.getElem_of_mem hk
  have := h.2 i hi
  rwa [kAt_get hi] at this
theorem near_big {l : List Kd} (h : NearK l) : BigK l := fun i hi y hy => by
  have g := near_good (h.2 i hi)
  have g1 := g.h
  have g2 := g.t
  have g3 := g.b
  unfold MayM at g2 g3
  simp only [List.mem_cons, List.not_mem_nil, or_false] at hy
  rcases hy with rfl | rfl | rfl | rfl | rfl <;> omega
set_option maxRecDepth 100000 in
set_option maxHeartbeats 4000000 in
theorem small_any (hM : MayOK13 38) (m : Mg) (w : World) : Calls Try.prog 30 #[mgV m] w fun e w' => e = .returned (.bool (decide (SmallM m))) ∧ Below w.heap.size w w' := by
  have KM := Lib.hid (fun W => hM m W)
  have G1 := Lib.hid (MgAt.new w m)
  have B1 : Hid (Below w.heap.size w (w.alloc (.cells (mgCells m).toArray 25))) := Lib.hid ((Below.refl _ w).alloc (Nat.le_refl _) _)
  clear hM
  obtain ⟨r, hr⟩ : ∃ r, decide (SmallM m) = r := ⟨_, rfl⟩
  rw [hr]
  have HR := Lib.hid hr
  clear hr
  by_cases hm : MayM m
  · rw [decide_eq_true hm] at KM
    obtain ⟨a, b⟩ := m
    unfold SmallM at HR
    unfold mgV at KM ⊢
    unfold mgCells at G1 B1
    dsimp only at KM G1 B1 HR ⊢
    by_cases h1 : a ≤ 268435456
    · have E : Hid (r = decide (-268435456 ≤ b)) := Lib.hid (by rw [← HR.out]; exact decide_eq_decide.2 ⟨fun h => h.2.2, fun h => ⟨hm, h1, h⟩⟩)
      have d1 : decide (a ≤ 268435456) = true := decide_eq_true h1
      clear hm h1 HR
      go_enter Try.func30, Try.ntmps30
      go_upto_region 1 with fail
      generalize w.alloc (.cells #[.int .i64 a, .int .i64 b] 25) = w1 at G1 B1 ⊢
      obtain ⟨c0, c1⟩ := MgAt.cells (a := (a, b)) G1.out
      dsimp only at c0 c1
      go_wp2_with (go_at_call 38; (with_reducible refine (KM.out _).mono ?_); rintro e w2 ⟨rfl, hb⟩; have B2 := Lib.hid (b_next B1.out hb); obtain ⟨c0, c1⟩ := MgAt.cells (a := (a, b)) (MgAt.keep G1.out hb); dsimp only at c0 c1; clear hb)
      go_ret
      exact ⟨by rw [E.out]; rfl, B2.out⟩
    · have E : Hid (r = false) := Lib.hid (by rw [← HR.out]; exact decide_eq_false (fun h => h1 h.2.1))
      have d1 : decide (a ≤ 268435456) = false := decide_eq_false h1
      clear hm h1 HR
      go_enter Try.func30, Try.ntmps30
      go_upto_region 1 with fail
      generalize w.alloc (.cells #[.int .i64 a, .int .i64 b] 25) = w1 at G1 B1 ⊢
      obtain ⟨c0, c1⟩ := MgAt.cells (a := (a, b)) G1.out
      dsimp only at c0 c1
      go_wp2_with (go_at_call 38; (with_reducible refine (KM.out _).mono ?_); rintro e w2 ⟨rfl, hb⟩; have B2 := Lib.hid (b_next B1.out hb); obtain ⟨c0, c1⟩ := MgAt.cells (a := (a, b)) (MgAt.keep G1.out hb); dsimp only at c0 c1; clear hb)
      go_ret
      exact ⟨by rw [E.out]; rfl, B2.out⟩
  · rw [decide_eq_false hm] at KM
    have E : Hid (r = false) := Lib.hid (by rw [← HR.out]; exact decide_eq_false (fun h => hm h.1))
    obtain ⟨a, b⟩ := m
    unfold mgV at KM ⊢
    unfold mgCells at G1 B1
    dsimp only at KM G1 B1 ⊢
    clear hm HR
    go_enter Try.func30, Try.ntmps30
    go_upto_region 1 with fail
    generalize w.alloc (.cells #[.int .i64 a, .int .i64 b] 25) = w1 at G1 B1 ⊢
    obtain ⟨c0, c1⟩ := MgAt.cells (a := (a, b)) G1.out
    dsimp only at c0 c1
    go_wp2_with (go_at_call 38; (with_reducible refine (KM.out _).mono ?_); rintro e w2 ⟨rfl, hb⟩; have B2 := Lib.hid (b_next B1.out hb); clear hb)
    go_ret
    exact ⟨by rw [E.out]; rfl, B2.out⟩
set_option maxRecDepth 100000 in
set_option maxHeartbeats 4000000 in
theorem kid_any (hO : OneOK 37) (t h b : Int) (w : World) : Calls Try.prog 28 #[.int .i64 t, .int .i64 h, .int .i64 b] w fun e w' => e = .returned (kdV ⟨oneM t, oneM b, if 0 < h then h else 0, decide (h < 0)⟩) ∧ Below w.heap.size w w' := by
  have K1 := Lib.hid (fun W => hO t W)
  have K2 := Lib.hid (fun W => hO b W)
  clear hO
  obtain ⟨⟨p1, q1⟩, h1⟩ : ∃ m, oneM t = m := ⟨_, rfl⟩
  obtain ⟨⟨p2, q2⟩, h2⟩ : ∃ m, oneM b = m := ⟨_, rfl⟩
  rw [h1] at K1 ⊢
  rw [h2] at K2 ⊢
  clear h1 h2
  unfold mgV at K1 K2
  unfold kdV
  dsimp only at K1 K2 ⊢
  obtain ⟨y, hy⟩ : ∃ y, (if 0 < h then h else 0) = y := ⟨_, rfl⟩
  obtain ⟨f, hf⟩ : ∃ f, decide (h < 0) = f := ⟨_, rfl⟩
  rw [hy, hf]
  have B0 : Hid (Below w.heap.size w (w.alloc (.cells #[.int .i64 0, .int .i64 0, .int .i64 0, .int .i64 0, .int .i64 0, .bool false] 35))) := Lib.hid ((Below.refl _ w).alloc (Nat.le_refl _) _)
  have H0 : Hid ((w.alloc (.cells #[.int .i64 0, .int .i64 0, .int .i64 0, .int .i64 0, .int .i64 0, .bool false] 35)).heap[w.heap.size]? = some (.cells #[.int .i64 0, .int .i64 0, .int .i64 0, .int .i64 0, .int .i64 0, .bool false] 35)) := Lib.hid (heap_alloc_new w _)
  have EY := Lib.hid hy
  clear hy
  go_enter Try.func28, Try.ntmps28
  go_upto_region 1 with fail
  generalize w.alloc (.cells #[.int .i64 0, .int .i64 0, .int .i64 0, .int .i64 0, .int .i64 0, .bool false] 35) = w0 at B0 H0 ⊢
  have FIN : Hid (∀ W, Below w0.heap.size w0 W → ((W.cell? ⟨w.heap.size, 0, none⟩ = some (.int .i64 0) ∧ W.cell? ⟨w.heap.size, 1, none⟩ = some (.int .i64 0) ∧ W.cell? ⟨w.heap.size, 2, none⟩ = some (.int .i64 0) ∧ W.cell? ⟨w.heap.size, 3, none⟩ = some (.int .i64 0) ∧ W.cell? ⟨w.heap.size, 4, none⟩ = some (.int .i64 0) ∧ W.cell? ⟨w.heap.size, 5, none⟩ = some (.bool false)) ∧ (∀ j, W.frozen? ⟨w.heap.size, j, none⟩ = false)) ∧
      ((((((W.setCell ⟨w.heap.size, 0, none⟩ (.int .i64 p1)).setCell ⟨w.heap.size, 1, none⟩ (.int .i64 q1)).setCell ⟨w.heap.size, 2, none⟩ (.int .i64 p2)).setCell ⟨w.heap.size, 3, none⟩ (.int .i64 q2)).setCell ⟨w.heap.size, 4, none⟩ (.int .i64 y)).setCell ⟨w.heap.size, 5, none⟩ (.bool f)).heap[w.heap.size]? = some (.cells #[.int .i64 p1, .int .i64 q1, .int .i64 p2, .int .i64 q2, .int .i64 y, .bool f] 35)) := Lib.hid (fun W hW => by
    have hl : w.heap.size < w0.heap.size := (Array.getElem?_eq_some_iff.1 H0.out).1
    have h' : W.heap[w.heap.size]? = some (.cells #[.int .i64 0, .int .i64 0, .int .i64 0, .int .i64 0, .int .i64 0, .bool false] 35) := (hW.block _ hl).trans H0.out
    refine ⟨⟨by simp [World.cell?, h'], fun j => by simp [World.frozen?, h']⟩, ?_⟩
    simp [World.setCell, Array.getElem?_modify, h'])
  clear H0
  by_cases hh : 0 < h
  · obtain rfl : h = y := by rw [← EY.out, if_pos hh]
    clear EY
    go_wp2_with (first
      | (go_at_call 37; (with_reducible refine (K1.out _).mono ?_); rintro e w1 ⟨rfl, hb⟩; have B1 := Lib.hid hb; clear hb)
      | (go_at_call 37; (with_reducible refine (K2.out _).mono ?_); rintro e w2 ⟨rfl, hb⟩; have B2 := Lib.hid (b_next B1.out hb); obtain ⟨⟨⟨y0, y1, y2, y3, y4, y5⟩, zz⟩, HE⟩ := FIN.out _ B2.out; have HE := Lib.hid HE; have z0 := zz 0; have z1 := zz 1; have z2 := zz 2; have z3 := zz 3; have z4 := zz 4; have z5 := zz 5; clear zz hb))
    refine bodyPost_ret (results_cell_row rfl _ _ w.heap.size _ _ _ _ rfl HE.out Try.underlying35 rfl (by kernel_rfl)) rfl ?_
    exact ⟨rfl, ((((((b_next B0.out B2.out).setCell (Nat.le_refl _) _).setCell (Nat.le_refl _) _).setCell (Nat.le_refl _) _).setCell (Nat.le_refl _) _).setCell (Nat.le_refl _) _).setCell (Nat.le_refl _) _⟩
  · obtain rfl : 0 = y := by rw [← EY.out, if_neg hh]
    clear EY
    go_wp2_with (first
      | (go_at_call 37; (with_reducible refine (K1.out _).mono ?_); rintro e w1 ⟨rfl, hb⟩; have B1 := Lib.hid hb; clear hb)
      | (go_at_call 37; (with_reducible refine (K2.out _).mono ?_); rintro e w2 ⟨rfl, hb⟩; have B2 := Lib.hid (b_next B1.out hb); obtain ⟨⟨⟨y0, y1, y2, y3, y4, y5⟩, zz⟩, HE⟩ := FIN.out _ B2.out; have HE := Lib.hid HE; have z0 := zz 0; have z1 := zz 1; have z2 := zz 2; have z3 := zz 3; have z4 := zz 4; have z5 := zz 5; clear zz hb))
    refine bodyPost_ret (results_cell_row rfl _ _ w.heap.size _ _ _ _ rfl HE.out Try.underlying35 rfl (by kernel_rfl)) rfl ?_
    exact ⟨rfl, ((((((b_next B0.out B2.out).setCell (Nat.le_refl _) _).setCell (Nat.le_refl _) _).setCell (Nat.le_refl _) _).setCell (Nat.le_refl _) _).setCell (Nat.le_refl _) _).setCell (Nat.le_refl _) _⟩
set_option maxRecDepth 100000 in
set_option maxHeartbeats 4000000 in
theorem solid_any (l : List Kd) (v : Value) (w : World) (hv : KdIn w v l) (hn : l.length ≤ 140737488351232) : Calls Try.prog 14 #[v] w fun e w' => e = .returned (.bool (decide (SolidK l))) ∧ w = w' := by
  have HV := Lib.hid hv
  obtain ⟨A, c, rfl, -, -, -⟩ := hv
  obtain ⟨n, en⟩ : ∃ n, l.length = n := ⟨_, rfl⟩
  have HL := Lib.hid en
  rw [en] at HV hn ⊢
  clear en
  obtain ⟨r, hr⟩ : ∃ r, decide (SolidK l) = r := ⟨_, rfl⟩
  rw [hr]
  have HR := Lib.hid hr
  clear hr
  go_enter Try.func14, Try.ntmps14
  go_wp2_with fail
  go_loop [3] (fun i => ∃ k : Nat, k ≤ n ∧ i = .int .i64 k ∧ Hid (∀ j, j < k → (kAt l j).thr = false)) (fun i => n - (intOf i).toNat)
  case atStart => exact ⟨0, Nat.zero_le _, rfl, Lib.hid (fun j hj => absurd hj (by omega))⟩
  case round =>
    obtain ⟨k, hk, rfl, HK⟩ := hrel
    by_cases hlt : k < n
    · have hz1 : (k : Int) < n := by omega
      have hz0 : (0 : Int) ≤ k := by omega
      have wi : IntKind.i64.wrap ((k : Int) + 1) = (k : Int) + 1 := IntWalk.i64_in _ (by omega)
      obtain ⟨b, off, c1, e, -, -, hk6⟩ := HV.out.get (i := k) (by have := HL.out; omega)
      injection e with e1 e2 e3
      subst e1 e3
      clear e2
      obtain ⟨-, -, -, -, -, a5⟩ := hk6 k (by have := HL.out; omega)
      have NX : Hid ((kAt l k).thr = false → ∀ j, j < k + 1 → (kAt l j).thr = false) := Lib.hid (fun hb j hj => by
        rcases Nat.lt_or_ge j k with h | h
        · exact HK.out j h
        · obtain rfl : j = k := by omega
          exact hb)
      have NR : Hid ((kAt l k).thr = true → r = false) := Lib.hid (fun hb => by
        rw [← HR.out]
        exact decide_eq_false (fun h => by have := h k (by have := HL.out; omega); rw [hb] at this; cases this))
      clear hk6 HK
      generalize (kAt l k).thr = t at a5 NX NR
      cases t with
      | true =>
        have R := Lib.hid (NR.out rfl)
        clear NX NR
        go_wp2_with fail
        go_ret
        exact ⟨by rw [R.out]; rfl, rfl⟩
      | false =>
        have NX := Lib.hid (NX.out rfl)
        clear NR
        go_wp2_with fail
        go_round
        case rel => exact ⟨k + 1, by omega, by go_num, NX⟩
        case measure => simp [intOf]; omega
    · have hz1 : ¬ (k : Int) < n := by omega
      have R : Hid (r = true) := Lib.hid (by
        rw [← HR.out]
        exact decide_eq_true (fun i hi => HK.out i (by have := HL.out; omega)))
      clear HK
      go_wp2_with fail
      go_ret
      exact ⟨by rw [R.out]; rfl, rfl⟩
set_option maxRecDepth 100000 in
set_option maxHeartbeats 4000000 in
theorem told_any14 (A B : Option Addr) (n c d : Nat) (f : Nat → Int) (w : World) (h : Ints w A n f) (g : Ints w B n f) (hn : n ≤ 4611686018427387904) :
    Calls Try.prog 29 #[.slice A n c, .slice B n d] w fun e w' => e = .returned (.bool true) ∧ Below w.heap.size w w' := by
  have H := Lib.hid h
  have G := Lib.hid g
  clear h g
  go_enter Try.func29, Try.ntmps29
  go_wp2_with fail
  go_loopg [5] n (fun g1 vi wr => ∃ k : Nat, vi = .int .i64 k ∧ k ≤ n ∧ n - k ≤ g1 ∧ Hid (Below w.heap.size w wr))
  case atStart => exact ⟨0, rfl, by omega, by omega, Lib.hid (Below.refl _ _)⟩
  case round =>
    obtain ⟨k, rfl, hk, hg1, HB⟩ := hrel
    obtain ⟨wo, hwo⟩ : ∃ wo, wo = wr := ⟨_, rfl⟩
    subst hwo
    by_cases hlt : k < n
    · have hz1 : (k : Int) < n := by omega
      have hz0 : (0 : Int) ≤ k := by omega
      have wi : IntKind.i64.wrap ((k : Int) + 1) = (k : Int) + 1 := IntWalk.i64_in _ (by omega)
      obtain ⟨b1, off1, rfl, -, c1⟩ := (H.out.below HB.out).at_ hlt
      obtain ⟨b2, off2, rfl, -, c2⟩ := (G.out.below HB.out).at_ hlt
      generalize f k = x at c1 c2
      have e1 : ((x : Int) != x) = (!true) := by simp
      go_wp2_with fail
      go_quiet (fail)
      have B2 : Hid (Below w.heap.size w (wo.drewN nq)) := Lib.hid (b_next HB.out (drewN_below wo nq wo.heap.size))
      go_wp2_with fail
      go_roundg (n - (k + 1))
      case measure => omega
      case rel => exact ⟨k + 1, by go_num, by omega, Nat.le_refl _, B2⟩
    · have hz1 : ¬ (k : Int) < n := by omega
      go_wp2_with fail
      go_ret
      exact ⟨rfl, HB.out⟩
end Go.Proofs.Ytidbfkbeploagaa
