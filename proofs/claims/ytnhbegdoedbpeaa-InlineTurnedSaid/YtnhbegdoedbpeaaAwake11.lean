/-
  The law's awake, of any Place that answers as is asked: the chapter's examples.
-/
import Derived.Test.YtnhbegdoedbpeaaRefSame11
namespace Go.Proofs.Ytnhbegdoedbpeaa
open Go.RowKit

def AwakeOK11 (f : Nat) : Prop := ∀ w : World, Calls Try.prog f #[] w fun e w' => e = .returned (.bool true) ∧ Below w.heap.size w w'
theorem sps_new (W : World) (T : TypeId) (l : List Sp) (hl : l.length ≤ 1000) : SpIn (W.alloc (.cells (cellsS l).toArray T)) (.slice (some ⟨W.heap.size, 0, none⟩) l.length l.length) l := by
  refine ⟨_, _, rfl, ⟨Nat.le_refl _, by omega⟩, fun _ => ⟨_, 0, rfl, by rw [World.size_alloc]; omega, fun j hj => ?_⟩⟩
  have key : ∀ i, i < 4 → (W.alloc (.cells (cellsS l).toArray T)).cell? ⟨W.heap.size, 0 + j * 4 + i, none⟩ = (spCells (sp l j))[i]? := fun i hi => by
    rw [World.cell?_alloc_new, Nat.zero_add, sp_get hj]
    have := flat_get spCells 4 spCells_len hj hi
    unfold cellsS
    simpa using this
  exact ⟨key 0 (by omega), key 1 (by omega), key 2 (by omega), key 3 (by omega)⟩
theorem place_lit {f : Nat} (hP : PlaceOK f) (l : List Sp) (u d x : Int) (g : Nat) (gz : Int) (hgz : ((g : Nat) : Int) = gz) (R : List Ps) (h b : Int) (n : Nat) (nz : Int) (hnz : ((n : Nat) : Int) = nz) (hA : placeA l u d x g = (R, h, b, n)) (hl : l.length ≤ 1000) (hg : g < 256) (v : Value) (w : World) (hv : SpIn w v l) :
    Calls Try.prog f #[v, .int .i64 u, .int .i64 d, .int .i64 x, .int .u8 gz] w fun e w' => ∃ A c, e = .returned (.tuple #[.slice A R.length c, .int .i64 h, .int .i64 b, .int .i64 nz]) ∧ PsIn w' (.slice A R.length c) R ∧ Below w.heap.size w w' := by
  subst hgz hnz
  refine (hP l v u d x g w hv (by omega) hg).mono ?_
  rintro e w' ⟨u', h1, h2, h3⟩
  rw [hA] at h1 h2
  obtain ⟨A, c, rfl, h4⟩ := h2.pss
  exact ⟨A, c, h1, ⟨A, c, rfl, h4⟩, h3⟩
theorem ex11_0 : placeA [] 12 4 100 0 = ([], 16, 12, 0) := by kernel_rfl
theorem ex11_1 : placeA [(10, 20, 0, 0), (5, 3, 9, 0)] 12 4 100 0 = ([(0, 0), (10, 17)], 29, 20, 0) := by kernel_rfl
theorem ex11_2 : placeA [(10, 30, 0, 1), (10, 5, 5, 2)] 12 4 100 1 = ([(80, 0), (90, 20)], 30, 12, 0) := by kernel_rfl
theorem ex11_3 : placeA [(11, 1, 1, 0)] 12 4 100 2 = ([(44, 11)], 16, 12, 0) := by kernel_rfl
theorem ex11_4 : placeA [] 12 4 100 5 = ([], 0, 0, 2) := by kernel_rfl
set_option maxRecDepth 100000 in
set_option maxHeartbeats 8000000 in
theorem awake11_any (hP : PlaceOK 9) : AwakeOK11 11 := by
  intro w
  have I1 := Lib.hid (show ∀ W : World, SpIn (W.alloc (.cells #[.int .i64 10, .int .i64 20, .int .i64 0, .int .u8 0, .int .i64 5, .int .i64 3, .int .i64 9, .int .u8 0] 33)) (.slice (some ⟨W.heap.size, 0, none⟩) 2 2) [(10, 20, 0, 0), (5, 3, 9, 0)] from fun W => sps_new W _ [(10, 20, 0, 0), (5, 3, 9, 0)] (by decide))
  have I2 := Lib.hid (show ∀ W : World, SpIn (W.alloc (.cells #[.int .i64 10, .int .i64 30, .int .i64 0, .int .u8 1, .int .i64 10, .int .i64 5, .int .i64 5, .int .u8 2] 33)) (.slice (some ⟨W.heap.size, 0, none⟩) 2 2) [(10, 30, 0, 1), (10, 5, 5, 2)] from fun W => sps_new W _ [(10, 30, 0, 1), (10, 5, 5, 2)] (by decide))
  have I3 := Lib.hid (show ∀ W : World, SpIn (W.alloc (.cells #[.int .i64 11, .int .i64 1, .int .i64 1, .int .u8 0] 33)) (.slice (some ⟨W.heap.size, 0, none⟩) 1 1) [(11, 1, 1, 0)] from fun W => sps_new W _ [(11, 1, 1, 0)] (by decide))
  have F0 := Lib.hid (fun W => place_lit hP [] 12 4 100 0 0 rfl _ _ _ _ 0 rfl ex11_0 (by decide) (by decide) _ W (SpIn.nil W))
  have F1 := Lib.hid (fun W hv => place_lit hP _ 12 4 100 0 0 rfl _ _ _ _ 0 rfl ex11_1 (by decide) (by decide) (.slice (some ⟨W, 0, none⟩) 2 2) hv)
  have F2 := Lib.hid (fun W hv => place_lit hP _ 12 4 100 1 1 rfl _ _ _ _ 0 rfl ex11_2 (by decide) (by decide) (.slice (some ⟨W, 0, none⟩) 2 2) hv)
  have F3 := Lib.hid (fun W hv => place_lit hP _ 12 4 100 2 2 rfl _ _ _ _ 0 rfl ex11_3 (by decide) (by decide) (.slice (some ⟨W, 0, none⟩) 1 1) hv)
  have F4 := Lib.hid (fun W => place_lit hP [] 12 4 100 5 5 rfl _ _ _ _ 2 rfl ex11_4 (by decide) (by decide) _ W (SpIn.nil W))
  have TW : Hid (∀ W A c p q, PsIn W (.slice A 2 c) [p, q] → ∃ g, A = some ⟨g, 0, none⟩ ∧ W.cell? ⟨g, 0, none⟩ = some (.int .i64 p.1) ∧ W.cell? ⟨g, 1, none⟩ = some (.int .i64 p.2) ∧ W.cell? ⟨g, 2, none⟩ = some (.int .i64 q.1) ∧ W.cell? ⟨g, 3, none⟩ = some (.int .i64 q.2)) := Lib.hid (fun W A c p q h => by
    obtain ⟨A', c', e, -, hq⟩ := h
    injection e with e1 e2 e3
    subst e1
    obtain ⟨g, rfl, -, hc⟩ := hq (by simp)
    have h0 := hc 0 p rfl
    have h1 := hc 1 q rfl
    exact ⟨g, rfl, h0.1, h0.2, h1.1, h1.2⟩)
  have TX : Hid (∀ W A c p, PsIn W (.slice A 1 c) [p] → ∃ g, A = some ⟨g, 0, none⟩ ∧ W.cell? ⟨g, 0, none⟩ = some (.int .i64 p.1) ∧ W.cell? ⟨g, 1, none⟩ = some (.int .i64 p.2)) := Lib.hid (fun W A c p h => by
    obtain ⟨A', c', e, -, hq⟩ := h
    injection e with e1 e2 e3
    subst e1
    obtain ⟨g, rfl, -, hc⟩ := hq (by simp)
    have h0 := hc 0 p rfl
    exact ⟨g, rfl, h0.1, h0.2⟩)
  have B := Lib.hid (Below.refl w.heap.size w)
  clear hP
  go_enter Try.func11, Try.ntmps11
  go_wp2_with fail
  (with_reducible refine (F0.out _).mono ?_)
  rintro e w0 ⟨A0, c0, rfl, -, hb⟩
  replace B := Lib.hid (B.out.trans (hb.mono B.out.size))
  clear hb F0
  go_wp2_with fail
  (with_reducible refine (F1.out _ _ (I1.out _)).mono ?_)
  rintro e w1 ⟨A1, c1, rfl, hL, hb⟩
  replace B := Lib.hid ((B.out.alloc B.out.size _).trans (hb.mono (B.out.alloc B.out.size _).size))
  have L1 := Lib.hid hL
  clear hL hb F1 I1
  go_wp2_with fail
  (with_reducible refine (F2.out _ _ (I2.out _)).mono ?_)
  rintro e w2 ⟨A2, c2, rfl, hL, hb⟩
  replace B := Lib.hid ((B.out.alloc B.out.size _).trans (hb.mono (B.out.alloc B.out.size _).size))
  replace L1 := Lib.hid ((L1.out.keep ((Below.refl _ _).alloc (Nat.le_refl _) _)).keep hb)
  have L2 := Lib.hid hL
  clear hL hb F2 I2
  go_wp2_with fail
  (with_reducible refine (F3.out _ _ (I3.out _)).mono ?_)
  rintro e w3 ⟨A3, c3, rfl, hL, hb⟩
  replace B := Lib.hid ((B.out.alloc B.out.size _).trans (hb.mono (B.out.alloc B.out.size _).size))
  replace L1 := Lib.hid ((L1.out.keep ((Below.refl _ _).alloc (Nat.le_refl _) _)).keep hb)
  replace L2 := Lib.hid ((L2.out.keep ((Below.refl _ _).alloc (Nat.le_refl _) _)).keep hb)
  have L3 := Lib.hid hL
  clear hL hb F3 I3
  go_wp2_with fail
  (with_reducible refine (F4.out _).mono ?_)
  rintro e w4 ⟨A4, c4, rfl, -, hb⟩
  replace B := Lib.hid (B.out.trans (hb.mono B.out.size))
  replace L1 := Lib.hid (L1.out.keep hb)
  replace L2 := Lib.hid (L2.out.keep hb)
  replace L3 := Lib.hid (L3.out.keep hb)
  clear hb F4
  obtain ⟨g1, rfl, a0, a1, a2, a3⟩ := TW.out _ _ _ _ _ L1.out
  obtain ⟨g2, rfl, b0, b1, b2, b3⟩ := TW.out _ _ _ _ _ L2.out
  obtain ⟨g3, rfl, d0, d1⟩ := TX.out _ _ _ _ L3.out
  clear TW TX L1 L2 L3
  dsimp only [List.length_cons, List.length_nil] at a0 a1 a2 a3 b0 b1 b2 b3 d0 d1 ⊢
  go_wp2_with fail
  go_ret
  exact ⟨rfl, B.out⟩
end Go.Proofs.Ytnhbegdoedbpeaa
