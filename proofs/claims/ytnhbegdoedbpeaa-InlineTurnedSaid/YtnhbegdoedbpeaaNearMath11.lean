/-
  Spots that are near: they are told, and where they stand.
-/
import Derived.Test.YtnhbegdoedbpeaaNear11
import Derived.Test.YtnhbegdoedbpeaaAwake11
import Derived.Test.YtnhbegdoedbpeaaPlaceNo11
namespace Go.Proofs.Ytnhbegdoedbpeaa
open Go.RowKit

theorem sumS_low {l : List Sp} {lo hi : Int} (h : ∀ i, i < l.length → lo ≤ sw l i ∧ sw l i ≤ hi) (k : Nat) (hk : k ≤ l.length) : k * lo ≤ sumS l k ∧ sumS l k ≤ k * hi := by
  induction k with
  | zero => simp [sumS_zero]
  | succ k ih =>
    have h1 := ih (by omega)
    have h2 := h k (by omega)
    rw [sumS_succ (by omega)]
    have e1 : ((k + 1 : Nat) : Int) * lo = k * lo + lo := by rw [Int.natCast_add, Int.add_mul]; simp
    have e2 : ((k + 1 : Nat) : Int) * hi = k * hi + hi := by rw [Int.natCast_add, Int.add_mul]; simp
    omega
/-- spots and a line's numbers that are near -/
structure NearL (l : List Sp) (u d x : Int) (g : Nat) : Prop where
  len : l.length ≤ 201
  lines : g ≤ 2
  u : 0 ≤ u ∧ u ≤ 268435456
  d : 0 ≤ d ∧ d ≤ 268435456
  width : 0 ≤ x ∧ x ≤ 274877906944
  al : ∀ i, i < l.length → sa l i ≤ 2
  w : ∀ i, i < l.length → 0 ≤ sw l i ∧ sw l i ≤ 268435456
  up : ∀ i, i < l.length → 0 ≤ su l i ∧ su l i ≤ 268435456
  dn : ∀ i, i < l.length → 0 ≤ sd l i ∧ sd l i ≤ 268435456
theorem Near.l {l : List Sp} {x : RO} (h : Near l x) : NearL l x.up x.down x.width x.lines :=
  ⟨by have := h.1; omega, h.2.1.2.2.2, h.2.1.1, h.2.1.2.1, h.2.1.2.2.1, fun i hi => (h.2.2 i hi).2.2.2, fun i hi => (h.2.2 i hi).1, fun i hi => (h.2.2 i hi).2.1, fun i hi => (h.2.2 i hi).2.2.1⟩
theorem NearL.start {l : List Sp} {u d x : Int} {g : Nat} (h : NearL l u d x g) : NearL l u d x 0 := ⟨h.len, by omega, h.u, h.d, h.width, h.al, h.w, h.up, h.dn⟩
theorem NearL.ok {l : List Sp} {u d x : Int} {g : Nat} (h : NearL l u d x g) : Ok11 l u d x g := by
  have h1 := h.u
  have h2 := h.d
  have h3 := h.width
  have h4 := h.len
  exact ⟨by omega, h.lines, by omega, by omega, by omega, h.al, fun i hi => by have := h.w i hi; omega, fun i hi => by have := h.up i hi; omega, fun i hi => by have := h.dn i hi; omega⟩
theorem NearL.base {l : List Sp} {u d x : Int} {g : Nat} (h : NearL l u d x g) : 0 ≤ baseT l u ∧ baseT l u ≤ 268435456 := upS_in h.u h.up _ (Nat.le_refl _)
theorem NearL.height {l : List Sp} {u d x : Int} {g : Nat} (h : NearL l u d x g) : 0 ≤ heightT l u d ∧ heightT l u d ≤ 536870912 := by
  have h1 := upS_in h.u h.up _ (Nat.le_refl _)
  have h2 := dnS_in h.d h.dn _ (Nat.le_refl _)
  exact hS_in (lo := 0) (hi := 268435456) (by omega) h.up h.dn _ (Nat.le_refl _)
theorem NearL.sum {l : List Sp} {u d x : Int} {g : Nat} (h : NearL l u d x g) (k : Nat) (hk : k ≤ l.length) : 0 ≤ sumS l k ∧ sumS l k ≤ 53955526656 := by
  have := sumS_low h.w k hk
  have := h.len
  omega
theorem NearL.lead {l : List Sp} {u d x : Int} {g : Nat} (h : NearL l u d x g) : 0 ≤ leadT l x g ∧ leadT l x g ≤ 274877906944 := by
  have h1 := h.sum l.length (Nat.le_refl _)
  have h2 := h.width
  have h4 : 0 ≤ restT l x ∧ restT l x ≤ 274877906944 := by
    unfold restT
    split <;> omega
  unfold leadT
  split
  · omega
  · split <;> omega
theorem yT_near {l : List Sp} {u d x : Int} {g : Nat} (h : NearL l u d x g) {i : Nat} (hi : i < l.length) : -268435456 ≤ yT (heightT l u d) (baseT l u) (sp l i) ∧ yT (heightT l u d) (baseT l u) (sp l i) ≤ 536870912 := by
  have h1 := h.base
  have h2 := h.height
  have h3 := h.up i hi
  have h4 := h.dn i hi
  unfold su at h3
  unfold sd at h4
  unfold yT
  split
  · next c =>
    have c' : ¬ sa l i = 0 := by unfold sa; omega
    have := (hS_ge l (upS l u l.length + dnS l d l.length) l.length).2 i hi c'
    unfold su sd at this
    unfold heightT at h2 ⊢
    omega
  · split <;> omega
theorem NearL.told {l : List Sp} {u d x : Int} {g : Nat} (h : NearL l u d x g) : placeA l u d x g = (placesT l u d x g l.length, heightT l u d, baseT l u, 0) := by
  refine (place_told h.ok).2 ⟨?_, fun y hy => ?_⟩
  · have := h.height
    unfold Fit
    omega
  · obtain ⟨i, hi⟩ := List.getElem?_of_mem hy
    have hl := (List.getElem?_eq_some_iff.1 hi).1
    rw [placesT_len] at hl
    rw [placesT_get l u d x g l.length hl] at hi
    cases hi
    have h1 := yT_near h hl
    have h2 := h.lead
    have h3 := h.sum i (by omega)
    unfold placeT xT Fit
    dsimp only
    omega
/-- what Place answers to such -/
theorem near_place {f : Nat} (hP : PlaceOK f) {l : List Sp} {u d x : Int} {g : Nat} (h : NearL l u d x g) (gz : Int) (hgz : ((g : Nat) : Int) = gz) (n : Nat) (hn : l.length = n) (v : Value) (w : World) (hv : SpIn w v l) :
    Calls Try.prog f #[v, .int .i64 u, .int .i64 d, .int .i64 x, .int .u8 gz] w fun e w' => ∃ A c, e = .returned (.tuple #[.slice A n c, .int .i64 (heightT l u d), .int .i64 (baseT l u), .int .i64 0]) ∧ PsIn w' (.slice A n c) (placesT l u d x g n) ∧ Below w.heap.size w w' := by
  subst hgz hn
  have hl := h.len
  have hg := h.lines
  refine (hP l v u d x g w hv (by omega) (by omega)).mono ?_
  rintro e w' ⟨u', h1, h2, h3⟩
  rw [h.told] at h1 h2
  obtain ⟨A, c, e, h4⟩ := h2.pss
  dsimp only at h1 e h4
  rw [placesT_len] at e h4
  subst e
  exact ⟨A, c, h1, ⟨A, c, by rw [placesT_len], by rw [placesT_len]; exact h4⟩, h3⟩
/-- the cells of such places -/
theorem PsIn.at_ {W : World} {A : Option Addr} {c n : Nat} {l : List Sp} {u d x : Int} {g : Nat} (h : PsIn W (.slice A n c) (placesT l u d x g n)) {k : Nat} (hk : k < n) : ∃ b, A = some ⟨b, 0, none⟩ ∧ b < W.heap.size ∧ W.cell? ⟨b, k * 2, none⟩ = some (.int .i64 (leadT l x g + sumS l k)) ∧ W.cell? ⟨b, k * 2 + 1, none⟩ = some (.int .i64 (yT (heightT l u d) (baseT l u) (sp l k))) := by
  obtain ⟨A', c', e, -, hq⟩ := h
  injection e with e1 e2 e3
  subst e1
  obtain ⟨b, rfl, hb, hc⟩ := hq (by intro e; have := placesT_len l u d x g n; rw [e] at this; simp at this; omega)
  obtain ⟨h1, h2⟩ := hc k _ (placesT_get l u d x g n hk)
  exact ⟨b, rfl, hb, h1, h2⟩
/-- a line's own numbers in a block of the call's own -/
theorem own_cells (w : World) (x : RO) : ∀ W', Below (w.alloc (.cells #[.int .i64 x.up, .int .i64 x.down, .int .i64 x.width, .int .u8 (x.lines : Nat)] 24)).heap.size (w.alloc (.cells #[.int .i64 x.up, .int .i64 x.down, .int .i64 x.width, .int .u8 (x.lines : Nat)] 24)) W' →
    W'.cell? ⟨w.heap.size, 0, none⟩ = some (.int .i64 x.up) ∧ W'.cell? ⟨w.heap.size, 1, none⟩ = some (.int .i64 x.down) ∧ W'.cell? ⟨w.heap.size, 2, none⟩ = some (.int .i64 x.width) ∧ W'.cell? ⟨w.heap.size, 3, none⟩ = some (.int .u8 (x.lines : Nat)) := fun W' hb => by
  have h0 := (hb.block w.heap.size (by rw [World.size_alloc]; omega)).trans (heap_alloc_new w _)
  simp [World.cell?, h0]
end Go.Proofs.Ytnhbegdoedbpeaa
