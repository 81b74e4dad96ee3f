/-
  What Take and Whole answer, by the program and by the document, told at once for all ways; bytes of the caller's own that are written over.
-/
import Derived.Test.YtkjndgnjilfobaaRefTakes
namespace Go.Proofs.Ytkjndgnjilfobaa
open Go.RowKit

def TFacts (s bl : List Nat) (w' : World) (code : Int) (u m : Nat) (B : Option Addr) (d : Nat) (V : Nat → RV) : Prop :=
  (ValsIn w' B m d V ∧ m ≤ 64) ∧ ((code = 2 ∧ ¬ Schema s ∧ u = 0 ∧ m = 0) ∨ (code = 40 ∧ Schema s ∧ (∀ l r, Valid s l → forms s l ++ r ≠ bl) ∧ u = 0 ∧ m = 0) ∨ (code = 0 ∧ ∃ r, Valid s (means V m) ∧ forms s (means V m) ++ r = bl ∧ u = (forms s (means V m)).length))
def VFacts (base : Nat) (w' : World) (m : Nat) (B : Option Addr) (d : Nat) (V : Nat → RV) : Prop := RowOK w' (.slice B m d) V m ∧ RowNew base w' V m ∧ ownsV w' base (.slice B m d) V m
theorem valsIn_nil (w : World) : ValsIn w none 0 0 (fun _ => default) := ⟨Vals.zero _ _ _, fun _ => ⟨rfl, rfl⟩, ⟨Nat.le_refl _, Nat.zero_le _⟩, Nat.zero_le _⟩
theorem valid_len {s : List Nat} {V : Nat → RV} {m : Nat} (h : Valid s (means V m)) : m ≤ 64 := by
  have h1 := h.1.2.len
  rw [means_len] at h1
  have := h.1.1.2
  omega
theorem take2_facts {s bl : List Nat} {W w' : World} {e : Ending} (h : TakeAns2 s bl W e w') : ∃ code u m B d V, e = .returned (.tuple #[.slice B m d, .int .i64 (u : Nat), .int .i64 code]) ∧ Below W.heap.size W w' ∧ TFacts s bl w' code u m B d V ∧ VFacts W.heap.size w' m B d V := by
  have z : VFacts W.heap.size w' 0 none 0 (fun _ => default) := ⟨fun j hj => by omega, fun j hj => by omega, World.ownsRow_nil _ _ _ _⟩
  obtain ⟨hb, ⟨h1, rfl⟩ | ⟨h1, h2, rfl⟩ | ⟨A, m, c, V, r, h1, h2, rfl, h4, h5, h6, h7⟩⟩ := h
  · exact ⟨2, 0, 0, none, 0, fun _ => default, rfl, hb, ⟨⟨valsIn_nil _, by omega⟩, .inl ⟨rfl, h1, rfl, rfl⟩⟩, z⟩
  · exact ⟨40, 0, 0, none, 0, fun _ => default, rfl, hb, ⟨⟨valsIn_nil _, by omega⟩, .inr (.inl ⟨rfl, h1, h2, rfl, rfl⟩)⟩, z⟩
  · exact ⟨0, _, m, A, c, V, rfl, hb, ⟨⟨h4, valid_len h1⟩, .inr (.inr ⟨rfl, r, h1, h2, rfl⟩)⟩, h5, h6, h7⟩
theorem take_facts {s bl : List Nat} {W w' : World} {e : Ending} (h : TakeAns s bl W e w') : ∃ code u m B d V, e = .returned (.tuple #[.slice B m d, .int .i64 (u : Nat), .int .i64 code]) ∧ Below W.heap.size W w' ∧ TFacts s bl w' code u m B d V := by
  obtain ⟨hb, ⟨h1, rfl⟩ | ⟨h1, h2, rfl⟩ | ⟨A, m, c, V, r, h1, h2, rfl, h4⟩⟩ := h
  · exact ⟨2, 0, 0, none, 0, fun _ => default, rfl, hb, ⟨⟨valsIn_nil _, by omega⟩, .inl ⟨rfl, h1, rfl, rfl⟩⟩⟩
  · exact ⟨40, 0, 0, none, 0, fun _ => default, rfl, hb, ⟨⟨valsIn_nil _, by omega⟩, .inr (.inl ⟨rfl, h1, h2, rfl, rfl⟩)⟩⟩
  · exact ⟨0, _, m, A, c, V, rfl, hb, ⟨⟨h4, valid_len h1⟩, .inr (.inr ⟨rfl, r, h1, h2, rfl⟩)⟩⟩
theorem facts_uniq {s bl : List Nat} {w w' : World} {code code' : Int} {u u' m m' d d' : Nat} {B B' : Option Addr} {V V' : Nat → RV} (h : TFacts s bl w code u m B d V) (h' : TFacts s bl w' code' u' m' B' d' V') : code = code' ∧ u = u' ∧ means V m = means V' m' := by
  have z : ∀ V V' : Nat → RV, means V 0 = means V' 0 := fun _ _ => rfl
  rcases h.2 with ⟨a1, a2, a3, a4⟩ | ⟨a1, a2, a3, a4, a5⟩ | ⟨a1, r, a2, a3, a4⟩ <;> rcases h'.2 with ⟨b1, b2, b3, b4⟩ | ⟨b1, b2, b3, b4, b5⟩ | ⟨b1, t, b2, b3, b4⟩
  · subst a4 b4; exact ⟨by omega, by omega, z _ _⟩
  · exact absurd b2 a2
  · exact absurd b2.1.1 a2
  · exact absurd a2 b2
  · subst a5 b5; exact ⟨by omega, by omega, z _ _⟩
  · exact absurd b3 (a3 _ _ b2)
  · exact absurd a2.1.1 b2
  · exact absurd a3 (b3 _ _ a2)
  · obtain ⟨e1, e2⟩ := valid_uniq a2.1 b2.1 (a3.trans b3.symm)
    exact ⟨by omega, by rw [a4, b4, e1], e1⟩
def WFacts (s bl : List Nat) (w' : World) (code : Int) (m : Nat) (B : Option Addr) (d : Nat) (V : Nat → RV) : Prop :=
  ValsIn w' B m d V ∧ ((code = 2 ∧ ¬ Schema s ∧ m = 0) ∨ (code = 40 ∧ Schema s ∧ (∀ l, Valid s l → forms s l ≠ bl) ∧ m = 0) ∨ (code = 0 ∧ Valid s (means V m) ∧ forms s (means V m) = bl))
theorem whole_facts {s bl : List Nat} {W w' : World} {e : Ending} (h : WholeAns s bl W e w') : ∃ code m B d V, e = .returned (.tuple #[.slice B m d, .int .i64 code]) ∧ Below W.heap.size W w' ∧ WFacts s bl w' code m B d V := by
  obtain ⟨hb, ⟨h1, rfl⟩ | ⟨h1, h2, rfl⟩ | ⟨A, m, c, V, h1, h2, rfl, h4⟩⟩ := h
  · exact ⟨2, 0, none, 0, fun _ => default, rfl, hb, valsIn_nil _, .inl ⟨rfl, h1, rfl⟩⟩
  · exact ⟨40, 0, none, 0, fun _ => default, rfl, hb, valsIn_nil _, .inr (.inl ⟨rfl, h1, h2, rfl⟩)⟩
  · exact ⟨0, m, A, c, V, rfl, hb, h4, .inr (.inr ⟨rfl, h1, h2⟩)⟩
theorem wfacts_uniq {s bl : List Nat} {w w' : World} {code code' : Int} {m m' d d' : Nat} {B B' : Option Addr} {V V' : Nat → RV} (h : WFacts s bl w code m B d V) (h' : WFacts s bl w' code' m' B' d' V') : code = code' ∧ means V m = means V' m' := by
  have z : ∀ V V' : Nat → RV, means V 0 = means V' 0 := fun _ _ => rfl
  rcases h.2 with ⟨a1, a2, a4⟩ | ⟨a1, a2, a3, a4⟩ | ⟨a1, a2, a3⟩ <;> rcases h'.2 with ⟨b1, b2, b4⟩ | ⟨b1, b2, b3, b4⟩ | ⟨b1, b2, b3⟩
  · subst a4 b4; exact ⟨by omega, z _ _⟩
  · exact absurd b2 a2
  · exact absurd b2.1.1 a2
  · exact absurd a2 b2
  · subst a4 b4; exact ⟨by omega, z _ _⟩
  · exact absurd b3 (a3 _ b2)
  · exact absurd a2.1.1 b2
  · exact absurd a3 (b3 _ a2)
  · obtain ⟨e1, -⟩ := valid_uniq (r := []) (t := []) a2.1 b2.1 (by rw [a3, b3])
    exact ⟨by omega, e1⟩

/-- a row of values in block g, whose bytes lie in other blocks from base on, and may be written -/
def Writes (base g : Nat) (w : World) (m : Nat) (V : Nat → RV) : Prop :=
  (∀ j, j < m → w.cell? ⟨g, 0 + j * 5 + 3, none⟩ = some (.slice (V j).bA (V j).bn (V j).bc)) ∧
  ∀ j, j < m → ∀ k, k < (V j).bn → ∃ b off x, (V j).bA = some ⟨b, off, none⟩ ∧ base ≤ b ∧ b ≠ g ∧ x < 256 ∧ w.cell? ⟨b, off + k, none⟩ = some (.int .u8 (x : Nat)) ∧ w.frozen? ⟨b, off + k, none⟩ = false
theorem Writes.set {base g m b o y : Nat} {w : World} {V : Nat → RV} (h : Writes base g w m V) (hb : b ≠ g) (hy : y < 256) : Writes base g (w.setCell ⟨b, o, none⟩ (.int .u8 (y : Nat))) m V := by
  refine ⟨fun j hj => by rw [World.cell?_setCell_far _ _ _ _ hb]; exact h.1 j hj, fun j hj k hk => ?_⟩
  obtain ⟨b', off, x, h1, h2, h3, h4, h5, h6⟩ := h.2 j hj k hk
  by_cases e : (⟨b, o, none⟩ : Addr) = ⟨b', off + k, none⟩
  · exact ⟨b', off, y, h1, h2, h3, hy, by rw [e]; exact World.cell?_setCell_same _ _ _ h5, by rw [World.frozen?_setCell]; exact h6⟩
  · exact ⟨b', off, x, h1, h2, h3, h4, by rw [World.cell?_setCell_other _ _ _ _ e]; exact h5, by rw [World.frozen?_setCell]; exact h6⟩
theorem Writes.keep {base g m : Nat} {w w' : World} {V : Nat → RV} (h : Writes base g w m V) (hb : Below w.heap.size w w') : Writes base g w' m V := by
  refine ⟨fun j hj => (hb.cell (p := ⟨g, 0 + j * 5 + 3, none⟩) (lt_of_cell (h.1 j hj))).trans (h.1 j hj), fun j hj k hk => ?_⟩
  obtain ⟨b', off, x, h1, h2, h3, h4, h5, h6⟩ := h.2 j hj k hk
  exact ⟨b', off, x, h1, h2, h3, h4, (hb.cell (p := ⟨b', off + k, none⟩) (lt_of_cell h5)).trans h5, (hb.frozen (p := ⟨b', off + k, none⟩) (lt_of_cell h5)).trans h6⟩
theorem writes_of {base m d : Nat} {w : World} {B : Option Addr} {V : Nat → RV} (h : VFacts base w m B d V) (hV : ValsIn w B m d V) : (m = 0) ∨ ∃ g, B = some ⟨g, 0, none⟩ ∧ Writes base g w m V := by
  by_cases hm : m = 0
  · exact .inl hm
  · right
    obtain ⟨hr, hn, ho⟩ := h
    rcases ho.2 with ⟨_, h0⟩ | ⟨g, cap, cur, hv, -⟩
    · exact absurd h0 hm
    · injection hv with v1 v2 v3
      subst v1
      refine ⟨g, rfl, fun j hj => ?_, fun j hj k hk => ?_⟩
      · obtain ⟨b, off, e, _, hc⟩ := hV.1.2 (by omega)
        cases e
        exact (hc j hj).2.2.2.1
      · obtain ⟨b, off, e, hbl, hc⟩ := (hr j hj).1.2.2.1.1.2 (by omega)
        obtain ⟨q1, q2⟩ := (hr j hj).2.1 _ e
        obtain ⟨cs, T, hcs⟩ := (hn j hj).1 _ e
        refine ⟨b, off, (V j).bf k, e, (hn j hj).2 _ e, fun eg => q2 (by rw [eg]; rfl), (hr j hj).1.2.2.1.1.1 k hk, hc k hk, ?_⟩
        have hcs : w.heap[b]? = some (.cells cs T (0, 0)) := hcs
        simp [World.frozen?, hcs]
end Go.Proofs.Ytkjndgnjilfobaa
