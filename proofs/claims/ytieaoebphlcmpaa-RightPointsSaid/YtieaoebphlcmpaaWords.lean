/-
  Words for slices of int that are read: 'Ints w A n f': the slice at A of n elements reads as f 0, .., f (n - 1). Plain lemmas; nothing of the program.
-/
import Derived.WalkKit
import Derived.Lib.Hide
import Derived.Laws.OwnMore
import Derived.Deep.AppendLies
import Derived.Deep.Draws
namespace Go.Proofs.Ytieaoebphlcmpaa
open Go.RowKit

theorem block_of_add (a : Addr) (n : Nat) : (a.add n).block = a.block := by unfold Addr.add; split <;> rfl

def Ints (w : World) (A : Option Addr) (n : Nat) (f : Nat → Int) : Prop :=
  (∀ i, i < n → -9223372036854775808 ≤ f i ∧ f i ≤ 9223372036854775807) ∧
  (0 < n → ∃ b off, A = some ⟨b, off, none⟩ ∧ b < w.heap.size ∧ ∀ i, i < n → w.cell? ⟨b, off + i, none⟩ = some (.int .i64 (f i)))

section
variable {w w' : World} {A : Option Addr} {n : Nat} {f g : Nat → Int}
theorem Ints.at_ {k : Nat} (h : Ints w A n f) (hk : k < n) : ∃ b off, A = some ⟨b, off, none⟩ ∧ b < w.heap.size ∧ w.cell? ⟨b, off + k, none⟩ = some (.int .i64 (f k)) := by
  obtain ⟨b, off, e, hb, hc⟩ := h.2 (by omega)
  exact ⟨b, off, e, hb, hc k hk⟩
theorem Ints.bd {k : Nat} (h : Ints w A n f) (hk : k < n) : -9223372036854775808 ≤ f k ∧ f k ≤ 9223372036854775807 := h.1 k hk
theorem Ints.zero (A : Option Addr) (f : Nat → Int) : Ints w A 0 f := ⟨fun i hi => absurd hi (by omega), fun hn => absurd hn (by omega)⟩
theorem Ints.keep (h : Ints w A n f) (hs : w.heap.size ≤ w'.heap.size) (hk : ∀ p : Addr, p.block < w.heap.size → w'.cell? p = w.cell? p) : Ints w' A n f :=
  ⟨h.1, fun hn => by
    obtain ⟨b, off, e, hb, hc⟩ := h.2 hn
    exact ⟨b, off, e, by omega, fun i hi => (hk ⟨b, off + i, none⟩ hb).trans (hc i hi)⟩⟩
theorem Ints.below (h : Ints w A n f) (hb : Below w.heap.size w w') : Ints w' A n f := h.keep hb.size fun _ hp => hb.cell hp
theorem Ints.drew (h : Ints w A n f) : Ints w.drew A n f := h
theorem Ints.drewN (h : Ints w A n f) (k : Nat) : Ints (w.drewN k) A n f := h
theorem Ints.alloc (h : Ints w A n f) (o : Obj) : Ints (w.alloc o) A n f := h.keep (by simp) fun p hp => World.cell?_alloc_lt w o p hp
theorem Ints.congr (h : Ints w A n f) (e : ∀ i, i < n → f i = g i) : Ints w A n g :=
  ⟨fun i hi => by rw [← e i hi]; exact h.1 i hi, fun hn => by
    obtain ⟨b, off, e', hb, hc⟩ := h.2 hn
    exact ⟨b, off, e', hb, fun i hi => by rw [← e i hi]; exact hc i hi⟩⟩
theorem Ints.of_own {base e c : Nat} {zs : List Int} (h : w.ownsRow base e 1 (.slice A n c) n (zs.map (Value.int .i64))) (hz : ∀ i, i < n → zs[i]? = some (f i))
    (hb : ∀ i, i < n → -9223372036854775808 ≤ f i ∧ f i ≤ 9223372036854775807) : Ints w A n f := by
  refine ⟨hb, fun hn => ?_⟩
  obtain ⟨g, cap, hv, _, hlt⟩ := h.form hn
  have hA : A = some ⟨g, 0, none⟩ := by injection hv
  subst hA
  refine ⟨g, 0, rfl, hlt, fun i hi => ?_⟩
  have := h.cells (g := g) rfl i (.int .i64 (f i)) (by simp [hz i hi])
  have e : (Addr.add ⟨g, 0, none⟩ i) = ⟨g, 0 + i, none⟩ := by unfold Addr.add; split <;> simp_all
  rw [e] at this; exact this
end

/-- what is known of a slice of int that came in -/
def RowIn (w : World) (a : Option Addr) (len cap : Nat) (zs : List Int) : Prop :=
  (a = none ∧ len = 0 ∧ cap = 0 ∧ zs = []) ∨
  ∃ x, a = some x ∧ len ≤ cap ∧ cap ≤ maxLen ∧ zs.length = cap ∧ (∀ i, i < zs.length → w.cell? (x.add i) = some (.int .i64 (zs.getD i 0))) ∧ ∀ n ∈ zs, (Lit.int .i64 n).wf = true
theorem lt_of_cell {w : World} {v : Value} : ∀ {a : Addr}, w.cell? a = some v → a.block < w.heap.size := by
  intro a h
  rcases Nat.lt_or_ge a.block w.heap.size with hlt | hge
  · exact hlt
  · simp [World.cell?, Array.getElem?_eq_none hge] at h
theorem RowIn.ints {w : World} {a : Option Addr} {len cap : Nat} {zs : List Int} (h : RowIn w a len cap zs) : Ints w a len (fun i => zs.getD i 0) := by
  rcases h with ⟨rfl, rfl, rfl, rfl⟩ | ⟨x, rfl, hl, hm, hz, hc, hw⟩
  · exact Ints.zero _ _
  · refine ⟨fun i hi => ?_, fun hn => ?_⟩
    · have hmem : zs.getD i 0 ∈ zs := by
        have hlt : i < zs.length := by omega
        simp [hlt]
      have := hw _ hmem
      have h1 : IntKind.i64.min = -9223372036854775808 := by decide
      have h2 : IntKind.i64.max = 9223372036854775807 := by decide
      simp only [Lit.wf, h1, h2, Bool.and_eq_true, decide_eq_true_eq] at this
      exact this
    · have h0 := hc 0 (by omega)
      have hb : x.block < w.heap.size := by
        have := lt_of_cell h0
        rwa [block_of_add] at this
      obtain ⟨b, off, spot⟩ := x
      have hspot : spot = none := by simpa [Addr.add] using World.cell?_spot h0
      subst hspot
      refine ⟨b, off, rfl, hb, fun i hi => ?_⟩
      have := hc i (by omega)
      have e : (Addr.add ⟨b, off, none⟩ i) = ⟨b, off + i, none⟩ := by unfold Addr.add; split <;> simp_all
      rwa [e] at this
theorem RowIn.nil {w : World} {a : Option Addr} {len cap : Nat} {zs : List Int} (h : RowIn w a len cap zs) : a = none → len = 0 ∧ cap = 0 := by
  rcases h with ⟨rfl, rfl, rfl, rfl⟩ | ⟨x, rfl, _⟩
  · exact fun _ => ⟨rfl, rfl⟩
  · exact fun e => by cases e
theorem RowIn.bd {w : World} {a : Option Addr} {len cap : Nat} {zs : List Int} (h : RowIn w a len cap zs) : len ≤ 9223372036854775807 := by
  rcases h with ⟨rfl, rfl, rfl, rfl⟩ | ⟨x, rfl, hl, hm, _⟩
  · omega
  · unfold maxLen at hm; omega
end Go.Proofs.Ytieaoebphlcmpaa
