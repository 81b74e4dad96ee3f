/-
  A row of margins, a margin, that came in, opened.
-/
import Derived.Test.YtidbfkbeploagaaMargins
import Derived.Test.YtidbfkbeploagaaProg
import Derived.Deep.Slices
import Derived.SizedLaws
import Derived.ChangeSame
namespace Go.Proofs.Ytidbfkbeploagaa
open Go.RowKit Go.ChangeShapes Go.WideShapes

/-- what is known of a row of margins that came in -/
def MarginsIn (w : World) (A : Option Addr) (n c : Nat) (l : List Mg) : Prop := MgIn w (.slice A n c) l ∧ l.length = n ∧ (A = none → n = 0 ∧ c = 0) ∧ n ≤ 140737488351232 ∧ (∀ i, i < n → (-9223372036854775808 ≤ mu l i ∧ mu l i ≤ 9223372036854775807) ∧ -9223372036854775808 ≤ md l i ∧ md l i ≤ 9223372036854775807)
theorem i64_in13 {a : Int} (h : (Lit.int .i64 a).wf = true) : -9223372036854775808 ≤ a ∧ a ≤ 9223372036854775807 := by
  have h1 : IntKind.i64.min = -9223372036854775808 := by decide
  have h2 : IntKind.i64.max = 9223372036854775807 := by decide
  simpa only [Lit.wf, h1, h2, Bool.and_eq_true, decide_eq_true_eq] using h
def MgOK (s : Mg) : Prop := (-9223372036854775808 ≤ s.1 ∧ s.1 ≤ 9223372036854775807) ∧ -9223372036854775808 ≤ s.2 ∧ s.2 ≤ 9223372036854775807
section
variable {H : Type} {enc : TypeId × Value → H} {w : World} {held : Bool}

theorem open_margin {fuel : Nat} {cs : List Value} {y : DataW H × List MemPlace} (h : DataW.trod enc Try.prog w 0 (fun _ => true) held fuel 25 cs = some y) :
    ∃ x : Mg, cs = mgCells x ∧ (-9223372036854775808 ≤ x.1 ∧ x.1 ≤ 9223372036854775807) ∧ -9223372036854775808 ≤ x.2 ∧ x.2 ≤ 9223372036854775807 := by
  obtain ⟨xs, m, rfl, rfl, hlen, hxl, hf⟩ := DataW.trod_struct Try.underlying25 h
  have hl2 : cs.length = 2 := hlen.trans (by kernel_rfl)
  have c2 : Try.prog.cellsOf 3 = 1 := by kernel_rfl
  match xs, hxl, cs, hl2 with
  | [y0, y1], _, [v0, v1], _ =>
    have g0 := hf 0 _ rfl
    have g1 := hf 1 _ rfl
    simp [c2] at g0 g1
    obtain ⟨n0, e0, -, w0⟩ := DataW.trod_int Try.underlying3 g0
    obtain ⟨n1, e1, -, w1⟩ := DataW.trod_int Try.underlying3 g1
    obtain rfl : v0 = .int .i64 n0 := by simpa using e0
    obtain rfl : v1 = .int .i64 n1 := by simpa using e1
    exact ⟨(n0, n1), rfl, i64_in13 w0, i64_in13 w1⟩
theorem margins_at {V : Nat → Mg} {n i : Nat} (h : i < n) : mu ((List.range n).map V) i = (V i).1 ∧ md ((List.range n).map V) i = (V i).2 := by
  have hl : i < ((List.range n).map V).length := by simpa using h
  unfold mu md
  rw [mgAt_get hl]
  simp
/-- a row of margins that came in -/
theorem open_margins {fuel : Nat} {A : Option Addr} {n c : Nat} {y : DataW H × List MemPlace} (h : DataW.trod enc Try.prog w 0 (fun _ => true) held fuel 58 [.slice A n c] = some y) (hs : ∀ x ∈ y.1.weights Try.prog 58, x ≤ reachBytes) :
    ∃ l : List Mg, MarginsIn w A n c l := by
  have ce : Try.prog.cellsOf 25 = 2 := by kernel_rfl
  rcases Go.Deep.open_slice Try.underlying58 h with ⟨hcs, _⟩ | ⟨a, len, cap, m, q, D, Pl, hcs, _, hl, hm, hmm, rfl, hx⟩
  · have e : Value.slice A n c = .slice none 0 0 := by simpa using hcs
    cases e
    exact ⟨[], ⟨none, 0, rfl, ⟨by simp, by omega⟩, fun h => absurd rfl h⟩, rfl, fun _ => ⟨rfl, rfl⟩, by omega, fun i hi => absurd hi (by omega)⟩
  · have e : Value.slice A n c = .slice (some a) len cap := by simpa using hcs
    cases e
    obtain rfl : m = c := by simpa using hmm
    have hsz : m * Try.prog.bytesOf 25 ≤ reachBytes := by
      have := hs ((n + (m - n)) * Try.prog.bytesOf 25) (by
        simp only [DataW.weights, Try.underlying58, List.length_map, List.length_range]
        exact List.mem_cons_self)
      rwa [show n + (m - n) = m by omega] at this
    have hby : Try.prog.bytesOf 25 = 16 := by kernel_rfl
    rw [hby] at hsz
    have each : ∀ i, i < n → ∃ x : Mg, ((-9223372036854775808 ≤ x.1 ∧ x.1 ≤ 9223372036854775807) ∧ -9223372036854775808 ≤ x.2 ∧ x.2 ≤ 9223372036854775807) ∧ ∀ k, k < 2 → w.cell? (a.add (i * 2 + k)) = (mgCells x)[k]? := fun i hi => by
      obtain ⟨cs', h1, h2⟩ := hx i (by omega)
      obtain ⟨x, rfl, hv⟩ := open_margin h2
      rw [ce] at h1
      obtain ⟨_, _, hcell⟩ := World.cells?_some h1
      exact ⟨x, hv, fun k hk => by have := hcell k hk; rwa [Go.Deep.add_add] at this⟩
    obtain ⟨V, hV⟩ := Go.Deep.choose_lt each
    have hlen : ((List.range n).map V).length = n := by simp
    refine ⟨(List.range n).map V, ⟨some a, m, by rw [hlen], ⟨by omega, by simp only [maxLen] at hm; omega⟩, fun hne => ?_⟩, hlen, (fun e => by cases e), by simp only [reachBytes] at hsz; omega, fun i hi => ?_⟩
    · have hn : 0 < n := by
        refine Nat.pos_of_ne_zero (fun e => hne ?_)
        rw [e]
        rfl
      have h0 := (hV 0 hn).2 0 (by omega)
      have hb : a.block < w.heap.size := by
        have := World.block_lt_of_cell? w _ (h0.trans (show (mgCells (V 0))[0]? = some _ from rfl))
        simpa [Addr.add] using this
      obtain ⟨b, off, spot⟩ := a
      have hspot : spot = none := by
        have := World.cell?_spot (h0.trans (show (mgCells (V 0))[0]? = some _ from rfl))
        simpa [Addr.add] using this
      subst hspot
      refine ⟨b, off, rfl, hb, fun j hj => ?_⟩
      rw [hlen] at hj
      have hc := (hV j hj).2
      simp only [add_plain] at hc
      rw [(margins_at (V := V) hj).1, (margins_at (V := V) hj).2]
      exact ⟨hc 0 (by omega), by have := hc 1 (by omega); rwa [← Nat.add_assoc] at this⟩
    · rw [(margins_at (V := V) hi).1, (margins_at (V := V) hi).2]
      exact (hV i hi).1
theorem open_mg_arg {r : Reach} {b : Nat} {v : Value} {d : DataW H} {p : List MemPlace} (hv : Value.okWide Try.prog w r b 25 v) (h : DataW.Trod enc Try.prog w 0 (fun _ => true) held 25 v d p) :
    ∃ s : Mg, v = mgV s ∧ MgOK s := by
  obtain ⟨fuel, hf⟩ := h
  obtain ⟨cs, rfl, _⟩ := okWide_struct Try.underlying25 hv
  obtain ⟨s, e, ok⟩ := open_margin hf
  refine ⟨s, ?_, ok⟩
  obtain ⟨l⟩ := cs
  simp only [Value.cells] at e
  rw [mgV, e]
  rfl
end
end Go.Proofs.Ytidbfkbeploagaa
