/-
  A row of boxes (flexible), a box, that came in, opened.
-/
import Derived.Test.YtjlnaadpiohbnaaItems16
import Derived.SizedLaws
import Derived.Deep.Slices
import Derived.Deep.WholeRow
namespace Go.Proofs.Ytjlnaadpiohbnaa
open Go.RowKit Go.ChangeShapes Go.WideShapes

instance : Inhabited It16 := ⟨itZ⟩
def boxNone : Value := tmV itZ
def BigI (k : It16) : Prop := ∀ y ∈ [k.base, k.least, k.most, k.grow, k.shrink, k.outer], -9223372036854775808 ≤ y ∧ y ≤ 9223372036854775807
def BigT (l : List It16) : Prop := ∀ i, i < l.length → BigI (itA l i)
theorem i64_in16 {a : Int} (h : (Lit.int .i64 a).wf = true) : -9223372036854775808 ≤ a ∧ a ≤ 9223372036854775807 := by
  have h1 : IntKind.i64.min = -9223372036854775808 := by decide
  have h2 : IntKind.i64.max = 9223372036854775807 := by decide
  simpa only [Lit.wf, h1, h2, Bool.and_eq_true, decide_eq_true_eq] using h
/-- what is known of a row of boxes that came in -/
def BoxesIn (w : World) (A : Option Addr) (n c : Nat) (l : List It16) : Prop := TmIn w (.slice A n c) l ∧ l.length = n ∧ (A = none → n = 0 ∧ c = 0) ∧ n ≤ 140737488351232 ∧ BigT l
section
variable {H : Type} {enc : TypeId × Value → H} {w : World} {held : Bool}

theorem open_box {fuel : Nat} {cs : List Value} {y : DataW H × List MemPlace} (h : DataW.trod enc Try.prog w 0 (fun _ => true) held fuel 32 cs = some y) :
    ∃ x : It16, cs = tmCells x ∧ BigI x := by
  obtain ⟨xs, m, rfl, rfl, hlen, hxl, hf⟩ := DataW.trod_struct Try.underlying32 h
  have hl2 : cs.length = 6 := hlen.trans (by kernel_rfl)
  have c2 : Try.prog.cellsOf 3 = 1 := by kernel_rfl
  match xs, hxl, cs, hl2 with
  | [y0, y1, y2, y3, y4, y5], _, [v0, v1, v2, v3, v4, v5], _ =>
    have g0 := hf 0 _ rfl
    have g1 := hf 1 _ rfl
    have g2 := hf 2 _ rfl
    have g3 := hf 3 _ rfl
    have g4 := hf 4 _ rfl
    have g5 := hf 5 _ rfl
    simp [c2] at g0 g1 g2 g3 g4 g5
    obtain ⟨n0, e0, -, w0⟩ := DataW.trod_int Try.underlying3 g0
    obtain ⟨n1, e1, -, w1⟩ := DataW.trod_int Try.underlying3 g1
    obtain ⟨n2, e2, -, w2⟩ := DataW.trod_int Try.underlying3 g2
    obtain ⟨n3, e3, -, w3⟩ := DataW.trod_int Try.underlying3 g3
    obtain ⟨n4, e4, -, w4⟩ := DataW.trod_int Try.underlying3 g4
    obtain ⟨n5, e5, -, w5⟩ := DataW.trod_int Try.underlying3 g5
    obtain rfl : v0 = .int .i64 n0 := by simpa using e0
    obtain rfl : v1 = .int .i64 n1 := by simpa using e1
    obtain rfl : v2 = .int .i64 n2 := by simpa using e2
    obtain rfl : v3 = .int .i64 n3 := by simpa using e3
    obtain rfl : v4 = .int .i64 n4 := by simpa using e4
    obtain rfl : v5 = .int .i64 n5 := by simpa using e5
    refine ⟨⟨n0, n1, n2, n3, n4, n5⟩, rfl, ?_⟩
    intro y hy
    simp only [List.mem_cons, List.not_mem_nil, or_false] at hy
    rcases hy with rfl | rfl | rfl | rfl | rfl | rfl
    · exact i64_in16 w0
    · exact i64_in16 w1
    · exact i64_in16 w2
    · exact i64_in16 w3
    · exact i64_in16 w4
    · exact i64_in16 w5
theorem boxes_at {V : Nat → It16} {n i : Nat} (h : i < n) : itA ((List.range n).map V) i = V i := by
  have hl : i < ((List.range n).map V).length := by simpa using h
  rw [itA_get hl]
  simp
/-- a row of boxes that came in -/
theorem open_boxes {fuel : Nat} {A : Option Addr} {n c : Nat} {y : DataW H × List MemPlace} (h : DataW.trod enc Try.prog w 0 (fun _ => true) held fuel 22 [.slice A n c] = some y) (hs : ∀ x ∈ y.1.weights Try.prog 22, x ≤ reachBytes) :
    ∃ l : List It16, BoxesIn w A n c l := by
  have ce : Try.prog.cellsOf 32 = 6 := by kernel_rfl
  rcases Go.Deep.open_slice Try.underlying22 h with ⟨hcs, _⟩ | ⟨a, len, cap, m, q, D, Pl, hcs, _, hl, hm, hmm, rfl, hx⟩
  · have e : Value.slice A n c = .slice none 0 0 := by simpa using hcs
    cases e
    exact ⟨[], TmIn.nil w, rfl, fun _ => ⟨rfl, rfl⟩, by omega, fun i hi => absurd hi (by simp)⟩
  · have e : Value.slice A n c = .slice (some a) len cap := by simpa using hcs
    cases e
    obtain rfl : m = c := by simpa using hmm
    have hsz : m * Try.prog.bytesOf 32 ≤ reachBytes := by
      have := hs ((n + (m - n)) * Try.prog.bytesOf 32) (by
        simp only [DataW.weights, Try.underlying22, List.length_map, List.length_range]
        exact List.mem_cons_self)
      rwa [show n + (m - n) = m by omega] at this
    have hby : Try.prog.bytesOf 32 = 48 := by kernel_rfl
    rw [hby] at hsz
    have each : ∀ i, i < n → ∃ x : It16, BigI x ∧ ∀ k, k < 6 → w.cell? (a.add (i * 6 + k)) = (tmCells x)[k]? := fun i hi => by
      obtain ⟨cs', h1, h2⟩ := hx i (by omega)
      obtain ⟨x, rfl, hv⟩ := open_box h2
      rw [ce] at h1
      obtain ⟨_, _, hcell⟩ := World.cells?_some h1
      exact ⟨x, hv, fun k hk => by have := hcell k hk; rwa [Go.Deep.add_add] at this⟩
    obtain ⟨V, hV⟩ := Go.Deep.choose_lt each
    have hlen : ((List.range n).map V).length = n := by simp
    refine ⟨(List.range n).map V, ⟨some a, m, by rw [hlen], ⟨by omega, by simp only [maxLen] at hm; omega⟩, (fun h => by cases h), fun hne => ?_⟩, hlen, (fun e => by cases e), by simp only [reachBytes] at hsz; omega, fun i hi => ?_⟩
    · have hn : 0 < n := by
        refine Nat.pos_of_ne_zero (fun e => hne ?_)
        rw [e]
        rfl
      have h0 := (hV 0 hn).2 0 (by omega)
      have hb : a.block < w.heap.size := by
        have := World.block_lt_of_cell? w _ (h0.trans (show (tmCells (V 0))[0]? = some _ from rfl))
        simpa [Addr.add] using this
      obtain ⟨b, off, spot⟩ := a
      have hspot : spot = none := by
        have := World.cell?_spot (h0.trans (show (tmCells (V 0))[0]? = some _ from rfl))
        simpa [Addr.add] using this
      subst hspot
      refine ⟨b, off, rfl, hb, fun j hj => ?_⟩
      rw [hlen] at hj
      have hc := (hV j hj).2
      simp only [add_plain] at hc
      rw [boxes_at (V := V) hj]
      exact TmAt.of fun k u hk hu => by
        have := hc k hk
        rw [← Nat.add_assoc] at this
        exact this.trans hu
    · rw [hlen] at hi
      rw [boxes_at (V := V) hi]
      exact (hV i hi).1
theorem open_box_arg {r : Reach} {b : Nat} {v : Value} {d : DataW H} {p : List MemPlace} (hv : Value.okWide Try.prog w r b 32 v) (h : DataW.Trod enc Try.prog w 0 (fun _ => true) held 32 v d p) :
    ∃ s : It16, v = tmV s ∧ BigI s := by
  obtain ⟨fuel, hf⟩ := h
  obtain ⟨cs, rfl, _⟩ := okWide_struct Try.underlying32 hv
  obtain ⟨s, e, ok⟩ := open_box hf
  refine ⟨s, ?_, ok⟩
  obtain ⟨l⟩ := cs
  simp only [Value.cells] at e
  rw [tmV, e]
  rfl
end
end Go.Proofs.Ytjlnaadpiohbnaa
