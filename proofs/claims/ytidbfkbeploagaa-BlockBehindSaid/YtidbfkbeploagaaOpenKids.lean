/-
  A row of kids, a kid, that came in, opened.
-/
import Derived.Test.YtidbfkbeploagaaRefAsk14
import Derived.Test.YtidbfkbeploagaaOpenMargins
namespace Go.Proofs.Ytidbfkbeploagaa
open Go.RowKit Go.ChangeShapes Go.WideShapes

instance : Inhabited Kd := ⟨kdZ⟩
def kidNone : Value := kdV kdZ
def BigOne (k : Kd) : Prop := ∀ y ∈ [k.h, k.t.1, k.t.2, k.b.1, k.b.2], -9223372036854775808 ≤ y ∧ y ≤ 9223372036854775807
/-- what is known of a row of kids that came in -/
def KidsIn (w : World) (A : Option Addr) (n c : Nat) (l : List Kd) : Prop := KdIn w (.slice A n c) l ∧ l.length = n ∧ (A = none → n = 0 ∧ c = 0) ∧ n ≤ 140737488351232 ∧ BigK l
section
variable {H : Type} {enc : TypeId × Value → H} {w : World} {held : Bool}

theorem open_kid {fuel : Nat} {cs : List Value} {y : DataW H × List MemPlace} (h : DataW.trod enc Try.prog w 0 (fun _ => true) held fuel 35 cs = some y) :
    ∃ x : Kd, cs = kdCells x ∧ BigOne x := by
  obtain ⟨xs, m, rfl, rfl, hlen, hxl, hf⟩ := DataW.trod_struct Try.underlying35 h
  have hl2 : cs.length = 6 := hlen.trans (by kernel_rfl)
  have c2 : Try.prog.cellsOf 3 = 1 := by kernel_rfl
  have c3 : Try.prog.cellsOf 4 = 1 := by kernel_rfl
  have c4 : Try.prog.cellsOf 25 = 2 := by kernel_rfl
  match xs, hxl, cs, hl2 with
  | [y0, y1, y2, y3], _, [v0, v1, v2, v3, v4, v5], _ =>
    have g0 := hf 0 _ rfl
    have g1 := hf 1 _ rfl
    have g2 := hf 2 _ rfl
    have g3 := hf 3 _ rfl
    simp [c2, c3, c4] at g0 g1 g2 g3
    obtain ⟨t, e0, w0⟩ := open_margin g0
    obtain ⟨b, e1, w1⟩ := open_margin g1
    obtain ⟨n2, e2, -, w2⟩ := DataW.trod_int Try.underlying3 g2
    obtain ⟨n3, e3, -⟩ := DataW.trod_bool Try.underlying4 g3
    unfold mgCells at e0 e1
    injection e0 with e00 e0
    injection e0 with e01 e0
    injection e1 with e10 e1
    injection e1 with e11 e1
    subst e00 e01 e10 e11
    obtain rfl : v4 = .int .i64 n2 := by simpa using e2
    obtain rfl : v5 = .bool n3 := by simpa using e3
    refine ⟨⟨t, b, n2, n3⟩, rfl, ?_⟩
    have w4 := i64_in13 w2
    intro y hy
    simp only [List.mem_cons, List.not_mem_nil, or_false] at hy
    rcases hy with rfl | rfl | rfl | rfl | rfl
    · exact w4
    · exact w0.1
    · exact w0.2
    · exact w1.1
    · exact w1.2
theorem kids_at {V : Nat → Kd} {n i : Nat} (h : i < n) : kAt ((List.range n).map V) i = V i := by
  have hl : i < ((List.range n).map V).length := by simpa using h
  rw [kAt_get hl]
  simp
/-- a row of kids that came in -/
theorem open_kids {fuel : Nat} {A : Option Addr} {n c : Nat} {y : DataW H × List MemPlace} (h : DataW.trod enc Try.prog w 0 (fun _ => true) held fuel 22 [.slice A n c] = some y) (hs : ∀ x ∈ y.1.weights Try.prog 22, x ≤ reachBytes) :
    ∃ l : List Kd, KidsIn w A n c l := by
  have ce : Try.prog.cellsOf 35 = 6 := by kernel_rfl
  rcases Go.Deep.open_slice Try.underlying22 h with ⟨hcs, _⟩ | ⟨a, len, cap, m, q, D, Pl, hcs, _, hl, hm, hmm, rfl, hx⟩
  · have e : Value.slice A n c = .slice none 0 0 := by simpa using hcs
    cases e
    exact ⟨[], KdIn.nil w, rfl, fun _ => ⟨rfl, rfl⟩, by omega, fun i hi => absurd hi (by simp)⟩
  · have e : Value.slice A n c = .slice (some a) len cap := by simpa using hcs
    cases e
    obtain rfl : m = c := by simpa using hmm
    have hsz : m * Try.prog.bytesOf 35 ≤ reachBytes := by
      have := hs ((n + (m - n)) * Try.prog.bytesOf 35) (by
        simp only [DataW.weights, Try.underlying22, List.length_map, List.length_range]
        exact List.mem_cons_self)
      rwa [show n + (m - n) = m by omega] at this
    have hby : Try.prog.bytesOf 35 = 48 := by kernel_rfl
    rw [hby] at hsz
    have each : ∀ i, i < n → ∃ x : Kd, BigOne x ∧ ∀ k, k < 6 → w.cell? (a.add (i * 6 + k)) = (kdCells x)[k]? := fun i hi => by
      obtain ⟨cs', h1, h2⟩ := hx i (by omega)
      obtain ⟨x, rfl, hv⟩ := open_kid h2
      rw [ce] at h1
      obtain ⟨_, _, hcell⟩ := World.cells?_some h1
      exact ⟨x, hv, fun k hk => by have := hcell k hk; rwa [Go.Deep.add_add] at this⟩
    obtain ⟨V, hV⟩ := Go.Deep.choose_lt each
    have hlen : ((List.range n).map V).length = n := by simp
    refine ⟨(List.range n).map V, ⟨some a, m, by rw [hlen], ⟨by omega, by simp only [maxLen] at hm; omega⟩, (fun h => by cases h), fun hne => ?_⟩, hlen, (fun e => by cases e), by simp only [reachBytes] at hsz; omega, fun i hi => ?_⟩
    · have hn : 0 < n := by
        refine Nat.pos_of_ne_zero (fun e => hne ?_)
        rw [e]
        rfl
      have h0 := (hV 0 hn).2 0 (by omega)
      have hb : a.block < w.heap.size := by
        have := World.block_lt_of_cell? w _ (h0.trans (show (kdCells (V 0))[0]? = some _ from rfl))
        simpa [Addr.add] using this
      obtain ⟨b, off, spot⟩ := a
      have hspot : spot = none := by
        have := World.cell?_spot (h0.trans (show (kdCells (V 0))[0]? = some _ from rfl))
        simpa [Addr.add] using this
      subst hspot
      refine ⟨b, off, rfl, hb, fun j hj => ?_⟩
      rw [hlen] at hj
      have hc := (hV j hj).2
      simp only [add_plain] at hc
      rw [kids_at (V := V) hj]
      exact KdAt.of fun k u hk hu => by
        have := hc k hk
        rw [← Nat.add_assoc] at this
        exact this.trans hu
    · rw [hlen] at hi
      rw [kids_at (V := V) hi]
      exact (hV i hi).1
theorem open_kid_arg {r : Reach} {b : Nat} {v : Value} {d : DataW H} {p : List MemPlace} (hv : Value.okWide Try.prog w r b 35 v) (h : DataW.Trod enc Try.prog w 0 (fun _ => true) held 35 v d p) :
    ∃ s : Kd, v = kdV s ∧ BigOne s := by
  obtain ⟨fuel, hf⟩ := h
  obtain ⟨cs, rfl, _⟩ := okWide_struct Try.underlying35 hv
  obtain ⟨s, e, ok⟩ := open_kid hf
  refine ⟨s, ?_, ok⟩
  obtain ⟨l⟩ := cs
  simp only [Value.cells] at e
  rw [kdV, e]
  rfl
end
end Go.Proofs.Ytidbfkbeploagaa
