/-
  A row of spots, a line's own numbers, that came in, opened.
-/
import Derived.Test.YtnhbegdoedbpeaaSpots
import Derived.Test.YtnhbegdoedbpeaaProg
import Derived.Deep.Slices
import Derived.SizedLaws
import Derived.ChangeSame
namespace Go.Proofs.Ytnhbegdoedbpeaa
open Go.RowKit Go.ChangeShapes Go.WideShapes

/-- what is known of a row of spots that came in -/
def SpotsIn (w : World) (A : Option Addr) (n c : Nat) (l : List Sp) : Prop := SpIn w (.slice A n c) l ∧ l.length = n ∧ (A = none → n = 0 ∧ c = 0) ∧ n ≤ 140737488351232 ∧ (∀ i, i < n → sa l i < 256)
/-- a line's own numbers -/
structure RO where
  up : Int
  down : Int
  width : Int
  lines : Nat
def RO.ok (x : RO) : Prop := x.lines < 256 ∧ (-9223372036854775808 ≤ x.up ∧ x.up ≤ 9223372036854775807) ∧ (-9223372036854775808 ≤ x.down ∧ x.down ≤ 9223372036854775807) ∧ (-9223372036854775808 ≤ x.width ∧ x.width ≤ 9223372036854775807)
def RO.cells (x : RO) : List Value := [.int .i64 x.up, .int .i64 x.down, .int .i64 x.width, .int .u8 (x.lines : Nat)]
def ownV (x : RO) : Value := .agg #[.int .i64 x.up, .int .i64 x.down, .int .i64 x.width, .int .u8 (x.lines : Nat)]
def ownNone : Value := ownV ⟨0, 0, 0, 0⟩
theorem u8_in11 {a : Int} (h : (Lit.int .u8 a).wf = true) : 0 ≤ a ∧ a < 256 := by
  have h1 : IntKind.u8.min = 0 := by decide
  have h2 : IntKind.u8.max = 255 := by decide
  simp only [Lit.wf, h1, h2, Bool.and_eq_true, decide_eq_true_eq] at h
  omega
theorem i64_in11 {a : Int} (h : (Lit.int .i64 a).wf = true) : -9223372036854775808 ≤ a ∧ a ≤ 9223372036854775807 := by
  have h1 : IntKind.i64.min = -9223372036854775808 := by decide
  have h2 : IntKind.i64.max = 9223372036854775807 := by decide
  simpa only [Lit.wf, h1, h2, Bool.and_eq_true, decide_eq_true_eq] using h
section
variable {H : Type} {enc : TypeId × Value → H} {w : World} {held : Bool}

theorem open_own {fuel : Nat} {cs : List Value} {y : DataW H × List MemPlace} (h : DataW.trod enc Try.prog w 0 (fun _ => true) held fuel 24 cs = some y) :
    ∃ x : RO, cs = x.cells ∧ x.ok := by
  obtain ⟨xs, m, rfl, rfl, hlen, hxl, hf⟩ := DataW.trod_struct Try.underlying24 h
  have hl2 : cs.length = 4 := hlen.trans (by kernel_rfl)
  have c1 : Try.prog.cellsOf 5 = 1 := by kernel_rfl
  have c2 : Try.prog.cellsOf 3 = 1 := by kernel_rfl
  match xs, hxl, cs, hl2 with
  | [y0, y1, y2, y3], _, [v0, v1, v2, v3], _ =>
    have g0 := hf 0 _ rfl
    have g1 := hf 1 _ rfl
    have g2 := hf 2 _ rfl
    have g3 := hf 3 _ rfl
    simp [c1, c2] at g0 g1 g2 g3
    obtain ⟨n0, e0, -, w0⟩ := DataW.trod_int Try.underlying3 g0
    obtain ⟨n1, e1, -, w1⟩ := DataW.trod_int Try.underlying3 g1
    obtain ⟨n2, e2, -, w2⟩ := DataW.trod_int Try.underlying3 g2
    obtain ⟨n3, e3, -, w3⟩ := DataW.trod_int Try.underlying5 g3
    obtain rfl : v0 = .int .i64 n0 := by simpa using e0
    obtain rfl : v1 = .int .i64 n1 := by simpa using e1
    obtain rfl : v2 = .int .i64 n2 := by simpa using e2
    obtain rfl : v3 = .int .u8 n3 := by simpa using e3
    have u0 := u8_in11 w3
    refine ⟨⟨n0, n1, n2, n3.toNat⟩, ?_, by dsimp only; omega, i64_in11 w0, i64_in11 w1, i64_in11 w2⟩
    unfold RO.cells
    dsimp only
    rw [Int.toNat_of_nonneg u0.1]
theorem open_own_arg {r : Reach} {b : Nat} {v : Value} {d : DataW H} {p : List MemPlace} (hv : Value.okWide Try.prog w r b 24 v) (h : DataW.Trod enc Try.prog w 0 (fun _ => true) held 24 v d p) :
    ∃ s : RO, v = ownV s ∧ s.ok := by
  obtain ⟨fuel, hf⟩ := h
  obtain ⟨cs, rfl, _⟩ := okWide_struct Try.underlying24 hv
  obtain ⟨s, e, ok⟩ := open_own hf
  refine ⟨s, ?_, ok⟩
  obtain ⟨l⟩ := cs
  simp only [Value.cells] at e
  rw [ownV, e]
  rfl
theorem open_spot {fuel : Nat} {cs : List Value} {y : DataW H × List MemPlace} (h : DataW.trod enc Try.prog w 0 (fun _ => true) held fuel 33 cs = some y) :
    ∃ x : Sp, cs = spCells x ∧ x.2.2.2 < 256 := by
  obtain ⟨xs, m, rfl, rfl, hlen, hxl, hf⟩ := DataW.trod_struct Try.underlying33 h
  have hl2 : cs.length = 4 := hlen.trans (by kernel_rfl)
  have c1 : Try.prog.cellsOf 5 = 1 := by kernel_rfl
  have c2 : Try.prog.cellsOf 3 = 1 := by kernel_rfl
  match xs, hxl, cs, hl2 with
  | [y0, y1, y2, y3], _, [v0, v1, v2, v3], _ =>
    have g0 := hf 0 _ rfl
    have g1 := hf 1 _ rfl
    have g2 := hf 2 _ rfl
    have g3 := hf 3 _ rfl
    simp [c1, c2] at g0 g1 g2 g3
    obtain ⟨n0, e0, -, w0⟩ := DataW.trod_int Try.underlying3 g0
    obtain ⟨n1, e1, -, w1⟩ := DataW.trod_int Try.underlying3 g1
    obtain ⟨n2, e2, -, w2⟩ := DataW.trod_int Try.underlying3 g2
    obtain ⟨n3, e3, -, w3⟩ := DataW.trod_int Try.underlying5 g3
    obtain rfl : v0 = .int .i64 n0 := by simpa using e0
    obtain rfl : v1 = .int .i64 n1 := by simpa using e1
    obtain rfl : v2 = .int .i64 n2 := by simpa using e2
    obtain rfl : v3 = .int .u8 n3 := by simpa using e3
    have u0 := u8_in11 w3
    refine ⟨(n0, n1, n2, n3.toNat), ?_, by dsimp only; omega⟩
    unfold spCells
    dsimp only
    rw [Int.toNat_of_nonneg u0.1]
theorem spots_at {V : Nat → Sp} {n i : Nat} (h : i < n) : sp ((List.range n).map V) i = V i := by
  have hl : i < ((List.range n).map V).length := by simpa using h
  rw [sp_get hl]
  simp
/-- a row of spots that came in -/
theorem open_spots {fuel : Nat} {A : Option Addr} {n c : Nat} {y : DataW H × List MemPlace} (h : DataW.trod enc Try.prog w 0 (fun _ => true) held fuel 22 [.slice A n c] = some y) (hs : ∀ x ∈ y.1.weights Try.prog 22, x ≤ reachBytes) :
    ∃ l : List Sp, SpotsIn w A n c l := by
  have ce : Try.prog.cellsOf 33 = 4 := by kernel_rfl
  rcases Go.Deep.open_slice Try.underlying22 h with ⟨hcs, _⟩ | ⟨a, len, cap, m, q, D, Pl, hcs, _, hl, hm, hmm, rfl, hx⟩
  · have e : Value.slice A n c = .slice none 0 0 := by simpa using hcs
    cases e
    exact ⟨[], ⟨none, 0, rfl, ⟨by simp, by omega⟩, fun h => absurd rfl h⟩, rfl, fun _ => ⟨rfl, rfl⟩, by omega, fun i hi => absurd hi (by omega)⟩
  · have e : Value.slice A n c = .slice (some a) len cap := by simpa using hcs
    cases e
    obtain rfl : m = c := by simpa using hmm
    have hsz : m * Try.prog.bytesOf 33 ≤ reachBytes := by
      have := hs ((n + (m - n)) * Try.prog.bytesOf 33) (by
        simp only [DataW.weights, Try.underlying22, List.length_map, List.length_range]
        exact List.mem_cons_self)
      rwa [show n + (m - n) = m by omega] at this
    have hby : Try.prog.bytesOf 33 = 32 := by kernel_rfl
    rw [hby] at hsz
    have each : ∀ i, i < n → ∃ x : Sp, x.2.2.2 < 256 ∧ ∀ k, k < 4 → w.cell? (a.add (i * 4 + k)) = (spCells x)[k]? := fun i hi => by
      obtain ⟨cs', h1, h2⟩ := hx i (by omega)
      obtain ⟨x, rfl, hv⟩ := open_spot h2
      rw [ce] at h1
      obtain ⟨_, _, hcell⟩ := World.cells?_some h1
      exact ⟨x, hv, fun k hk => by have := hcell k hk; rwa [Go.Deep.add_add] at this⟩
    obtain ⟨V, hV⟩ := Go.Deep.choose_lt each
    have hlen : ((List.range n).map V).length = n := by simp
    refine ⟨(List.range n).map V, ⟨some a, m, by rw [hlen], ⟨by omega, by simp only [maxLen] at hm; omega⟩, fun hne => ?_⟩, hlen, (fun e => by cases e), by simp only [reachBytes] at hsz; omega, fun i hi => ?_⟩
    · have hn : 0 < n := by
        refine Nat.pos_of_ne_zero (fun e => hne ?_)
        rw [e]
        rfl
      have h0 := (hV 0 hn).2 0 (by omega)
      have hb : a.block < w.heap.size := by
        have := World.block_lt_of_cell? w _ (h0.trans (show (spCells (V 0))[0]? = some _ from rfl))
        simpa [Addr.add] using this
      obtain ⟨b, off, spot⟩ := a
      have hspot : spot = none := by
        have := World.cell?_spot (h0.trans (show (spCells (V 0))[0]? = some _ from rfl))
        simpa [Addr.add] using this
      subst hspot
      refine ⟨b, off, rfl, hb, fun j hj => ?_⟩
      rw [hlen] at hj
      have hc := (hV j hj).2
      simp only [add_plain] at hc
      unfold sw su sd sa
      rw [spots_at (V := V) hj]
      exact ⟨hc 0 (by omega), by have := hc 1 (by omega); rwa [← Nat.add_assoc] at this, by have := hc 2 (by omega); rwa [← Nat.add_assoc] at this, by have := hc 3 (by omega); rwa [← Nat.add_assoc] at this⟩
    · unfold sa
      rw [spots_at (V := V) hi]
      exact (hV i hi).1
end
end Go.Proofs.Ytnhbegdoedbpeaa
