/-
  A row of wire's values that came in, opened: each value's five cells, what its bytes and its row read as.
-/
import Derived.Test.YtkjndgnjilfobaaVals
import Derived.Test.YtkjndgnjilfobaaProg
import Derived.Deep.Slices
import Derived.SizedLaws
import Derived.ChangeSame
namespace Go.Proofs.Ytkjndgnjilfobaa
open Go.RowKit Go.ChangeShapes Go.WideShapes

theorem weights_all_mem {H : Type} {P : Program} {e : TypeId} : ∀ {l : List (DataW H)} {d : DataW H}, d ∈ l → ∀ n ∈ d.weights P e, n ∈ DataW.weightsAll P e l
  | d' :: r, d, hd, n, hn => by
    simp only [DataW.weightsAll, List.mem_append]
    rcases List.mem_cons.1 hd with rfl | h
    · exact Or.inl hn
    · exact Or.inr (weights_all_mem h n hn)

section
variable {H : Type} {enc : TypeId × Value → H} {w : World} {held : Bool}

/-- a slice of numbers inside a datum -/
theorem open_row {t e : TypeId} {k : IntKind} {fuel : Nat} {v : Value} {y : DataW H × List MemPlace} (ht : Try.prog.underlying t = some (.slice e)) (he : Try.prog.underlying e = some (.int k)) (hc : Try.prog.cellsOf e = 1)
    (h : DataW.trod enc Try.prog w 0 (fun _ => true) held fuel t [v] = some y) {by_ : Nat} (hby : Try.prog.bytesOf e = by_) (hb : 0 < by_) (hs : ∀ x ∈ y.1.weights Try.prog t, x ≤ reachBytes) :
    ∃ a len cap zs, v = .slice a len cap ∧ RowIn k w a len cap zs ∧ cap ≤ 140737488351232 := by
  rcases open_ints ht he hc h with ⟨hcs, _⟩ | ⟨x, l, c, zs, hcs, _, hl, hm, hz, hy, hcell, hwz⟩
  · obtain rfl : v = .slice none 0 0 := by simpa using hcs
    exact ⟨none, 0, 0, [], rfl, .inl ⟨rfl, rfl, rfl, rfl⟩, by omega⟩
  · obtain rfl : v = .slice (some x) l c := by simpa using hcs
    have hz' : zs.length = c := by simpa using hz
    refine ⟨some x, l, c, zs, rfl, .inr ⟨x, rfl, hl, hm, hz', hcell, hwz⟩, ?_⟩
    have h1 := hs ((lits k (zs.take l) : List (DataW H)).length + (lits k (zs.drop l) : List (DataW H)).length |> (· * Try.prog.bytesOf e)) (by
      rw [hy]
      simp only [DataW.weights, ht]
      exact List.mem_cons_self)
    simp only [lits, List.length_map, List.length_take, List.length_drop, hby, reachBytes] at h1
    rw [show min l zs.length + (zs.length - l) = c by omega] at h1
    have : c * 1 ≤ c * by_ := Nat.mul_le_mul_left c hb
    omega

def RV.cells (v : RV) : List Value := [.int .u64 (v.n : Nat), .int .i64 v.i, .bool v.f, .slice v.bA v.bn v.bc, .slice v.lA v.ln v.lc]
theorem bound_u64 {a : Int} (h : (Lit.int .u64 a).wf = true) : 0 ≤ a ∧ a < 18446744073709551616 := by
  have h1 : IntKind.u64.min = 0 := by decide
  have h2 : IntKind.u64.max = 18446744073709551615 := by decide
  simp only [Lit.wf, h1, h2, Bool.and_eq_true, decide_eq_true_eq] at h
  omega
theorem bound_i64 {a : Int} (h : (Lit.int .i64 a).wf = true) : -9223372036854775808 ≤ a ∧ a ≤ 9223372036854775807 := by
  have h1 : IntKind.i64.min = -9223372036854775808 := by decide
  have h2 : IntKind.i64.max = 9223372036854775807 := by decide
  simpa only [Lit.wf, h1, h2, Bool.and_eq_true, decide_eq_true_eq] using h

theorem open_val {fuel : Nat} {cs : List Value} {y : DataW H × List MemPlace} (h : DataW.trod enc Try.prog w 0 (fun _ => true) held fuel 42 cs = some y) (hs : ∀ x ∈ y.1.weights Try.prog 42, x ≤ reachBytes) :
    ∃ v : RV, cs = v.cells ∧ v.ok w := by
  obtain ⟨xs, m, rfl, rfl, hlen, hxl, hf⟩ := DataW.trod_struct Try.underlying42 h
  have hl5 : cs.length = 5 := hlen.trans (by kernel_rfl)
  have ce : Try.prog.cellsOf 42 = 5 := by kernel_rfl
  have c1 : Try.prog.cellsOf 39 = 1 := by kernel_rfl
  have c2 : Try.prog.cellsOf 3 = 1 := by kernel_rfl
  have c3 : Try.prog.cellsOf 4 = 1 := by kernel_rfl
  have c4 : Try.prog.cellsOf 25 = 1 := by kernel_rfl
  have c5 : Try.prog.cellsOf 40 = 1 := by kernel_rfl
  match xs, hxl, cs, hl5 with
  | [y0, y1, y2, y3, y4], _, [v0, v1, v2, v3, v4], _ =>
    have g0 := hf 0 _ rfl
    have g1 := hf 1 _ rfl
    have g2 := hf 2 _ rfl
    have g3 := hf 3 _ rfl
    have g4 := hf 4 _ rfl
    simp [c1, c2, c3, c4, c5] at g0 g1 g2 g3 g4
    have hw : ∀ x, x ∈ y3.1.weights Try.prog 25 ∨ x ∈ y4.1.weights Try.prog 40 → x ≤ reachBytes := fun x hx => hs x (by
      simp only [DataW.weights, Try.underlying42, List.map_cons, List.map_nil, DataW.weightsEach, List.mem_append]
      rcases hx with hx | hx
      · exact .inr (.inr (.inr (.inl hx)))
      · exact .inr (.inr (.inr (.inr (.inl hx)))))
    obtain ⟨n0, e0, -, w0⟩ := DataW.trod_int Try.underlying39 g0
    obtain ⟨n1, e1, -, w1⟩ := DataW.trod_int Try.underlying3 g1
    obtain ⟨b2, e2, -⟩ := DataW.trod_bool Try.underlying4 g2
    obtain ⟨a3, l3, k3, z3, rfl, r3, q3⟩ := open_row Try.underlying25 Try.underlying5 (by kernel_rfl) g3 (by_ := 1) (by kernel_rfl) (by omega) (fun x hx => hw x (.inl hx))
    obtain ⟨a4, l4, k4, z4, rfl, r4, q4⟩ := open_row Try.underlying40 Try.underlying39 (by kernel_rfl) g4 (by_ := 8) (by kernel_rfl) (by omega) (fun x hx => hw x (.inr hx))
    obtain rfl : v0 = .int .u64 n0 := by simpa using e0
    obtain rfl : v1 = .int .i64 n1 := by simpa using e1
    obtain rfl : v2 = .bool b2 := by simpa using e2
    have u0 := bound_u64 w0
    refine ⟨⟨n0.toNat, n1, b2, a3, l3, k3, fun i => (z3.getD i 0).toNat, a4, l4, k4, fun i => (z4.getD i 0).toNat⟩, ?_, ?_⟩
    · unfold RV.cells
      dsimp only
      rw [Int.toNat_of_nonneg u0.1]
    · exact ⟨by dsimp only; omega, bound_i64 w1, ⟨r3.bytes, r3.nil, Nat.le_trans r3.bd.1 q3, r3.bd⟩, ⟨r4.longs, r4.nil, Nat.le_trans r4.bd.1 q4, r4.bd⟩⟩

/-- a row of values that came in -/
theorem open_vals {fuel : Nat} {A : Option Addr} {n c : Nat} {y : DataW H × List MemPlace} (h : DataW.trod enc Try.prog w 0 (fun _ => true) held fuel 22 [.slice A n c] = some y) (hs : ∀ x ∈ y.1.weights Try.prog 22, x ≤ reachBytes) :
    ∃ V : Nat → RV, ValsIn w A n c V := by
  have ce : Try.prog.cellsOf 42 = 5 := by kernel_rfl
  rcases Go.Deep.open_slice Try.underlying22 h with ⟨hcs, _⟩ | ⟨a, len, cap, m, q, D, Pl, hcs, _, hl, hm, hmm, rfl, hx⟩
  · have e : Value.slice A n c = .slice none 0 0 := by simpa using hcs
    cases e
    exact ⟨fun _ => default, Vals.zero _ _ _, fun _ => ⟨rfl, rfl⟩, ⟨by omega, by omega⟩, by omega⟩
  · have e : Value.slice A n c = .slice (some a) len cap := by simpa using hcs
    cases e
    obtain rfl : m = c := by simpa using hmm
    have hsz : m * Try.prog.bytesOf 42 ≤ reachBytes := by
      have := hs ((n + (m - n)) * Try.prog.bytesOf 42) (by
        simp only [DataW.weights, Try.underlying22, List.length_map, List.length_range]
        exact List.mem_cons_self)
      rwa [show n + (m - n) = m by omega] at this
    have hby : Try.prog.bytesOf 42 = 72 := by kernel_rfl
    rw [hby] at hsz
    have hw : ∀ i, i < n → ∀ x ∈ (D i).weights Try.prog 42, x ≤ reachBytes := fun i hi x hx => hs x (by
      simp only [DataW.weights, Try.underlying22, List.mem_cons, List.mem_append]
      exact .inr (.inl (weights_all_mem (List.mem_map.2 ⟨i, List.mem_range.2 hi, rfl⟩) x hx)))
    have each : ∀ i, i < n → ∃ v : RV, v.ok w ∧ ∀ k, k < 5 → w.cell? (a.add (i * 5 + k)) = v.cells[k]? := fun i hi => by
      obtain ⟨cs', h1, h2⟩ := hx i (by omega)
      obtain ⟨v, rfl, hv⟩ := open_val h2 (hw i hi)
      rw [ce] at h1
      obtain ⟨_, _, hcell⟩ := World.cells?_some h1
      exact ⟨v, hv, fun k hk => by have := hcell k hk; rwa [Go.Deep.add_add] at this⟩
    obtain ⟨V, hV⟩ := Go.Deep.choose_lt each
    refine ⟨V, ⟨fun j hj => (hV j hj).1, fun hn => ?_⟩, (fun e => by cases e), ⟨hl, by simp only [maxLen] at hm; omega⟩, by simp only [reachBytes] at hsz; omega⟩
    have h0 := (hV 0 hn).2 0 (by omega)
    have hb : a.block < w.heap.size := by
      have := lt_of_cell (h0.trans (show (V 0).cells[0]? = some _ from rfl))
      rwa [block_of_add] at this
    obtain ⟨b, off, spot⟩ := a
    have hspot : spot = none := by
      have := World.cell?_spot (h0.trans (show (V 0).cells[0]? = some _ from rfl))
      simpa [Addr.add] using this
    subst hspot
    refine ⟨b, off, rfl, hb, fun j hj => ?_⟩
    have hc := (hV j hj).2
    simp only [add_plain] at hc
    exact ⟨hc 0 (by omega), by have := hc 1 (by omega); rwa [← Nat.add_assoc] at this, by have := hc 2 (by omega); rwa [← Nat.add_assoc] at this, by have := hc 3 (by omega); rwa [← Nat.add_assoc] at this, by have := hc 4 (by omega); rwa [← Nat.add_assoc] at this⟩
end
end Go.Proofs.Ytkjndgnjilfobaa
