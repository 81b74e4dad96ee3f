/-
  A document's nodes as they lie: 51 cells each; what is the same; a document that came in, opened.
-/
import Derived.Test.YtmodegkpfdlccaaProg
import Derived.Test.YtmodegkpfdlccaaNums
import Derived.Test.YtmodegkpfdlccaaLits
import Derived.MapViews
import Derived.DeepKeys2
import Derived.DeepKeys3
import Derived.Deep.Slices
import Derived.SizedLaws
import Derived.ChangeSame
namespace Go.Proofs.Ytmodegkpfdlccaa
open Go.RowKit Go.ChangeShapes Go.WideShapes

/-- a node as it lies -/
structure RN where
  key : Int
  depth : Int
  kind : Int
  style : List Lit
  text : List UInt8
  deriving Inhabited
def RN.lits (v : RN) : List Lit := .int .i64 v.key :: .int .i64 v.depth :: .int .u8 v.kind :: (v.style ++ [.string v.text])
def RN.cells (v : RN) : List Value := v.lits.map Lit.toCell
def RN.val (v : RN) : Value := .agg v.cells.toArray

set_option maxRecDepth 100000 in
theorem RN.lits_inj {u v : RN} (h : u.lits = v.lits) : u = v := by
  obtain ⟨a, b, c, s, t⟩ := u
  obtain ⟨a', b', c', s', t'⟩ := v
  simp only [RN.lits, List.cons.injEq, Lit.int.injEq, true_and] at h
  obtain ⟨rfl, rfl, rfl, h⟩ := h
  have h1 := List.append_inj_left' h rfl
  have h2 := List.append_inj_right' h rfl
  simp only [List.cons.injEq, Lit.string.injEq, and_true] at h2
  rw [h1, h2]

set_option maxRecDepth 100000 in
theorem node_key : Try.prog.keyTypeAt 6 32 = true := by kernel_rfl
set_option maxRecDepth 100000 in
theorem style_key : Try.prog.keyTypeAt 5 30 = true := by kernel_rfl
set_option maxRecDepth 100000 in
theorem node_tiled : Try.prog.tiled 6 32 = true := by kernel_rfl
set_option maxRecDepth 100000 in
theorem node_cells : Try.prog.cellsOf 32 = 51 := by kernel_rfl

set_option maxRecDepth 100000 in
theorem node_bytes : Try.prog.bytesOf 32 = 360 := by kernel_rfl

section
variable {H : Type} {enc : TypeId × Value → H} {w : World} {held : Bool} {base : Nat} {sp : Nat → Bool}

/-- what is known of a node as it lies -/
structure RN.ok (v : RN) : Prop where
  lits : Try.prog.keyLits 6 32 v.cells = some v.lits
  style : Try.prog.keyLits 5 30 (v.style.map Lit.toCell) = some v.style
  key : -9223372036854775808 ≤ v.key ∧ v.key ≤ 9223372036854775807
  depth : -9223372036854775808 ≤ v.depth ∧ v.depth ≤ 9223372036854775807
  kind : 0 ≤ v.kind ∧ v.kind < 256
  text : v.text.length ≤ 9223372036854775807

set_option maxRecDepth 100000 in
theorem open_node {fuel : Nat} {cs : List Value} {y : DataW H × List MemPlace} (h : DataW.trod enc Try.prog w base sp held fuel 32 cs = some y) :
    ∃ v : RN, cs = v.cells ∧ v.ok ∧ y.1.flat = v.lits := by
  have hk := (keyLits_of_trod 6 _ node_key fuel cs y h).1
  obtain ⟨xs, m, rfl, rfl, hlen, hxl, hf⟩ := DataW.trod_struct Try.underlying32 h
  have c1 : Try.prog.cellsOf 3 = 1 := by kernel_rfl
  have c2 : Try.prog.cellsOf 5 = 1 := by kernel_rfl
  have c3 : Try.prog.cellsOf 9 = 1 := by kernel_rfl
  have c4 := style_cells
  match xs, hxl with
  | [y0, y1, y2, y3, y4], _ =>
    have g0 := hf 0 _ rfl
    have g1 := hf 1 _ rfl
    have g2 := hf 2 _ rfl
    have g3 := hf 3 _ rfl
    have g4 := hf 4 _ rfl
    simp [c1, c2, c3, c4] at g0 g1 g2 g3 g4
    obtain ⟨n0, e0, q0, w0⟩ := DataW.trod_int Try.underlying3 g0
    obtain ⟨n1, e1, q1, w1⟩ := DataW.trod_int Try.underlying3 g1
    obtain ⟨n2, e2, q2, w2⟩ := DataW.trod_int Try.underlying5 g2
    have k3 := (keyLits_of_trod 5 _ style_key _ _ _ g3).1
    obtain ⟨s4, e4, q4, w4⟩ := DataW.trod_string Try.underlying9 g4
    subst q0 q1 q2 q4
    have hl : DataW.flat (.agg ([(DataW.lit (.int .i64 n0), ([] : List MemPlace)), (.lit (.int .i64 n1), []), (.lit (.int .u8 n2), []), y3, (.lit (.string s4.data.toList), [])].map (·.1)) : DataW H) = RN.lits ⟨n0, n1, n2, y3.1.flat, s4.data.toList⟩ := by
      simp [DataW.flat, DataW.flatAll, RN.lits]
    have hc := cells_of_lits 6 _ node_tiled 6 _ _ hk
    have hs := cells_of_lits 5 _ (by kernel_rfl) 5 _ _ k3
    rw [hl] at hk hc
    refine ⟨⟨n0, n1, n2, y3.1.flat, s4.data.toList⟩, hc, ⟨?_, ?_, i64_in w0, i64_in w1, u8_in w2, ?_⟩, hl⟩
    · rw [← hk, hc]; rfl
    · rw [← hs]; exact k3
    · simpa [maxLen] using w4
end

set_option maxRecDepth 100000 in
theorem RN.ok.len {v : RN} (h : v.ok) : v.cells.length = 51 := by
  have h1 := h.lits
  rw [show (6 : Nat) = 5 + 1 from rfl] at h1
  unfold Program.keyLits at h1
  rw [Try.underlying32] at h1
  simp only at h1
  split at h1
  · rename_i h2
    exact h2.1.trans node_cells
  · cases h1

set_option maxRecDepth 100000 in
theorem RN.ok.style_len {v : RN} (h : v.ok) : v.style.length = 47 := by
  have h1 := h.len
  simp [RN.cells, RN.lits] at h1
  omega
set_option maxRecDepth 100000 in
theorem RN.ok.last {v : RN} (h : v.ok) : v.cells[50]? = some (.string ⟨v.text.toArray⟩) := by
  have h1 := h.style_len
  simp [RN.cells, RN.lits, h1, Lit.toCell]

/-- a node stands there -/
def NodeAt (w : World) (b o : Nat) (v : RN) : Prop := ∀ k, k < 51 → w.cell? ⟨b, o + k, none⟩ = v.cells[k]?
/-- a row of nodes -/
def Nodes (w : World) (A : Option Addr) (n : Nat) (N : Nat → RN) : Prop :=
  (∀ j, j < n → (N j).ok) ∧ (0 < n → ∃ b off, A = some ⟨b, off, none⟩ ∧ b < w.heap.size ∧ ∀ j, j < n → NodeAt w b (off + j * 51) (N j))
def NodesIn (w : World) (A : Option Addr) (n c : Nat) (N : Nat → RN) : Prop :=
  Nodes w A n N ∧ (A = none → n = 0 ∧ c = 0) ∧ (n ≤ c ∧ c ≤ 9223372036854775807) ∧ n * 360 ≤ 140737488351232

set_option maxRecDepth 100000 in
theorem NodeAt.keep {w w' : World} {b o : Nat} {v : RN} (h : NodeAt w b o v) (hk : ∀ o, w'.cell? ⟨b, o, none⟩ = w.cell? ⟨b, o, none⟩) : NodeAt w' b o v := fun k hk' => (hk _).trans (h k hk')
set_option maxRecDepth 100000 in
theorem Nodes.keep {w w' : World} {A : Option Addr} {n : Nat} {N : Nat → RN} (h : Nodes w A n N) (hs : w.heap.size ≤ w'.heap.size) (hk : ∀ p : Addr, p.block < w.heap.size → w'.cell? p = w.cell? p) : Nodes w' A n N :=
  ⟨h.1, fun hn => by
    obtain ⟨b, off, e, hb, hc⟩ := h.2 hn
    exact ⟨b, off, e, by omega, fun j hj => (hc j hj).keep fun o => hk ⟨b, o, none⟩ hb⟩⟩
set_option maxRecDepth 100000 in
theorem Nodes.below {w w' : World} {A : Option Addr} {n : Nat} {N : Nat → RN} (h : Nodes w A n N) (hb : Below w.heap.size w w') : Nodes w' A n N := h.keep hb.size fun _ hp => hb.cell hp
set_option maxRecDepth 100000 in
theorem Nodes.zero (w : World) (A : Option Addr) (N : Nat → RN) : Nodes w A 0 N := ⟨fun _ h => absurd h (by omega), fun h => absurd h (by omega)⟩
set_option maxRecDepth 100000 in
theorem Nodes.take {w : World} {A : Option Addr} {n m : Nat} {N : Nat → RN} (h : Nodes w A n N) (hm : m ≤ n) : Nodes w A m N :=
  ⟨fun j hj => h.1 j (by omega), fun h0 => let ⟨b, off, e, hb, hc⟩ := h.2 (by omega); ⟨b, off, e, hb, fun j hj => hc j (by omega)⟩⟩

section
variable {H : Type} {enc : TypeId × Value → H} {w : World} {held : Bool}

set_option maxRecDepth 100000 in
theorem weights_all_mem {P : Program} {e : TypeId} : ∀ {l : List (DataW H)} {d : DataW H}, d ∈ l → ∀ n ∈ d.weights P e, n ∈ DataW.weightsAll P e l
  | d' :: r, d, hd, n, hn => by
    simp only [DataW.weightsAll, List.mem_append]
    rcases List.mem_cons.1 hd with rfl | h
    · exact Or.inl hn
    · exact Or.inr (weights_all_mem h n hn)

set_option maxRecDepth 100000 in
/-- a row of nodes that came in -/
theorem open_nodes {fuel : Nat} {A : Option Addr} {n c : Nat} {y : DataW H × List MemPlace} (h : DataW.trod enc Try.prog w 0 (fun _ => true) held fuel 22 [.slice A n c] = some y) (hs : ∀ x ∈ y.1.weights Try.prog 22, x ≤ reachBytes) :
    ∃ N : Nat → RN, NodesIn w A n c N := by
  have ce := node_cells
  rcases Go.Deep.open_slice Try.underlying22 h with ⟨hcs, _⟩ | ⟨a, len, cap, m, q, D, Pl, hcs, _, hl, hm, hmm, rfl, hx⟩
  · have e : Value.slice A n c = .slice none 0 0 := by simpa using hcs
    cases e
    exact ⟨fun _ => default, Nodes.zero _ _ _, fun _ => ⟨rfl, rfl⟩, ⟨by omega, by omega⟩, by rw [Nat.zero_mul]; exact Nat.zero_le _⟩
  · have e : Value.slice A n c = .slice (some a) len cap := by simpa using hcs
    cases e
    obtain rfl : m = c := by simpa using hmm
    have hsz : m * Try.prog.bytesOf 32 ≤ reachBytes := by
      have := hs ((n + (m - n)) * Try.prog.bytesOf 32) (by
        simp only [DataW.weights, Try.underlying22, List.length_map, List.length_range]
        exact List.mem_cons_self)
      rwa [show n + (m - n) = m by omega] at this
    rw [node_bytes] at hsz
    have each : ∀ i, i < n → ∃ v : RN, v.ok ∧ ∀ k, k < 51 → w.cell? (a.add (i * 51 + k)) = v.cells[k]? := fun i hi => by
      obtain ⟨cs', h1, h2⟩ := hx i (by omega)
      obtain ⟨v, rfl, hv, _⟩ := open_node h2
      rw [ce] at h1
      obtain ⟨_, _, hcell⟩ := World.cells?_some h1
      exact ⟨v, hv, fun k hk => by have := hcell k hk; rwa [Go.Deep.add_add] at this⟩
    obtain ⟨N, hN⟩ := Go.Deep.choose_lt each
    refine ⟨N, ⟨fun j hj => (hN j hj).1, fun hn => ?_⟩, (fun e => by cases e), ⟨hl, by simp only [maxLen] at hm; omega⟩, Nat.le_trans (Nat.mul_le_mul_right 360 hl) hsz⟩
    have h0 := (hN 0 hn).2 0 (by omega)
    have hb : a.block < w.heap.size := by
      have := lt_of_cell (h0.trans (show (N 0).cells[0]? = some _ from rfl))
      rwa [block_of_add] at this
    obtain ⟨b, off, spot⟩ := a
    have hspot : spot = none := by
      have := World.cell?_spot (h0.trans (show (N 0).cells[0]? = some _ from rfl))
      simpa [Addr.add] using this
    subst hspot
    refine ⟨b, off, rfl, hb, fun j hj k hk => ?_⟩
    have hc := (hN j hj).2 k hk
    simp only [add_plain] at hc
    rwa [← Nat.add_assoc] at hc

set_option maxRecDepth 100000 in
/-- a document that came in -/
theorem open_doc {fuel : Nat} {cs : List Value} {y : DataW H × List MemPlace} (h : DataW.trod enc Try.prog w 0 (fun _ => true) held fuel 24 cs = some y) (hs : ∀ x ∈ y.1.weights Try.prog 24, x ≤ reachBytes) :
    ∃ (A : Option Addr) (n c : Nat) (next : Int) (N : Nat → RN), cs = [.slice A n c, .int .i64 next] ∧ NodesIn w A n c N ∧ -9223372036854775808 ≤ next ∧ next ≤ 9223372036854775807 := by
  obtain ⟨xs, m, rfl, rfl, hlen, hxl, hf⟩ := DataW.trod_struct Try.underlying24 h
  have c1 : Try.prog.cellsOf 3 = 1 := by kernel_rfl
  have c2 : Try.prog.cellsOf 22 = 1 := by kernel_rfl
  have hl2 : cs.length = 2 := hlen.trans (by kernel_rfl)
  match xs, hxl, cs, hl2 with
  | [y0, y1], _, [v0, v1], _ =>
    have g0 := hf 0 _ rfl
    have g1 := hf 1 _ rfl
    simp [c1, c2] at g0 g1
    have hw : ∀ x, x ∈ y0.1.weights Try.prog 22 → x ≤ reachBytes := fun x hx => hs x (by
      simp only [DataW.weights, Try.underlying24, List.map_cons, List.map_nil, DataW.weightsEach, List.mem_append]
      exact .inl hx)
    obtain ⟨n1, e1, -, w1⟩ := DataW.trod_int Try.underlying3 g1
    obtain rfl : v1 = .int .i64 n1 := by simpa using e1
    have b1 := i64_in w1
    rcases Go.Deep.open_slice Try.underlying22 g0 with ⟨hcs, _⟩ | ⟨a, len, cap, _, _, _, _, hcs, _⟩
    · obtain rfl : v0 = .slice none 0 0 := by simpa using hcs
      obtain ⟨N, hN⟩ := open_nodes g0 hw
      exact ⟨_, _, _, n1, N, rfl, hN, b1⟩
    · obtain rfl : v0 = .slice (some a) len cap := by simpa using hcs
      obtain ⟨N, hN⟩ := open_nodes g0 hw
      exact ⟨_, _, _, n1, N, rfl, hN, b1⟩
/-- a document, as an argument -/
def docV (A : Option Addr) (n c : Nat) (x : Int) : Value := .agg #[.slice A n c, .int .i64 x]
def DocIn (w : World) (A : Option Addr) (n c : Nat) (x : Int) (N : Nat → RN) : Prop := NodesIn w A n c N ∧ -9223372036854775808 ≤ x ∧ x ≤ 9223372036854775807
set_option maxRecDepth 100000 in
theorem open_doc_arg {r : Reach} {b : Nat} {v : Value} {d : DataW H} {p : List MemPlace} (hv : Value.okWide Try.prog w r b 24 v) (h : DataW.Trod enc Try.prog w 0 (fun _ => true) held 24 v d p) (hs : ∀ x ∈ d.weights Try.prog 24, x ≤ reachBytes) :
    ∃ A n c x N, v = docV A n c x ∧ DocIn w A n c x N := by
  obtain ⟨fuel, hf⟩ := h
  obtain ⟨cs, rfl, _⟩ := okWide_struct Try.underlying24 hv
  obtain ⟨A, n, c, x, N, e, hN, hx⟩ := open_doc hf hs
  refine ⟨A, n, c, x, N, ?_, hN, hx⟩
  obtain ⟨l⟩ := cs
  simp only [Value.cells] at e
  rw [docV, e]
end

set_option maxRecDepth 100000 in
/-- two nodes compared -/
theorem run_node_eq {u v : RN} (hu : u.ok) (hv : v.ok) (w : World) : ∃ r : Bool, (Op.equalIn 10000 32 u.val v.val).run Try.prog w = .ok r w ∧ (r = true ↔ u = v) := by
  have fm : ∀ {x : RN}, x.ok → x.val.formed Try.prog 32 = true := fun {x} hx => by
    simp [Value.formed, RN.val, Try.underlying32, hx.len, node_cells]
  obtain ⟨r, hr, hiff⟩ := run_equalIn_deep 9994 6 32 node_key w 6 6 u.val v.val u.lits v.lits (fm hu) (fm hv) (by simpa [RN.val, Value.cells] using hu.lits) (by simpa [RN.val, Value.cells] using hv.lits)
  exact ⟨r, hr, hiff.trans ⟨RN.lits_inj, fun e => by rw [e]⟩⟩
end Go.Proofs.Ytmodegkpfdlccaa
