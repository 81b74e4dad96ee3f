/-
  The landed code: cut and put of mutate.
-/
import Derived.Test.YtmodegkpfdlccaaMutA
import Derived.Test.YtmodegkpfdlccaaNodeRows
import Derived.Deep.RegionHeld3
import Derived.Deep.DrawnRows
import Derived.Laws.ResultCell
import Derived.Test.YtmodegkpfdlccaaCopied
namespace Go.Proofs.Ytmodegkpfdlccaa

section
open Go.RowKit
attribute [local go_sem ↓] Go.wp_at_zero Go.wp_at_succ

theorem results_doc_tmp {P : Program} {fn : Func} {p u : Tmp} {ty : TypeId} (h : fn.results = #[.cell p ty, .tmp u]) (tmps : Array Value) (w : World) (g : Nat) (t : TypeId) (cs : Array Value) (fr : Nat × Nat) (d : TypeDesc)
    (hp : tmps.getD p undef = .pointer (some ⟨g, 0, none⟩)) (hg : w.heap[g]? = some (.cells cs t fr))
    (hu : P.underlying ty = some d) (hd : (match d with | .struct _ | .array _ _ => true | _ => false) = true) (hi : (P.info? ty).map (·.size) = some cs.size) :
    (results fn tmps).run P w = .ok (.tuple #[.agg cs, tmps.getD u undef]) w := by
  rw [results_cell_tmp h, hp]
  simp [asAddr, run_loadVar_row w g t ty cs fr d hg hu hd hi, Result.andThen]

/-- the place of a tree that can be taken away -/
def cutAt (N : Nat → RN) (n : Nat) (key : Int) : Option Nat := match findN N n key with
  | none => none
  | some a => if 0 < a then some a else none
theorem cutAt_some {N : Nat → RN} {n a : Nat} {key : Int} (h : cutAt N n key = some a) : findN N n key = some a ∧ 0 < a ∧ a < n := by
  unfold cutAt at h
  cases e : findN N n key with
  | none => rw [e] at h; cases h
  | some j =>
    rw [e] at h
    dsimp only at h
    split at h
    · cases h
      exact ⟨rfl, by assumption, (find_some e).1⟩
    · cases h
theorem sizeN_pos {N : Nat → RN} {n a : Nat} (h : a < n) : 0 < sizeN N n a ∧ a + sizeN N n a ≤ n := by
  have := endOf_gt (dps N) h
  unfold sizeN
  omega
/-- a document of its own memory -/
def DocNew (w w' : World) (B : Option Addr) (m d : Nat) (y : Int) (M : Nat → RN) : Prop := DocIn w' B m d y M ∧ OwnN w' B m w.heap.size
/-- what was taken away, and what is left -/
def CutIs (N : Nat → RN) (n : Nat) (x : Int) (w : World) (R : Option Nat) (e : Ending) (w' : World) : Prop := match R with
  | none => e = wrong 70
  | some a => ∃ B d ad c', e = .returned (.tuple #[docV B (n - sizeN N n a) d x, .slice (some ad) (sizeN N n a) c']) ∧ DocNew w w' B (n - sizeN N n a) d x (gapped N a (sizeN N n a)) ∧ Nodes w' (some ad) (sizeN N n a) fun i => N (a + i)

/-- a row of slices of nodes, just made -/
theorem nps_two {W : World} {a1 a2 : Addr} {n1 c1 n2 c2 : Nat} {N1 N2 : Nat → RN} (h1 : Nodes W (some a1) n1 N1) (h2 : Nodes W (some a2) n2 N2) :
    NPs (W.alloc (.cells #[.slice (some a1) n1 c1, .slice (some a2) n2 c2] 22)) (some ⟨W.heap.size, 0, none⟩) 2 (fun j => if j = 0 then ⟨a1, n1, c1, N1⟩ else ⟨a2, n2, c2, N2⟩) := by
  have hb : Below W.heap.size W (W.alloc (.cells #[.slice (some a1) n1 c1, .slice (some a2) n2 c2] 22)) := (Below.refl _ _).alloc (Nat.le_refl _) _
  refine ⟨fun j hj => ?_, fun _ => ⟨_, 0, rfl, by simp, fun j hj => ?_⟩⟩
  · obtain rfl | rfl : j = 0 ∨ j = 1 := by omega
    · exact h1.below hb
    · exact h2.below hb
  · obtain rfl | rfl : j = 0 ∨ j = 1 := by omega
    · rw [World.cell?_alloc_new]; rfl
    · rw [World.cell?_alloc_new]; rfl
theorem gapped_cells (N : Nat → RN) (a k m : Nat) (hm : a + k ≤ m) : rowCells (gapped N a k) (m - k) = rowCells N a ++ rowCells (fun i => N (a + k + i)) (m - (a + k)) := by
  rw [show m - k = a + (m - (a + k)) by omega, rowCells_add, rowCells_same fun j hj => gapped_lt (N := N) (a := a) (k := k) hj]
  congr 1
  exact rowCells_same fun j _ => by rw [gapped_ge (by omega), show a + j + k = a + k + j by omega]
theorem gapped_ok {N : Nat → RN} {n a k : Nat} (h : ∀ j, j < n → (N j).ok) (hk : a + k ≤ n) : ∀ j, j < n - k → (gapped N a k j).ok := fun j hj => by
  rcases Nat.lt_or_ge j a with g | g
  · rw [gapped_lt g]; exact h j (by omega)
  · rw [gapped_ge g]; exact h _ (by omega)

theorem heap_set {W : World} {q : Addr} (v : Value) {k : Nat} (h : k ≠ q.block) : (W.setCell q v).heap[k]? = W.heap[k]? := Below.heap_setCell _ _ _ _ h
theorem Nodes.set {W : World} {A : Option Addr} {n : Nat} {N : Nat → RN} (h : Nodes W A n N) (q : Addr) (v : Value) (hq : ∀ b off, A = some ⟨b, off, none⟩ → b ≠ q.block) : Nodes (W.setCell q v) A n N :=
  ⟨h.1, fun hn => by
    obtain ⟨b, off, e, hb, hc⟩ := h.2 hn
    refine ⟨b, off, e, by simpa [World.setCell] using hb, fun j hj => (hc j hj).keep fun o => ?_⟩
    exact World.cell?_of_block (a := ⟨b, o, none⟩) (heap_set v (hq b off e))⟩
/-- a document out of a row that was made, behind two cells written -/
theorem doc_new {w W : World} {base g k cap q : Nat} {x : Int} {M : Nat → RN} (h : W.ownsRow base 32 51 (.slice (some ⟨g, 0, none⟩) k cap) k (rowCells M k)) (hM : ∀ j, j < k → (M j).ok) (hb : k ≤ 600) (hx : -9223372036854775808 ≤ x ∧ x ≤ 9223372036854775807) (h1 : w.heap.size ≤ base) (h2 : q < base) (u v : Value) :
    DocNew w ((W.setCell ⟨q, 0, none⟩ u).setCell ⟨q, 1, none⟩ v) (some ⟨g, 0, none⟩) k cap x M := by
  obtain ⟨d1, d2, cs, d3⟩ := nodes_of_own h hM hb
  have hg : ∀ b off, (some ⟨g, 0, none⟩ : Option Addr) = some ⟨b, off, none⟩ → b ≠ q := fun b off e => by
    simp only [Option.some.injEq, Addr.mk.injEq, and_true] at e
    omega
  refine ⟨⟨⟨(d1.1.set _ u hg).set _ v hg, d1.2⟩, hx⟩, fun _ => ⟨g, 0, cs, rfl, by omega, ?_⟩⟩
  rw [heap_set v (by show g ≠ q; omega), heap_set u (by show g ≠ q; omega)]
  exact d3
/-- where the walk of cut stands -/
structure Cutting (w : World) (A : Option Addr) (n c : Nat) (x : Int) (N : Nat → RN) (W : World) : Prop where
  below : Below w.heap.size w W
  size : w.heap.size + 2 ≤ W.heap.size
  box : DocBox W w.heap.size (.slice A n c) (.int .i64 x)
  doc : DocIn W A n c x N
  out : DocBox W (w.heap.size + 1) (.slice none 0 0) (.int .i64 0)
theorem Cutting.next {w W W' : World} {A : Option Addr} {n c : Nat} {x : Int} {N : Nat → RN} (h : Cutting w A n c x N W) (hb : Below W.heap.size W W') : Cutting w A n c x N W' :=
  ⟨h.below.trans (hb.mono h.below.size), Nat.le_trans h.size hb.size, h.box.keep (hb.block _ h.box.lt), h.doc.below hb, h.out.keep (hb.block _ h.out.lt)⟩

set_option maxRecDepth 100000 in
set_option maxHeartbeats 4000000 in
theorem cut_any (A : Option Addr) (n c : Nat) (x : Int) (N : Nat → RN) (key : Int) (w : World) (hD : DocIn w A n c x N) (hn : n ≤ 300) (hk1 : -9223372036854775808 ≤ key) (hk2 : key ≤ 9223372036854775807) :
    Calls Try.prog 37 #[docV A n c x, .int .i64 key] w fun e w' => CutIs N n x w (cutAt N n key) e w' ∧ Below w.heap.size w w' := by
  unfold docV
  have hc := hD.1.2.2.1
  have hx := hD.2
  have HB := Lib.hid (fun b off (e : A = some ⟨b, off, none⟩) (h0 : 0 < n) => by
    obtain ⟨b', off', e', hb, -⟩ := hD.1.1.2 h0
    rw [e] at e'
    simp only [Option.some.injEq, Addr.mk.injEq, and_true] at e'
    exact (show b < w.heap.size by rw [e'.1]; exact hb))
  have F := Lib.hid (fun W (h : DocIn W A n c x N) => find_any A n c x N key W h hk1 hk2)
  have EN := Lib.hid (fun (a : Int) W (h : DocIn W A n c x N) (h1 : -9223372036854775808 ≤ a) (h2 : a ≤ 9223372036854775807) => end_any A n c x N a W h h1 h2)
  have B0 : Hid (Cutting w A n c x N ((w.alloc (.cells #[.slice A n c, .int .i64 x] 24)).alloc (.cells #[.slice none 0 0, .int .i64 0] 24))) := Lib.hid (by
    have hb : Below w.heap.size w ((w.alloc (.cells #[.slice A n c, .int .i64 x] 24)).alloc (.cells #[.slice none 0 0, .int .i64 0] 24)) := ((Below.refl _ w).alloc (Nat.le_refl _) _).alloc (by simp) _
    exact ⟨hb, by simp, heap_alloc2_old w _ _, hD.below hb, heap_alloc2_new w _ _⟩)
  clear hD
  have CA : Hid (cutAt N n key = match findN N n key with
    | none => none
    | some a => if 0 < a then some a else none) := Lib.hid rfl
  generalize cutAt N n key = R at CA ⊢
  go_enter Try.func37, Try.ntmps37
  go_wp2_with fail
  obtain ⟨W0, hW0⟩ : ∃ W0, ((w.alloc (.cells #[.slice A n c, .int .i64 x] 24)).alloc (.cells #[.slice none 0 0, .int .i64 0] 24)) = W0 := ⟨_, rfl⟩
  rw [hW0] at B0 ⊢
  clear hW0
  have d0 := B0.out.box.c0
  have d1 := B0.out.box.c1
  refine (F.out _ B0.out.doc).mono ?_
  rintro e w1 ⟨r, rfl, hr, hb⟩
  have hr' := hr.uniq (find_is N n key)
  have B1 := Lib.hid (B0.out.next hb)
  clear hb hr d0 d1 F
  have d0 := B1.out.box.c0
  have d1 := B1.out.box.c1
  cases e : findN N n key with
  | none =>
    rw [e] at hr'
    subst hr'
    obtain rfl : R = none := by rw [CA.out, e]
    clear e CA
    go_wp2_with (go_at_call 24; refine (demand_no 70 _).mono ?_; rintro e w2 ⟨rfl, rfl⟩; unfold wrong)
    exact ⟨rfl, rfl, B1.out.below⟩
  | some a =>
    rw [e] at hr'
    subst hr'
    obtain ⟨hi, -⟩ := find_some e
    by_cases ha : 0 < a
    · obtain rfl : R = some a := by rw [CA.out, e]; exact if_pos ha
      have haz : (0 : Int) < a := by omega
      clear e CA
      obtain ⟨k1, k2⟩ := sizeN_pos (N := N) hi
      have EA : Hid (endAns N n a = ((a + sizeN N n a : Nat) : Int)) := Lib.hid (by
        unfold endAns
        rw [if_pos ⟨by omega, by omega⟩, Int.toNat_natCast]
        have := endOf_gt (dps N) hi
        unfold sizeN
        omega)
      have GC := Lib.hid (gapped_cells N a (sizeN N n a) n k2)
      have GO := Lib.hid (gapped_ok B1.out.doc.1.1.1 k2)
      generalize hkk : sizeN N n a = k at k1 k2 EA GC GO
      have HK := Lib.hid hkk
      clear hkk
      obtain ⟨b, off, rfl, -, -⟩ := B1.out.doc.1.1.2 (by omega)
      obtain ⟨a2, s2, t2⟩ := nodes_from b off n c (a + k) (by omega) hc.1
      obtain ⟨a3, s3, t3⟩ := nodes_mid b off n c a (a + k) (by omega) (by omega) hc.1
      have s1 := fun W => nodes_to (some ⟨b, off, none⟩) n c a (by omega) W
      have T2 := Lib.hid t2
      have T3 := Lib.hid t3
      clear t2 t3
      go_wp2_with (go_at_call 24; refine (demand_yes 70 _).mono ?_; rintro e w2 ⟨rfl, rfl⟩)
      refine (EN.out a _ B1.out.doc (by omega) (by omega)).mono ?_
      rintro e w3 ⟨rfl, hb⟩
      rw [EA.out]
      have B2 := Lib.hid (B1.out.next hb)
      clear hb d0 d1 EN
      have d0 := B2.out.box.c0
      have d1 := B2.out.box.c1
      have hz1 : ((a + k : Nat) : Int) ≤ n := by omega
      have hz2 : (a : Int) ≤ c := by omega
      have hz3 : (0 : Int) ≤ ((a + k : Nat) : Int) := by omega
      have hz4 : (a : Int) ≤ ((a + k : Nat) : Int) := by omega
      have hz5 : ((a + k : Nat) : Int) ≤ c := by omega
      generalize hq : a + k = q at *
      go_wp2_with fail
      have N1 := Lib.hid (B2.out.doc.1.1.take (m := a) (by omega))
      have N2 := Lib.hid (T2.out _ _ B2.out.doc.1.1)
      have N3 := Lib.hid (T3.out _ _ B2.out.doc.1.1)
      have hb3 : Below w3.heap.size w3 (w3.alloc (.cells #[.slice (some ⟨b, off, none⟩) a c, .slice (some a2) (n - q) (c - q)] 22)).drew := ((Below.refl _ _).alloc (Nat.le_refl _) _).drew
      have B3 := Lib.hid (B2.out.next hb3)
      have CC : Hid (Calls Try.prog 49 #[.slice (some ⟨w3.heap.size, 0, none⟩) 2 2] (w3.alloc (.cells #[.slice (some ⟨b, off, none⟩) a c, .slice (some a2) (n - q) (c - q)] 22)).drew (MadeN (w3.alloc (.cells #[.slice (some ⟨b, off, none⟩) a c, .slice (some a2) (n - q) (c - q)] 22)).drew (n - k) (rowCells (gapped N a k) (n - k)))) := Lib.hid (by
        have h := concatN_any _ 2 2 _ _ ((nps_two (c1 := c) (c2 := c - q) N1.out N2.out).below (Below.refl _ _).drew) (by decide) (by simpa using ha) (by decide) (by show 0 + a + (n - q) ≤ 600; omega)
        have e1 : totalP (fun j => if j = 0 then ⟨⟨b, off, none⟩, a, c, N⟩ else ⟨a2, n - q, c - q, fun i => N (q + i)⟩) 2 = n - k := by show 0 + a + (n - q) = n - k; omega
        have e2 : catP (fun j => if j = 0 then ⟨⟨b, off, none⟩, a, c, N⟩ else ⟨a2, n - q, c - q, fun i => N (q + i)⟩) 2 = rowCells (gapped N a k) (n - k) := by rw [GC.out]; rfl
        rwa [e1, e2] at h)
      clear hb3
      go_region_held3 (fun W' => W'.cell? ⟨w.heap.size, 0, none⟩ = some (.slice (some ⟨b, off, none⟩) n c) ∧ W'.cell? ⟨w.heap.size, 1, none⟩ = some (.int .i64 x))
        (first | go_keep)
        (first | (go_at_call 49; (with_reducible refine CC.out.mono ?_); rintro e w4 ⟨g, cap, rfl, ho, hb⟩; have B4 := Lib.hid (B3.out.next hb); have O4 := Lib.hid ho; have HB4 := Lib.hid hb; have p0 := B4.out.box.c0; have p1 := B4.out.box.c1; have q0 := B4.out.out.c0; have q1 := B4.out.out.c1; have qf0 := B4.out.out.f0; have qf1 := B4.out.out.f1; clear ho hb))
      go_wp2_with fail
      have hsz := B3.out.size
      refine bodyPost_ret (results_doc_tmp rfl _ _ (w.heap.size + 1) _ _ _ _ rfl (B4.out.out.put _ _) Try.underlying24 rfl (by kernel_rfl)) rfl ?_
      refine ⟨⟨some ⟨g, 0, none⟩, cap, a3, c - a, ?_, ?_, ?_⟩, ?_⟩
      · rw [HK.out, show k = q - a by omega]
        rfl
      · rw [HK.out]
        exact doc_new O4.out GO.out (by omega) hx (by have := hsz; omega) (by have := hsz; omega) _ _
      · rw [HK.out]
        have hd : Nodes _ (some ⟨b, off, none⟩) n N := ((B4.out.doc.1.1.set ⟨w.heap.size + 1, 0, none⟩ (.slice (some ⟨g, 0, none⟩) (n - k) cap) ?_).set ⟨w.heap.size + 1, 1, none⟩ (.int .i64 x) ?_)
        · have := T3.out _ _ hd
          rwa [show q - a = k by omega] at this
        all_goals
          intro b' off' e'
          have := HB.out b' off' e' (by omega)
          show b' ≠ w.heap.size + 1
          omega
      · exact (B4.out.below.setCell (p := ⟨w.heap.size + 1, 0, none⟩) (by show w.heap.size ≤ w.heap.size + 1; omega) _).setCell (p := ⟨w.heap.size + 1, 1, none⟩) (by show w.heap.size ≤ w.heap.size + 1; omega) _
    · obtain rfl : R = none := by rw [CA.out, e]; exact if_neg ha
      obtain rfl : a = 0 := by omega
      clear e CA
      go_wp2_with (go_at_call 24; refine (demand_no 70 _).mono ?_; rintro e w2 ⟨rfl, rfl⟩; unfold wrong)
      exact ⟨rfl, rfl, B1.out.below⟩
end

section
open Go.RowKit
attribute [local go_sem ↓] Go.wp_at_zero Go.wp_at_succ

/-- three slices of nodes, just made -/
theorem nps_three {W : World} {a1 a2 a3 : Addr} {n1 c1 n2 c2 n3 c3 : Nat} {N1 N2 N3 : Nat → RN} (h1 : Nodes W (some a1) n1 N1) (h2 : Nodes W (some a2) n2 N2) (h3 : Nodes W (some a3) n3 N3) :
    NPs (W.alloc (.cells #[.slice (some a1) n1 c1, .slice (some a2) n2 c2, .slice (some a3) n3 c3] 22)) (some ⟨W.heap.size, 0, none⟩) 3 (fun j => if j = 0 then ⟨a1, n1, c1, N1⟩ else if j = 1 then ⟨a2, n2, c2, N2⟩ else ⟨a3, n3, c3, N3⟩) := by
  have hb : Below W.heap.size W (W.alloc (.cells #[.slice (some a1) n1 c1, .slice (some a2) n2 c2, .slice (some a3) n3 c3] 22)) := (Below.refl _ _).alloc (Nat.le_refl _) _
  refine ⟨fun j hj => ?_, fun _ => ⟨_, 0, rfl, by simp, fun j hj => ?_⟩⟩
  · obtain rfl | rfl | rfl : j = 0 ∨ j = 1 ∨ j = 2 := by omega
    · exact h1.below hb
    · exact h2.below hb
    · exact h3.below hb
  · obtain rfl | rfl | rfl : j = 0 ∨ j = 1 ∨ j = 2 := by omega
    · rw [World.cell?_alloc_new]; rfl
    · rw [World.cell?_alloc_new]; rfl
    · rw [World.cell?_alloc_new]; rfl
theorem put_cells (N M : Nat → RN) (p k n : Nat) (hp : p ≤ n) : rowCells (putN N p k M) (n + k) = (rowCells N p ++ rowCells M k) ++ rowCells (fun i => N (p + i)) (n - p) := by
  rw [show n + k = p + k + (n - p) by omega, rowCells_add, rowCells_add, rowCells_same fun j hj => putN_lt (N := N) (M := M) (k := k) hj]
  congr 1
  · congr 1
    exact rowCells_same fun j hj => putN_in hj
  · exact rowCells_same fun j _ => by rw [show p + k + j = (p + j) + k by omega, putN_ge (by omega)]
theorem put_ok {N M : Nat → RN} {n p k : Nat} (h : ∀ j, j < n → (N j).ok) (h' : ∀ j, j < k → (M j).ok) (hp : p ≤ n) : ∀ j, j < n + k → (putN N p k M j).ok := fun j hj => by
  unfold putN
  split
  · exact h j (by omega)
  · split
    · exact h' _ (by omega)
    · exact h _ (by omega)
/-- where the walk of put stands -/
structure Putting (w : World) (A : Option Addr) (n c : Nat) (x : Int) (N : Nat → RN) (ad : Addr) (k : Nat) (M : Nat → RN) (W : World) : Prop where
  below : Below w.heap.size w W
  size : w.heap.size + 2 ≤ W.heap.size
  box : DocBox W w.heap.size (.slice A n c) (.int .i64 x)
  doc : DocIn W A n c x N
  out : DocBox W (w.heap.size + 1) (.slice none 0 0) (.int .i64 0)
  more : Nodes W (some ad) k M
  lo : ∀ b off, A = some ⟨b, off, none⟩ → 0 < n → b < w.heap.size
  lom : ad.block < w.heap.size
section
variable {w W W' : World} {A : Option Addr} {n c : Nat} {x : Int} {N : Nat → RN} {ad : Addr} {k : Nat} {M : Nat → RN}
theorem Putting.next (h : Putting w A n c x N ad k M W) (hb : Below W.heap.size W W') : Putting w A n c x N ad k M W' :=
  ⟨h.below.trans (hb.mono h.below.size), Nat.le_trans h.size hb.size, h.box.keep (hb.block _ h.box.lt), h.doc.below hb, h.out.keep (hb.block _ h.out.lt), h.more.below hb, h.lo, h.lom⟩
theorem Putting.drew (h : Putting w A n c x N ad k M W) : Putting w A n c x N ad k M W.drew := h.next (Below.refl _ _).drew
theorem Putting.alloc (h : Putting w A n c x N ad k M W) (o : Obj) : Putting w A n c x N ad k M (W.alloc o) := h.next ((Below.refl _ _).alloc (Nat.le_refl _) _)
theorem Nodes.set0 {W : World} {A : Option Addr} {n : Nat} {N : Nat → RN} (h : Nodes W A n N) (q : Addr) (v : Value) (hq : 0 < n → ∀ b off, A = some ⟨b, off, none⟩ → b ≠ q.block) : Nodes (W.setCell q v) A n N := by
  rcases Nat.eq_zero_or_pos n with rfl | h0
  · exact Nodes.zero _ _ _
  · exact h.set q v (hq h0)
theorem Putting.set (h : Putting w A n c x N ad k M W) (q : Addr) (v : Value) (hq : w.heap.size + 2 ≤ q.block) : Putting w A n c x N ad k M (W.setCell q v) :=
  ⟨h.below.setCell (by omega) v, by simpa [World.setCell] using h.size, h.box.keep (heap_set v (by omega)), ⟨⟨h.doc.1.1.set0 q v (fun h0 b off e => by have := h.lo b off e h0; omega), h.doc.1.2⟩, h.doc.2⟩, h.out.keep (heap_set v (by omega)),
    h.more.set0 q v (fun _ b off e => by have h1 := h.lom; simp only [Option.some.injEq] at e; rw [e] at h1; have h2 : b < w.heap.size := h1; omega), h.lo, h.lom⟩
theorem Putting.cells (h : Putting w A n c x N ad k M W) : W.cell? ⟨w.heap.size, 0, none⟩ = some (.slice A n c) ∧ W.cell? ⟨w.heap.size, 1, none⟩ = some (.int .i64 x) := ⟨h.box.c0, h.box.c1⟩
end
/-- the places where a kid may be put -/
def spotsN (N : Nat → RN) (n u : Nat) : List Nat := kidsOf (dps N) n u ++ [endOf (dps N) n u]
/-- what comes of it -/
def PutIs (N : Nat → RN) (n : Nat) (x : Int) (k : Nat) (M : Nat → RN) (w : World) (R : Option (Nat × Nat)) (e : Ending) (w' : World) : Prop := match R with
  | none => e = wrong 70
  | some (u, p) => ∃ B d, e = .returned (docV B (n + k) d x) ∧ DocNew w w' B (n + k) d x (putN N p k (levelN M ((N u).depth + 1)))

theorem row_drew {w : World} {B : Nat} {e : TypeId} {size n : Nat} {v : Value} {xs : List Value} (h : w.ownsRow B e size v n xs) : w.drew.ownsRow B e size v n xs := own_below h (Below.refl _ _).drew

theorem row_lower {w : World} {B B' : Nat} {e : TypeId} {size n : Nat} {v : Value} {xs : List Value} (h : w.ownsRow B e size v n xs) (hb : B' ≤ B) : w.ownsRow B' e size v n xs := by
  refine ⟨h.1, ?_⟩
  rcases h.2 with hn | ⟨g, cap, cur, rfl, hg, rest⟩
  · exact .inl hn
  · exact .inr ⟨g, cap, cur, rfl, Nat.le_trans hb hg, rest⟩
theorem NPs.drew {W : World} {A : Option Addr} {m : Nat} {P : Nat → NP} (h : NPs W A m P) : NPs W.drew A m P := h.below (Below.refl _ _).drew
theorem NPs.alloc {W : World} {A : Option Addr} {m : Nat} {P : Nat → NP} (h : NPs W A m P) (o : Obj) : NPs (W.alloc o) A m P := h.below ((Below.refl _ _).alloc (Nat.le_refl _) _)
/-- what was put together, in its box -/
structure Built (w : World) (A : Option Addr) (n c : Nat) (x : Int) (N : Nat → RN) (ad : Addr) (k : Nat) (M : Nat → RN) (W : World) (q g cap : Nat) (V : Nat → RN) : Prop where
  put : Putting w A n c x N ad k M W
  copy : Copied W g 0 (n + k) cap x V
  bx : DocBox W q (.slice (some ⟨g, 0, none⟩) (n + k) cap) (.int .i64 x)
  lq : w.heap.size + 2 ≤ q
  lg : w.heap.size + 2 ≤ g
theorem Built.next {w W W' : World} {A : Option Addr} {n c : Nat} {x : Int} {N : Nat → RN} {ad : Addr} {k : Nat} {M : Nat → RN} {q g cap : Nat} {V : Nat → RN} (h : Built w A n c x N ad k M W q g cap V) (hb : Below W.heap.size W W') : Built w A n c x N ad k M W' q g cap V :=
  ⟨h.put.next hb, h.copy.below hb, h.bx.below hb, h.lq, h.lg⟩
/-- so many of the nodes that were put are as deep as they are to be -/
def levelTo (M : Nat → RN) (d : Int) (i j : Nat) : RN := if j < i then levelN M d j else M j
theorem levelTo_all {N M : Nat → RN} {p k : Nat} {d : Int} : ∀ j, putN N p k (levelTo M d k) j = putN N p k (levelN M d) j := fun j => by
  unfold putN levelTo
  split
  · rfl
  · split
    · rw [if_pos (by omega)]
    · rfl
theorem Built.level {w W : World} {A : Option Addr} {n c : Nat} {x : Int} {N : Nat → RN} {ad : Addr} {k : Nat} {M : Nat → RN} {q g cap : Nat} {p i : Nat} {d v : Int} (h : Built w A n c x N ad k M W q g cap (putN N p k (levelTo M d i))) (hi : i < k) (hp : p ≤ n)
    (hv : v = d + (M i).depth - (M 0).depth) (hb : -9223372036854775808 ≤ v ∧ v ≤ 9223372036854775807) :
    Built w A n c x N ad k M (W.setCell ⟨g, (p + i) * 51 + 1, none⟩ (.int .i64 v)) q g cap (putN N p k (levelTo M d (i + 1))) := by
  have hne := box_row h.bx h.copy
  have e0 : putN N p k (levelTo M d i) (p + i) = M i := by rw [putN_in hi]; unfold levelTo; rw [if_neg (by omega)]
  have e1 : putN N p k (levelTo M d (i + 1)) (p + i) = { M i with depth := v } := by rw [putN_in hi]; unfold levelTo; rw [if_pos (by omega), hv]; rfl
  have ok := h.put.more.1 i hi
  refine ⟨h.put.set _ _ h.lg, ?_, h.bx.set (fun e => hne e.symm) _, h.lq, h.lg⟩
  have := copied_set (i := p + i) (k := 1) (M := putN N p k (levelTo M d (i + 1))) h.copy (by omega) (by omega) (.int .i64 v) (by rw [e1]; exact node_ok ok ok.key hb) (fun j hj => by
    unfold putN
    split
    · rfl
    · split
      · unfold levelTo
        rcases Nat.lt_trichotomy (j - p) i with c1 | c1 | c1
        · rw [if_pos (by omega), if_pos (by omega)]
        · omega
        · rw [if_neg (by omega), if_neg (by omega)]
      · rfl) (fun r hr => by
    rw [e1, e0]
    match r with
    | 0 => rfl
    | 1 => rfl
    | r + 2 => rw [if_neg (by omega)]; rfl)
  rwa [Nat.zero_add] at this
theorem copied_new {W : World} {base g k cap : Nat} {x : Int} {M : Nat → RN} (h : W.ownsRow base 32 51 (.slice (some ⟨g, 0, none⟩) k cap) k (rowCells M k)) (hM : ∀ j, j < k → (M j).ok) (hb : k ≤ 600) (hx : -9223372036854775808 ≤ x ∧ x ≤ 9223372036854775807) : Copied W g 0 k cap x M ∧ base ≤ g := by
  obtain ⟨d1, d2, d3⟩ := nodes_of_own h hM hb
  exact ⟨⟨⟨d1, hx⟩, d3⟩, d2⟩
theorem own_int {w : World} {B g n cap j p : Nat} {l : List Nat} (h : owns w B 3 .i64 (.slice (some ⟨g, 0, none⟩) n cap) l) (hj : l[j]? = some p) : w.cell? ⟨g, j, none⟩ = some (.int .i64 (p : Nat)) := by
  rcases h.2 with ⟨h1, _⟩ | ⟨g', cap', cur, h1, _, h2, h3, h4, h5, h6⟩
  · cases h1
  · injection h1 with e1 e2 e3
    simp only [Option.some.injEq, Addr.mk.injEq, and_true] at e1
    subst e1
    have hl : j < l.length := (List.getElem?_eq_some_iff.1 hj).1
    have : (cur.toList.take (l.length * 1))[j]? = some (.int .i64 (p : Nat)) := by rw [h6, List.getElem?_map, hj]; rfl
    rw [List.getElem?_take, if_pos (by omega)] at this
    simp [World.cell?, h2]
    simpa using this
set_option maxRecDepth 100000 in
set_option maxHeartbeats 8000000 in
theorem put_any (A : Option Addr) (n c : Nat) (x : Int) (N : Nat → RN) (ad : Addr) (k c' : Nat) (M : Nat → RN) (key t : Int) (w : World) (hD : DocIn w A n c x N) (hM : Nodes w (some ad) k M) (hk : 0 < k) (hn : n + k ≤ 600)
    (hk1 : -9223372036854775808 ≤ key ∧ key ≤ 9223372036854775807) (ht : -9223372036854775808 ≤ t ∧ t ≤ 9223372036854775807) (hdN : ∀ i, i < n → 0 ≤ (N i).depth ∧ (N i).depth ≤ 1000) (hdM : ∀ i, i < k → 0 ≤ (M i).depth ∧ (M i).depth ≤ 1000) :
    Calls Try.prog 34 #[docV A n c x, .slice (some ad) k c', .int .i64 key, .int .i64 t] w fun e w' => PutIs N n x k M w (gapN N n key t) e w' ∧ Below w.heap.size w w' := by
  unfold docV
  have hc := hD.1.2.2.1
  have hx := hD.2
  have F := Lib.hid (fun W (h : DocIn W A n c x N) => findM_any A n c x N key 0 W h hk1.1 hk1.2)
  have KK := Lib.hid (fun (u : Nat) (hu : u < n) W (h : DocIn W A n c x N) => (kids_fresh A n c x N u W h (by omega) (by omega)))
  have EN := Lib.hid (fun (a : Int) W (h : DocIn W A n c x N) (h1 : -9223372036854775808 ≤ a) (h2 : a ≤ 9223372036854775807) => end_any A n c x N a W h h1 h2)
  have B0 : Hid (Putting w A n c x N ad k M ((w.alloc (.cells #[.slice A n c, .int .i64 x] 24)).alloc (.cells #[.slice none 0 0, .int .i64 0] 24))) := Lib.hid (by
    have hb : Below w.heap.size w ((w.alloc (.cells #[.slice A n c, .int .i64 x] 24)).alloc (.cells #[.slice none 0 0, .int .i64 0] 24)) := ((Below.refl _ w).alloc (Nat.le_refl _) _).alloc (by simp) _
    exact ⟨hb, by simp, heap_alloc2_old w _ _, hD.below hb, heap_alloc2_new w _ _, hM.below hb, fun b off e h0 => by
        obtain ⟨b', off', e', hb, -⟩ := hD.1.1.2 h0
        rw [e] at e'
        simp only [Option.some.injEq, Addr.mk.injEq, and_true] at e'
        exact (show b < w.heap.size by rw [e'.1]; exact hb), by
        obtain ⟨b', off', e', hb, -⟩ := hM.2 hk
        simp only [Option.some.injEq] at e'
        rw [e']; exact hb⟩)
  clear hD hM
  have GN : Hid (gapN N n key t = match foundN N n key 0 with
    | none => none
    | some u => if 0 ≤ t ∧ t < ((spotsN N n u).length : Nat) then some (u, (spotsN N n u).getD t.toNat 0) else none) := Lib.hid (by
    unfold gapN foundN
    cases e : findN N n key with
    | none => rfl
    | some u =>
      dsimp only
      by_cases hq : (N u).kind = 0
      · rw [if_pos hq]
        dsimp only
        have hl : (spotsN N n u).length = (kidsOf (dps N) n u).length + 1 := by unfold spotsN; simp
        by_cases hr : 0 ≤ t ∧ t ≤ ((kidsOf (dps N) n u).length : Nat)
        · rw [if_pos ⟨hq, hr⟩, if_pos ⟨hr.1, by omega⟩]
          congr 2
          unfold spotsN
          rcases Nat.lt_or_ge t.toNat (kidsOf (dps N) n u).length with g | g
          · rw [List.getD_eq_getElem?_getD, List.getD_eq_getElem?_getD, List.getElem?_append_left g, List.getElem?_eq_getElem g]
            rfl
          · rw [List.getD_eq_getElem?_getD, List.getD_eq_getElem?_getD, List.getElem?_append_right g, List.getElem?_eq_none g, show t.toNat - (kidsOf (dps N) n u).length = 0 by omega]
            rfl
        · rw [if_neg fun h => hr h.2, if_neg fun h => hr ⟨h.1, by omega⟩]
      · rw [if_neg hq, if_neg fun h => hq h.1])
  generalize gapN N n key t = R at GN ⊢
  go_enter Try.func34, Try.ntmps34
  go_wp2_with fail
  obtain ⟨W0, hW0⟩ : ∃ W0, ((w.alloc (.cells #[.slice A n c, .int .i64 x] 24)).alloc (.cells #[.slice none 0 0, .int .i64 0] 24)) = W0 := ⟨_, rfl⟩
  rw [hW0] at B0 ⊢
  clear hW0
  have d0 := B0.out.box.c0
  have d1 := B0.out.box.c1
  refine (F.out _ B0.out.doc).mono ?_
  rintro e w1 ⟨hr, hb⟩
  have B1 := Lib.hid (B0.out.next hb)
  clear hb d0 d1 F
  have d0 := B1.out.box.c0
  have d1 := B1.out.box.c1
  cases e : foundN N n key 0 with
  | none =>
    rw [e] at hr
    unfold FoundIs wrong at hr
    subst hr
    obtain rfl : R = none := by rw [GN.out, e]
    clear e GN
    go_wp2_with fail
    exact ⟨rfl, rfl, B1.out.below⟩
  | some u =>
    rw [e] at hr
    unfold FoundIs at hr
    subst hr
    obtain ⟨-, hu, -⟩ := found_some e
    have GN : Hid (R = if 0 ≤ t ∧ t < ((spotsN N n u).length : Nat) then some (u, (spotsN N n u).getD t.toNat 0) else none) := Lib.hid (by rw [GN.out, e])
    clear e
    have KK := Lib.hid (fun W (h : DocIn W A n c x N) => (KK.out u hu W h).mono (R' := fun e w' => ∃ v, e = .returned v ∧ owns w' W.heap.size 3 .i64 v (kidsOf (dps N) n u) ∧ Below W.heap.size W w') (by
      rintro e w' ⟨B, d, rfl, -, -, ho, hb⟩
      have ka : kidsAns N n u = kidsOf (dps N) n u := by unfold kidsAns; rw [if_pos ⟨by omega, by omega⟩, Int.toNat_natCast]
      rw [ka] at ho ⊢
      exact ⟨_, rfl, ho, hb⟩))
    have EN := Lib.hid (fun W (h : DocIn W A n c x N) => (EN.out u W h (by omega) (by omega)).mono (R' := fun e w' => e = .returned (.int .i64 ((endOf (dps N) n u : Nat) : Int)) ∧ Below W.heap.size W w') (by
      rintro e w' ⟨rfl, hb⟩
      refine ⟨?_, hb⟩
      unfold endAns
      rw [if_pos ⟨by omega, by omega⟩, Int.toNat_natCast]))
    have hE := endOf_gt (dps N) hu
    have KL : Hid (∀ p ∈ spotsN N n u, 0 < p ∧ p ≤ n) := Lib.hid (fun p hp => by
      unfold spotsN at hp
      rcases List.mem_append.1 hp with h | h
      · have := (kids_iff (dps N)).1 h
        omega
      · rw [List.mem_singleton.1 h]; omega)
    obtain ⟨i0, hi0', hz0, hz1, hz2⟩ := info_parts Try.info27
    have hll : (spotsN N n u).length = (kidsOf (dps N) n u).length + 1 := by unfold spotsN; simp
    have hlk : (kidsOf (dps N) n u).length ≤ 600 := by
      have := List.length_filter_le (fun i => decide (dps N u + 1 = dps N i)) (List.range' (u + 1) (endOf (dps N) n u - (u + 1)))
      rw [List.length_range'] at this
      unfold kidsOf
      omega
    have hcs : (kidsOf (dps N) n u).map (fun (x : Nat) => Value.int .i64 (x : Nat)) ++ [.int .i64 ((endOf (dps N) n u : Nat) : Int)] = (spotsN N n u).map fun (x : Nat) => Value.int .i64 (x : Nat) := by unfold spotsN; simp
    have HL := Lib.hid hll
    have HC := Lib.hid hcs
    have HK := Lib.hid hlk
    clear hll hcs hlk
    generalize spotsN N n u = sp at GN KL HL HC
    generalize kidsOf (dps N) n u = l at KK HL HC HK
    generalize endOf (dps N) n u = E at EN HC hE
    go_wp2_with fail
    unfold docV at KK EN
    have B1d := Lib.hid B1.out.drew
    have ONE : Hid (∀ u ∈ [Value.int .i64 ((E : Nat) : Int)], u.oneCell' = true) := Lib.hid (by simp [Value.oneCell'])
    have H63 : Hid (l.length + 1 ≤ maxLen) := Lib.hid (by have := HK.out; unfold maxLen; omega)
    have H48 : Hid ((l.length + 1) * 8 ≤ 140737488355328) := Lib.hid (by have := HK.out; omega)
    go_region_held3 (fun W' => W'.cell? ⟨w.heap.size, 0, none⟩ = some (.slice A n c) ∧ W'.cell? ⟨w.heap.size, 1, none⟩ = some (.int .i64 x))
      (first | ((refine Putting.cells (ad := ad) (k := k) (M := M) (N := N) ?_); (repeat (first | (with_reducible exact PD.out) | (with_reducible exact PB.out) | (with_reducible exact PA.out) | (with_reducible exact B1.out) | (with_reducible refine Putting.drew ?_) | (with_reducible refine Putting.alloc ?_ _)))))
      (first
      | (go_at_call 47; (with_reducible refine (KK.out _ B1d.out.doc).mono ?_); rintro e w4 ⟨v, rfl, ho, hb⟩; have PA := Lib.hid (B1d.out.next hb); have PAd := Lib.hid PA.out.drew; have OA := Lib.hid ho; have LA := Lib.hid hb; clear ho hb)
      | (go_at_call 48; (with_reducible refine (EN.out _ PAd.out.doc).mono ?_); rintro e w5 ⟨rfl, hb⟩; have PB := Lib.hid (PAd.out.next hb); have OB := Lib.hid (own_below (row_drew OA.out) hb); have LB : Hid (∀ o : Obj, Below w1.drew.heap.size w1.drew (w5.alloc o)) := Lib.hid (fun o => ((LA.out.trans (hb.mono LA.out.size)).alloc (LA.out.trans (hb.mono LA.out.size)).size o)); have OC : Hid (∀ o : Obj, (w5.alloc o).ownsRow w1.drew.heap.size 3 1 v l.length (l.map fun (x : Nat) => Value.int .i64 (x : Nat))) := Lib.hid (fun o => World.ownsRow.alloc OB.out o); clear hb)
      | (go_at_call 48; (with_reducible refine (EN.out _ PA.out.doc).mono ?_); rintro e w5 ⟨rfl, hb⟩; have PB := Lib.hid (PA.out.next hb); have OB := Lib.hid (own_below OA.out hb); have LB : Hid (∀ o : Obj, Below w1.drew.heap.size w1.drew (w5.alloc o)) := Lib.hid (fun o => ((LA.out.trans (hb.mono LA.out.size)).alloc (LA.out.trans (hb.mono LA.out.size)).size o)); have OC : Hid (∀ o : Obj, (w5.alloc o).ownsRow w1.drew.heap.size 3 1 v l.length (l.map fun (x : Nat) => Value.int .i64 (x : Nat))) := Lib.hid (fun o => World.ownsRow.alloc OB.out o); clear hb)
      | (refine step_append_lies _ (by rfl) _ _ 43 (by rfl) w1.drew.heap.size 3 i0 (.int .i64 0) 1 8 Try.underlying43 hi0' hz0 hz1 hz2 rfl (by decide) v l.length _ (by rfl) (OC.out (.cells #[.int .i64 ((E : Nat) : Int)] 3)) ⟨w5.heap.size, 0, none⟩ 1 1 [.int .i64 ((E : Nat) : Int)] (by rfl) rfl (cell_one_new w5 (.int .i64 ((E : Nat) : Int)) 3) ONE.out (by decide) H63.out H48.out (LB.out (.cells #[.int .i64 ((E : Nat) : Int)] 3)).size _ rfl ?_; intro g cap w6 hown hgrow hat hlt; have OD := Lib.hid hown; have PD := Lib.hid (B1d.out.next ((LB.out (.cells #[.int .i64 ((E : Nat) : Int)] 3)).grown hgrow (LB.out (.cells #[.int .i64 ((E : Nat) : Int)] 3)).size (fun k e => ((OC.out (.cells #[.int .i64 ((E : Nat) : Int)] 3)).lt k e).1))); clear hown hgrow hat hlt))
    rename_i hS
    clear hS
    have OD : Hid (owns w6 w1.drew.heap.size 3 .i64 (.slice (some ⟨g, 0, none⟩) (l.length + 1) cap) sp) := Lib.hid (by
      unfold owns
      rw [HL.out, ← HC.out]
      exact OD.out)
    have PQ := Lib.hid PD.out
    clear PA PAd PB OA OB LA LB OC PD B1 B1d ONE H63 H48 HC KK EN
    generalize l.length + 1 = m at *
    by_cases hr : 0 ≤ t ∧ t < ((sp.length : Nat) : Int)
    · obtain ⟨tn, rfl⟩ : ∃ tn : Nat, t = tn := ⟨t.toNat, by omega⟩
      have htl : tn < sp.length := by omega
      obtain ⟨p, hp⟩ : ∃ p, sp[tn]? = some p := ⟨_, List.getElem?_eq_getElem htl⟩
      obtain rfl : R = some (u, p) := by
        rw [GN.out, if_pos hr, Int.toNat_natCast, List.getD_eq_getElem?_getD, hp]
        rfl
      obtain ⟨hp1, hp2⟩ := KL.out p (List.mem_of_getElem? hp)
      have hz1 : (0 : Int) ≤ tn := by omega
      have hz2 : (tn : Int) < m := by have := HL.out; omega
      have pc : w6.cell? ⟨g, tn, none⟩ = some (.int .i64 (p : Nat)) := by
        have := own_int OD.out hp
        simpa using this
      clear hr htl hp OD HL KL GN
      obtain ⟨b, off, rfl, -, -⟩ := PQ.out.doc.1.1.2 (by omega)
      go_wp2_with (go_at_call 24; refine (demand_yes 70 _).mono ?_; rintro e w2 ⟨rfl, rfl⟩)
      clear pc
      have q0 := PQ.out.box.c0
      have q1 := PQ.out.box.c1
      obtain ⟨a3, s3, t3⟩ := nodes_from b off n c p (by omega) hc.1
      have s1 := fun W => nodes_to (some ⟨b, off, none⟩) n c p (by omega) W
      have T3 := Lib.hid t3
      clear t3
      have hz3 : (p : Int) ≤ n := by omega
      have hz4 : (p : Int) ≤ c := by omega
      have hz5 : (0 : Int) ≤ p := by omega
      have NPF : Hid (∀ W q, W.heap.size = q → Putting w (some ⟨b, off, none⟩) n c x N ad k M W → NPs (W.alloc (.cells #[.slice (some ⟨b, off, none⟩) p c, .slice (some ad) k c', .slice (some a3) (n - p) (c - p)] 22)) (some ⟨q, 0, none⟩) 3 (fun j => if j = 0 then ⟨⟨b, off, none⟩, p, c, N⟩ else if j = 1 then ⟨ad, k, c', M⟩ else ⟨a3, n - p, c - p, fun i => N (p + i)⟩)) := Lib.hid (fun W q hq h => by
        subst hq
        exact nps_three (h.doc.1.1.take hp2) h.more (T3.out _ _ h.doc.1.1))
      have CC : Hid (∀ q W, NPs W (some ⟨q, 0, none⟩) 3 (fun j => if j = 0 then ⟨⟨b, off, none⟩, p, c, N⟩ else if j = 1 then ⟨ad, k, c', M⟩ else ⟨a3, n - p, c - p, fun i => N (p + i)⟩) → Calls Try.prog 49 #[.slice (some ⟨q, 0, none⟩) 3 3] W (MadeN W (n + k) (rowCells (putN N p k M) (n + k)))) := Lib.hid (fun q W h => by
        have h := concatN_any _ 3 3 _ W h (by decide) (by simpa using hp1) (by decide) (by show 0 + p + k + (n - p) ≤ 600; omega)
        have e1 : totalP (fun j => if j = 0 then ⟨⟨b, off, none⟩, p, c, N⟩ else if j = 1 then ⟨ad, k, c', M⟩ else ⟨a3, n - p, c - p, fun i => N (p + i)⟩) 3 = n + k := by show 0 + p + k + (n - p) = n + k; omega
        have e2 : catP (fun j => if j = 0 then ⟨⟨b, off, none⟩, p, c, N⟩ else if j = 1 then ⟨ad, k, c', M⟩ else ⟨a3, n - p, c - p, fun i => N (p + i)⟩) 3 = rowCells (putN N p k M) (n + k) := by rw [put_cells N M p k n hp2]; rfl
        rwa [e1, e2] at h)
      have LQ0 : Hid (w.heap.size + 2 ≤ w2.heap.size) := Lib.hid PQ.out.size
      have LQ1 : Hid (w.heap.size + 2 ≤ w2.heap.size + 1) := Lib.hid (by have := PQ.out.size; omega)
      have PO := Lib.hid (put_ok PQ.out.doc.1.1.1 PQ.out.more.1 hp2)
      have PX := Lib.hid PQ.out.size
      generalize (fun j => if j = 0 then (⟨⟨b, off, none⟩, p, c, N⟩ : NP) else if j = 1 then ⟨ad, k, c', M⟩ else ⟨a3, n - p, c - p, fun i => N (p + i)⟩) = PP at NPF CC
      go_cut [12] from 53 (fun p12 wx => ∃ q g4 cap4 : Nat, p12 = .pointer (some ⟨q, 0, none⟩) ∧ Hid (Built w (some ⟨b, off, none⟩) n c x N ad k M wx q g4 cap4 (putN N p k M)))
      case first =>
        go_region_held3 (fun W' => W'.cell? ⟨w.heap.size, 0, none⟩ = some (.slice (some ⟨b, off, none⟩) n c) ∧ W'.cell? ⟨w.heap.size, 1, none⟩ = some (.int .i64 x))
          (first | ((refine Putting.cells (ad := ad) (k := k) (M := M) (N := N) ?_); (repeat (first | (with_reducible exact P4.out) | (with_reducible exact PQ.out) | (with_reducible refine Putting.drew ?_) | (with_reducible refine Putting.alloc ?_ _) | (with_reducible refine Putting.set ?_ _ _ ?_) | (with_reducible exact LQ0.out) | (with_reducible exact LQ1.out) | (with_reducible exact LQ4.out)))))
          (first | (go_at_call 49; (with_reducible refine Calls.mono (CC.out _ _ ?np) ?_); (case np => (repeat (first | (with_reducible refine NPs.drew ?_) | (with_reducible refine NPF.out _ _ ?_ ?_) | (with_reducible refine NPs.alloc ?_ _) | (with_reducible exact PQ.out) | (with_reducible refine Putting.drew ?_) | (with_reducible refine Putting.alloc ?_ _) | (with_reducible rfl) | (exact World.size_alloc _ _)))); rintro e w4 ⟨g4, cap4, rfl, ho, hb⟩; have P4 : Hid (Putting w (some ⟨b, off, none⟩) n c x N ad k M w4) := Lib.hid (Putting.next (by (repeat (first | (with_reducible exact P4.out) | (with_reducible exact PQ.out) | (with_reducible refine Putting.drew ?_) | (with_reducible refine Putting.alloc ?_ _) | (with_reducible refine Putting.set ?_ _ _ ?_) | (with_reducible exact LQ0.out) | (with_reducible exact LQ1.out) | (with_reducible exact LQ4.out)))) hb); have O4 : Hid (w4.ownsRow w2.heap.size 32 51 (.slice (some ⟨g4, 0, none⟩) (n + k) cap4) (n + k) (rowCells (putN N p k M) (n + k))) := Lib.hid (row_lower ho (by first | (simp; done) | (simp; omega))); have LQ4 := Lib.hid P4.out.size; (try (have b4 : Hid (DocBox w4 (w2.heap.size + 1) (.slice none 0 0) (.int .i64 0)) := Lib.hid (DocBox.below (by first | ((repeat (first | ((with_reducible apply docBox_new); first | (with_reducible rfl) | (simp; done)) | (with_reducible apply DocBox.drew) | (with_reducible apply DocBox.alloc))); done) | fail) hb); have b40 := b4.out.c0; have b41 := b4.out.c1; have b4f := b4.out.f0; have b4g := b4.out.f1)); (try (have a4 : Hid (DocBox w4 w2.heap.size (.slice none 0 0) (.int .i64 0)) := Lib.hid (DocBox.below (by first | ((repeat (first | ((with_reducible apply docBox_new); first | (with_reducible rfl) | (simp; done)) | (with_reducible apply DocBox.drew) | (with_reducible apply DocBox.alloc))); done) | fail) hb); have a40 := a4.out.c0; have a41 := a4.out.c1; have a4f := a4.out.f0; have a4g := a4.out.f1)); clear ho hb))
        all_goals
          rename_i hS
          clear hS
          obtain ⟨cn, cl⟩ := copied_new O4.out PO.out hn hx
          have cl2 : w.heap.size + 2 ≤ g4 := Nat.le_trans PX.out cl
          go_wp2_with fail
          go_meet
        · exact ⟨_, g4, cap4, rfl, Lib.hid ⟨P4.out.alloc _, cn.alloc _, docBox_new rfl, LQ4.out, cl2⟩⟩
        · exact ⟨_, g4, cap4, rfl, Lib.hid ⟨(P4.out.set _ _ LQ1.out).set _ _ LQ1.out, (cn.set (fun e => box_row b4.out cn e) _).set (fun e => box_row b4.out cn e) _, b4.out.put _ _, LQ1.out, cl2⟩⟩
        · exact ⟨_, g4, cap4, rfl, Lib.hid ⟨(P4.out.set _ _ LQ0.out).set _ _ LQ0.out, (cn.set (fun e => box_row a4.out cn e) _).set (fun e => box_row a4.out cn e) _, a4.out.put _ _, LQ0.out, cl2⟩⟩
      case rest =>
        obtain ⟨q, g4, cap4, rfl, BL0⟩ := hcut
        obtain ⟨wd, hwd⟩ : ∃ wd, wd = wc := ⟨_, rfl⟩
        subst hwd
        clear NPF CC PO T3 s1 s3 q0 q1 PQ LQ0 LQ1 PX
        obtain ⟨bm, om, had, hbm, hmat⟩ := BL0.out.put.more.2 hk
        obtain rfl : ad = ⟨bm, om, none⟩ := by simpa using had
        obtain ⟨b', off', e', hb', hat⟩ := BL0.out.put.doc.1.1.2 (by omega)
        obtain ⟨rfl, rfl⟩ : b = b' ∧ off = off' := by
          simp only [Option.some.injEq, Addr.mk.injEq, and_true] at e'
          exact e'
        have u1 : wd.cell? ⟨b, off + u * 51 + 1, none⟩ = some (.int .i64 (N u).depth) := (hat u hu 1 (by omega)).trans rfl
        have m1 : wd.cell? ⟨bm, om + 1, none⟩ = some (.int .i64 (M 0).depth) := by
          have := hmat 0 hk 1 (by omega)
          rw [Nat.zero_mul, Nat.add_zero] at this
          exact this.trans rfl
        have c0 := BL0.out.put.box.c0
        have du := hdN u hu
        have dm := hdM 0 hk
        have huz : (u : Int) < n := by omega
        have hu0 : (0 : Int) ≤ u := by omega
        have hkz : (0 : Int) < k := by omega
        have HMd := Lib.hid hdM
        clear hat hmat e' hb' hbm hdM hdN had
        obtain ⟨U, hU⟩ : ∃ U, (N u).depth = U := ⟨_, rfl⟩
        obtain ⟨Z, hZ⟩ : ∃ Z, (M 0).depth = Z := ⟨_, rfl⟩
        rw [hU] at u1 du
        rw [hZ] at m1 dm
        have wz1 : IntKind.i64.wrap (U + 1) = U + 1 := IntWalk.i64_in _ (by omega)
        have wz2 : IntKind.i64.wrap (U + 1 - Z) = U + 1 - Z := IntWalk.i64_in _ (by omega)
        go_wp2_with fail
        go_quiet (fail)
        go_wp2_with fail
        have hB1 : Below wd.heap.size wd (wd.drewN nq) := below_drew (Below.refl _ _) _
        have BL1 := Lib.hid (BL0.out.next hB1)
        have BLs : Hid (Built w (some ⟨b, off, none⟩) n c x N ⟨bm, om, none⟩ k M (wd.drewN nq) q g4 cap4 (putN N p k (levelTo M (U + 1) 0))) := Lib.hid (by
          have e : levelTo M (U + 1) 0 = M := by
            funext j
            unfold levelTo
            rw [if_neg (by omega)]
          rw [e]
          exact BL1.out)
        clear hB1 BL0 BL1 u1 m1 c0 wz1
        generalize wd.drewN nq = W1 at BLs ⊢
        go_loopg [67] k (fun g1 v67 wr => ∃ i : Nat, v67 = .int .i64 i ∧ i ≤ k ∧ k - i ≤ g1 ∧ Hid (Built w (some ⟨b, off, none⟩) n c x N ⟨bm, om, none⟩ k M wr q g4 cap4 (putN N p k (levelTo M (U + 1) i))))
        case atStart => exact ⟨0, rfl, by omega, by omega, BLs⟩
        case round =>
          obtain ⟨i, rfl, hi, hg1, BL⟩ := hrel
          by_cases hik : i < k
          · have hiz : (i : Int) < k := by omega
            have hi0 : (0 : Int) ≤ i := by omega
            have mi := HMd.out i hik
            have c0 := BL.out.bx.c0
            have hpi : ((p : Int) + i) < ((n + k : Nat) : Int) := by omega
            have hpi0 : (0 : Int) ≤ (p : Int) + i := by omega
            have hto : ((p : Int) + i).toNat = p + i := by omega
            have wpi : IntKind.i64.wrap ((p : Int) + i) = (p : Int) + i := IntWalk.i64_in _ (by omega)
            have e0 : putN N p k (levelTo M (U + 1) i) (p + i) = M i := by rw [putN_in hik]; unfold levelTo; rw [if_neg (by omega)]
            have cd : wr.cell? ⟨g4, (p + i) * 51 + 1, none⟩ = some (.int .i64 (M i).depth) := by
              have := BL.out.copy.cell (i := p + i) (by omega) (k := 1) (by omega)
              rw [Nat.zero_add, e0] at this
              exact this.trans rfl
            have cf := BL.out.copy.free ((p + i) * 51 + 1)
            obtain ⟨vv, hvv⟩ : ∃ vv, vv = U + 1 + (M i).depth - Z := ⟨_, rfl⟩
            have wv : IntKind.i64.wrap ((M i).depth + (U + 1 - Z)) = vv := (IntWalk.i64_in _ (by omega)).trans (by omega)
            have BN := Lib.hid (BL.out.level hik hp2 (v := vv) (by rw [hZ]; exact hvv) (by omega))
            generalize (M i).depth = di at cd wv mi hvv
            clear hvv mi e0
            go_wp2_with fail
            go_roundg (k - (i + 1))
            case measure => omega
            case rel => exact ⟨i + 1, by go_num, by omega, Nat.le_refl _, BN⟩
          · obtain rfl : i = k := by omega
            have c0 := BL.out.bx.c0
            have c1 := BL.out.bx.c1
            have o0 := BL.out.put.out.c0
            have o1 := BL.out.put.out.c1
            have of0 := BL.out.put.out.f0
            have of1 := BL.out.put.out.f1
            go_wp2_with fail
            have hlg := BL.out.lg
            have CP := (BL.out.copy.set (p := ⟨w.heap.size + 1, 0, none⟩) (by show w.heap.size + 1 ≠ g4; omega) (.slice (some ⟨g4, 0, none⟩) (n + i) cap4)).set (p := ⟨w.heap.size + 1, 1, none⟩) (by show w.heap.size + 1 ≠ g4; omega) (.int .i64 x)
            have ef : putN N p i (levelTo M (U + 1) i) = putN N p i (levelN M (U + 1)) := funext levelTo_all
            rw [ef] at CP
            refine bodyPost_ret (results_cell_row rfl _ _ (w.heap.size + 1) _ _ _ _ rfl (BL.out.put.out.put _ _) Try.underlying24 rfl (by kernel_rfl)) rfl ?_
            refine ⟨⟨some ⟨g4, 0, none⟩, cap4, rfl, ?_⟩, ?_⟩
            · rw [hU]
              exact ⟨CP.doc, fun _ => let ⟨cs, e⟩ := CP.own; ⟨g4, 0, cs, rfl, by omega, e⟩⟩
            · exact (BL.out.put.below.setCell (p := ⟨w.heap.size + 1, 0, none⟩) (by show w.heap.size ≤ w.heap.size + 1; omega) _).setCell (p := ⟨w.heap.size + 1, 1, none⟩) (by show w.heap.size ≤ w.heap.size + 1; omega) _
    · obtain rfl : R = none := by rw [GN.out, if_neg hr]
      have hr' : ¬ (0 ≤ t ∧ t < (m : Int)) := by have := HL.out; omega
      clear GN KL OD
      by_cases h0 : 0 ≤ t
      · have h1 : ¬ t < (m : Int) := fun h => hr' ⟨h0, h⟩
        clear hr hr'
        go_wp2_with (go_at_call 24; refine (demand_no 70 _).mono ?_; rintro e w2 ⟨rfl, rfl⟩; unfold wrong)
        exact ⟨rfl, rfl, PQ.out.below⟩
      · clear hr hr'
        go_wp2_with (go_at_call 24; refine (demand_no 70 _).mono ?_; rintro e w2 ⟨rfl, rfl⟩; unfold wrong)
        exact ⟨rfl, rfl, PQ.out.below⟩
end
end Go.Proofs.Ytmodegkpfdlccaa
