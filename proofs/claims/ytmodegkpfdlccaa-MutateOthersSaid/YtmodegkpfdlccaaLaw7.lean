/-
  Law 7's great and gone.
-/
import Derived.Test.YtmodegkpfdlccaaRefSame5
import Derived.Test.YtmodegkpfdlccaaChangeArg
namespace Go.Proofs.Ytmodegkpfdlccaa
open Go.RowKit

set_option maxRecDepth 100000 in
theorem RC.cell_text {c : RC} (h : c.ok) : c.cells[54]? = some (.string ⟨c.node.text.toArray⟩) := by
  have := h.node.last
  simpa [RC.cells] using this
set_option maxRecDepth 100000 in
/-- a block of a change's cells -/
theorem change_box (w : World) (X : Array Value) (k : Nat) (v : Value) (h : X[k]? = some v) : (w.alloc (.cells X 34)).cell? ⟨w.heap.size, k, none⟩ = some v := by
  rw [World.cell?_alloc_new]; exact h

set_option maxRecDepth 100000 in
set_option maxHeartbeats 4000000 in
theorem great7_any (A : Option Addr) (n c : Nat) (x : Int) (N : Nat → RN) (ch : RC) (w : World) (h : DocIn w A n c x N) (hc : ch.ok) :
    Calls Try.prog 9 #[docV A n c x, changeV ch] w fun e w' => ∃ g : Bool, e = .returned (.bool g) ∧ (g = false → n ≤ 320 ∧ bytesTo N n ≤ 5000 ∧ ch.node.text.length ≤ 5000) ∧ Below w.heap.size w w' := by
  have B0 : Hid (Below w.heap.size w ((w.alloc (.cells #[.slice A n c, .int .i64 x] 24)).alloc (.cells ch.cells.toArray 34))) := Lib.hid (((Below.refl _ w).alloc (Nat.le_refl _) _).alloc (by simp) _)
  have GC := Lib.hid (fun W (hW : Below w.heap.size w W) => great5_any A n c x N W (h.below hW))
  have T : Hid (∀ t, ((w.alloc t).alloc (.cells ch.cells.toArray 34)).cell? ⟨w.heap.size + 1, 54, none⟩ = some (.string ⟨ch.node.text.toArray⟩)) := Lib.hid (fun t => by
    have := change_box (w.alloc t) ch.cells.toArray 54 (.string ⟨ch.node.text.toArray⟩) (by simpa using RC.cell_text hc)
    rwa [World.size_alloc] at this)
  have tl := hc.node.text
  clear h hc
  unfold docV changeV
  generalize ch.cells.toArray = X at *
  generalize ch.node.text = t at *
  go_enter Try.func9, Try.ntmps9
  go_wp2_with fail
  refine (GC.out _ B0.out).mono ?_
  rintro e w1 ⟨g, rfl, hg, hb1⟩
  have B1 : Hid (Below w.heap.size w w1) := Lib.hid (B0.out.trans (hb1.mono B0.out.size))
  have t1 : w1.cell? ⟨w.heap.size + 1, 54, none⟩ = some (.string ⟨t.toArray⟩) := (hb1.cell (p := ⟨w.heap.size + 1, 54, none⟩) (by simp)).trans (T.out _)
  have HG := Lib.hid hg
  clear hb1 hg
  cases g with
  | true =>
    go_wp2_with fail
    go_ret
    exact ⟨true, rfl, (fun h => by cases h), B1.out⟩
  | false =>
    by_cases hbig : 5000 < t.length
    · have d1 : decide (5000 < t.length) = true := decide_eq_true hbig
      have d2 : decide ((5000 : Int) < (t.length : Int)) = true := decide_eq_true (by omega)
      go_wp2_with fail
      go_ret
      exact ⟨true, by simp, (fun h => by cases h), B1.out⟩
    · have HT : Hid (t.length ≤ 5000) := Lib.hid (by omega)
      have d1 : decide (5000 < t.length) = false := decide_eq_false hbig
      have d2 : decide ((5000 : Int) < (t.length : Int)) = false := decide_eq_false (by omega)
      go_wp2_with fail
      go_ret
      exact ⟨false, by simp, fun _ => ⟨(HG.out (by trivial)).1, (HG.out (by trivial)).2, HT.out⟩, B1.out⟩

/-- is a node in the tree that a change takes away, or moves, whose root stands there? -/
def goneB (N : Nat → RN) (n : Nat) (kind root a : Int) : Bool := decide ((kind = 2 ∨ kind = 3) ∧ root ≤ a ∧ a < endAns N n root)
set_option maxRecDepth 100000 in
theorem endAns_bd (N : Nat → RN) (n : Nat) (a : Int) : -1 ≤ endAns N n a ∧ endAns N n a ≤ n := by
  unfold endAns
  split
  · rename_i h
    have := (endOf_gt (dps N) (n := n) (a := a.toNat) (by omega)).2
    omega
  · omega
set_option maxRecDepth 100000 in
theorem FindIs.bd {N : Nat → RN} {n : Nat} {key r : Int} (h : FindIs N n key r) : -1 ≤ r ∧ r < n ∨ r = -1 := by
  rcases h with ⟨rfl, _⟩ | ⟨i, hi, rfl, _⟩
  · exact .inr rfl
  · exact .inl (by omega)
set_option maxRecDepth 100000 in
set_option maxHeartbeats 4000000 in
theorem gone_any (A : Option Addr) (len c : Nat) (x : Int) (N : Nat → RN) (ch : RC) (a root : Int) (w : World) (hD : DocIn w A len c x N) (hroot : FindIs N len ch.key root) (g : Bool) (hg : goneB N len ch.kind root a = g) :
    Calls Try.prog 13 #[docV A len c x, changeV ch, .int .i64 a] w fun e w' => e = .returned (.bool g) ∧ Below w.heap.size w w' := by
  have hlen : len ≤ 140737488351232 := by have := hD.1.2.2.2; omega
  have B0 : Hid (Below w.heap.size w ((w.alloc (.cells #[.slice A len c, .int .i64 x] 24)).alloc (.cells ch.cells.toArray 34))) := Lib.hid (((Below.refl _ w).alloc (Nat.le_refl _) _).alloc (by simp) _)
  have FC := Lib.hid (fun W (hW : Below w.heap.size w W) => refFind_any A len c x N ch.key W (hD.below hW) root hroot)
  have rb := hroot.bd
  have EC := Lib.hid (fun W (hW : Below w.heap.size w W) => refEnd_any A len c x N root W (hD.below hW) (by omega) (by omega) _ rfl)
  have eb := endAns_bd N len root
  have T : Hid (∀ t, ((w.alloc t).alloc (.cells ch.cells.toArray 34)).cell? ⟨w.heap.size + 1, 0, none⟩ = some (.int .u8 ch.kind) ∧ ((w.alloc t).alloc (.cells ch.cells.toArray 34)).cell? ⟨w.heap.size + 1, 1, none⟩ = some (.int .i64 ch.key)) := Lib.hid (fun t => by
    have h0 := change_box (w.alloc t) ch.cells.toArray 0 (.int .u8 ch.kind) (by simp [RC.cells])
    have h1 := change_box (w.alloc t) ch.cells.toArray 1 (.int .i64 ch.key) (by simp [RC.cells])
    rw [World.size_alloc] at h0 h1
    exact ⟨h0, h1⟩)
  have G0 : Hid (((ch.kind = 2 ∨ ch.kind = 3) ∧ root ≤ a ∧ a < endAns N len root → g = true) ∧ (¬ ((ch.kind = 2 ∨ ch.kind = 3) ∧ root ≤ a ∧ a < endAns N len root) → g = false)) := Lib.hid ⟨fun h => by rw [← hg]; exact decide_eq_true h, fun h => by rw [← hg]; exact decide_eq_false h⟩
  clear hD hroot hg
  generalize endAns N len root = en at *
  unfold docV changeV
  generalize ch.cells.toArray = X at *
  generalize ch.kind = K at *
  generalize ch.key = key at *
  obtain ⟨t0, t1⟩ := T.out (.cells #[.slice A len c, .int .i64 x] 24)
  have T0 := Lib.hid t0
  clear t0
  go_enter Try.func13, Try.ntmps13
  go_wp2_with fail
  refine (FC.out _ B0.out).mono ?_
  rintro e w1 ⟨rfl, hb1⟩
  have B1 : Hid (Below w.heap.size w w1) := Lib.hid (B0.out.trans (hb1.mono B0.out.size))
  have k1 : w1.cell? ⟨w.heap.size + 1, 0, none⟩ = some (.int .u8 K) := (hb1.cell (p := ⟨w.heap.size + 1, 0, none⟩) (by simp)).trans T0.out
  have c0 : w1.cell? ⟨w.heap.size, 0, none⟩ = some (.slice A len c) := (hb1.cell (p := ⟨w.heap.size, 0, none⟩) (by simp; omega)).trans ((World.cell?_alloc_lt _ _ _ (by simp)).trans (by simp))
  have c1 : w1.cell? ⟨w.heap.size, 1, none⟩ = some (.int .i64 x) := (hb1.cell (p := ⟨w.heap.size, 1, none⟩) (by simp; omega)).trans ((World.cell?_alloc_lt _ _ _ (by simp)).trans (by rw [World.cell?_alloc_new]; rfl))
  clear hb1 t1
  by_cases hk : K = 2 ∨ K = 3
  · by_cases hr : root ≤ a
    · have d3 : decide (root ≤ a) = true := decide_eq_true hr
      rcases hk with hk | hk
      · have e2 : (K == 2) = true := by simpa using hk
        have HK := Lib.hid hk
        clear hk
        go_wp2_with fail
        refine (EC.out _ B1.out).mono ?_
        rintro e w2 ⟨rfl, hb2⟩
        have B2 : Hid (Below w.heap.size w w2) := Lib.hid (B1.out.trans (hb2.mono B1.out.size))
        clear hb2
        by_cases hl : a < en
        · have d4 : decide (a < en) = true := decide_eq_true hl
          have V := Lib.hid (G0.out.1 ⟨.inl HK.out, hr, hl⟩)
          go_wp2_with fail
          go_ret
          exact ⟨by rw [V.out]; rfl, B2.out⟩
        · have d4 : decide (a < en) = false := decide_eq_false hl
          have V := Lib.hid (G0.out.2 (fun h => hl h.2.2))
          go_wp2_with fail
          go_ret
          exact ⟨by rw [V.out]; rfl, B2.out⟩
      · have e2 : (K == 2) = false := by simp; omega
        have e3 : (K == 3) = true := by simpa using hk
        have HK := Lib.hid hk
        clear hk
        go_wp2_with fail
        refine (EC.out _ B1.out).mono ?_
        rintro e w2 ⟨rfl, hb2⟩
        have B2 : Hid (Below w.heap.size w w2) := Lib.hid (B1.out.trans (hb2.mono B1.out.size))
        clear hb2
        by_cases hl : a < en
        · have d4 : decide (a < en) = true := decide_eq_true hl
          have V := Lib.hid (G0.out.1 ⟨.inr HK.out, hr, hl⟩)
          go_wp2_with fail
          go_ret
          exact ⟨by rw [V.out]; rfl, B2.out⟩
        · have d4 : decide (a < en) = false := decide_eq_false hl
          have V := Lib.hid (G0.out.2 (fun h => hl h.2.2))
          go_wp2_with fail
          go_ret
          exact ⟨by rw [V.out]; rfl, B2.out⟩
    · have d3 : decide (root ≤ a) = false := decide_eq_false hr
      have V := Lib.hid (G0.out.2 (fun h => hr h.2.1))
      rcases hk with hk | hk
      · have e2 : (K == 2) = true := by simpa using hk
        clear hk
        go_wp2_with fail
        go_ret
        exact ⟨by rw [V.out]; rfl, B1.out⟩
      · have e2 : (K == 2) = false := by simp; omega
        have e3 : (K == 3) = true := by simpa using hk
        clear hk
        go_wp2_with fail
        go_ret
        exact ⟨by rw [V.out]; rfl, B1.out⟩
  · have e2 : (K == 2) = false := by simp; omega
    have e3 : (K == 3) = false := by simp; omega
    have V := Lib.hid (G0.out.2 (fun h => hk h.1))
    clear hk
    go_wp2_with fail
    go_ret
    exact ⟨by rw [V.out]; rfl, B1.out⟩

set_option maxRecDepth 100000 in
set_option maxHeartbeats 4000000 in
theorem told_yes (A : Option Addr) (n c : Nat) (x : Int) (N : Nat → RN) (b m cc : Nat) (f : Nat → Int) (w : World) (hD : DocIn w A n c x N) (hn : n ≤ 320) (hm : 2 * n = m) (hb : b < w.heap.size)
    (hrow : ∀ i, i < m → w.cell? ⟨b, i, none⟩ = some (.int .i64 (f i))) (hall : ∀ i, i < n → (N i).key = f (2 * i) ∧ (N i).depth = f (2 * i + 1)) :
    Calls Try.prog 20 #[docV A n c x, .slice (some ⟨b, 0, none⟩) m cc] w fun e w' => e = .returned (.bool true) ∧ Below w.heap.size w w' := by
  have B0 : Hid (Below w.heap.size w (w.alloc (.cells #[.slice A n c, .int .i64 x] 24))) := Lib.hid ((Below.refl _ w).alloc (Nat.le_refl _) _)
  have HN := Lib.hid (hD.1.1.below B0.out)
  have HR : Hid (∀ i, i < m → (w.alloc (.cells #[.slice A n c, .int .i64 x] 24)).cell? ⟨b, i, none⟩ = some (.int .i64 (f i))) := Lib.hid (fun i hi => (World.cell?_alloc_lt _ _ _ hb).trans (hrow i hi))
  have HA := Lib.hid hall
  have c0 : (w.alloc (.cells #[.slice A n c, .int .i64 x] 24)).cell? ⟨w.heap.size, 0, none⟩ = some (.slice A n c) := by simp
  clear hD hrow hall hb
  subst hm
  unfold docV
  have e0 : ((2 : Int) * n != ((2 * n : Nat) : Int)) = false := by simp
  have e1 : IntKind.i64.wrap ((2 : Int) * n) = 2 * n := IntWalk.i64_in _ (by omega)
  go_enter Try.func20, Try.ntmps20
  go_wp2
  have C0 := Lib.hid c0
  clear c0 e0 e1
  generalize w.alloc (.cells #[.slice A n c, .int .i64 x] 24) = W0 at B0 HN HR C0 ⊢
  go_loopg [5] n (fun g1 v wr => ∃ k : Nat, v = .int .i64 k ∧ k ≤ n ∧ n - k ≤ g1 ∧ Hid (Drew W0 wr))
  case atStart => exact ⟨0, rfl, by omega, by omega, Lib.hid ⟨0, rfl⟩⟩
  case round =>
    obtain ⟨k, rfl, hk, hg1, DW⟩ := hrel
    obtain ⟨q, rfl⟩ := DW.out
    have c0 := C0.out
    by_cases hlt : k < n
    · have hltz : (k : Int) < n := by omega
      have hk0 : (0 : Int) ≤ k := by omega
      obtain ⟨bA, oA, rfl, hbA, q1, q2⟩ := node_cell HN.out hlt
      have r1 := HR.out (2 * k) (by omega)
      have r2 := HR.out (2 * k + 1) (by omega)
      obtain ⟨a1, a2⟩ := HA.out k hlt
      rw [a1] at q1
      rw [a2] at q2
      clear a1 a2 hbA
      have v1 : IntKind.i64.wrap ((2 : Int) * k) = 2 * k := IntWalk.i64_in _ (by omega)
      have v2 : IntKind.i64.wrap ((2 : Int) * k + 1) = 2 * k + 1 := by clear v1; exact IntWalk.i64_in _ (by omega)
      have z1 : (0 : Int) ≤ 2 * k := by omega
      have z2 : (2 : Int) * k < ((2 * n : Nat) : Int) := by omega
      have z3 : (0 : Int) ≤ 2 * k + 1 := by omega
      have z4 : (2 : Int) * k + 1 < ((2 * n : Nat) : Int) := by omega
      have t1 : ((2 : Int) * k).toNat = 2 * k := by omega
      have t2 : ((2 : Int) * k + 1).toNat = 2 * k + 1 := by omega
      generalize f (2 * k) = y1 at q1 r1
      generalize f (2 * k + 1) = y2 at q2 r2
      go_wp2_with fail
      go_quiet (fail)
      go_wp2_with fail
      go_roundg (n - (k + 1))
      case measure => omega
      case rel => exact ⟨k + 1, by go_num, by omega, Nat.le_refl _, Lib.hid ⟨_, rfl⟩⟩
    · obtain rfl : k = n := by omega
      go_wp2
      go_ret
      exact ⟨rfl, below_drew B0.out _⟩
end Go.Proofs.Ytmodegkpfdlccaa
