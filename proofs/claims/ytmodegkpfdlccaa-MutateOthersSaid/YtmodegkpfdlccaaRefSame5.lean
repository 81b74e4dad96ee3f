/-
  The document's Same of chapter 5; and law 7's up, gone, great.
-/
import Derived.Test.YtmodegkpfdlccaaRefTree
import Derived.Test.YtmodegkpfdlccaaSame5
namespace Go.Proofs.Ytmodegkpfdlccaa
open Go.RowKit

set_option maxRecDepth 100000 in
set_option maxHeartbeats 8000000 in
theorem refSame5_any (A : Option Addr) (n c : Nat) (x : Int) (N : Nat → RN) (B : Option Addr) (m d : Nat) (y : Int) (M : Nat → RN) (w : World) (hA : DocIn w A n c x N) (hB : DocIn w B m d y M) :
    Calls Try.prog 17 #[docV A n c x, docV B m d y] w fun e w' => ∃ b : Bool, e = .returned (.bool b) ∧ (b = true ↔ SameDoc n x N m y M) ∧ Below w.heap.size w w' := by
  have hn : n ≤ 140737488351232 := by have := hA.1.2.2.2; omega
  have hm : m ≤ 140737488351232 := by have := hB.1.2.2.2; omega
  unfold docV
  have hb0 : Below w.heap.size w ((w.alloc (.cells #[.slice A n c, .int .i64 x] 24)).alloc (.cells #[.slice B m d, .int .i64 y] 24)) := ((Below.refl _ w).alloc (Nat.le_refl _) _).alloc (by simp) _
  have d0 : DocBox ((w.alloc (.cells #[.slice A n c, .int .i64 x] 24)).alloc (.cells #[.slice B m d, .int .i64 y] 24)) w.heap.size (.slice A n c) (.int .i64 x) := heap_alloc2_old w _ _
  have d1 : DocBox ((w.alloc (.cells #[.slice A n c, .int .i64 x] 24)).alloc (.cells #[.slice B m d, .int .i64 y] 24)) (w.heap.size + 1) (.slice B m d) (.int .i64 y) := heap_alloc2_new w _ _
  have B0 := Lib.hid hb0
  have HA := Lib.hid (hA.1.1.below hb0)
  have HB := Lib.hid (hB.1.1.below hb0)
  have a0 := d0.c0
  have a1 := d0.c1
  have b0 := d1.c0
  have b1 := d1.c1
  clear hA hB hb0 d0 d1
  by_cases hl : n = m
  · subst hl
    by_cases hx : x = y
    · have hxx : (x != y) = false := by simp [hx]
      have HX := Lib.hid hx
      clear hx
      go_enter Try.func17, Try.ntmps17
      go_wp2_with fail
      have A0 := Lib.hid a0
      have C0 := Lib.hid b0
      clear a0 a1 b0 b1
      generalize (w.alloc (.cells #[.slice A n c, .int .i64 x] 24)).alloc (.cells #[.slice B n d, .int .i64 y] 24) = W0 at B0 HA HB A0 C0 ⊢
      go_loopg [5] n (fun g1 v wr => ∃ k : Nat, v = .int .i64 k ∧ k ≤ n ∧ n - k ≤ g1 ∧ Hid (∀ j, j < k → N j = M j) ∧ Hid (Drew W0 wr))
      case atStart => exact ⟨0, rfl, by omega, by omega, Lib.hid (fun j hj => absurd hj (by omega)), Lib.hid ⟨0, rfl⟩⟩
      case round =>
        obtain ⟨k, rfl, hk, hg1, EQ, DW⟩ := hrel
        obtain ⟨q, rfl⟩ := DW.out
        have a0 : (W0.drewN q).cell? ⟨w.heap.size, 0, none⟩ = some (.slice A n c) := A0.out
        have b0 : (W0.drewN q).cell? ⟨w.heap.size + 1, 0, none⟩ = some (.slice B n d) := C0.out
        by_cases hlt : k < n
        · have hltz : (k : Int) < n := by omega
          have hk0 : (0 : Int) ≤ k := by omega
          obtain ⟨bA, oA, rfl, hbA, nA⟩ := HA.out.2 (by omega)
          obtain ⟨bB, oB, rfl, hbB, nB⟩ := HB.out.2 (by omega)
          have okA := HA.out.1 k hlt
          have okB := HB.out.1 k hlt
          have rA : Hid ((W0.drewN q).drew.rangeAt bA (oA + k * 51) (N k).cells) := Lib.hid (node_range okA (nA k hlt))
          have rB : Hid ((W0.drewN q).drew.rangeAt bB (oB + k * 51) (M k).cells) := Lib.hid (node_range okB (nB k hlt))
          have lA := okA.len
          have lB := okB.len
          obtain ⟨r, hr, hiff⟩ := run_node_eq_all okA okB
          have RR := Lib.hid hr
          have RI : Hid (r = true ∧ N k = M k ∨ r = false ∧ N k ≠ M k) := Lib.hid (by cases r <;> simp at hiff <;> simp [hiff])
          have LA : Hid ((Try.prog.info? 32).map (·.size) = some (N k).cells.length) := Lib.hid (by rw [lA]; exact node_isize)
          have LB : Hid ((Try.prog.info? 32).map (·.size) = some (M k).cells.length) := Lib.hid (by rw [lB]; exact node_isize)
          clear nA nB okA okB lA lB hr hiff
          generalize hX : (N k).cells = X at rA RR LA
          generalize hY : (M k).cells = Y at rB RR LB
          clear hX hY
          have a2 : (W0.drewN (q + 1)).cell? ⟨w.heap.size, 0, none⟩ = some (.slice (some ⟨bA, oA, none⟩) n c) := A0.out
          have b2 : (W0.drewN (q + 1)).cell? ⟨w.heap.size + 1, 0, none⟩ = some (.slice (some ⟨bB, oB, none⟩) n d) := C0.out
          go_wp2_with fail
          refine wp_region_still_d (by kernel_rfl) (by kernel_rfl) ?_
          iterate 4 still_step
          refine wpStill_load_mid rfl 32 _ rfl bA (oA + k * 51) rfl X _ rA.out Try.underlying32 rfl LA.out ?_
          iterate 4 still_step
          refine wpStill_load_mid rfl 32 _ rfl bB (oB + k * 51) rfl Y _ rB.out Try.underlying32 rfl LB.out ?_
          refine wpStill_eq_struct rfl true 32 _ _ _ rfl X.toArray Y.toArray rfl rfl node_guard r RR.out ?_
          refine wpStill_nil ?_
          go_simp
          rcases RI.out with ⟨rfl, he⟩ | ⟨rfl, he⟩
          · have HE := Lib.hid he
            clear he RI
            go_wp2
            go_roundg (n - (k + 1))
            case measure => omega
            case rel => exact ⟨k + 1, by go_num, by omega, Nat.le_refl _, Lib.hid (fun j hj => by
              rcases Nat.lt_or_ge j k with h | h
              · exact EQ.out j h
              · obtain rfl : j = k := by omega
                exact HE.out), Lib.hid ⟨q + 1, rfl⟩⟩
          · have HE := Lib.hid he
            clear he RI
            go_wp2
            go_ret
            exact ⟨false, rfl, ⟨(fun h => by cases h), fun h => absurd (h.2.2 k hlt) HE.out⟩, below_drew B0.out (q + 1)⟩
        · obtain rfl : k = n := by omega
          go_wp2
          go_ret
          exact ⟨true, rfl, ⟨fun _ => ⟨HX.out, rfl, EQ.out⟩, fun _ => rfl⟩, below_drew B0.out q⟩
    · have hxx : (x != y) = true := by simpa using hx
      have HX := Lib.hid hx
      clear hx
      go_enter Try.func17, Try.ntmps17
      go_wp2_with fail
      go_ret
      exact ⟨false, rfl, ⟨(fun h => by cases h), fun h => absurd h.1 HX.out⟩, B0.out⟩
  · have hne2 : ((n : Int) != m) = true := by simp; omega
    have hne3 : (n != m) = true := by simpa using hl
    go_enter Try.func17, Try.ntmps17
    go_wp2_with fail
    go_ret
    exact ⟨false, rfl, ⟨(fun h => by cases h), fun h => absurd h.2.1 hl⟩, B0.out⟩

/-- the key of a node's parent; 0: it has none -/
def upAns (N : Nat → RN) (n : Nat) (a : Int) : Int := if parAns N n a < 0 then 0 else (N (parAns N n a).toNat).key
set_option maxRecDepth 100000 in
theorem parAns_bd (N : Nat → RN) (n : Nat) (a : Int) : -1 ≤ parAns N n a ∧ parAns N n a < n := by
  unfold parAns
  split
  · rename_i h
    unfold parOf
    rcases parFrom_cases (dps N) (dps N a.toNat) a.toNat with ⟨k1, _⟩ | ⟨q, k1, k2, _, _⟩
    · rw [k1]; omega
    · rw [k1]; omega
  · omega
set_option maxRecDepth 100000 in
set_option maxHeartbeats 4000000 in
theorem up_any (A : Option Addr) (len c : Nat) (x : Int) (N : Nat → RN) (a : Int) (w : World) (hD : DocIn w A len c x N) (ha1 : -9223372036854775808 ≤ a) (ha2 : a ≤ 9223372036854775807) (r : Int) (hr : upAns N len a = r) :
    Calls Try.prog 14 #[docV A len c x, .int .i64 a] w fun e w' => e = .returned (.int .i64 r) ∧ Below w.heap.size w w' := by
  have hlen : len ≤ 140737488351232 := by have := hD.1.2.2.2; omega
  have B0 : Hid (Below w.heap.size w (w.alloc (.cells #[.slice A len c, .int .i64 x] 24))) := Lib.hid ((Below.refl _ w).alloc (Nat.le_refl _) _)
  have DD := Lib.hid (fun W (h : Below w.heap.size w W) => hD.below h)
  have bd := parAns_bd N len a
  obtain ⟨p, hp⟩ : ∃ p, parAns N len a = p := ⟨_, rfl⟩
  rw [hp] at bd
  have PC := Lib.hid (fun W h => refParent_any A len c x N a W (DD.out W h) ha1 ha2 p hp)
  have HR : Hid ((p < 0 → (0 : Int) = r) ∧ (∀ k : Nat, p = k → (N k).key = r)) := Lib.hid (by
    rw [← hr]; unfold upAns; rw [hp]
    exact ⟨fun h => by rw [if_pos h], fun k hk => by subst hk; rw [if_neg (by omega)]; rfl⟩)
  clear hD hr hp
  obtain ⟨bd1, bd2⟩ := bd
  unfold docV
  go_enter Try.func14, Try.ntmps14
  go_wp2_with fail
  refine (PC.out _ B0.out).mono ?_
  rintro e w1 ⟨rfl, hb1⟩
  have B1 : Hid (Below w.heap.size w w1) := Lib.hid (B0.out.trans (hb1.mono B0.out.size))
  have c0 : w1.cell? ⟨w.heap.size, 0, none⟩ = some (.slice A len c) := (hb1.cell (p := ⟨w.heap.size, 0, none⟩) (by simp)).trans (by simp)
  clear hb1
  by_cases hneg : p < 0
  · have HE := Lib.hid (HR.out.1 hneg)
    have d1 := decide_eq_true hneg
    go_wp2_with fail
    go_ret
    exact ⟨by rw [← HE.out]; rfl, B1.out⟩
  · obtain ⟨k, rfl⟩ : ∃ k : Nat, p = k := ⟨p.toNat, by omega⟩
    have hk : k < len := by omega
    have k0 : (0 : Int) ≤ k := by omega
    have HE := Lib.hid (HR.out.2 k rfl)
    have d1 : decide ((k : Int) < 0) = false := decide_eq_false hneg
    obtain ⟨b, off, rfl, hb, q1, q2⟩ := node_cell (DD.out w1 B1.out).1.1 hk
    clear q2 hb
    go_wp2_with fail
    go_ret
    exact ⟨by rw [← HE.out]; rfl, B1.out⟩
end Go.Proofs.Ytmodegkpfdlccaa
