/-
  The document's Kids of chapter 5.
-/
import Derived.Test.YtmodegkpfdlccaaRefTree
import Derived.Test.YtmodegkpfdlccaaKids
namespace Go.Proofs.Ytmodegkpfdlccaa
open Go.RowKit

/-- a node's kids up to a place -/
def kidsTo (N : Nat → RN) (m k : Nat) : List Nat := (List.range' (m + 1) (k - (m + 1))).filter fun j => decide (dps N m + 1 = dps N j)
theorem kidsTo_zero (N : Nat → RN) (m : Nat) : kidsTo N m (m + 1) = [] := by unfold kidsTo; simp
theorem kidsTo_snoc (N : Nat → RN) {m k : Nat} (h : m + 1 ≤ k) : kidsTo N m (k + 1) = kidsTo N m k ++ if (N m).depth + 1 = (N k).depth then [k] else [] := by
  unfold kidsTo
  rw [show k + 1 - (m + 1) = (k - (m + 1)) + 1 by omega, List.range'_concat, List.filter_append]
  congr 1
  rw [show m + 1 + 1 * (k - (m + 1)) = k by omega]
  by_cases hd : (N m).depth + 1 = (N k).depth <;> simp [dps, hd]
theorem kidsTo_le (N : Nat → RN) (m k : Nat) : (kidsTo N m k).length ≤ k - (m + 1) := by
  unfold kidsTo
  have := List.length_filter_le (fun j => decide (dps N m + 1 = dps N j)) (List.range' (m + 1) (k - (m + 1)))
  simpa using this
theorem kidsTo_lt (N : Nat → RN) (m k : Nat) : ∀ x ∈ kidsTo N m k, x < k := by
  unfold kidsTo
  intro x hx
  have := List.mem_range'_1.1 (List.mem_filter.1 hx).1
  omega
/-- a row of places, in new memory -/
def KidsTold (w : World) (l : List Nat) (e : Ending) (w' : World) : Prop :=
  ∃ B d, e = .returned (.slice B l.length d) ∧ Places w' B d l ∧ (∀ b off, B = some ⟨b, off, none⟩ → w.heap.size ≤ b) ∧ Below w.heap.size w w'
theorem infoInt : (Try.prog.info? 3).map (fun i => (i.zero, i.size, i.bytes)) = some (some (.int .i64 0), 1, 8) := by kernel_rfl
theorem cell_one (W : World) (x : Int) (t : TypeId) : ∀ j u, ([Value.int .i64 x])[j]? = some u → (W.alloc (.cells #[.int .i64 x] t)).cell? (Addr.add ⟨W.heap.size, 0, none⟩ j) = some u := by
  intro j u hj
  match j, hj with
  | 0, hj => simp at hj; subst hj; simp [Addr.add, World.cell?_alloc_at]

set_option maxRecDepth 100000 in
set_option maxHeartbeats 8000000 in
theorem refKids_any (A : Option Addr) (len c : Nat) (x : Int) (N : Nat → RN) (a : Int) (w : World) (hD : DocIn w A len c x N) (ha1 : -1 ≤ a) (ha2 : a < len) :
    Calls Try.prog 15 #[docV A len c x, .int .i64 a] w (KidsTold w (kidsAns N len a)) := by
  have hlen : len ≤ 140737488351232 := by have := hD.1.2.2.2; omega
  have hlen8 : len * 360 ≤ 140737488351232 := hD.1.2.2.2
  have B0 : Hid (Below w.heap.size w (w.alloc (.cells #[.slice A len c, .int .i64 x] 24))) := Lib.hid ((Below.refl _ w).alloc (Nat.le_refl _) _)
  have S0 : Hid ((w.alloc (.cells #[.slice A len c, .int .i64 x] 24)).heap.size = w.heap.size + 1) := Lib.hid (by simp)
  have DD := Lib.hid (fun W (h : Below w.heap.size w W) => hD.below h)
  have c0 : (w.alloc (.cells #[.slice A len c, .int .i64 x] 24)).cell? ⟨w.heap.size, 0, none⟩ = some (.slice A len c) := by simp
  have c1 : (w.alloc (.cells #[.slice A len c, .int .i64 x] 24)).cell? ⟨w.heap.size, 1, none⟩ = some (.int .i64 x) := by rw [World.cell?_alloc_new]; rfl
  have C0 := Lib.hid c0
  have C1 := Lib.hid c1
  clear hD c0 c1
  by_cases hneg : a < 0
  · obtain rfl : a = -1 := by omega
    have EN := Lib.hid (fun W h => refEnd_any A len c x N (-1) W (DD.out W h) (by omega) (by omega) (-1) (by unfold endAns; rw [if_neg (by omega)]))
    have KN : Hid (kidsAns N len (-1) = []) := Lib.hid (by unfold kidsAns; rw [if_neg (by omega)])
    unfold docV
    have c0 := C0.out
    have c1 := C1.out
    go_enter Try.func15, Try.ntmps15
    go_wp2_with fail
    refine wp_loop_rounds 1 ?_
    rw [rounds_succ]
    go_wp2_with fail
    refine (EN.out _ B0.out).mono ?_
    rintro e w1 ⟨rfl, hb1⟩
    have B1 : Hid (Below w.heap.size w w1) := Lib.hid (B0.out.trans (hb1.mono B0.out.size))
    clear hb1
    go_wp2_with fail
    go_ret
    exact ⟨none, 0, by rw [KN.out]; rfl, by rw [KN.out]; exact ⟨fun p hp => (by cases hp), fun _ => ⟨rfl, rfl⟩, ⟨Nat.le_refl _, by omega⟩, fun h => absurd rfl h⟩, fun b off e => (by cases e), B1.out⟩
  · obtain ⟨m, rfl⟩ : ∃ m : Nat, a = m := ⟨a.toNat, by omega⟩
    have hm : m < len := by omega
    obtain ⟨E, hE⟩ : ∃ E, endOf (dps N) len m = E := ⟨_, rfl⟩
    have hE1 : m < E ∧ E ≤ len := by rw [← hE]; exact endOf_gt (dps N) hm
    have EN := Lib.hid (fun W h => refEnd_any A len c x N m W (DD.out W h) (by omega) (by omega) (E : Int) (by unfold endAns; rw [if_pos (by omega), ← hE]; rfl))
    have KN : Hid (kidsAns N len m = kidsTo N m E) := Lib.hid (by unfold kidsAns; rw [if_pos (by omega), ← hE]; rfl)
    clear hE
    obtain ⟨i0, hi0, hz0, hz1, hz2⟩ := info_parts infoInt
    unfold docV
    have c0 := C0.out
    have c1 := C1.out
    go_enter Try.func15, Try.ntmps15
    go_wp2
    clear c0 c1
    generalize w.alloc (.cells #[.slice A len c, .int .i64 x] 24) = W0 at B0 S0 C0 C1 ⊢
    go_loopg [5, 6] E (fun g1 vv i wr => ∃ (k : Nat) (v : Value), v = vv ∧ i = .int .i64 k ∧ m + 1 ≤ k ∧ k ≤ E ∧ E - k ≤ g1 ∧ Hid (owns wr W0.heap.size 3 .i64 v (kidsTo N m k)) ∧ Hid (Below W0.heap.size W0 wr))
    case atStart => exact ⟨m + 1, _, rfl, by go_num, by omega, by omega, by omega, Lib.hid (by rw [kidsTo_zero]; exact World.ownsRow_nil _ _ _ _), Lib.hid (Below.refl _ _)⟩
    case round =>
      obtain ⟨k, v, rfl, rfl, hk1, hk2, hg1, HO, HB⟩ := hrel
      have BW : Hid (Below w.heap.size w wr) := Lib.hid (B0.out.trans (HB.out.mono B0.out.size))
      have c0 : wr.cell? ⟨w.heap.size, 0, none⟩ = some (.slice A len c) := (HB.out.cell (p := ⟨w.heap.size, 0, none⟩) (by have := S0.out; show w.heap.size < _; omega)).trans C0.out
      have c1 : wr.cell? ⟨w.heap.size, 1, none⟩ = some (.int .i64 x) := (HB.out.cell (p := ⟨w.heap.size, 1, none⟩) (by have := S0.out; show w.heap.size < _; omega)).trans C1.out
      go_wp2_with fail
      refine (EN.out _ BW.out).mono ?_
      rintro e w1 ⟨rfl, hb1⟩
      have HB1 : Hid (Below W0.heap.size W0 w1) := Lib.hid (HB.out.trans (hb1.mono HB.out.size))
      have HO1 : Hid (owns w1 W0.heap.size 3 .i64 v (kidsTo N m k)) := Lib.hid (HO.out.keep hb1)
      clear hb1 c0 c1 HO
      have BW1 : Hid (Below w.heap.size w w1) := Lib.hid (B0.out.trans (HB1.out.mono B0.out.size))
      by_cases hlt : k < E
      · have hkl : k < len := by omega
        have m0 : (0 : Int) ≤ m := by omega
        have mlt : (m : Int) < len := by omega
        have k0 : (0 : Int) ≤ k := by omega
        have klt : (k : Int) < len := by omega
        have c0 : w1.cell? ⟨w.heap.size, 0, none⟩ = some (.slice A len c) := (HB1.out.cell (p := ⟨w.heap.size, 0, none⟩) (by have := S0.out; show w.heap.size < _; omega)).trans C0.out
        have OK := Lib.hid (DD.out w1 BW1.out).1.1.1
        obtain ⟨bA, oA, eA, hbA, p1, p2⟩ := node_cell (DD.out w1 BW1.out).1.1 hm
        subst eA
        obtain ⟨b, off, eB, hb, q1, q2⟩ := node_cell (DD.out w1 BW1.out).1.1 hkl
        cases eB
        clear p1 q1 hb hbA
        obtain ⟨r1, hr1⟩ : ∃ b, decide ((N m).depth + 1 = (N k).depth) = b := ⟨_, rfl⟩
        have LC := Lib.hid (fun W => refLess_any (N m).depth (N k).depth ((OK.out m hm).depth.1) ((OK.out k hkl).depth.2) W r1 hr1)
        have SN : Hid ((r1 = true → kidsTo N m (k + 1) = kidsTo N m k ++ [k]) ∧ (r1 = false → kidsTo N m (k + 1) = kidsTo N m k)) := Lib.hid ⟨fun e => by rw [kidsTo_snoc N hk1, if_pos (of_decide_eq_true (hr1.trans e))], fun e => by rw [kidsTo_snoc N hk1, if_neg (of_decide_eq_false (hr1.trans e)), List.append_nil]⟩
        have LL : Hid ((kidsTo N m k).length ≤ len) := Lib.hid (by have := kidsTo_le N m k; omega)
        clear hr1
        have HOq : Hid (∀ n, owns (w1.drewN n) W0.heap.size 3 .i64 v (kidsTo N m k)) := Lib.hid (fun n => HO1.out.keep (below_drew (Below.refl _ _) n))
        have HBq : Hid (∀ n, Below W0.heap.size W0 (w1.drewN n)) := Lib.hid (fun n => below_drew HB1.out n)
        clear HO1
        generalize (N m).depth = dm at *
        generalize (N k).depth = dk at *
        cases r1 with
        | true =>
          go_wp2_with fail
          go_quiet ((go_at_call 30; exact Calls.quiet_of_same (LC.out _)))
          clear c0 p2 q2
          have HO2 := Lib.hid (HOq.out nq)
          have HB2 := Lib.hid (HBq.out nq)
          clear HOq HBq
          generalize w1.drewN nq = W2 at HO2 HB2 ⊢
          have sz := HB2.out.size
          have OA := Lib.hid (World.ownsRow.alloc HO2.out (.cells #[.int .i64 ((k : Nat) : Int)] 3))
          have D1 : Hid (∀ j u, ([Value.int .i64 ((k : Nat) : Int)])[j]? = some u → (W2.alloc (.cells #[.int .i64 ((k : Nat) : Int)] 3)).cell? (Addr.add ⟨W2.heap.size, 0, none⟩ j) = some u) := Lib.hid (cell_one W2 _ _)
          have D2 : Hid (∀ u ∈ [Value.int .i64 ((k : Nat) : Int)], u.oneCell' = true) := Lib.hid (fun u hu => by simp at hu; subst hu; rfl)
          go_wp2_with (at_builtin; refine wpList_append_own _ rfl _ _ 43 rfl W0.heap.size 3 i0 (.int .i64 0) 1 8 Try.underlying43 hi0 hz0 hz1 hz2 rfl (by decide) _ _ _ rfl OA.out ⟨W2.heap.size, 0, none⟩ 1 1 [.int .i64 ((k : Nat) : Int)] rfl rfl D1.out D2.out (by have := LL.out; unfold maxLen; omega) (by have := LL.out; omega) (by simp; omega) ?_)
          intro v' w3 hown hgrow _
          have HO3 : Hid (owns w3 W0.heap.size 3 .i64 v' (kidsTo N m (k + 1))) := Lib.hid (by
            rw [SN.out.1 (by trivial)]
            unfold owns
            rw [List.length_append, List.map_append]
            exact hown)
          have HB3 : Hid (Below W0.heap.size W0 w3) := Lib.hid ((HB2.out.alloc sz _).grown hgrow (by simp; omega) (fun g e => by
            rcases HO2.out.2 with ⟨e', _⟩ | ⟨g', cap, cur, e', hge, _⟩
            · rw [e'] at e; cases e
            · rw [e'] at e; cases e; exact hge))
          clear hown hgrow OA D1 D2 HO2
          go_wp2
          go_roundg (E - (k + 1))
          case measure => omega
          case rel => exact ⟨k + 1, _, rfl, by go_num, by omega, by omega, Nat.le_refl _, HO3, HB3⟩
        | false =>
          go_wp2_with fail
          go_quiet ((go_at_call 30; exact Calls.quiet_of_same (LC.out _)))
          have HO3 : Hid (owns (w1.drewN nq) W0.heap.size 3 .i64 v (kidsTo N m (k + 1))) := Lib.hid (by rw [SN.out.2 (by trivial)]; exact HOq.out nq)
          have HB3 := Lib.hid (HBq.out nq)
          go_wp2_with fail
          go_roundg (E - (k + 1))
          case measure => omega
          case rel => exact ⟨k + 1, _, rfl, by go_num, by omega, by omega, Nat.le_refl _, HO3, HB3⟩
      · obtain rfl : k = E := by omega
        obtain ⟨B, d, e1, hpl, hfr⟩ := places_of_owns HO1.out (fun y hy => by have := kidsTo_lt N m k y hy; omega)
        subst e1
        have HP := Lib.hid hpl
        have HF := Lib.hid hfr
        clear hpl hfr HO1
        go_wp2_with fail
        go_ret
        exact ⟨B, d, by rw [KN.out]; rfl, by rw [KN.out]; exact HP.out, fun b off e => by have := HF.out b off e; have := S0.out; omega, BW1.out⟩
end Go.Proofs.Ytmodegkpfdlccaa
