/-
  The document's Find, less, End, Parent of chapter 5.
-/
import Derived.Test.YtmodegkpfdlccaaTreeOK
import Derived.Deep.LoopGhost
import Derived.Deep.QuietTactic
import Derived.BigQuiet
import Derived.IntWalk
namespace Go.Proofs.Ytmodegkpfdlccaa
open Go.RowKit

theorem node_cell {W : World} {A : Option Addr} {n : Nat} {N : Nat → RN} (h : Nodes W A n N) {j : Nat} (hj : j < n) :
    ∃ b off, A = some ⟨b, off, none⟩ ∧ b < W.heap.size ∧ W.cell? ⟨b, off + j * 51, none⟩ = some (.int .i64 (N j).key) ∧ W.cell? ⟨b, off + j * 51 + 1, none⟩ = some (.int .i64 (N j).depth) := by
  obtain ⟨b, off, e, hb, hc⟩ := h.2 (by omega)
  exact ⟨b, off, e, hb, (hc j hj 0 (by omega)).trans rfl, (hc j hj 1 (by omega)).trans rfl⟩

set_option maxRecDepth 100000 in
set_option maxHeartbeats 4000000 in
theorem refFind_any (A : Option Addr) (len c : Nat) (x : Int) (N : Nat → RN) (key : Int) (w : World) (hD : DocIn w A len c x N) (r : Int) (hr : FindIs N len key r) :
    Calls Try.prog 12 #[docV A len c x, .int .i64 key] w fun e w' => e = .returned (.int .i64 r) ∧ Below w.heap.size w w' := by
  have hlen : len ≤ 140737488351232 := by have := hD.1.2.2.2; omega
  unfold docV
  have B0 : Hid (Below w.heap.size w (w.alloc (.cells #[.slice A len c, .int .i64 x] 24))) := Lib.hid ((Below.refl _ w).alloc (Nat.le_refl _) _)
  have HN := Lib.hid (hD.1.1.below B0.out)
  have HR := Lib.hid hr
  clear hD hr
  go_enter Try.func12, Try.ntmps12
  go_wp2
  have c0 : (w.alloc (.cells #[.slice A len c, .int .i64 x] 24)).cell? ⟨w.heap.size, 0, none⟩ = some (.slice A len c) := by simp
  generalize w.alloc (.cells #[.slice A len c, .int .i64 x] 24) = W0 at B0 HN c0 ⊢
  go_loop [5] (fun v => ∃ k : Nat, v = .int .i64 k ∧ k ≤ len ∧ Hid (∀ j, j < k → (N j).key ≠ key)) (fun v => len - (intOf v).toNat)
  case atStart => exact ⟨0, rfl, by omega, Lib.hid (fun j hj => absurd hj (by omega))⟩
  case round =>
    obtain ⟨k, rfl, hk, HK⟩ := hrel
    by_cases hlt : k < len
    · have hltz : (k : Int) < len := by omega
      have hk0 : (0 : Int) ≤ k := by omega
      obtain ⟨b, off, rfl, hb, d1, d2⟩ := node_cell HN.out hlt
      clear d2
      by_cases he : (N k).key = key
      · have hee : ((N k).key == key) = true := by simpa using he
        have RE : Hid ((k : Int) = r) := Lib.hid (FindIs.uniq (.inr ⟨k, hlt, rfl, he, HK.out⟩) HR.out)
        clear he
        go_wp2
        go_ret
        exact ⟨by rw [← RE.out]; rfl, B0.out⟩
      · have hee : ((N k).key == key) = false := by simpa using he
        have HE := Lib.hid he
        clear he
        go_wp2
        go_round
        case rel => exact ⟨k + 1, by go_num, by omega, Lib.hid (fun j hj => by
          rcases Nat.lt_or_ge j k with h | h
          · exact HK.out j h
          · obtain rfl : j = k := by omega
            exact HE.out)⟩
        case measure => simp [intOf]; omega
    · obtain rfl : k = len := by omega
      have RE : Hid ((-1 : Int) = r) := Lib.hid (FindIs.uniq (.inl ⟨rfl, HK.out⟩) HR.out)
      go_wp2
      go_ret
      exact ⟨by rw [← RE.out]; rfl, B0.out⟩

theorem refLess_any (a b : Int) (ha : -9223372036854775808 ≤ a) (hb : b ≤ 9223372036854775807) (w : World) (r : Bool) (hr : decide (a + 1 = b) = r) :
    Calls Try.prog 30 #[.int .i64 a, .int .i64 b] w fun e w' => e = .returned (.bool r) ∧ w' = w := by
  by_cases h : a < b
  · by_cases h2 : a + 1 = b
    · have R : Hid (r = true) := Lib.hid (by rw [← hr]; exact decide_eq_true h2)
      have e2 : (a + 1 == b) = true := by simpa using h2
      clear hr h2
      go_enter Try.func30, Try.ntmps30
      go_wp2
      go_ret
      exact ⟨by rw [R.out]; rfl, rfl⟩
    · have R : Hid (r = false) := Lib.hid (by rw [← hr]; exact decide_eq_false h2)
      have e2 : (a + 1 == b) = false := by simpa using h2
      clear hr h2
      go_enter Try.func30, Try.ntmps30
      go_wp2
      go_ret
      exact ⟨by rw [R.out]; rfl, rfl⟩
  · have R : Hid (r = false) := Lib.hid (by rw [← hr]; exact decide_eq_false (by omega))
    clear hr
    go_enter Try.func30, Try.ntmps30
    go_wp2
    go_ret
    exact ⟨by rw [R.out]; rfl, rfl⟩

set_option maxRecDepth 100000 in
set_option maxHeartbeats 4000000 in
theorem refEnd_any (A : Option Addr) (len c : Nat) (x : Int) (N : Nat → RN) (a : Int) (w : World) (hD : DocIn w A len c x N) (ha1 : -9223372036854775808 ≤ a) (ha2 : a ≤ 9223372036854775807) (r : Int) (hr : endAns N len a = r) :
    Calls Try.prog 18 #[docV A len c x, .int .i64 a] w fun e w' => e = .returned (.int .i64 r) ∧ Below w.heap.size w w' := by
  have hlen : len ≤ 140737488351232 := by have := hD.1.2.2.2; omega
  unfold docV
  have B0 : Hid (Below w.heap.size w (w.alloc (.cells #[.slice A len c, .int .i64 x] 24))) := Lib.hid ((Below.refl _ w).alloc (Nat.le_refl _) _)
  have HN := Lib.hid (hD.1.1.below B0.out)
  have HR := Lib.hid hr
  clear hD hr
  have c0 : (w.alloc (.cells #[.slice A len c, .int .i64 x] 24)).cell? ⟨w.heap.size, 0, none⟩ = some (.slice A len c) := by simp
  have C0 := Lib.hid c0
  clear c0
  by_cases h1 : a < 0
  · have d1 := decide_eq_true h1
    have RE : Hid ((-1 : Int) = r) := Lib.hid (by rw [← HR.out]; unfold endAns; rw [if_neg (by omega)])
    go_enter Try.func18, Try.ntmps18
    go_wp2
    go_ret
    exact ⟨by rw [← RE.out]; rfl, B0.out⟩
  · have d1 := decide_eq_false h1
    by_cases h2 : (len : Int) ≤ a
    · have d2 := decide_eq_true h2
      have RE : Hid ((-1 : Int) = r) := Lib.hid (by rw [← HR.out]; unfold endAns; rw [if_neg (by omega)])
      have c0 := C0.out
      go_enter Try.func18, Try.ntmps18
      go_wp2
      go_ret
      exact ⟨by rw [← RE.out]; rfl, B0.out⟩
    · obtain ⟨m, rfl⟩ : ∃ m : Nat, a = m := ⟨a.toNat, by omega⟩
      have hm : m < len := by omega
      have d2 : decide (len ≤ m) = false := decide_eq_false (by omega)
      have d3 : decide ((len : Int) ≤ (m : Int)) = false := decide_eq_false h2
      have RE : Hid (∀ e, IsEnd (dps N) (dps N m) len (m + 1) e → ((e : Nat) : Int) = r) := Lib.hid (fun e he => by
        rw [← HR.out]; unfold endAns; rw [if_pos (by omega), show ((m : Nat) : Int).toNat = m by omega, endOf_eq (dps N) hm he])
      clear HR
      obtain ⟨bA, oA, rfl, hbA, k1, k2⟩ := node_cell HN.out hm
      clear k1
      have K2 := Lib.hid k2
      clear k2
      have c0 := C0.out
      go_enter Try.func18, Try.ntmps18
      go_wp2
      clear c0
      generalize w.alloc (.cells #[.slice (some ⟨bA, oA, none⟩) len c, .int .i64 x] 24) = W0 at B0 HN C0 K2 ⊢
      clear d1 d2 d3
      go_loopg [5] len (fun g1 v wr => ∃ k : Nat, v = .int .i64 k ∧ m + 1 ≤ k ∧ k ≤ len ∧ len - k ≤ g1 ∧ Hid (∀ j, m + 1 ≤ j → j < k → dps N m < dps N j) ∧ Hid (Drew W0 wr))
      case atStart => exact ⟨m + 1, by go_num, by omega, by omega, by omega, Lib.hid (fun j h h' => absurd h' (by omega)), Lib.hid ⟨0, rfl⟩⟩
      case round =>
        obtain ⟨k, rfl, hk1, hk2, hg1, HK, DW⟩ := hrel
        obtain ⟨q, rfl⟩ := DW.out
        have c0 := C0.out
        have m0 : (0 : Int) ≤ m := by omega
        have mlt : (m : Int) < len := by omega
        have k0 : (0 : Int) ≤ k := by omega
        have k2 := K2.out
        by_cases hlt : k < len
        · have klt : (k : Int) < len := by omega
          have e1 : decide ((k : Int) < len) = true := decide_eq_true klt
          have e1' : decide (k < len) = true := decide_eq_true hlt
          obtain ⟨b, off, eA, hb, q1, q2⟩ := node_cell HN.out hlt
          cases eA
          clear q1 hb
          have kk : k < len := hlt
          by_cases hd : (N m).depth < (N k).depth
          · have HE : Hid (dps N m < dps N k) := Lib.hid hd
            have e2 := decide_eq_true hd
            clear hd
            generalize (N m).depth = dm at *
            generalize (N k).depth = dk at *
            go_wp2_with fail
            go_quiet (fail)
            go_wp2
            go_roundg (len - (k + 1))
            case measure => omega
            case rel => exact ⟨k + 1, by go_num, by omega, by omega, Nat.le_refl _, Lib.hid (fun j h h' => by
              rcases Nat.lt_or_ge j k with h2 | h2
              · exact HK.out j h h2
              · obtain rfl : j = k := by omega
                exact HE.out), Lib.hid ⟨_, rfl⟩⟩
          · have HE := Lib.hid (RE.out k ⟨hk1, by omega, HK.out, .inr (by unfold dps; omega)⟩)
            have e2 := decide_eq_false hd
            clear hd
            generalize (N m).depth = dm at *
            generalize (N k).depth = dk at *
            go_wp2_with fail
            go_quiet (fail)
            go_wp2
            go_ret
            exact ⟨by rw [← HE.out]; rfl, below_drew (below_drew B0.out _) _⟩
        · have HE := Lib.hid (RE.out k ⟨hk1, by omega, HK.out, .inl (by omega)⟩)
          have e1 : decide ((k : Int) < len) = false := decide_eq_false (by omega)
          have e1' : decide (k < len) = false := decide_eq_false hlt
          go_wp2_with fail
          go_quiet (fail)
          go_wp2
          go_ret
          exact ⟨by rw [← HE.out]; rfl, below_drew (below_drew B0.out _) _⟩

set_option maxRecDepth 100000 in
set_option maxHeartbeats 4000000 in
theorem refParent_any (A : Option Addr) (len c : Nat) (x : Int) (N : Nat → RN) (a : Int) (w : World) (hD : DocIn w A len c x N) (ha1 : -9223372036854775808 ≤ a) (ha2 : a ≤ 9223372036854775807) (r : Int) (hr : parAns N len a = r) :
    Calls Try.prog 16 #[docV A len c x, .int .i64 a] w fun e w' => e = .returned (.int .i64 r) ∧ Below w.heap.size w w' := by
  have hlen : len ≤ 140737488351232 := by have := hD.1.2.2.2; omega
  unfold docV
  have B0 : Hid (Below w.heap.size w (w.alloc (.cells #[.slice A len c, .int .i64 x] 24))) := Lib.hid ((Below.refl _ w).alloc (Nat.le_refl _) _)
  have HN := Lib.hid (hD.1.1.below B0.out)
  have HR := Lib.hid hr
  clear hD hr
  have c0 : (w.alloc (.cells #[.slice A len c, .int .i64 x] 24)).cell? ⟨w.heap.size, 0, none⟩ = some (.slice A len c) := by simp
  have C0 := Lib.hid c0
  clear c0
  by_cases h1 : a < 0
  · have d1 := decide_eq_true h1
    have RE : Hid ((-1 : Int) = r) := Lib.hid (by rw [← HR.out]; unfold parAns; rw [if_neg (by omega)])
    go_enter Try.func16, Try.ntmps16
    go_wp2
    go_ret
    exact ⟨by rw [← RE.out]; rfl, B0.out⟩
  · have d1 := decide_eq_false h1
    by_cases h2 : (len : Int) ≤ a
    · have d2 := decide_eq_true h2
      have RE : Hid ((-1 : Int) = r) := Lib.hid (by rw [← HR.out]; unfold parAns; rw [if_neg (by omega)])
      have c0 := C0.out
      go_enter Try.func16, Try.ntmps16
      go_wp2
      go_ret
      exact ⟨by rw [← RE.out]; rfl, B0.out⟩
    · obtain ⟨m, rfl⟩ : ∃ m : Nat, a = m := ⟨a.toNat, by omega⟩
      have hm : m < len := by omega
      have d2 : decide (len ≤ m) = false := decide_eq_false (by omega)
      have d3 : decide ((len : Int) ≤ (m : Int)) = false := decide_eq_false h2
      have RE : Hid (∀ p : Nat, p < m → dps N p + 1 = dps N m → (∀ j, p < j → j < m → dps N j + 1 ≠ dps N m) → ((p : Nat) : Int) = r) := Lib.hid (fun p h1 h2 h3 => by
        rw [← HR.out]; unfold parAns; rw [if_pos (by omega), show ((m : Nat) : Int).toNat = m by omega, parOf_eq (dps N) h1 h2 h3])
      have RZ : Hid ((∀ j, j < m → dps N j + 1 ≠ dps N m) → (-1 : Int) = r) := Lib.hid (fun h => by
        rw [← HR.out]; unfold parAns; rw [if_pos (by omega), show ((m : Nat) : Int).toNat = m by omega]
        rcases parFrom_cases (dps N) (dps N m) m with ⟨k1, _⟩ | ⟨q, _, k2, k3, _⟩
        · exact k1.symm
        · exact absurd k3 (h q k2))
      clear HR
      have ok := HN.out.1
      have OK := Lib.hid ok
      clear ok
      obtain ⟨bA, oA, rfl, hbA, k1, k2⟩ := node_cell HN.out hm
      clear k1
      have K2 := Lib.hid k2
      clear k2
      have c0 := C0.out
      go_enter Try.func16, Try.ntmps16
      go_wp2
      clear c0
      generalize w.alloc (.cells #[.slice (some ⟨bA, oA, none⟩) len c, .int .i64 x] 24) = W0 at B0 HN C0 K2 ⊢
      clear d1 d2 d3
      go_loopg [5] m (fun g1 v wr => ∃ i : Int, v = .int .i64 i ∧ -1 ≤ i ∧ i < m ∧ i + 1 ≤ g1 ∧ Hid (∀ j : Nat, i < j → j < m → dps N j + 1 ≠ dps N m) ∧ Hid (Drew W0 wr))
      case atStart => exact ⟨(m : Int) - 1, rfl, by omega, by omega, by omega, Lib.hid (fun j h h' => by omega), Lib.hid ⟨0, rfl⟩⟩
      case round =>
        obtain ⟨i, rfl, hi1, hi2, hg1, HK, DW⟩ := hrel
        obtain ⟨q, rfl⟩ := DW.out
        by_cases hneg : i < 0
        · have d1 : decide (0 ≤ i) = false := decide_eq_false (by omega)
          have HE : Hid ((-1 : Int) = r) := Lib.hid (RZ.out (fun j hj => HK.out j (by omega) hj))
          go_wp2_with fail
          go_ret
          exact ⟨by rw [← HE.out]; rfl, below_drew B0.out _⟩
        · obtain ⟨k, rfl⟩ : ∃ k : Nat, i = k := ⟨i.toNat, by omega⟩
          have hkm : k < m := by omega
          have hkl : k < len := by omega
          have c0 := C0.out
          have m0 : (0 : Int) ≤ m := by omega
          have mlt : (m : Int) < len := by omega
          have k0 : (0 : Int) ≤ k := by omega
          have klt : (k : Int) < len := by omega
          have k2 := K2.out
          have e1 : decide ((0 : Int) ≤ (k : Int)) = true := decide_eq_true k0
          obtain ⟨b, off, eA, hb, q1, q2⟩ := node_cell HN.out hkl
          cases eA
          clear q1 hb
          obtain ⟨r1, hr1⟩ : ∃ b, decide ((N k).depth + 1 = (N m).depth) = b := ⟨_, rfl⟩
          have LC := Lib.hid (fun W => refLess_any (N k).depth (N m).depth ((OK.out k hkl).depth.1) ((OK.out m hm).depth.2) W r1 hr1)
          have GY : Hid (r1 = true → ((k : Nat) : Int) = r) := Lib.hid (fun e => RE.out k hkm (by unfold dps; exact of_decide_eq_true (hr1.trans e)) (fun j h h' => HK.out j (by omega) h'))
          have GN : Hid (r1 = false → ∀ j : Nat, (k : Int) - 1 < j → j < m → dps N j + 1 ≠ dps N m) := Lib.hid (fun e j h h' => by
            rcases Nat.lt_or_ge k j with h2 | h2
            · exact HK.out j (by omega) h'
            · obtain rfl : j = k := by omega
              unfold dps; exact of_decide_eq_false (hr1.trans e))
          clear hr1
          have WQ : Hid (∀ n, Drew W0 ((W0.drewN q).drewN n)) := Lib.hid (fun n => ⟨q + n, by rw [World.drewN_drewN]⟩)
          have BQ : Hid (∀ n, Below w.heap.size w ((W0.drewN q).drewN n)) := Lib.hid (fun n => below_drew (below_drew B0.out _) _)
          have c1 : (W0.drewN q).cell? ⟨w.heap.size, 0, none⟩ = some (.slice (some ⟨bA, oA, none⟩) len c) := c0
          have k3 : (W0.drewN q).cell? ⟨bA, oA + m * 51 + 1, none⟩ = some (.int .i64 (N m).depth) := k2
          have q3 : (W0.drewN q).cell? ⟨bA, oA + k * 51 + 1, none⟩ = some (.int .i64 (N k).depth) := q2
          clear c0 k2 q2
          generalize (N m).depth = dm at *
          generalize (N k).depth = dk at *
          generalize W0.drewN q = Wq at WQ BQ c1 k3 q3 ⊢
          cases r1 with
          | true =>
            go_wp2_with fail
            go_quiet ((go_at_call 30; exact Calls.quiet_of_same (LC.out _)))
            go_wp2_with fail
            go_ret
            exact ⟨by rw [← GY.out (by trivial)]; rfl, BQ.out _⟩
          | false =>
            go_wp2_with fail
            go_quiet ((go_at_call 30; exact Calls.quiet_of_same (LC.out _)))
            go_wp2_with fail
            go_roundg k
            case measure => omega
            case rel => exact ⟨(k : Int) - 1, rfl, by omega, by omega, by omega, Lib.hid (GN.out (by trivial)), Lib.hid (WQ.out _)⟩
end Go.Proofs.Ytmodegkpfdlccaa
