/-
  The landed lineOf: a line's height, and its base.
-/
import Derived.Test.YtnhbegdoedbpeaaParts11
namespace Go.Proofs.Ytnhbegdoedbpeaa
open Go.RowKit

/-- a line of noughts lies in the first block behind w; nothing ahead of it has turned -/
structure L2 (w w' : World) : Prop where
  below : Below w.heap.size w w'
  blk : w'.heap[w.heap.size]? = some (.cells #[.int .i64 0, .int .i64 0] 47)
theorem L2.lt {w w' : World} (h : L2 w w') : w.heap.size < w'.heap.size := (Array.getElem?_eq_some_iff.1 h.blk).1
theorem L2.of {w w' w2 : World} (h : L2 w w') (hb : Below w'.heap.size w' w2) : L2 w w2 :=
  ⟨h.below.trans (hb.mono h.below.size), (hb.block _ h.lt).trans h.blk⟩
theorem L2.put {w w' : World} (h : L2 w w') (o : Obj) : L2 w (w'.alloc o) := h.of ((Below.refl _ _).alloc (Nat.le_refl _) o)
theorem L2.new (w : World) : L2 w (w.alloc (.cells #[.int .i64 0, .int .i64 0] 47)) :=
  ⟨(Below.refl _ _).alloc (Nat.le_refl _) _, heap_alloc_new w _⟩
theorem L2.fro {w w' : World} (h : L2 w w') (j : Nat) : w'.frozen? ⟨w.heap.size, j, none⟩ = false := by simp [World.frozen?, h.blk]
theorem L2.c0 {w w' : World} (h : L2 w w') : w'.cell? ⟨w.heap.size, 0, none⟩ = some (.int .i64 0) := by simp [World.cell?, h.blk]
theorem L2.c1 {w w' : World} (h : L2 w w') : w'.cell? ⟨w.heap.size, 1, none⟩ = some (.int .i64 0) := by simp [World.cell?, h.blk]
theorem L2.done {w w' : World} (h : L2 w w') (a b : Value) : ((w'.setCell ⟨w.heap.size, 0, none⟩ a).setCell ⟨w.heap.size, 1, none⟩ b).heap[w.heap.size]? = some (.cells #[a, b] 47) ∧ Below w.heap.size w ((w'.setCell ⟨w.heap.size, 0, none⟩ a).setCell ⟨w.heap.size, 1, none⟩ b) := by
  refine ⟨?_, (h.below.setCell (Nat.le_refl _) _).setCell (Nat.le_refl _) _⟩
  simp [World.setCell, Array.getElem?_modify, h.blk]

set_option maxRecDepth 100000 in
set_option maxHeartbeats 4000000 in
theorem lineOf_any (l : List Sp) (v : Value) (u d x : Int) (g : Nat) (ok : Ok11 l u d x g) (w : World) (hv : SpIn w v l) :
    Calls Try.prog 19 #[v, .int .i64 u, .int .i64 d] w fun e w' => e = .returned (.agg #[.int .i64 (heightT l u d), .int .i64 (baseT l u)]) ∧ Below w.heap.size w w' := by
  have HV := Lib.hid hv
  have OK := Lib.hid ok
  obtain ⟨A, c, rfl, -, -⟩ := hv
  have hn := ok.len
  obtain ⟨n, en⟩ : ∃ n, l.length = n := ⟨_, rfl⟩
  have UB := Lib.hid (fun k hk => upS_in ok.u ok.up k hk)
  have DB := Lib.hid (fun k hk => dnS_in ok.d ok.dn k hk)
  obtain ⟨U, hU⟩ : ∃ U, upS l u n = U := ⟨_, rfl⟩
  obtain ⟨D, hD⟩ : ∃ D, dnS l d n = D := ⟨_, rfl⟩
  have EB : Hid (baseT l u = U) := Lib.hid (by unfold baseT; rw [en, hU])
  have EH : Hid (heightT l u d = hS l (U + D) n) := Lib.hid (by unfold heightT; rw [en, hU, hD])
  have U2 := UB.out n (by omega)
  have D2 := DB.out n (by omega)
  rw [hU] at U2
  rw [hD] at D2
  have wud : IntKind.i64.wrap (U + D) = U + D := IntWalk.i64_in _ (by omega)
  have HU := Lib.hid hU
  have HD := Lib.hid hD
  rw [en] at hn HV ⊢
  have HN := Lib.hid en
  rw [EB.out, EH.out]
  have L0 := Lib.hid (L2.new w)
  clear en ok hU hD U2 D2 UB DB EB EH
  go_enter Try.func19, Try.ntmps19
  go_wp2_with fail
  go_loopg [1, 2, 14] n (fun g1 vu vd vi wr => ∃ k : Nat, vi = .int .i64 k ∧ vu = .int .i64 (upS l u k) ∧ vd = .int .i64 (dnS l d k) ∧ k ≤ n ∧ n - k ≤ g1 ∧ Hid (L2 w wr))
  case atStart => exact ⟨0, rfl, rfl, rfl, by omega, by omega, L0⟩
  case round =>
    obtain ⟨k, rfl, rfl, rfl, hk, hg1, HL⟩ := hrel
    obtain ⟨wo, hwo⟩ : ∃ wo, wo = wr := ⟨_, rfl⟩
    subst hwo
    clear L0
    by_cases hlt : k < n
    · have hz : (k : Int) < n := by omega
      have hz0 : (0 : Int) ≤ k := by omega
      have wi : IntKind.i64.wrap ((k : Int) + 1) = (k : Int) + 1 := IntWalk.i64_in _ (by omega)
      obtain ⟨b, off, c', e, c0, c1, c2, c3⟩ := (HV.out.keep HL.out.below).get (i := k) (by have := HN.out; omega)
      injection e with e1 e2 e3
      subst e1 e3
      clear e2
      have G2 := Lib.hid (HL.out.put (.cells #[.int .i64 (sw l k), .int .i64 (su l k), .int .i64 (sd l k), .int .u8 (sa l k : Nat)] 33))
      have eu : Hid (upS l u (k + 1) = if sa l k = 0 ∧ upS l u k < su l k then su l k else upS l u k) := Lib.hid rfl
      have ed : Hid (dnS l d (k + 1) = if sa l k = 0 ∧ dnS l d k < sd l k then sd l k else dnS l d k) := Lib.hid rfl
      generalize sw l k = z0 at c0 G2
      generalize su l k = z1 at c1 eu G2
      generalize sd l k = z2 at c2 ed G2
      generalize hp : upS l u k = p at eu
      generalize hq : dnS l d k = q at ed
      clear hp hq
      by_cases ha : sa l k = 0
      · rw [ha] at c3 G2
        have E1 : Hid (upS l u (k + 1) = if p < z1 then z1 else p) := Lib.hid (by rw [eu.out]; simp [ha])
        have E2 : Hid (dnS l d (k + 1) = if q < z2 then z2 else q) := Lib.hid (by rw [ed.out]; simp [ha])
        clear ha eu ed
        by_cases h1 : p < z1
        · have E1' := Lib.hid (E1.out.trans (if_pos h1))
          have h1' : ¬ z1 ≤ p := by omega
          by_cases h2 : q < z2
          · have E2' := Lib.hid (E2.out.trans (if_pos h2))
            have h2' : ¬ z2 ≤ q := by omega
            clear E1 E2
            go_wp2_with fail
            go_quiet (fail)
            have G3 := Lib.hid (G2.out.of (drewN_below _ nq _))
            clear G2
            go_wp2_with fail
            go_roundg (n - (k + 1))
            case measure => omega
            case rel => exact ⟨k + 1, by go_num, by rw [E1'.out], by rw [E2'.out], by omega, Nat.le_refl _, G3⟩
          · have E2' := Lib.hid (E2.out.trans (if_neg h2))
            have h2' : z2 ≤ q := by omega
            clear E1 E2
            go_wp2_with fail
            go_quiet (fail)
            have G3 := Lib.hid (G2.out.of (drewN_below _ nq _))
            clear G2
            go_wp2_with fail
            go_roundg (n - (k + 1))
            case measure => omega
            case rel => exact ⟨k + 1, by go_num, by rw [E1'.out], by rw [E2'.out], by omega, Nat.le_refl _, G3⟩
        · have E1' := Lib.hid (E1.out.trans (if_neg h1))
          have h1' : z1 ≤ p := by omega
          by_cases h2 : q < z2
          · have E2' := Lib.hid (E2.out.trans (if_pos h2))
            have h2' : ¬ z2 ≤ q := by omega
            clear E1 E2
            go_wp2_with fail
            go_quiet (fail)
            have G3 := Lib.hid (G2.out.of (drewN_below _ nq _))
            clear G2
            go_wp2_with fail
            go_roundg (n - (k + 1))
            case measure => omega
            case rel => exact ⟨k + 1, by go_num, by rw [E1'.out], by rw [E2'.out], by omega, Nat.le_refl _, G3⟩
          · have E2' := Lib.hid (E2.out.trans (if_neg h2))
            have h2' : z2 ≤ q := by omega
            clear E1 E2
            go_wp2_with fail
            go_quiet (fail)
            have G3 := Lib.hid (G2.out.of (drewN_below _ nq _))
            clear G2
            go_wp2_with fail
            go_roundg (n - (k + 1))
            case measure => omega
            case rel => exact ⟨k + 1, by go_num, by rw [E1'.out], by rw [E2'.out], by omega, Nat.le_refl _, G3⟩
      · have E1 := Lib.hid (eu.out.trans (if_neg fun h => ha h.1))
        have E2 := Lib.hid (ed.out.trans (if_neg fun h => ha h.1))
        have hx : ¬ ((sa l k : Nat) : Int) = 0 := by omega
        generalize ((sa l k : Nat) : Int) = y at c3 hx G2
        clear ha eu ed
        go_wp2_with fail
        go_roundg (n - (k + 1))
        case measure => omega
        case rel => exact ⟨k + 1, by go_num, by rw [E1.out], by rw [E2.out], by omega, Nat.le_refl _, G2⟩
    · obtain rfl : k = n := by omega
      have hz : ¬ (k : Int) < k := by omega
      rw [HU.out, HD.out]
      clear HU HD
      go_wp2_with fail
      go_loopg [9, 35] k (fun g1 vh vi wr => ∃ i : Nat, vi = .int .i64 i ∧ vh = .int .i64 (hS l (U + D) i) ∧ i ≤ k ∧ k - i ≤ g1 ∧ Hid (L2 w wr))
      case atStart => exact ⟨0, rfl, rfl, by omega, by omega, HL⟩
      case round =>
        obtain ⟨i, rfl, rfl, hi, hg1, HM⟩ := hrel
        clear HL
        by_cases hlt : i < k
        · have hz : (i : Int) < k := by omega
          have hz0 : (0 : Int) ≤ i := by omega
          have wi : IntKind.i64.wrap ((i : Int) + 1) = (i : Int) + 1 := IntWalk.i64_in _ (by omega)
          obtain ⟨b, off, c', e, c0, c1, c2, c3⟩ := (HV.out.keep HM.out.below).get (i := i) (by have := HN.out; omega)
          injection e with e1 e2 e3
          subst e1 e3
          clear e2
          have G2 := Lib.hid (HM.out.put (.cells #[.int .i64 (sw l i), .int .i64 (su l i), .int .i64 (sd l i), .int .u8 (sa l i : Nat)] 33))
          have eh : Hid (hS l (U + D) (i + 1) = if ¬ sa l i = 0 ∧ hS l (U + D) i < su l i + sd l i then su l i + sd l i else hS l (U + D) i) := Lib.hid rfl
          have ws : IntKind.i64.wrap (su l i + sd l i) = su l i + sd l i := IntWalk.i64_in _ (by
            have := OK.out.up i (by have := HN.out; omega)
            have := OK.out.dn i (by have := HN.out; omega)
            omega)
          generalize sw l i = z0 at c0 G2
          generalize su l i = z1 at c1 eh ws G2
          generalize sd l i = z2 at c2 eh ws G2
          have KT := Lib.hid (fun k W => tall_any z0 z1 z2 k W ws)
          clear ws
          generalize hp : hS l (U + D) i = p at eh
          generalize ht : z1 + z2 = t at eh KT
          clear hp ht
          by_cases ha : sa l i = 0
          · have E1 := Lib.hid (eh.out.trans (if_neg fun h => h.1 ha))
            rw [ha] at c3 G2
            clear ha eh
            go_wp2_with fail
            go_roundg (k - (i + 1))
            case measure => omega
            case rel => exact ⟨i + 1, by go_num, by rw [E1.out], by omega, Nat.le_refl _, G2⟩
          · have E0 : Hid (hS l (U + D) (i + 1) = if p < t then t else p) := Lib.hid (by rw [eh.out]; simp [ha])
            have hx : ¬ ((sa l i : Nat) : Int) = 0 := by omega
            generalize ((sa l i : Nat) : Int) = y at c3 hx G2
            clear ha eh
            by_cases h1 : p < t
            · have h1' : ¬ t ≤ p := by omega
              have E1 := Lib.hid (E0.out.trans (if_pos h1))
              clear E0
              go_wp2_with (go_at_call 25; (with_reducible refine (KT.out _ _).mono ?_); rintro e w2 ⟨rfl, hb⟩; have G3 := Lib.hid (G2.out.of hb); clear hb)
              go_roundg (k - (i + 1))
              case measure => omega
              case rel => exact ⟨i + 1, by go_num, by rw [E1.out], by omega, Nat.le_refl _, G3⟩
            · have h1' : t ≤ p := by omega
              have E1 := Lib.hid (E0.out.trans (if_neg h1))
              clear E0
              go_wp2_with (go_at_call 25; (with_reducible refine (KT.out _ _).mono ?_); rintro e w2 ⟨rfl, hb⟩; have G3 := Lib.hid (G2.out.of hb); clear hb)
              go_roundg (k - (i + 1))
              case measure => omega
              case rel => exact ⟨i + 1, by go_num, by rw [E1.out], by omega, Nat.le_refl _, G3⟩
        · obtain rfl : i = k := by omega
          have hz : ¬ (i : Int) < i := by omega
          have f0 := HM.out.fro 0
          have f1 := HM.out.fro 1
          have c0 := HM.out.c0
          have c1 := HM.out.c1
          have D := Lib.hid (HM.out.done (.int .i64 (hS l (U + D) i)) (.int .i64 U))
          clear OK
          go_wp2_with fail
          refine bodyPost_ret (results_cell_row rfl _ _ w.heap.size _ _ _ _ rfl D.out.1 Try.underlying47 rfl (by kernel_rfl)) rfl ?_
          exact ⟨rfl, D.out.2⟩
end Go.Proofs.Ytnhbegdoedbpeaa
