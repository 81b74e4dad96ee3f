/-
  The document's Height over spots.
-/
import Derived.Test.YtnhbegdoedbpeaaSpots
import Derived.Deep.QuietTactic
import Derived.BigQuiet
import Derived.Laws.Rows
namespace Go.Proofs.Ytnhbegdoedbpeaa
open Go.RowKit

set_option maxRecDepth 100000 in
set_option maxHeartbeats 4000000 in
theorem refHeight_any (l : List Sp) (v : Value) (u d x : Int) (g : Nat) (ok : Ok11 l u d x g) (w : World) (hv : SpIn w v l) :
    Calls Try.prog 14 #[v, .int .i64 u, .int .i64 d] w fun e w' => e = .returned (.tuple #[.int .i64 (heightT l u d), .int .i64 (baseT l u)]) ∧ ∃ q, w' = w.drewN q := by
  have HV := Lib.hid hv
  have OK := Lib.hid ok
  obtain ⟨A, c, rfl, -, -⟩ := hv
  have hn := ok.len
  obtain ⟨n, en⟩ : ∃ n, l.length = n := ⟨_, rfl⟩
  have UB := Lib.hid (fun k hk => upS_in ok.u ok.up k hk)
  have DB := Lib.hid (fun k hk => dnS_in ok.d ok.dn k hk)
  obtain ⟨U, hU⟩ : ∃ U, upS l u n = U := ⟨_, rfl⟩
  obtain ⟨D, hD⟩ : ∃ D, dnS l d n = D := ⟨_, rfl⟩
  have EB : Hid (baseT l u = U) := Lib.hid (by unfold baseT; rw [en, hU])
  have EH : Hid (heightT l u d = hS l (U + D) n) := Lib.hid (by unfold heightT; rw [en, hU, hD])
  have U2 := UB.out n (by omega)
  have D2 := DB.out n (by omega)
  rw [hU] at U2
  rw [hD] at D2
  have HB := Lib.hid (fun k hk => hS_in (lo := -1099511627776) (hi := 1099511627776) (u := U + D) (by omega) ok.up ok.dn k hk)
  have wud : IntKind.i64.wrap (U + D) = U + D := IntWalk.i64_in _ (by omega)
  have HU := Lib.hid hU
  have HD := Lib.hid hD
  rw [en] at hn HV ⊢
  have HN := Lib.hid en
  rw [EB.out, EH.out]
  clear en ok hU hD U2 D2 UB DB EB EH
  go_enter Try.func14, Try.ntmps14
  go_wp2_with fail
  go_loopg [1, 2, 8] n (fun g1 vu vd vi wr => ∃ k : Nat, vi = .int .i64 k ∧ vu = .int .i64 (upS l u k) ∧ vd = .int .i64 (dnS l d k) ∧ k ≤ n ∧ n - k ≤ g1 ∧ w = wr)
  case atStart => exact ⟨0, rfl, rfl, rfl, by omega, by omega, rfl⟩
  case round =>
    obtain ⟨k, rfl, rfl, rfl, hk, hg1, rfl⟩ := hrel
    by_cases hlt : k < n
    · have hz : (k : Int) < n := by omega
      have hz0 : (0 : Int) ≤ k := by omega
      have wi : IntKind.i64.wrap ((k : Int) + 1) = (k : Int) + 1 := IntWalk.i64_in _ (by omega)
      obtain ⟨b, off, c', e, -, c1, c2, c3⟩ := HV.out.get (i := k) (by have := HN.out; omega)
      injection e with e1 e2 e3
      subst e1 e3
      clear e2 HB
      have eu : Hid (upS l u (k + 1) = if sa l k = 0 ∧ upS l u k < su l k then su l k else upS l u k) := Lib.hid rfl
      have ed : Hid (dnS l d (k + 1) = if sa l k = 0 ∧ dnS l d k < sd l k then sd l k else dnS l d k) := Lib.hid rfl
      generalize su l k = z1 at c1 eu
      generalize sd l k = z2 at c2 ed
      generalize hp : upS l u k = p at eu
      generalize hq : dnS l d k = q at ed
      clear hp hq
      by_cases ha : sa l k = 0
      · rw [ha] at c3
        by_cases h1 : p < z1
        · have E1 := Lib.hid (eu.out.trans (if_pos ⟨ha, h1⟩))
          by_cases h2 : q < z2
          · have E2 := Lib.hid (ed.out.trans (if_pos ⟨ha, h2⟩))
            clear ha eu ed
            go_wp2_with fail
            go_roundg (n - (k + 1))
            case measure => omega
            case rel => exact ⟨k + 1, by go_num, by rw [E1.out], by rw [E2.out], by omega, Nat.le_refl _, rfl⟩
          · have E2 := Lib.hid (ed.out.trans (if_neg fun h => h2 h.2))
            clear ha eu ed
            go_wp2_with fail
            go_roundg (n - (k + 1))
            case measure => omega
            case rel => exact ⟨k + 1, by go_num, by rw [E1.out], by rw [E2.out], by omega, Nat.le_refl _, rfl⟩
        · have E1 := Lib.hid (eu.out.trans (if_neg fun h => h1 h.2))
          by_cases h2 : q < z2
          · have E2 := Lib.hid (ed.out.trans (if_pos ⟨ha, h2⟩))
            clear ha eu ed
            go_wp2_with fail
            go_roundg (n - (k + 1))
            case measure => omega
            case rel => exact ⟨k + 1, by go_num, by rw [E1.out], by rw [E2.out], by omega, Nat.le_refl _, rfl⟩
          · have E2 := Lib.hid (ed.out.trans (if_neg fun h => h2 h.2))
            clear ha eu ed
            go_wp2_with fail
            go_roundg (n - (k + 1))
            case measure => omega
            case rel => exact ⟨k + 1, by go_num, by rw [E1.out], by rw [E2.out], by omega, Nat.le_refl _, rfl⟩
      · have E1 := Lib.hid (eu.out.trans (if_neg fun h => ha h.1))
        have E2 := Lib.hid (ed.out.trans (if_neg fun h => ha h.1))
        have hx : ¬ ((sa l k : Nat) : Int) = 0 := by omega
        generalize ((sa l k : Nat) : Int) = y at c3 hx
        clear ha eu ed
        go_wp2_with fail
        go_roundg (n - (k + 1))
        case measure => omega
        case rel => exact ⟨k + 1, by go_num, by rw [E1.out], by rw [E2.out], by omega, Nat.le_refl _, rfl⟩
    · obtain rfl : k = n := by omega
      have hz : ¬ (k : Int) < k := by omega
      rw [HU.out, HD.out]
      clear HU HD
      go_wp2_with fail
      go_loopg [9, 10] k (fun g1 vh vi wr => ∃ i q : Nat, vi = .int .i64 i ∧ vh = .int .i64 (hS l (U + D) i) ∧ i ≤ k ∧ k - i ≤ g1 ∧ wr = w.drewN q)
      case atStart => exact ⟨0, 0, rfl, rfl, by omega, by omega, rfl⟩
      case round =>
        obtain ⟨i, q, rfl, rfl, hi, hg1, rfl⟩ := hrel
        by_cases hlt : i < k
        · have hz : (i : Int) < k := by omega
          have hz0 : (0 : Int) ≤ i := by omega
          have wi : IntKind.i64.wrap ((i : Int) + 1) = (i : Int) + 1 := IntWalk.i64_in _ (by omega)
          obtain ⟨b, off, c', e, -, c1, c2, c3⟩ := HV.out.get (i := i) (by have := HN.out; omega)
          injection e with e1 e2 e3
          subst e1 e3
          clear e2
          have eh : Hid (hS l (U + D) (i + 1) = if ¬ sa l i = 0 ∧ hS l (U + D) i < su l i + sd l i then su l i + sd l i else hS l (U + D) i) := Lib.hid rfl
          have ws : IntKind.i64.wrap (su l i + sd l i) = su l i + sd l i := IntWalk.i64_in _ (by
            have := OK.out.up i (by have := HN.out; omega)
            have := OK.out.dn i (by have := HN.out; omega)
            omega)
          generalize su l i = z1 at c1 eh ws
          generalize sd l i = z2 at c2 eh ws
          generalize hp : hS l (U + D) i = p at eh
          clear hp
          by_cases ha : sa l i = 0
          · rw [ha] at c3
            have E1 := Lib.hid (eh.out.trans (if_neg fun h => h.1 ha))
            clear ha eh
            go_wp2_with fail
            go_quiet (fail)
            go_wp2_with fail
            go_roundg (k - (i + 1))
            case measure => omega
            case rel => exact ⟨i + 1, q + nq, by go_num, by rw [E1.out], by omega, Nat.le_refl _, rfl⟩
          · have hx : ¬ ((sa l i : Nat) : Int) = 0 := by omega
            by_cases h1 : p < z1 + z2
            · have E1 := Lib.hid (eh.out.trans (if_pos ⟨ha, h1⟩))
              generalize ((sa l i : Nat) : Int) = y at c3 hx
              clear ha eh
              go_wp2_with fail
              go_quiet (fail)
              go_wp2_with fail
              go_quiet (fail)
              go_wp2_with fail
              go_roundg (k - (i + 1))
              case measure => omega
              case rel => exact ⟨i + 1, _, by go_num, by rw [E1.out], by omega, Nat.le_refl _, rfl⟩
            · have E1 := Lib.hid (eh.out.trans (if_neg fun h => h1 h.2))
              generalize ((sa l i : Nat) : Int) = y at c3 hx
              clear ha eh
              go_wp2_with fail
              go_quiet (fail)
              go_wp2_with fail
              go_roundg (k - (i + 1))
              case measure => omega
              case rel => exact ⟨i + 1, q + nq, by go_num, by rw [E1.out], by omega, Nat.le_refl _, rfl⟩
        · obtain rfl : i = k := by omega
          have hz : ¬ (i : Int) < i := by omega
          go_wp2_with fail
          go_ret2
          exact ⟨rfl, _, rfl⟩
end Go.Proofs.Ytnhbegdoedbpeaa
