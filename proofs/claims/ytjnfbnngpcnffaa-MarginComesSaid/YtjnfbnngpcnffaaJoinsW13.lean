/-
  The law MarginJoins: of any Join, One, Value, May that answer as is asked.
-/
import Derived.Test.YtjnfbnngpcnffaaRefJoin13
import Derived.Deep.RegionHeld3
import Derived.Deep.Cut
namespace Go.Proofs.Ytjnfbnngpcnffaa
open Go.RowKit

set_option maxRecDepth 100000 in
set_option maxHeartbeats 8000000 in
theorem joins13 (hJ : JoinOK 8) (hO : OneOK 12) (hM : MayOK13 10) (hV : ValueOK 14) (x : Int) (l : List Mg) (v : Value) (w : World) (hv : MgIn w v l) (hnil : ∀ n c, v = .slice none n c → n = 0 ∧ c = 0) :
    Calls Try.prog 3 #[.int .i64 x, v] w fun e w' => e = .returned (.bool true) ∧ Below w.heap.size w w' := by
  by_cases h : 1000 < l.length
  · obtain ⟨A, c, rfl, -, -⟩ := hv
    have hz : (1000 : Int) < l.length := by omega
    clear hnil hJ hO hM hV
    go_enter Try.func3, Try.ntmps3
    go_wp2_with fail
    go_ret
    exact ⟨rfl, Below.refl _ w⟩
  · have hn : l.length ≤ 1000 := by omega
    have KJ := Lib.hid (fun u W (hW : MgIn W u l) => hJ l u W hW (by omega))
    have KR := Lib.hid (fun W (hW : MgIn W v l) => refJoin_any13 l v W hW (by omega))
    have KM := Lib.hid (fun (a b : Int) (W : World) => hM (a, b) W)
    have KN := Lib.hid (fun (a b : Int) (W : World) => refMay_any13 (a, b) W)
    have KV := Lib.hid (fun (a b : Int) (W : World) => hV (a, b) W)
    have KU := Lib.hid (fun (a b : Int) (W : World) => refValue_any13 (a, b) W)
    have KO := Lib.hid (fun (W : World) => hO x W)
    have KP := Lib.hid (fun (W : World) => refOne_any x W)
    clear hJ hO hM hV
    obtain ⟨⟨p, q⟩, hpq⟩ : ∃ m, joinM l = m := ⟨_, rfl⟩
    obtain ⟨⟨p1, q1⟩, hpq1⟩ : ∃ m, oneM x = m := ⟨_, rfl⟩
    rw [hpq] at KJ KR
    rw [hpq1] at KO KP
    unfold mgV at KJ KR KM KN KV KU KO KP
    dsimp only at KJ KR KM KN KV KU KO KP
    clear hpq hpq1
    have HV := Lib.hid hv
    obtain ⟨A, c, rfl, -, -⟩ := hv
    have HC0 : Hid (∀ p, A = some p → ∀ j u, (cellsM l)[j]? = some u → w.cell? (p.add j) = some u) := Lib.hid (HV.out.cells rfl)
    have HNI : Hid (A = none → l = [] ∧ c = 0) := Lib.hid (fun e => by
      have := hnil l.length c (by rw [e])
      exact ⟨List.length_eq_zero_iff.1 this.1, this.2⟩)
    obtain ⟨n, en⟩ : ∃ n, l.length = n := ⟨_, rfl⟩
    have HN := Lib.hid en
    rw [en] at h hn HV KR ⊢
    have hz : ¬ (1000 : Int) < n := by omega
    clear en h hnil
    go_enter Try.func3, Try.ntmps3
    go_upto_region 5 with ((with_reducible change wpList _ _ _ (Oper.mk (some 14) _ _ _ _ _ :: _) _ _); refine wpList_append_mgs rfl _ _ rfl w.heap.size (.slice none 0 0) [] rfl (ownsM.nil _ _) l A c (by rw [HN.out]; rfl) HC0.out HNI.out (by have := HN.out; simp only [List.length_nil]; omega) (Nat.le_refl _) ?_; intro mine w1 hO hB _)
    have B1 := Lib.hid hB
    have M1 := Lib.hid hO.mgs
    rw [List.nil_append] at M1
    clear hB hO HC0 HNI
    have V1 := Lib.hid (HV.out.keep B1.out)
    clear HV
    obtain ⟨M', cm, em, -, -⟩ := M1.out
    rw [HN.out] at em
    subst em
    go_upto_region 6 with (first
      | (go_at_call 8; (with_reducible refine (KJ.out _ _ M1.out).mono ?_); rintro e w2 ⟨rfl, hb⟩; have B2 : Hid (Below w.heap.size w w2) := Lib.hid (b_next B1.out hb); have V2 := Lib.hid (V1.out.keep hb); have M2 := Lib.hid (M1.out.keep hb); clear hb)
      | (go_at_call 9; (with_reducible refine (KR.out _ V2.out).mono ?_); rintro e w3 ⟨rfl, hb⟩; have B3 : Hid (Below w.heap.size w w3) := Lib.hid (b_next B2.out hb); have V3 := Lib.hid (V2.out.keep hb); have M3 := Lib.hid (M2.out.keep hb); clear hb))
    have G3 := Lib.hid (MgAt.new w3 (p, q))
    have G4 := Lib.hid (MgAt.new (w3.alloc (.cells (mgCells (p, q)).toArray 24)) (p, q))
    have C3 : Hid (Below w3.heap.size w3 (w3.alloc (.cells (mgCells (p, q)).toArray 24))) := Lib.hid ((Below.refl _ _).alloc (Nat.le_refl _) _)
    have C4 : Hid (Below (w3.alloc (.cells (mgCells (p, q)).toArray 24)).heap.size (w3.alloc (.cells (mgCells (p, q)).toArray 24)) ((w3.alloc (.cells (mgCells (p, q)).toArray 24)).alloc (.cells (mgCells (p, q)).toArray 24))) := Lib.hid ((Below.refl _ _).alloc (Nat.le_refl _) _)
    have G5 := Lib.hid (G3.out.keep C4.out)
    have B4 := Lib.hid (b_next (b_next B3.out C3.out) C4.out)
    have V4 := Lib.hid ((V3.out.keep C3.out).keep C4.out)
    have M4 := Lib.hid ((M3.out.keep C3.out).keep C4.out)
    rw [World.size_alloc] at G4
    unfold mgCells at G4 G5 B4 V4 M4
    dsimp only at G4 G5 B4 V4 M4
    clear G3 C3 C4 B1 B2 B3 V1 V2 V3 M1 M2 M3 KJ KR
    generalize (w3.alloc (.cells #[.int .i64 p, .int .i64 q] 24)).alloc (.cells #[.int .i64 p, .int .i64 q] 24) = w4 at G4 G5 B4 V4 M4 ⊢
    generalize w3.heap.size = g at G4 G5 ⊢
    go_wp2_with fail
    go_loopg [8] n (fun g1 vi wr => ∃ i : Nat, vi = .int .i64 i ∧ i ≤ n ∧ n - i ≤ g1 ∧ Hid (Below w4.heap.size w4 wr))
    case atStart => exact ⟨0, rfl, by omega, by omega, Lib.hid (Below.refl _ _)⟩
    case round =>
      obtain ⟨i, rfl, hi, hg1, hB⟩ := hrel
      obtain ⟨wo, hwo⟩ : ∃ wo, wo = wr := ⟨_, rfl⟩
      subst hwo
      by_cases hlt : i < n
      · have hz1 : (i : Int) < n := by omega
        have hz0 : (0 : Int) ≤ i := by omega
        have wi : IntKind.i64.wrap ((i : Int) + 1) = (i : Int) + 1 := IntWalk.i64_in _ (by omega)
        obtain ⟨b, off, c1, e, -, -⟩ := (M4.out.keep hB.out).get (i := i) (by have := HN.out; omega)
        injection e with e1 e2 e3
        subst e1 e3
        clear e2
        obtain ⟨b', off', c2, e, -, -⟩ := (V4.out.keep hB.out).get (i := i) (by have := HN.out; omega)
        injection e with e1 e2 e3
        subst e1 e3
        clear e2
        have CS : Hid (∀ W, Below wo.heap.size wo W → Below wo.heap.size wo W ∧ W.cell? ⟨b, off + i * 2, none⟩ = some (.int .i64 (mu l i)) ∧ W.cell? ⟨b, off + i * 2 + 1, none⟩ = some (.int .i64 (md l i)) ∧ W.cell? ⟨b', off' + i * 2, none⟩ = some (.int .i64 (mu l i)) ∧ W.cell? ⟨b', off' + i * 2 + 1, none⟩ = some (.int .i64 (md l i))) := Lib.hid (fun W hW => by
          have h1 := (M4.out.keep (b_next hB.out hW)).at_ (i := i) (by have := HN.out; omega)
          have h2 := (V4.out.keep (b_next hB.out hW)).at_ (i := i) (by have := HN.out; omega)
          exact ⟨hW, h1.1, h1.2, h2.1, h2.2⟩)
        have KM1 := Lib.hid (fun W => KM.out (mu l i) (md l i) W)
        have KN1 := Lib.hid (fun W => KN.out (mu l i) (md l i) W)
        generalize mu l i = z0 at CS KM1 KN1
        generalize md l i = z1 at CS KM1 KN1
        generalize decide (MayM (z0, z1)) = r at KM1 KN1
        obtain ⟨-, a0, a1, d0, d1⟩ := CS.out wo (Below.refl _ _)
        have BD : Hid (Below wo.heap.size wo wo.drew) := Lib.hid (Below.refl _ wo).drew
        have k0 : (z0 == z0) = true := by simp
        have k1 : (z1 == z1) = true := by simp
        have k2 : (r != r) = false := by simp
        go_wp2_with fail
        go_region_held3 (fun W' => Below wo.heap.size wo W' ∧ W'.cell? ⟨b, off + i * 2, none⟩ = some (.int .i64 z0) ∧ W'.cell? ⟨b, off + i * 2 + 1, none⟩ = some (.int .i64 z1) ∧ W'.cell? ⟨b', off' + i * 2, none⟩ = some (.int .i64 z0) ∧ W'.cell? ⟨b', off' + i * 2 + 1, none⟩ = some (.int .i64 z1))
          (first | (with_reducible exact CS.out _ KB.out) | (with_reducible exact CS.out _ BD.out))
          (first
          | (go_at_call 10; (with_reducible refine (KM1.out _).mono ?_); rintro e w5 ⟨rfl, hb⟩; have KB : Hid (Below wo.heap.size wo w5) := Lib.hid (b_next (And.left (by assumption)) hb); clear hb)
          | (go_at_call 11; (with_reducible refine (KN1.out _).mono ?_); rintro e w5 ⟨rfl, hb⟩; have KB : Hid (Below wo.heap.size wo w5) := Lib.hid (b_next (And.left (by assumption)) hb); clear hb))
        all_goals (
          go_wp2_with fail
          go_roundg (n - (i + 1)))
        case measure => omega
        case rel => exact ⟨i + 1, by go_num, by omega, Nat.le_refl _, Lib.hid (b_next hB.out KB.out)⟩
      · obtain rfl : i = n := by omega
        have hz1 : ¬ (i : Int) < i := by omega
        have CS : Hid (∀ W, Below wo.heap.size wo W → Below wo.heap.size wo W ∧ W.cell? ⟨g, 0, none⟩ = some (.int .i64 p) ∧ W.cell? ⟨g, 1, none⟩ = some (.int .i64 q) ∧ W.cell? ⟨g + 1, 0, none⟩ = some (.int .i64 p) ∧ W.cell? ⟨g + 1, 1, none⟩ = some (.int .i64 q)) := Lib.hid (fun W hW => by
          have h1 := MgAt.cells (a := (p, q)) (MgAt.keep G5.out (b_next hB.out hW))
          have h2 := MgAt.cells (a := (p, q)) (MgAt.keep G4.out (b_next hB.out hW))
          exact ⟨hW, h1.1, h1.2, h2.1, h2.2⟩)
        have KM1 := Lib.hid (fun W => KM.out p q W)
        have KN1 := Lib.hid (fun W => KN.out p q W)
        have KV1 := Lib.hid (fun W => KV.out p q W)
        have KU1 := Lib.hid (fun W => KU.out p q W)
        generalize decide (MayM (p, q)) = r at KM1 KN1
        generalize valueM (p, q) = s at KV1 KU1
        obtain ⟨-, a0, a1, d0, d1⟩ := CS.out wo (Below.refl _ _)
        have BD : Hid (Below wo.heap.size wo wo.drew) := Lib.hid (Below.refl _ wo).drew
        have BZ := Lib.hid (b_next B4.out hB.out)
        have k0 : (p == p) = true := by simp
        have k1 : (q == q) = true := by simp
        have k2 : (r == r) = true := by simp
        have k3 : (p1 == p1) = true := by simp
        have k4 : (q1 == q1) = true := by simp
        have k5 : (s == s) = true := by simp
        clear KM KN KV KU hB V4 M4 G4 G5 B4
        go_wp2_with fail
        go_region_held3 (fun W' => Below wo.heap.size wo W' ∧ W'.cell? ⟨g, 0, none⟩ = some (.int .i64 p) ∧ W'.cell? ⟨g, 1, none⟩ = some (.int .i64 q) ∧ W'.cell? ⟨g + 1, 0, none⟩ = some (.int .i64 p) ∧ W'.cell? ⟨g + 1, 1, none⟩ = some (.int .i64 q))
          (first | (with_reducible exact CS.out _ KB.out) | (with_reducible exact CS.out _ BD.out))
          (first
          | (go_at_call 12; (with_reducible refine (KO.out _).mono ?_); rintro e w5 ⟨rfl, hb⟩; have KB : Hid (Below wo.heap.size wo w5) := Lib.hid (b_next (And.left (by assumption)) hb); clear hb)
          | (go_at_call 13; (with_reducible refine (KP.out _).mono ?_); rintro e w5 ⟨rfl, hb⟩; have KB : Hid (Below wo.heap.size wo w5) := Lib.hid (b_next (And.left (by assumption)) hb); clear hb)
          | (go_at_call 14; (with_reducible refine (KV1.out _).mono ?_); rintro e w5 ⟨rfl, hb⟩; have KB : Hid (Below wo.heap.size wo w5) := Lib.hid (b_next (And.left (by assumption)) hb); clear hb)
          | (go_at_call 15; (with_reducible refine (KU1.out _).mono ?_); rintro e w5 ⟨rfl, hb⟩; have KB : Hid (Below wo.heap.size wo w5) := Lib.hid (b_next (And.left (by assumption)) hb); clear hb)
          | (go_at_call 10; (with_reducible refine (KM1.out _).mono ?_); rintro e w5 ⟨rfl, hb⟩; have KB : Hid (Below wo.heap.size wo w5) := Lib.hid (b_next (And.left (by assumption)) hb); clear hb)
          | (go_at_call 11; (with_reducible refine (KN1.out _).mono ?_); rintro e w5 ⟨rfl, hb⟩; have KB : Hid (Below wo.heap.size wo w5) := Lib.hid (b_next (And.left (by assumption)) hb); clear hb))
        all_goals (
          go_wp2_with fail
          go_ret
          exact ⟨by first | rfl | simp, b_next BZ.out KB.out⟩)
end Go.Proofs.Ytjnfbnngpcnffaa
