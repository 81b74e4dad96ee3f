/-
  The laws FlexlineOrders, FlexlineStable: of any Order that answers as is asked.
-/
import Derived.Test.YtkakencndopgbaaRefOrder15
import Derived.Test.YtkakencndopgbaaSame
namespace Go.Proofs.Ytkakencndopgbaa
open Go.RowKit

def firstF (f : Nat → Int) (n : Nat) : List Int := (List.range n).map f
theorem firstF_len (f : Nat → Int) (n : Nat) : (firstF f n).length = n := by simp [firstF]
theorem firstQ_F (q : Nat → Nat) (n : Nat) : firstQ q n = firstF (fun i => (q i : Int)) n := rfl
theorem own_ints15 {W : World} {B c : Nat} {A : Option Addr} {n : Nat} {f : Nat → Int} (h : ownsI15 W B (.slice A n c) (firstF f n)) (hb : ∀ i, i < n → -9223372036854775808 ≤ f i ∧ f i ≤ 9223372036854775807) : Ints W A n f := by
  unfold ownsI15 at h
  rw [firstF_len] at h
  exact Ints.of_own h (fun i hi => by simp [firstF, hi]) hb
theorem wpList_append_is15 {w : World} {ops : Array Oper} {rest : List Oper} {o : Oper} {a : Act} {Q : Exit → Act → World → Prop} (hgd : o.guard = none) (s x : Operand)
    (ho : o.op = .call { callee := .builtin .append, args := #[s, x], argTypes := #[22, 22] })
    (base : Nat) (v : Value) (l : List Int) (hs : a.eval s = v) (hown : ownsI15 w base v l) (m : List Int) (A : Option Addr) (c : Nat) (hx : a.eval x = .slice A m.length c)
    (hm : ∀ p, A = some p → ∀ (j : Nat) (u : Value), (m.map (Value.int .i64))[j]? = some u → w.cell? (p.add j) = some u) (hA : A = none → m = [] ∧ c = 0)
    (hb : l.length + m.length ≤ 100000) (hbase : base ≤ w.heap.size)
    (h : ∀ v' w', ownsI15 w' base v' (l ++ m) → Below base w w' → wpList Try.prog ops Q rest (a.put o.dst v') w') :
    wpList Try.prog ops Q (o :: rest) a w := by
  obtain ⟨i0, hi, hz0, hz1, hz2⟩ := info_parts10 Try.infoI15
  cases A with
  | none =>
    obtain ⟨rfl, rfl⟩ := hA rfl
    refine wpList_append_own_none hgd s x 22 ho base 3 i0 1 Try.underlying22 hi v l.length _ hs hown hx ?_
    exact h v w (by rw [List.append_nil]; exact hown) (Below.refl _ _)
  | some ad =>
    refine wpList_append_own _ hgd s x 22 ho base 3 i0 (.int .i64 0) 1 8 Try.underlying22 hi hz0 hz1 hz2 rfl (by decide) v l.length _ hs hown ad m.length c (m.map (Value.int .i64)) hx (by simp) (hm ad rfl) (fun u hu => by
      obtain ⟨y, -, rfl⟩ := List.mem_map.1 hu
      rfl) (by unfold maxLen; omega) (by omega) hbase ?_
    intro v' w' hown' hgrow _
    refine h v' w' ?_ ((Below.refl base _).grown hgrow hbase (fun k e => by
      rcases hown.2 with ⟨rfl, _⟩ | ⟨g, cap, cur, rfl, hbg, _⟩
      · cases e
      · cases e; exact hbg))
    unfold ownsI15
    rw [List.map_append, List.length_append]
    exact hown'
set_option maxRecDepth 100000 in
set_option maxHeartbeats 4000000 in
theorem copy15 (A : Option Addr) (n c : Nat) (f : Nat → Int) (w : World) (h : Ints w A n f) (hn : n ≤ 80000) (hA : A = none → n = 0 ∧ c = 0) :
    Calls Try.prog 9 #[.slice A n c] w fun e w' => ∃ A' c', e = .returned (.slice A' n c') ∧ ownsI15 w' w.heap.size (.slice A' n c') (firstF f n) ∧ Below w.heap.size w w' := by
  have HC : Hid (∀ p, A = some p → ∀ (j : Nat) (u : Value), ((firstF f n).map (Value.int .i64))[j]? = some u → w.cell? (p.add j) = some u) := Lib.hid (fun p e j u hj => by
    have hlt : j < n := by
      have := (List.getElem?_eq_some_iff.1 hj).1
      simpa [firstF] using this
    obtain ⟨b, off, e', _, hc⟩ := h.at_ hlt
    rw [e] at e'
    injection e' with e'
    subst e'
    simp [firstF, hlt] at hj
    subst hj
    rw [Go.WideShapes.add_plain]
    exact hc)
  have HA : Hid (A = none → firstF f n = [] ∧ c = 0) := Lib.hid (fun e => by
    obtain ⟨h1, h2⟩ := hA e
    subst h1
    exact ⟨rfl, h2⟩)
  have HL := Lib.hid (firstF_len f n)
  clear h hA
  go_enter Try.func9, Try.ntmps9
  go_wp2_with ((at_builtin; refine wpList_append_is15 rfl _ _ rfl w.heap.size (.slice none 0 0) [] rfl (ownsI15.nil _ _) (firstF f n) A c (by rw [HL.out]; rfl) HC.out HA.out (by rw [HL.out]; simp only [List.length_nil]; omega) (Nat.le_refl _) ?_; intro v2 w2 hO hB; rw [List.nil_append] at hO; have O2 := Lib.hid hO; have B2 := Lib.hid hB; clear hO hB))
  go_ret
  obtain ⟨A', c', e, -, -, -⟩ := own_form O2.out
  rw [HL.out] at e
  subst e
  exact ⟨A', c', rfl, O2.out, B2.out⟩
set_option maxRecDepth 100000 in
set_option maxHeartbeats 8000000 in
theorem orders15 (hS : OrderOK 11) (A : Option Addr) (n c : Nat) (f : Nat → Int) (w : World) (hI : Ints w A n f) (hc : n ≤ c ∧ c ≤ 9223372036854775807) (hA : A = none → n = 0 ∧ c = 0) :
    Calls Try.prog 3 #[.slice A n c] w fun e w' => e = .returned (.bool true) ∧ Below w.heap.size w w' := by
  have HI := Lib.hid hI
  have HC := Lib.hid hc
  by_cases h : 300 < n
  · have hz : (300 : Int) < n := by omega
    clear hS
    go_enter Try.func3, Try.ntmps3
    go_wp2_with fail
    go_ret
    exact ⟨rfl, Below.refl _ _⟩
  have hz : ¬ (300 : Int) < n := by omega
  have hn : n ≤ 300 := by omega
  obtain ⟨q, hq⟩ := ordZ_ex f n
  have KC := Lib.hid (fun W (hW : Ints W A n f) => copy15 A n c f W hW (by omega) hA)
  have KR := Lib.hid (fun W (hW : Ints W A n f) => refOrder15 A n c f q W hW (by omega) HC.out hq)
  have KO := Lib.hid (fun A' c' W (hW : Ints W A' n f) (hc' : n ≤ c' ∧ c' ≤ 9223372036854775807) => hS A' n c' f q W hW (by omega) hc' hq)
  have QB : Hid (∀ i, i < n → -9223372036854775808 ≤ ((q i : Nat) : Int) ∧ ((q i : Nat) : Int) ≤ 9223372036854775807) := Lib.hid (fun i hi => by have := hq.lt hi; omega)
  have KS1 := Lib.hid (fun A1 c1 A2 c2 W (h1 : Ints W A1 n (fun i => (q i : Int))) (h2 : Ints W A2 n (fun i => (q i : Int))) => same_yes A1 A2 n c1 c2 (fun i => (q i : Int)) W h1 h2 (by omega))
  have KS2 := Lib.hid (fun A1 c1 A2 c2 W (h1 : Ints W A1 n f) (h2 : Ints W A2 n f) => same_yes A1 A2 n c1 c2 f W h1 h2 (by omega))
  have FB := Lib.hid (fun i (hi : i < n) => hI.bd hi)
  clear hS hq hI hA h
  go_enter Try.func3, Try.ntmps3
  go_upto_region 4 with (go_at_call 9; (with_reducible refine (KC.out _ HI.out).mono ?_); rintro e w1 ⟨A1, c1, rfl, hO, hb⟩; have O1 := Lib.hid hO; have B1 := Lib.hid hb; clear hO hb)
  have I1 := Lib.hid (HI.out.below B1.out)
  have M1 := Lib.hid (own_ints15 O1.out FB.out)
  have C1 : Hid (n ≤ c1 ∧ c1 ≤ 9223372036854775807) := Lib.hid (by
    obtain ⟨_, _, e, h1, h2, -⟩ := own_form O1.out
    injection e with e1 e2 e3
    rw [firstF_len] at h1
    omega)
  go_upto_region 5 with (go_at_call 10; (with_reducible refine (KR.out _ I1.out).mono ?_); rintro e w2 ⟨v, rfl, hO, hb⟩; obtain ⟨A2, c2, ev, -, -, -⟩ := own_form hO; rw [firstQ_len] at ev; subst ev; have O2 := Lib.hid hO; have B2 := Lib.hid hb; clear hO hb)
  have I2 := Lib.hid (I1.out.below B2.out)
  have M2 := Lib.hid (M1.out.below B2.out)
  rw [firstQ_F] at O2
  have R2 := Lib.hid (own_ints15 O2.out QB.out)
  have BB := Lib.hid (b_next15 B1.out B2.out)
  clear O1 O2 I1 M1 B1 B2 KC KR
  go_wp2_with fail
  go_loopg [5] 2 (fun g1 vt wr => ∃ k : Nat, vt = .int .i64 k ∧ k ≤ 2 ∧ 2 - k ≤ g1 ∧ Hid (Below w2.heap.size w2 wr))
  case atStart => exact ⟨0, rfl, by omega, by omega, Lib.hid (Below.refl _ _)⟩
  case round =>
    obtain ⟨k, rfl, hk, hg1, HB⟩ := hrel
    obtain ⟨wo, hwo⟩ : ∃ wo, wo = wr := ⟨_, rfl⟩
    subst hwo
    by_cases hlt : k < 2
    · have hz1 : (k : Int) < 2 := by omega
      have wi : IntKind.i64.wrap ((k : Int) + 1) = (k : Int) + 1 := IntWalk.i64_in _ (by omega)
      have M3 := Lib.hid (M2.out.below HB.out)
      go_upto_region 9 with (go_at_call 11; (with_reducible refine (KO.out _ _ _ M3.out C1.out).mono ?_); rintro e w3 ⟨v, rfl, hO, hb⟩; obtain ⟨A3, c3, ev, -, -, hnil⟩ := own_form hO; rw [firstQ_len] at ev; subst ev; have O3 := Lib.hid hO; have B3 := Lib.hid hb; clear hO hb)
      have Z3 := Lib.hid (b_next15 HB.out B3.out)
      rw [firstQ_F] at O3
      have N3 := Lib.hid (own_ints15 O3.out QB.out)
      have R3 := Lib.hid (R2.out.below Z3.out)
      have M4 := Lib.hid (M2.out.below Z3.out)
      have I4 := Lib.hid (I2.out.below Z3.out)
      go_upto_region 12 with (first
        | (go_at_call 12; (with_reducible refine (KS1.out _ _ _ _ _ N3.out R3.out).mono ?_); rintro e w4 ⟨rfl, hb⟩; have B4 := Lib.hid hb.below; have M5 := Lib.hid (M4.out.below hb.below); have I5 := Lib.hid (I4.out.below hb.below); clear hb)
        | (go_at_call 12; (with_reducible refine (KS2.out _ _ _ _ _ M5.out I5.out).mono ?_); rintro e w5 ⟨rfl, hb⟩; have B5 := Lib.hid (b_next15 B4.out hb.below); clear hb))
      have O5 := Lib.hid (O3.out.keep B5.out)
      have Y5 := Lib.hid (B3.out.trans (B5.out.mono B3.out.size))
      clear M3 O3 B3 Z3 N3 R3 M4 I4 M5 I5 B4 B5 hz1 hnil
      go_wp2_with fail
      go_loopg [7] n (fun g2 vi wr => ∃ (i : Nat) (zs : List Int), vi = .int .i64 i ∧ i ≤ n ∧ n - i ≤ g2 ∧ Hid (zs.length = n) ∧ Hid (ownsI15 wr wo.heap.size (.slice A3 n c3) zs) ∧ Hid (Below wo.heap.size wo wr))
      case atStart => exact ⟨0, _, rfl, by omega, by omega, Lib.hid (firstF_len _ n), O5, Y5⟩
      case round =>
        obtain ⟨i, zs, rfl, hi, hg2, HZ, HO, HY⟩ := hrel
        obtain ⟨w9, hw9⟩ : ∃ w9, w9 = wr := ⟨_, rfl⟩
        subst hw9
        by_cases hli : i < n
        · have hy1 : (i : Int) < n := by omega
          have hy0 : (0 : Int) ≤ i := by omega
          have wj : IntKind.i64.wrap ((i : Int) + 1) = (i : Int) + 1 := IntWalk.i64_in _ (by omega)
          obtain ⟨g, c9, e, -, -, -, -, hcell, hfro⟩ := HO.out.at_ (by intro e; have := HZ.out; rw [e] at this; simp at this; omega)
          rw [HZ.out] at e
          injection e with e1 e2 e3
          subst e1 e3
          clear e2
          have z0 := hfro i
          obtain ⟨z, c0⟩ : ∃ z, w9.cell? ⟨g, i, none⟩ = some (.int .i64 z) := ⟨_, hcell i _ (List.getElem?_eq_getElem (by have := HZ.out; omega))⟩
          obtain ⟨s1, s2⟩ := HO.out.set i (-5)
          have S1 := Lib.hid s1
          have S2 := Lib.hid (HY.out.trans s2)
          have SZ : Hid ((zs.set i (-5)).length = n) := Lib.hid (by rw [List.length_set]; exact HZ.out)
          clear s1 s2 hcell hfro
          go_wp2_with fail
          go_roundg (n - (i + 1))
          case measure => omega
          case rel => exact ⟨i + 1, zs.set i (-5), by go_num, by omega, Nat.le_refl _, SZ, S1, S2⟩
        · have hy1 : ¬ (i : Int) < n := by omega
          have ZZ := Lib.hid (b_next15 HB.out HY.out)
          go_wp2_with fail
          go_roundg (2 - (k + 1))
          case measure => omega
          case rel => exact ⟨k + 1, by go_num, by omega, Nat.le_refl _, ZZ⟩
    · have hz1 : ¬ (k : Int) < 2 := by omega
      have BF := Lib.hid (b_next15 BB.out HB.out)
      go_wp2_with fail
      go_ret
      exact ⟨rfl, BF.out⟩
end Go.Proofs.Ytkakencndopgbaa
