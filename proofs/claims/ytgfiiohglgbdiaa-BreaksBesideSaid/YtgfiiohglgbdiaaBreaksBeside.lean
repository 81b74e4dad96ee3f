/-
  The law BreaksBeside: of any Cut and Shown that answer as is asked.
-/
import Derived.Test.YtgfiiohglgbdiaaBreaksCut
namespace Go.Proofs.Ytgfiiohglgbdiaa
open Go.RowKit

def AwakeOK9 (f : Nat) : Prop := ∀ w : World, Calls Try.prog f #[] w fun e w' => e = .returned (.bool true) ∧ Below w.heap.size w w'
theorem PcIn.at_ {w : World} {v : Value} {ps : List Pc} (h : PcIn w v ps) {i : Nat} {p : Pc} (hp : ps[i]? = some p) : ∃ g c, v = .slice (some ⟨g, 0, none⟩) ps.length c ∧ g < w.heap.size ∧
    w.cell? ⟨g, i * 2, none⟩ = some (.int .u8 (p.1 : Nat)) ∧ w.cell? ⟨g, i * 2 + 1, none⟩ = some (.string ⟨p.2.toArray⟩) := by
  obtain ⟨A, c, rfl, hA⟩ := h
  obtain ⟨g, rfl, hg, hat⟩ := hA (by intro e; rw [e] at hp; simp at hp)
  exact ⟨g, c, rfl, hg, hat i p hp⟩
theorem slice_inj {A B : Option Addr} {n m c d : Nat} (h : Value.slice A n c = .slice B m d) : A = B ∧ n = m ∧ c = d := by
  injection h with h1 h2 h3
  exact ⟨h1, h2, h3⟩
theorem str_add (a b : ByteArray) (h : a.size + b.size ≤ 16384) (W : World) : (Op.stringOp .add a b).run Try.prog W = .ok (.string (a ++ b)) W := run_string_add_sum W a b (by omega)
theorem data_add (a b : ByteArray) : (a ++ b).data.toList = a.data.toList ++ b.data.toList := by simp [ByteArray.data_append]
theorem size_one (c : UInt8) : (⟨#[c]⟩ : ByteArray).size = 1 := rfl
set_option maxRecDepth 100000 in
set_option maxHeartbeats 4000000 in
/-- the comparing loop, and what is ahead of it, for given texts -/
theorem beside9 (hC : CutOK 9) (hW : AwakeOK9 13) (s t : ByteArray) (keep : Bool) (w : World) (_h1 : s.size ≤ maxLen) (_h2 : t.size ≤ maxLen) :
    Calls Try.prog 7 #[.string s, .string t, .bool keep] w fun e w' => e = .returned (.bool true) ∧ Below w.heap.size w w' := by
  unfold maxLen at _h1 _h2
  have KA := Lib.hid (fun W => hW W)
  have B := Lib.hid (Below.refl w.heap.size w)
  by_cases g1 : 1500 < s.size
  · have z1 : (1500 : Int) < s.size := by omega
    clear _h1 _h2 g1
    go_enter Try.func7, Try.ntmps7
    go_wp2_with (go_at_call 13; (with_reducible refine (KA.out _).mono ?_); rintro e w' ⟨rfl, hb⟩; replace B := Lib.hid (B.out.trans (hb.mono B.out.size)); clear hb)
    go_ret
    exact ⟨rfl, B.out⟩
  · have z1 : ¬ (1500 : Int) < s.size := by omega
    by_cases g2 : 1500 < t.size
    · have z2 : (1500 : Int) < t.size := by omega
      clear _h1 _h2 g1 g2
      go_enter Try.func7, Try.ntmps7
      go_wp2_with (go_at_call 13; (with_reducible refine (KA.out _).mono ?_); rintro e w' ⟨rfl, hb⟩; replace B := Lib.hid (B.out.trans (hb.mono B.out.size)); clear hb)
      go_ret
      exact ⟨rfl, B.out⟩
    · have z2 : ¬ (1500 : Int) < t.size := by omega
      have ad1 : ∀ W, (Op.stringOp .add s ⟨#[97]⟩).run Try.prog W = .ok (.string (s ++ ⟨#[97]⟩)) W := fun W => str_add _ _ (by rw [size_one]; omega) W
      have ad2 : ∀ W, (Op.stringOp .add ⟨#[32]⟩ t).run Try.prog W = .ok (.string (⟨#[32]⟩ ++ t)) W := fun W => str_add _ _ (by rw [size_one]; omega) W
      have ad3 : ∀ W, (Op.stringOp .add ⟨#[10]⟩ t).run Try.prog W = .ok (.string (⟨#[10]⟩ ++ t)) W := fun W => str_add _ _ (by rw [size_one]; omega) W
      obtain ⟨ws, hws⟩ : ∃ ws : Int, ws = if keep then 2 else 0 := ⟨_, rfl⟩
      obtain ⟨c, hc⟩ : ∃ c : UInt8, c = if keep then 10 else 32 := ⟨_, rfl⟩
      have su : (s ++ ⟨#[97]⟩).size = s.size + 1 := by rw [ByteArray.size_append]; rfl
      have sv : (⟨#[c]⟩ ++ t).size = 1 + t.size := by rw [ByteArray.size_append]; rfl
      have wb : 0 ≤ ws ∧ ws < 256 := by rw [hws]; split <;> omega
      have HC : Hid (cutP ws (s ++ ⟨#[97]⟩ ++ (⟨#[c]⟩ ++ t)).data.toList = cutP ws (s ++ ⟨#[97]⟩).data.toList ++ cutP ws (⟨#[c]⟩ ++ t).data.toList) := Lib.hid (by
        rw [data_add, data_add, data_add]
        cases keep with
        | true =>
          rw [if_pos rfl] at hws hc
          subst hws hc
          exact cutK_beside s.data.toList 97 t.data.toList (by decide)
        | false =>
          simp only [Bool.false_eq_true, if_false] at hws hc
          subst hws hc
          exact cutN_beside s.data.toList 97 32 t.data.toList (by decide) (by decide))
      have K1 := Lib.hid (fun W => hC (s ++ ⟨#[97]⟩) ws W (by omega) wb)
      have K2 := Lib.hid (fun W => hC (⟨#[c]⟩ ++ t) ws W (by omega) wb)
      have K3 := Lib.hid (fun W => hC (s ++ ⟨#[97]⟩ ++ (⟨#[c]⟩ ++ t)) ws W (by rw [ByteArray.size_append]; omega) wb)
      have L1 : Hid ((cutP ws (s ++ ⟨#[97]⟩).data.toList).length ≤ 1501) := Lib.hid (by have := cutP_len ws (s ++ ⟨#[97]⟩).data.toList; rw [← Lib.size_eq, su] at this; omega)
      have L2 : Hid ((cutP ws (⟨#[c]⟩ ++ t).data.toList).length ≤ 1501) := Lib.hid (by have := cutP_len ws (⟨#[c]⟩ ++ t).data.toList; rw [← Lib.size_eq, sv] at this; omega)
      rw [HC.out] at K3
      generalize cutP ws (s ++ ⟨#[97]⟩).data.toList = xs at K1 K3 L1
      generalize cutP ws (⟨#[c]⟩ ++ t).data.toList = ys at K2 K3 L2
      have ad4 : ∀ W, (Op.stringOp .add (s ++ ⟨#[97]⟩) (⟨#[c]⟩ ++ t)).run Try.prog W = .ok (.string (s ++ ⟨#[97]⟩ ++ (⟨#[c]⟩ ++ t))) W := fun W => str_add _ _ (by omega) W
      generalize s ++ ⟨#[97]⟩ ++ (⟨#[c]⟩ ++ t) = zt at ad4 K3
      clear HC su sv wb g1 g2 _h1 _h2
      have main : ∀ (W1 : World) (v1 v2 v3 : Value), PcIn W1 v1 xs → PcIn W1 v2 ys → PcIn W1 v3 (xs ++ ys) → True := fun _ _ _ _ _ _ _ => trivial
      clear main
      cases keep
      all_goals
        simp only [Bool.false_eq_true, if_false, if_true] at hws hc
        subst hws hc
        generalize s ++ ⟨#[97]⟩ = at1 at *
        go_enter Try.func7, Try.ntmps7
        go_wp2_with (first
          | (go_at_call 13; (with_reducible refine (KA.out _).mono ?_); rintro e w' ⟨rfl, hb⟩; replace B := Lib.hid (B.out.trans (hb.mono B.out.size)); clear hb))
        (with_reducible refine (K1.out _).mono ?_)
        rintro e w1 ⟨v1, rfl, hO, hb⟩
        have P1 := Lib.hid hO.pcs
        replace B := Lib.hid (B.out.trans (hb.mono B.out.size))
        clear hO hb
        go_wp2_with fail
        (with_reducible refine (K2.out _).mono ?_)
        rintro e w2 ⟨v2, rfl, hO, hb⟩
        have P2 := Lib.hid hO.pcs
        replace P1 := Lib.hid (P1.out.keep hb)
        replace B := Lib.hid (B.out.trans (hb.mono B.out.size))
        clear hO hb
        go_wp2_with fail
        (with_reducible refine (K3.out _).mono ?_)
        rintro e w3 ⟨v3, rfl, hO, hb⟩
        have P3 := Lib.hid hO.pcs
        replace P1 := Lib.hid (P1.out.keep hb)
        replace P2 := Lib.hid (P2.out.keep hb)
        replace B := Lib.hid (B.out.trans (hb.mono B.out.size))
        clear hO hb
        obtain ⟨n1, hn1⟩ : ∃ n, xs.length = n := ⟨_, rfl⟩
        obtain ⟨n2, hn2⟩ : ∃ n, ys.length = n := ⟨_, rfl⟩
        obtain ⟨n3, hn3⟩ : ∃ n, n1 + n2 = n := ⟨_, rfl⟩
        have l3 : (xs ++ ys).length = n3 := by rw [List.length_append, hn1, hn2, hn3]
        obtain ⟨A1, c1, rfl, h1⟩ := P1.out
        obtain ⟨A2, c2, rfl, h2⟩ := P2.out
        obtain ⟨A3, c3, rfl, h3⟩ := P3.out
        clear h1 h2 h3
        rw [hn1] at P1 L1 ⊢
        rw [hn2] at P2 L2 ⊢
        rw [l3] at P3 ⊢
        have wl : IntKind.i64.wrap ((n1 : Int) + n2) = (n3 : Int) := by rw [IntWalk.i64_in _ (by have := L1.out; have := L2.out; omega)]; omega
        have HN := Lib.hid (And.intro hn1 (And.intro hn2 (And.intro hn3 l3)))
        clear hn1 hn2 hn3 l3 K1 K2 K3 KA
        go_wp2_with fail
        go_loopg [13] n3 (fun g1 vi wr => ∃ (i q : Nat), vi = .int .i64 i ∧ i ≤ n3 ∧ n3 - i ≤ g1 ∧ wr = w3.drewN q)
        case atStart => exact ⟨0, 0, rfl, by omega, by omega, rfl⟩
        case round =>
          obtain ⟨i, q, rfl, hi, hg1, rfl⟩ := hrel
          by_cases hlt : i < n3
          · have hz : (i : Int) < n3 := by omega
            have hz0 : (0 : Int) ≤ i := by omega
            have wi : IntKind.i64.wrap ((i : Int) + 1) = (i : Int) + 1 := IntWalk.i64_in _ (by have := L1.out; have := L2.out; have := HN.out.2.2.1; omega)
            obtain ⟨p, hp⟩ : ∃ p, (xs ++ ys)[i]? = some p := ⟨_, List.getElem?_eq_getElem (by rw [HN.out.2.2.2]; exact hlt)⟩
            obtain ⟨g, c', e, -, d0, d1⟩ := P3.out.at_ hp
            obtain ⟨rfl, -, rfl⟩ := slice_inj e
            clear e
            by_cases hx : i < n1
            · have hxz : (i : Int) < n1 := by omega
              have t1 : decide (i < n1) = true := decide_eq_true hx
              have t2 : decide (n1 ≤ i) = false := decide_eq_false (by omega)
              have t3 : decide ((i : Int) < n1) = true := decide_eq_true hxz
              have t4 : decide ((n1 : Int) ≤ i) = false := decide_eq_false (by omega)
              have hx' : xs[i]? = some p := by rw [List.getElem?_append_left (by rw [HN.out.1]; exact hx)] at hp; exact hp
              obtain ⟨g', c'', e, -, e0, e1⟩ := P1.out.at_ hx'
              obtain ⟨rfl, -, rfl⟩ := slice_inj e
              clear e hx' hp hx
              go_wp2_with fail
              go_quiet (fail)
              go_wp2_with fail
              go_roundg (n3 - (i + 1))
              case measure => omega
              case rel => exact ⟨i + 1, q + nq, by go_num, by omega, Nat.le_refl _, rfl⟩
            · have t1 : decide (i < n1) = false := decide_eq_false hx
              have t2 : decide (n1 ≤ i) = true := decide_eq_true (by omega)
              have t3 : decide ((i : Int) < n1) = false := decide_eq_false (by omega)
              have t4 : decide ((n1 : Int) ≤ i) = true := decide_eq_true (by omega)
              have hx' : ys[i - n1]? = some p := by rw [List.getElem?_append_right (by rw [HN.out.1]; omega), HN.out.1] at hp; exact hp
              obtain ⟨g', c'', e, -, e0, e1⟩ := P2.out.at_ hx'
              obtain ⟨rfl, -, rfl⟩ := slice_inj e
              obtain ⟨j, hj⟩ : ∃ j, i - n1 = j := ⟨_, rfl⟩
              rw [hj] at e0 e1
              have wj : IntKind.i64.wrap ((i : Int) - n1) = (j : Int) := by rw [IntWalk.i64_in _ (by have := L1.out; have := L2.out; have := HN.out.2.2.1; omega)]; omega
              have j2 : (j : Int) < n2 := by have := HN.out.2.2.1; omega
              have j0 : (0 : Int) ≤ j := by omega
              clear e hx' hp hx hj
              go_wp2_with fail
              go_quiet (fail)
              go_wp2_with fail
              go_roundg (n3 - (i + 1))
              case measure => omega
              case rel => exact ⟨i + 1, q + nq, by go_num, by omega, Nat.le_refl _, rfl⟩
          · obtain rfl : i = n3 := by omega
            have hz : ¬ (i : Int) < i := by omega
            go_wp2_with fail
            go_ret
            exact ⟨rfl, B.out.os, B.out.tape, B.out.output, B.out.size, B.out.block⟩
end Go.Proofs.Ytgfiiohglgbdiaa
