/-
  The law LinesBlanks: of any Fill and Widest that answer as is asked, and of an awake that is true.
-/
import Derived.Test.YtpfeiiabplaghaaLinesAll
import Derived.Test.YtpfeiiabplaghaaLinesFill
import Derived.Test.YtpfeiiabplaghaaLinesMore
import Derived.Deep.QuietTactic
import Derived.BigQuiet
namespace Go.Proofs.Ytpfeiiabplaghaa
open Go.RowKit

/-- the cells of items as they lie -/
theorem its_cells {w : World} {A : Option Addr} {n c : Nat} {l : List It} (h : ItIn w (.slice A n c) l) : ∀ p, A = some p → ∀ j u, (cellsI l)[j]? = some u → w.cell? (p.add j) = some u := by
  rintro p rfl j u hu
  have hj := (List.getElem?_eq_some_iff.1 hu).1
  rw [cellsI_len] at hj
  obtain ⟨b, off, c', e, c0, c1⟩ := h.get (i := j / 2) (by omega)
  injection e with e1 e2 e3
  injection e1 with e1
  subst e1
  have g0 := flat_get itCells 2 itCells_len (l := l) (j := j / 2) (by omega) (i := 0) (by omega)
  have g1 := flat_get itCells 2 itCells_len (l := l) (j := j / 2) (by omega) (i := 1) (by omega)
  rw [Go.WideShapes.add_plain]
  unfold cellsI at hu
  rw [kd_get (by omega)] at c0
  rw [wd_get (by omega)] at c1
  by_cases hp : j % 2 = 0
  · rw [show j / 2 * 2 + 0 = j by omega] at g0
    rw [g0] at hu
    rw [show off + j = off + j / 2 * 2 by omega, c0]
    exact hu
  · rw [show j / 2 * 2 + 1 = j by omega] at g1
    rw [g1] at hu
    rw [show off + j = off + j / 2 * 2 + 1 by omega, c1]
    exact hu
/-- the blanks ahead, and behind -/
def aheadB (k : Nat) : List It := (List.range k).map (fun (i : Nat) => ((1 : Nat), (i : Int)))
def behindB (k : Nat) : List It := List.replicate k (1, 7)
theorem aheadB_succ (k : Nat) : aheadB (k + 1) = aheadB k ++ [(1, (k : Int))] := by
  unfold aheadB
  rw [List.range_succ, List.map_append]
  rfl
theorem behindB_succ (k : Nat) : behindB (k + 1) = behindB k ++ [(1, 7)] := List.replicate_succ'
theorem aheadB_len (k : Nat) : (aheadB k).length = k := by simp [aheadB]
theorem behindB_len (k : Nat) : (behindB k).length = k := by simp [behindB]
theorem aheadB_at {k i : Nat} (h : i < k) : kd (aheadB k) i = 1 ∧ wd (aheadB k) i = i := by
  have hl : i < (aheadB k).length := by rw [aheadB_len]; exact h
  rw [kd_get hl, wd_get hl]
  simp [aheadB]
theorem behindB_at {k i : Nat} (h : i < k) : kd (behindB k) i = 1 ∧ wd (behindB k) i = 7 := by
  have hl : i < (behindB k).length := by rw [behindB_len]; exact h
  rw [kd_get hl, wd_get hl]
  simp [behindB]
theorem item_append {p q : List It} (P : Nat → Int → Prop) (h1 : ∀ i, i < p.length → P (kd p i) (wd p i)) (h2 : ∀ i, i < q.length → P (kd q i) (wd q i)) : ∀ i, i < (p ++ q).length → P (kd (p ++ q) i) (wd (p ++ q) i) := by
  intro i hi
  rw [List.length_append] at hi
  by_cases c : i < p.length
  · rw [kd_left c, wd_left c]; exact h1 i c
  · obtain ⟨j, rfl⟩ := Nat.exists_eq_add_of_le (Nat.le_of_not_lt c)
    rw [kd_shift, wd_shift]
    exact h2 j (by omega)
def allB (l : List It) (k : Nat) : List It := aheadB k ++ (l ++ behindB k)
theorem allB_lines {l : List It} (hl : Good l) (k : Nat) (x : Int) : linesT (allB l k) x = (linesT l x).map (lineS k) := by
  have h1 : Blanks (aheadB k) := fun i hi => (aheadB_at (by rwa [aheadB_len] at hi)).1
  have h2 : Blanks (behindB k) := fun i hi => (behindB_at (by rwa [behindB_len] at hi)).1
  unfold allB
  rw [ahead_T h1, behind_T hl h2, aheadB_len]
theorem allB_len (l : List It) (k : Nat) : (allB l k).length = l.length + 2 * k := by
  unfold allB
  rw [List.length_append, List.length_append, aheadB_len, behindB_len]
  omega
theorem allB_great {l : List It} {x : Int} (h : ¬ great10 l x) {k : Nat} (hn : l.length ≤ 400) (hk : k ≤ 50) : ¬ great10 (allB l k) x := by
  have hall : ∀ i, i < (allB l k).length → ¬ (3 < kd (allB l k) i ∨ wd (allB l k) i < -1073741824 ∨ 1073741824 < wd (allB l k) i) := by
    unfold allB
    refine item_append (fun a b => ¬ (3 < a ∨ b < -1073741824 ∨ 1073741824 < b)) (fun i hi => ?_) (item_append (fun a b => ¬ (3 < a ∨ b < -1073741824 ∨ 1073741824 < b)) (fun i hi => ?_) (fun i hi => ?_))
    · rw [aheadB_len] at hi
      rw [(aheadB_at hi).1, (aheadB_at hi).2]
      omega
    · exact fun c => h (.inr (.inr (.inr ⟨i, hi, c⟩)))
    · rw [behindB_len] at hi
      rw [(behindB_at hi).1, (behindB_at hi).2]
      omega
  rintro (g | g | g | ⟨i, g1, g2⟩)
  · rw [allB_len] at g; omega
  · exact h (.inr (.inl g))
  · exact h (.inr (.inr (.inl g)))
  · exact hall i g1 g2
theorem great_small {l : List It} {x : Int} (h : ¬ great10 l x) : ∀ i, i < l.length → kd l i < 256 ∧ -9223372036854775808 ≤ wd l i ∧ wd l i ≤ 9223372036854775807 := by
  obtain ⟨g1, g2, -, -, -⟩ := within_great h
  intro i hi
  have := g1 i hi
  have := g2 i hi
  omega
set_option maxRecDepth 100000 in
set_option maxHeartbeats 8000000 in
theorem blanks10 (hF : FillOK 11) (hW : WidestOK 13) (hA : AwakeOK10 15) (l : List It) (v : Value) (x y : Int) (w : World) (hv : ItIn w v l) (hnil : ∀ n c, v = .slice none n c → n = 0 ∧ c = 0) :
    Calls Try.prog 8 #[v, .int .i64 x, .int .i64 y] w fun e w' => e = .returned (.bool true) ∧ Below w.heap.size w w' := by
  have KA := Lib.hid (fun W => hA W)
  obtain ⟨b1, hb1⟩ : ∃ b, decide (great10 l x) = b := ⟨_, rfl⟩
  have K1 := Lib.hid (fun W (hW : ItIn W v l) => great_any10 l v x W hW b1 hb1)
  by_cases hE : b1 = true ∨ 400 < l.length ∨ y < 0 ∨ 50 < y
  · have HV := Lib.hid hv
    obtain ⟨A, c, rfl, -, -⟩ := hv
    obtain ⟨n, en⟩ : ∃ n, l.length = n := ⟨_, rfl⟩
    rw [en] at hE HV K1 ⊢
    clear hF hW hA hb1 hnil en
    cases b1 with
    | true =>
      clear hE
      go_enter Try.func8, Try.ntmps8
      go_wp2_with (first
        | (go_at_call 15; (with_reducible refine (KA.out _).mono ?_); rintro e w1 ⟨rfl, hb⟩; have B1 := Lib.hid hb; have V1 := Lib.hid (HV.out.keep hb); clear hb)
        | (go_at_call 16; (with_reducible refine (K1.out _ V1.out).mono ?_); rintro e w2 ⟨rfl, hw⟩; subst hw; clear K1))
      go_ret
      exact ⟨rfl, B1.out⟩
    | false =>
      by_cases h1 : 400 < n
      · have hz : (400 : Int) < n := by omega
        clear hE h1
        go_enter Try.func8, Try.ntmps8
        go_wp2_with (first
          | (go_at_call 15; (with_reducible refine (KA.out _).mono ?_); rintro e w1 ⟨rfl, hb⟩; have B1 := Lib.hid hb; have V1 := Lib.hid (HV.out.keep hb); clear hb)
          | (go_at_call 16; (with_reducible refine (K1.out _ V1.out).mono ?_); rintro e w2 ⟨rfl, hw⟩; subst hw; clear K1))
        go_ret
        exact ⟨rfl, B1.out⟩
      · have hz : ¬ (400 : Int) < n := by omega
        by_cases h2 : y < 0
        · clear hE h1
          go_enter Try.func8, Try.ntmps8
          go_wp2_with (first
            | (go_at_call 15; (with_reducible refine (KA.out _).mono ?_); rintro e w1 ⟨rfl, hb⟩; have B1 := Lib.hid hb; have V1 := Lib.hid (HV.out.keep hb); clear hb)
            | (go_at_call 16; (with_reducible refine (K1.out _ V1.out).mono ?_); rintro e w2 ⟨rfl, hw⟩; subst hw; clear K1))
          go_ret
          exact ⟨rfl, B1.out⟩
        · have h3 : 50 < y := by
            rcases hE with h | h | h | h
            · cases h
            · exact absurd h h1
            · exact absurd h h2
            · exact h
          clear hE h1
          go_enter Try.func8, Try.ntmps8
          go_wp2_with (first
            | (go_at_call 15; (with_reducible refine (KA.out _).mono ?_); rintro e w1 ⟨rfl, hb⟩; have B1 := Lib.hid hb; have V1 := Lib.hid (HV.out.keep hb); clear hb)
            | (go_at_call 16; (with_reducible refine (K1.out _ V1.out).mono ?_); rintro e w2 ⟨rfl, hw⟩; subst hw; clear K1))
          go_ret
          exact ⟨rfl, B1.out⟩
  · obtain rfl : b1 = false := by cases b1; rfl; exact absurd (.inl rfl) hE
    have hn4 : l.length ≤ 400 := Nat.le_of_not_lt (fun h => hE (.inr (.inl h)))
    have hy0 : ¬ y < 0 := fun h => hE (.inr (.inr (.inl h)))
    have hy5 : ¬ 50 < y := fun h => hE (.inr (.inr (.inr h)))
    obtain ⟨k, rfl⟩ : ∃ k : Nat, y = k := ⟨y.toNat, by omega⟩
    have hk5 : k ≤ 50 := by omega
    have g1 : ¬ great10 l x := of_decide_eq_false hb1
    have G1 := Lib.hid (within_great g1)
    have g2 := allB_great g1 hn4 hk5
    have KX := Lib.hid (fun W (hW : ItIn W v l) => fill_yes10 hF g1 v W hW (great_small g1))
    have KY := Lib.hid (fun W u (hW : ItIn W u (allB l k)) => fill_yes10 hF g2 u W hW (great_small g2))
    rw [allB_lines G1.out.1] at KY
    have LL : (linesT l x).length ≤ l.length := by have := fill_len (l := l) x (behind l 0); unfold linesT; omega
    have KWX := Lib.hid (fun W u (h : LnIn W u (linesT l x)) => hW _ u W h (by omega))
    have KWY := Lib.hid (fun W u (h : LnIn W u ((linesT l x).map (lineS k))) => hW _ u W h (by rw [List.length_map]; omega))
    have WS : widestT ((linesT l x).map (lineS k)) = widestT (linesT l x) := widest_same (by rw [List.map_map]; rfl)
    rw [WS] at KWY
    have BX := Lib.hid (fun y (hy : y ∈ linesT l x) => fill_all (w := x) G1.out.1 _ (st_first l) y hy)
    have HV := Lib.hid hv
    obtain ⟨A, c, rfl, -, -⟩ := hv
    have NIL := Lib.hid (show A = none → l = [] ∧ c = 0 from fun e => by
      subst e
      have := hnil _ _ rfl
      exact ⟨List.length_eq_zero_iff.1 this.1, this.2⟩)
    obtain ⟨R, hR⟩ : ∃ R, linesT l x = R := ⟨_, rfl⟩
    rw [hR] at KX KY LL KWX KWY BX
    obtain ⟨wt, hwt⟩ : ∃ z, widestT R = z := ⟨_, rfl⟩
    rw [hwt] at KWX KWY
    have BT : Hid (∀ y ∈ R, y.1 ≤ l.length ∧ y.2.1 ≤ l.length) := Lib.hid (fun y hy => by
      have := BX.out y hy
      exact ⟨by omega, this.2.2.2.1.hi⟩)
    obtain ⟨n, en⟩ : ∃ n, l.length = n := ⟨_, rfl⟩
    obtain ⟨m, em⟩ : ∃ m, R.length = m := ⟨_, rfl⟩
    have HN := Lib.hid en
    have HM := Lib.hid em
    rw [en] at HV K1 KX LL hn4 BT ⊢
    rw [em] at LL
    have hz1 : decide ((400 : Int) < n) = false := decide_eq_false (by omega)
    have hz2 : decide ((k : Int) < 0) = false := decide_eq_false (by omega)
    have hz3 : decide ((50 : Int) < k) = false := decide_eq_false (by omega)
    clear hy0 hy5
    clear hb1 g1 g2 hE en hF hW hA hR hwt WS em hnil BX
    go_enter Try.func8, Try.ntmps8
    go_wp2_with (first
      | (go_at_call 15; (with_reducible refine (KA.out _).mono ?_); rintro e w1 ⟨rfl, hb⟩; have B1 := Lib.hid hb; have V1 := Lib.hid (HV.out.keep hb); clear hb)
      | (go_at_call 16; (with_reducible refine (K1.out _ V1.out).mono ?_); rintro e w2 ⟨rfl, hw⟩; subst hw; clear K1))
    go_loopg [7, 8] k (fun h1 va vi wr => ∃ (i : Nat) (vv : Value), vi = .int .i64 i ∧ va = vv ∧ i ≤ k ∧ k - i ≤ h1 ∧ Hid (ownsI wr w2.heap.size vv (aheadB i) ∧ Below w2.heap.size w2 wr))
    case atStart => exact ⟨0, _, rfl, rfl, by omega, by omega, Lib.hid ⟨ownsI.nil _ _, Below.refl _ _⟩⟩
    case round =>
      obtain ⟨i, va, rfl, ev, hi, hg1, hS⟩ := hrel
      replace ev := ev.symm
      subst ev
      by_cases hlt : i < k
      · have hz : (i : Int) < k := by omega
        have wi : IntKind.i64.wrap ((i : Int) + 1) = (i : Int) + 1 := IntWalk.i64_in _ (by omega)
        have HS := hS.out.2.size
        go_wp2_with ((with_reducible change wpList _ _ _ (Oper.mk (some 42) _ _ _ _ _ :: _) _ _); refine wpList_append_it rfl _ _ rfl w2.heap.size va (aheadB i) rfl hS.out.1 (1, (i : Int)) _ rfl (by rw [aheadB_len]; omega) HS ?_; intro v3 w3 hv3 hb3 _; have OW3 := Lib.hid hv3; have BW3 := Lib.hid (hS.out.2.trans hb3); clear hv3 hb3)
        go_roundg (k - (i + 1))
        case measure => omega
        case rel => exact ⟨i + 1, _, by go_num, rfl, by omega, Nat.le_refl _, Lib.hid ⟨by rw [aheadB_succ]; exact OW3.out, BW3.out⟩⟩
      · obtain rfl : i = k := by omega
        have hz : ¬ (i : Int) < i := by omega
        have HS := hS.out.2.size
        have V2 := Lib.hid (V1.out.keep hS.out.2)
        go_wp2_with ((with_reducible change wpList _ _ _ (Oper.mk (some 45) _ _ _ _ _ :: _) _ _); refine wpList_append_its rfl _ _ rfl w2.heap.size va (aheadB i) rfl hS.out.1 l A c (by rw [HN.out]; rfl) (its_cells V2.out) NIL.out (by rw [aheadB_len, HN.out]; omega) HS ?_; intro v3 w3 hv3 hb3 _; have OW3 := Lib.hid hv3; have BW3 := Lib.hid (hS.out.2.trans hb3); clear hv3 hb3)
        go_loopg [7, 9] i (fun h1 va vi wr => ∃ (j : Nat) (vv : Value), vi = .int .i64 j ∧ va = vv ∧ j ≤ i ∧ i - j ≤ h1 ∧ Hid (ownsI wr w2.heap.size vv (aheadB i ++ (l ++ behindB j)) ∧ Below w2.heap.size w2 wr))
        case atStart => exact ⟨0, _, rfl, rfl, by omega, by omega, Lib.hid ⟨by simpa [behindB] using OW3.out, BW3.out⟩⟩
        case round =>
          obtain ⟨j, va, rfl, ev, hj, hg2, hT⟩ := hrel
          replace ev := ev.symm
          subst ev
          clear OW3 BW3
          by_cases hjt : j < i
          · have z1 : (j : Int) < i := by omega
            have wj : IntKind.i64.wrap ((j : Int) + 1) = (j : Int) + 1 := IntWalk.i64_in _ (by omega)
            have HS2 := hT.out.2.size
            go_wp2_with ((with_reducible change wpList _ _ _ (Oper.mk (some 54) _ _ _ _ _ :: _) _ _); refine wpList_append_it rfl _ _ rfl w2.heap.size va (aheadB i ++ (l ++ behindB j)) rfl hT.out.1 (1, 7) _ rfl (by rw [List.length_append, List.length_append, aheadB_len, behindB_len, HN.out]; omega) HS2 ?_; intro v4 w4 hv4 hb4 _; have OW4 := Lib.hid hv4; have BW4 := Lib.hid (hT.out.2.trans hb4); clear hv4 hb4)
            go_roundg (i - (j + 1))
            case measure => omega
            case rel => exact ⟨j + 1, _, by go_num, rfl, by omega, Nat.le_refl _, Lib.hid ⟨by rw [behindB_succ, ← List.append_assoc l, ← List.append_assoc]; exact OW4.out, BW4.out⟩⟩
          · obtain rfl : j = i := by omega
            have z1 : ¬ (j : Int) < j := by omega
            have VA := Lib.hid (show ItIn wr va (allB l j) from hT.out.1.its)
            have V4 := Lib.hid (V1.out.keep hT.out.2)
            have B4 := Lib.hid (B1.out.trans (hT.out.2.mono B1.out.size))
            clear V2 hS hT HS
            go_wp2_with (first
              | (go_at_call 11; (with_reducible refine (KX.out _ V4.out).mono ?_); rintro e w5 ⟨out, rfl, hO, hB⟩; clear KX; obtain ⟨Ca, da, eo, ho⟩ := hO.lns; rw [HM.out] at eo; subst eo; have LA := Lib.hid hO.lns; replace VA := Lib.hid (VA.out.keep hB); have B5 := Lib.hid (B4.out.trans (hB.mono B4.out.size)); clear hO hB ho V4 B4)
              | (go_at_call 11; (with_reducible refine (KY.out _ _ VA.out).mono ?_); rintro e w6 ⟨out, rfl, hO, hB⟩; clear KY; obtain ⟨Cb, db, eo, ho⟩ := hO.lns; rw [List.length_map, HM.out] at eo; subst eo; have LB := Lib.hid hO.lns; replace LA := Lib.hid (LA.out.keep hB); have B6 := Lib.hid (B5.out.trans (hB.mono B5.out.size)); clear hO hB ho VA B5))
            go_loopg [14] m (fun h3 vi wr => ∃ t q : Nat, vi = .int .i64 t ∧ t ≤ m ∧ m - t ≤ h3 ∧ wr = w6.drewN q)
            case atStart => exact ⟨0, 0, rfl, by omega, by omega, rfl⟩
            case round =>
              obtain ⟨t, q, rfl, ht, hg3, rfl⟩ := hrel
              by_cases htm : t < m
              · have z2 : (t : Int) < m := by omega
                have z0 : (0 : Int) ≤ t := by omega
                have wt2 : IntKind.i64.wrap ((t : Int) + 1) = (t : Int) + 1 := IntWalk.i64_in _ (by omega)
                have hla : t < R.length := by have := HM.out; omega
                obtain ⟨A1, e1, e, -, hqa⟩ := LA.out
                injection e with e4 e5 e6
                subst e4 e6
                clear e5
                obtain ⟨A2, e2, e, -, hqb⟩ := LB.out
                injection e with e4 e5 e6
                subst e4 e6
                clear e5
                obtain ⟨ga, rfl, -, hta⟩ := hqa (by intro e; rw [e] at hla; simp at hla)
                obtain ⟨gb, rfl, -, htb⟩ := hqb (by intro e; rw [List.map_eq_nil_iff] at e; rw [e] at hla; simp at hla)
                obtain ⟨⟨x1, x2, x3⟩, hx⟩ : ∃ y, R[t]? = some y := ⟨_, List.getElem?_eq_getElem hla⟩
                obtain ⟨a0, a1, a2⟩ := hta t _ hx
                obtain ⟨b0, b1, b2⟩ := htb t (lineS j (x1, x2, x3)) (by rw [List.getElem?_map, hx]; rfl)
                have hbt := BT.out _ (List.mem_of_getElem? hx)
                dsimp only [lineS] at a0 a1 a2 b0 b1 b2 hbt
                have k0 : IntKind.i64.wrap ((x1 : Int) + j) = ((j + x1 : Nat) : Int) := by rw [IntWalk.i64_in _ (by omega)]; omega
                have k1 : IntKind.i64.wrap ((x2 : Int) + j) = ((j + x2 : Nat) : Int) := by rw [IntWalk.i64_in _ (by omega)]; omega
                generalize ((j + x1 : Nat) : Int) = y1 at b0 k0
                generalize ((j + x2 : Nat) : Int) = y2 at b1 k1
                generalize (x1 : Int) = u1 at a0 k0
                generalize (x2 : Int) = u2 at a1 k1
                clear hta htb hqa hqb hla hx hbt
                go_wp2_with fail
                go_quiet (fail)
                go_wp2_with fail
                go_roundg (m - (t + 1))
                case measure => omega
                case rel => exact ⟨t + 1, q + nq, by go_num, by omega, Nat.le_refl _, rfl⟩
              · obtain rfl : t = m := by omega
                have z2 : ¬ (t : Int) < t := by omega
                have L1 := Lib.hid (LA.out.keep (drewN_below w6 q _))
                have L2 := Lib.hid (LB.out.keep (drewN_below w6 q _))
                have B7 := Lib.hid (B6.out.trans (drewN_below w6 q _))
                generalize w6.drewN q = w7 at L1 L2 B7 ⊢
                go_wp2_with (first
                  | (go_at_call 13; (with_reducible refine (KWX.out _ _ L1.out).mono ?_); rintro e w8 ⟨rfl, hb⟩; clear KWX; have L3 := Lib.hid (L2.out.keep hb); have B8 := Lib.hid (B7.out.trans (hb.mono B7.out.size)); clear hb L1 L2 B7)
                  | (go_at_call 13; (with_reducible refine (KWY.out _ _ L3.out).mono ?_); rintro e w9 ⟨rfl, hb⟩; clear KWY; have B9 := Lib.hid (B8.out.trans (hb.mono B8.out.size)); clear hb L3 B8))
                go_ret
                exact ⟨by simp, B9.out⟩
/-- the law's walk, of items that came in -/
theorem blanks10_in (hF : FillOK 11) (hW : WidestOK 13) (hA : AwakeOK10 15) (a0 : Option Addr) (len0 cap0 : Nat) (z0 : List It) (a1 a2 : Int) (w : World) (w0 : ItemsIn w a0 len0 cap0 z0) :
    Calls Try.prog 8 #[.slice a0 len0 cap0, .int .i64 a1, .int .i64 a2] w fun e w' => e = .returned (.bool true) ∧ Below w.heap.size w w' := by
  obtain ⟨h1, rfl, h3, h4, h5⟩ := w0
  exact blanks10 hF hW hA z0 _ a1 a2 w h1 (fun n c e => by injection e with e1 e2 e3; subst e2 e3; exact h3 e1)
end Go.Proofs.Ytpfeiiabplaghaa
