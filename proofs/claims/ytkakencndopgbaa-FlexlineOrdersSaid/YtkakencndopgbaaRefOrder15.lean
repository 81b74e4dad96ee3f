/-
  The document's Order. What is asked of Order.
-/
import Derived.Test.YtkakencndopgbaaOrderM15
import Derived.Test.YtkakencndopgbaaGreat15
import Derived.OwnWalk
namespace Go.Proofs.Ytkakencndopgbaa
open Go.RowKit

/-- what is asked of an Order -/
def OrderOK (F : Nat) : Prop := ∀ (A : Option Addr) (n c : Nat) (f : Nat → Int) (q : Nat → Nat) (w : World), Ints w A n f → n ≤ 80000 → n ≤ c ∧ c ≤ 9223372036854775807 → OrdZ f q n → Calls Try.prog F #[.slice A n c] w fun e w' =>
  ∃ v, e = .returned v ∧ ownsI15 w' w.heap.size v (firstQ q n) ∧ Below w.heap.size w w'
/-- a row of bools in a block -/
structure BoolsAt (W : World) (g n : Nat) (p : Nat → Bool) : Prop where
  lt : g < W.heap.size
  cell : ∀ i, i < n → W.cell? ⟨g, i, none⟩ = some (.bool (p i))
  fro : ∀ i, i < n → W.frozen? ⟨g, i, none⟩ = false
theorem BoolsAt.keepB {W W' : World} {g n B : Nat} {p : Nat → Bool} (h : BoolsAt W g n p) (hb : Below B W W') (hg : g < B) : BoolsAt W' g n p := by
  have e := hb.block g hg
  refine ⟨Nat.lt_of_lt_of_le h.lt hb.size, fun i hi => ?_, fun i hi => ?_⟩
  · have := h.cell i hi
    unfold World.cell? at this ⊢
    rwa [e]
  · have := h.fro i hi
    unfold World.frozen? at this ⊢
    rwa [e]
theorem BoolsAt.set {W : World} {g n j : Nat} {p : Nat → Bool} (h : BoolsAt W g n p) (hj : j < n) (b : Bool) : BoolsAt (W.setCell ⟨g, j, none⟩ (.bool b)) g n (fun i => if i = j then b else p i) := by
  refine ⟨by simpa [World.setCell] using h.lt, fun i hi => ?_, fun i hi => by rw [World.frozen?_setCell]; exact h.fro i hi⟩
  by_cases e : i = j
  · subst e
    rw [if_pos rfl]
    exact World.cell?_setCell_same _ _ _ (h.cell i hi)
  · rw [if_neg e, World.cell?_setCell_other _ _ _ _ (fun e' => by injection e'; omega)]
    exact h.cell i hi
theorem BoolsAt.congr {W : World} {g n : Nat} {p r : Nat → Bool} (h : BoolsAt W g n p) (e : ∀ i, i < n → p i = r i) : BoolsAt W g n r := ⟨h.lt, fun i hi => by rw [← e i hi]; exact h.cell i hi, h.fro⟩
theorem made_bools {W : World} {base g n : Nat} (h : W.ownsRow base 4 1 (.slice (some ⟨g, 0, none⟩) n n) n (madeCells (Value.bool false).cells (n * 1)).toList) (hg : g < W.heap.size) : BoolsAt W g n (fun _ => false) := by
  by_cases h0 : n = 0
  · subst h0; exact ⟨hg, fun i hi => absurd hi (by omega), fun i hi => absurd hi (by omega)⟩
  obtain ⟨g', c, e, -, -, -, -, h1, h2⟩ := own_at h h0
  injection e with e1 e2 e3
  injection e1 with e1
  injection e1 with e1
  subst e1
  refine ⟨hg, fun i hi => h1 i _ ?_, fun i _ => h2 i⟩
  rw [Array.getElem?_toList]
  simp [madeCells, hi, Value.cells, Nat.mod_one]
theorem Try.infoB15 : (Try.prog.info? 4).map (fun i => (i.zero, i.size, i.bytes)) = some (some (.bool false), 1, 1) := by kernel_rfl
theorem own_lt15 {W : World} {base g n c : Nat} {T : TypeId} {k m : Nat} {cs : List Value} (h : W.ownsRow base T k (.slice (some ⟨g, 0, none⟩) n c) m cs) : g < W.heap.size := by
  rcases h.2 with ⟨e, _⟩ | ⟨g', cap, cur, e, _, hg, _⟩
  · cases e
  · injection e with e1 e2 e3
    injection e1 with e1
    injection e1 with e1
    subst e1
    exact (Array.getElem?_eq_some_iff.1 hg).1
theorem own_base15 {w : World} {B B' : Nat} {T : TypeId} {k : Nat} {v : Value} {n : Nat} {xs : List Value} (h : w.ownsRow B T k v n xs) (hb : B' ≤ B) : w.ownsRow B' T k v n xs := by
  obtain ⟨h1, h2⟩ := h
  rcases h2 with h2 | ⟨g', cap, cur, rfl, hg, rest⟩
  · exact ⟨h1, .inl h2⟩
  · exact ⟨h1, .inr ⟨g', cap, cur, rfl, by omega, rest⟩⟩
set_option maxRecDepth 100000 in
set_option maxHeartbeats 8000000 in
theorem refOrder15 : OrderOK 10 := by
  intro A n c f q w h hn hc hq
  have H := Lib.hid h
  have HQ := Lib.hid hq
  have B0 := Lib.hid (Below.refl w.heap.size w)
  clear h hq
  obtain ⟨ib, hi, hz0, hz1, hz2⟩ := info_parts10 Try.infoB15
  go_enter Try.func10, Try.ntmps10
  go_upto_region 3 with ((with_reducible change wpList _ _ _ (Oper.mk (some 9) _ _ _ _ _ :: _) _ _); refine wpList_make_full _ rfl _ _ 40 rfl w.heap.size 4 ib _ 1 Try.underlying40 hi hz0 hz1 .i64 .i64 n n n rfl rfl rfl rfl (by rw [hz2]; omega) (by unfold maxLen; omega) (Nat.le_refl _) ?_; intro w1 hown hgrow; have O1 := Lib.hid hown; have G1 := Lib.hid hgrow; clear hown hgrow)
  have B1 : Hid (Below w.heap.size w w1) := Lib.hid (B0.out.grown G1.out (Nat.le_refl _) (fun k e => by cases e))
  obtain ⟨g, hg⟩ : ∃ g, w.heap.size = g := ⟨_, rfl⟩
  have HG := Lib.hid hg
  rw [hg] at O1 B1 ⊢
  have T1 : Hid (BoolsAt w1 g n (fun _ => false)) := Lib.hid (made_bools O1.out (own_lt15 O1.out))
  clear O1 G1 B0 hg hi hz0 hz1 hz2
  go_wp2_with fail
  go_loopg [3, 12] n (fun g1 vo vk wr => ∃ k : Nat, vk = .int .i64 k ∧ k ≤ n ∧ n - k ≤ g1 ∧ Hid (ownsI15 wr (g + 1) vo (firstQ q k)) ∧ Hid (BoolsAt wr g n (toldQ q k)) ∧ Hid (Below g w wr))
  case atStart => exact ⟨0, rfl, by omega, by omega, Lib.hid (ownsI15.nil _ _), Lib.hid (T1.out.congr (fun i _ => (toldQ_zero q i).symm)), B1⟩
  case round =>
    obtain ⟨k, rfl, hk, hg1, HO, HT, HB⟩ := hrel
    obtain ⟨wo, hwo⟩ : ∃ wo, wo = wr := ⟨_, rfl⟩
    subst hwo
    clear B1 T1
    obtain ⟨Ao, co, eo, -, -, -⟩ := own_form HO.out
    rw [firstQ_len] at eo
    subst eo
    by_cases hlt : k < n
    · have hz : (k : Int) < n := by omega
      have wk : IntKind.i64.wrap ((k : Int) + 1) = (k : Int) + 1 := IntWalk.i64_in _ (by omega)
      have HW : Hid (Below w.heap.size w wo) := Lib.hid (by rw [HG.out]; exact HB.out)
      go_wp2_with fail
      go_loopg [5, 6] n (fun g2 vb vi wr => ∃ (m : Nat) (b : Int), vi = .int .i64 m ∧ vb = .int .i64 b ∧ m ≤ n ∧ n - m ≤ g2 ∧ Hid (BestQ f q k m b) ∧ Hid (Below wo.heap.size wo wr))
      case atStart => exact ⟨0, -1, rfl, rfl, by omega, by omega, Lib.hid (BestQ.zero f q k), Lib.hid (Below.refl _ _)⟩
      case round =>
        obtain ⟨m, b, rfl, rfl, hm, hg2, HBQ, HB2⟩ := hrel
        obtain ⟨wp, hwp⟩ : ∃ wp, wp = wr := ⟨_, rfl⟩
        subst hwp
        have HT2 := Lib.hid (HT.out.keepB HB2.out HT.out.lt)
        have HI2 := Lib.hid ((H.out.below HW.out).below HB2.out)
        have BD : Hid (Below wo.heap.size wo (wp.drewN 0) ∧ ∀ nq, Below wo.heap.size wo (wp.drewN nq)) := Lib.hid ⟨b_next15 HB2.out (drewN_below wp 0 wp.heap.size), fun nq => b_next15 HB2.out (drewN_below wp nq wp.heap.size)⟩
        by_cases hml : m < n
        · have hzm : (m : Int) < n := by omega
          have hz0 : (0 : Int) ≤ m := by omega
          have wi : IntKind.i64.wrap ((m : Int) + 1) = (m : Int) + 1 := IntWalk.i64_in _ (by omega)
          obtain ⟨bb, off, rfl, -, c0⟩ := HI2.out.at_ hml
          have t0 := HT2.out.cell m hml
          obtain ⟨tb, htb⟩ : ∃ tb, toldQ q k m = tb := ⟨_, rfl⟩
          rw [htb] at t0
          have HTB := Lib.hid htb
          clear htb
          cases tb with
          | true =>
            have NX := Lib.hid (HBQ.out.told HTB.out)
            go_wp2_with fail
            go_quiet (fail)
            go_wp2_with fail
            go_roundg (n - (m + 1))
            case measure => omega
            case rel => exact ⟨m + 1, b, by go_num, rfl, by omega, Nat.le_refl _, NX, Lib.hid (BD.out.2 _)⟩
          | false =>
            by_cases hb0 : b = -1
            · subst hb0
              have NX := Lib.hid (HBQ.out.first HTB.out)
              go_wp2_with fail
              go_quiet (fail)
              go_wp2_with fail
              go_roundg (n - (m + 1))
              case measure => omega
              case rel => exact ⟨m + 1, m, by go_num, rfl, by omega, Nat.le_refl _, NX, Lib.hid (BD.out.2 _)⟩
            · obtain ⟨x, hx1, hx2⟩ : ∃ x : Nat, b = x ∧ x < m := by
                rcases HBQ.out with ⟨h1, -⟩ | ⟨x, h1, h2, -⟩
                · exact absurd h1 hb0
                · exact ⟨x, h1, h2⟩
              subst hx1
              clear hb0
              have hx0 : (0 : Int) ≤ x := by omega
              have hxn : (x : Int) < n := by omega
              have hx3 : decide ((x : Int) < 0) = false := decide_eq_false (by omega)
              obtain ⟨b', off', e, -, c1⟩ := HI2.out.at_ (show x < n by omega)
              injection e with e
              injection e with e1 e2
              subst e1 e2
              by_cases hl : f m < f x
              · have NX := Lib.hid (HBQ.out.less HTB.out hl)
                have hl2 : decide (f m < f x) = true := decide_eq_true hl
                generalize f m = fm at c0 hl2 hl
                generalize f x = fx at c1 hl2 hl
                go_wp2_with fail
                go_quiet (fail)
                go_wp2_with fail
                go_roundg (n - (m + 1))
                case measure => omega
                case rel => exact ⟨m + 1, m, by go_num, rfl, by omega, Nat.le_refl _, NX, Lib.hid (BD.out.2 _)⟩
              · have NX := Lib.hid (HBQ.out.stay (by omega : f x ≤ f m))
                have hl2 : decide (f m < f x) = false := decide_eq_false hl
                clear hl
                generalize f m = fm at c0 hl2
                generalize f x = fx at c1 hl2
                go_wp2_with fail
                go_quiet (fail)
                go_wp2_with fail
                go_roundg (n - (m + 1))
                case measure => omega
                case rel => exact ⟨m + 1, x, by go_num, rfl, by omega, Nat.le_refl _, NX, Lib.hid (BD.out.2 _)⟩
        · obtain rfl : m = n := by omega
          have hzm : ¬ (m : Int) < m := by omega
          have hb := HBQ.out.done HQ.out hlt
          subst hb
          have hql := HQ.out.lt hlt
          have hz0 : (0 : Int) ≤ (q k : Nat) := by omega
          have hzq : ((q k : Nat) : Int) < m := by omega
          have TS := Lib.hid (HT2.out.set hql true)
          have t0 := HT2.out.cell (q k) hql
          have f0 := HT2.out.fro (q k) hql
          have FS := Lib.hid (firstQ_succ q k)
          have TQ := Lib.hid (toldQ_succ q k)
          have OS : Hid (ownsI15 (wp.setCell ⟨g, q k, none⟩ (.bool true)) (g + 1) (.slice Ao k co) (firstQ q k)) := Lib.hid (own_off15 (HO.out.keep HB2.out) (by omega) _)
          have BS : Hid (Below g w (wp.setCell ⟨g, q k, none⟩ (.bool true))) := Lib.hid ((HB.out.trans (HB2.out.mono (by have := HT.out.lt; omega))).setCell (Nat.le_refl _) _)
          have FL : Hid ((firstQ q k).length ≤ 90000) := Lib.hid (by rw [firstQ_len]; omega)
          generalize q k = y at TS t0 f0 FS TQ OS BS hz0 hzq ⊢
          go_upto_region 12 with fail
          clear t0 f0
          generalize wp.setCell ⟨g, y, none⟩ (.bool true) = wq at TS OS BS ⊢
          go_upto_region 13 with ((with_reducible change wpList _ _ _ (Oper.mk (some 47) _ _ _ _ _ :: _) _ _); refine wpList_append_i15 rfl _ _ rfl (g + 1) _ (firstQ q k) rfl OS.out y 3 rfl FL.out (by have := TS.out.lt; omega) ?_; intro v2 w2 hO hB; have O2 := Lib.hid hO; have B2 := Lib.hid hB; clear hO hB)
          have HN := Lib.hid ((TS.out.keepB B2.out (by omega)).congr (r := toldQ q (k + 1)) (fun i _ => by
            rw [TQ.out]
            by_cases e : i = y
            · rw [if_pos e]; simp [e]
            · rw [if_neg e]; simp [e]))
          have BN : Hid (Below g w w2) := Lib.hid (BS.out.trans (B2.out.mono (by omega)))
          rw [← FS.out] at O2
          go_wp2_with fail
          go_roundg (m - (k + 1))
          case measure => omega
          case rel => exact ⟨k + 1, by go_num, by omega, Nat.le_refl _, O2, HN, BN⟩
    · obtain rfl : k = n := by omega
      have hz : ¬ (k : Int) < k := by omega
      go_wp2_with fail
      go_ret
      exact ⟨_, rfl, own_base15 HO.out (by have := HG.out; omega), by rw [HG.out]; exact HB.out⟩
end Go.Proofs.Ytkakencndopgbaa
