/-
  The law TreeParents, of any program that answers as is asked.
-/
import Derived.Test.YtlkcmfohmkblfaaParentsMath
import Derived.Test.YtlkcmfohmkblfaaFind
import Derived.Deep.QuietTactic
import Derived.BigQuiet
namespace Go.Proofs.Ytlkcmfohmkblfaa
open Go.RowKit

theorem no_kids_text {N : Nat → RN} {n i : Nat} {x : Int} (h : Shape n x N) (hi : i < n) (hk : (N i).kind ≠ 0) : kidsOf (dps N) n i = [] := by
  refine no_kids (dps N) hi fun h1 => ?_
  rcases h.kind i hi with h2 | h2
  · exact absurd h2 hk
  · exact h.behind i h1 h2

theorem par_one (hP : ParentOK) {a r : Int} (h1 : -9223372036854775808 ≤ a ∧ a ≤ 9223372036854775807) {H p : Nat} {A : Option Addr} {n c : Nat} {x : Int} {N : Nat → RN} {w : World} (he : parAns N n a = r) : ∀ W, One H p A n c x N w W →
    Calls Try.prog 12 #[.agg #[.slice A n c, .int .i64 x], .int .i64 a] W fun e w' => e = .returned (.int .i64 r) ∧ Below W.heap.size W w' := fun W h => by
  subst he
  exact hP A n c x N a W h.doc h1.1 h1.2
theorem find_one (hF : FindOK) {H p : Nat} {A : Option Addr} {n c i : Nat} {x : Int} {N : Nat → RN} {w : World} (hs : Shape n x N) (hi : i < n) (hk : -9223372036854775808 ≤ (N i).key ∧ (N i).key ≤ 9223372036854775807) : ∀ W, One H p A n c x N w W →
    Calls Try.prog 13 #[.agg #[.slice A n c, .int .i64 x], .int .i64 (N i).key] W fun e w' => e = .returned (.int .i64 (i : Nat)) ∧ Below W.heap.size W w' := fun W h =>
  (hF A n c x N (N i).key W h.doc hk.1 hk.2).mono fun _ _ ⟨r, he, hr, hb⟩ => ⟨by rw [he, hr.uniq (.inr ⟨i, hi, rfl, rfl, fun j hj => hs.once j i hj hi⟩)], hb⟩
theorem fill_drawn {W : World} {g n k : Nat} {f : Nat → Int} (h : Fill W g n k f) (q : Nat) : Fill (W.drewN q) g n k f := ⟨h.there, h.done⟩
theorem one_drawn {H p : Nat} {A : Option Addr} {n c : Nat} {x : Int} {N : Nat → RN} {w W : World} (h : One H p A n c x N w W) (q : Nat) : One H p A n c x N w (W.drewN q) := h.next (below_drew (Below.refl _ _) q)
theorem places_drawn {W : World} {B : Option Addr} {d : Nat} {l : List Nat} (h : Places W B d l) (q : Nat) : Places (W.drewN q) B d l := h.below (below_drew (Below.refl _ _) q)

set_option maxRecDepth 100000 in
set_option maxHeartbeats 8000000 in
theorem parents5 (hM : MayOK) (hS : SameOK5) (hC : CopyOK5) (hF : FindOK) (hE : EndOK) (hP : ParentOK) (hK : KidsOK) (hKF : KidsFresh)
    (a0 : Option Addr) (len0 cap0 : Nat) (x0 : Int) (z0 : Nat → RN) (w : World) (w0 : DocIn w a0 len0 cap0 x0 z0) :
    Calls Try.prog 3 #[docV a0 len0 cap0 x0] w fun e w' => e = .returned (.bool true) ∧ Below w.heap.size w w' := by
  obtain ⟨i0, hi0, hz0, hz1, hz2⟩ := info_parts Try.info27
  have AW := Lib.hid (awake5_any hM hS hC hF hE hP hK)
  have KE := Lib.hid hE
  have KM := Lib.hid hM
  have KF := Lib.hid hF
  have KP := Lib.hid hP
  have KK := Lib.hid hKF
  have LT := Lib.hid w0.1.1.block_lt
  have D0 := Lib.hid w0
  clear hM hS hC hF hE hP hK hKF w0
  unfold docV
  go_enter Try.func3, Try.ntmps3
  go_wp2_with fail
  have T0 := Lib.hid (one_start D0.out)
  clear D0
  refine (AW.out _).mono ?_
  rintro e v1 ⟨rfl, hb⟩
  have T1 := Lib.hid (T0.out.next hb)
  clear hb T0 AW
  obtain ⟨-, -, -, q0, q1⟩ := T1.out
  go_wp2_with fail
  clear q0 q1
  refine (great_call _ T1.out.doc).mono ?_
  rintro e v2 ⟨g, rfl, hg, hb⟩
  have T2 := Lib.hid (T1.out.next hb)
  clear hb T1
  cases g
  case true =>
    go_wp2_with fail
    go_ret
    exact ⟨rfl, T2.out.below⟩
  have hn := (hg rfl).1
  clear hg
  obtain ⟨-, -, -, q0, q1⟩ := T2.out
  go_wp2_with fail
  clear q0 q1
  refine (KM.out _ _ _ _ _ _ T2.out.doc).mono ?_
  rintro e v3 ⟨g, rfl, hg, hb⟩
  have T3 := Lib.hid (T2.out.next hb)
  clear hb T2 KM
  obtain ⟨-, -, -, q0, q1⟩ := T3.out
  cases g
  case false =>
    go_wp2_with fail
    go_ret
    exact ⟨rfl, T3.out.below⟩
  have SH := Lib.hid (hg.1 rfl)
  clear hg
  have h3z : w.heap.size + 1 ≤ v3.heap.size := by have := lt_of_cell q0; exact this
  go_wp2_with ((with_reducible change wpList _ _ _ (Oper.mk (some 21) _ _ _ _ _ :: _) _ _); refine wpList_make_full _ rfl _ _ 27 rfl v3.heap.size 3 i0 _ 1 Try.underlying27 hi0 hz0 hz1 .i64 .i64 len0 len0 len0 rfl rfl rfl rfl (by rw [hz2]; omega) (by unfold maxLen; omega) (by simp) ?_; intro v4 hown hgrow; have T4 := Lib.hid (T3.out.next ((Below.refl _ v3).grown hgrow (Nat.le_refl _) (fun k e => by cases e))); have F4 := Lib.hid (Fill.of_own (f := fun _ => -1) hown); have G4 := Lib.hid (World.ownsRow.lt hown v3.heap.size rfl).2; clear hown hgrow q0 q1; obtain ⟨-, -, -, q0, q1⟩ := T4.out)
  have hgH : w.heap.size < v3.heap.size := by omega
  generalize v3.heap.size = g at F4 G4 hgH ⊢
  clear T3 h3z
  go_loopg [4] len0 (fun g1 v wr => ∃ k : Nat, v = .int .i64 k ∧ k ≤ len0 ∧ len0 - k ≤ g1 ∧ Hid (Fill wr g len0 k (fun _ => -1)) ∧ Hid (One w.heap.size w.heap.size a0 len0 cap0 x0 z0 w wr) ∧ Hid (g < wr.heap.size))
  case atStart => exact ⟨0, rfl, by omega, by omega, F4, T4, G4⟩
  case round =>
    obtain ⟨k, rfl, hk, hg1, FK, TK, GK⟩ := hrel
    clear q0 q1 F4 T4 G4
    obtain ⟨-, -, -, q0, q1⟩ := TK.out
    by_cases hlt : k < len0
    · have hltz : (k : Int) < len0 := by omega
      have hk0 : (0 : Int) ≤ k := by omega
      obtain ⟨u, hu⟩ := Option.isSome_iff_exists.1 (FK.out.there k hlt).1
      have hf := (FK.out.there k hlt).2
      go_wp2_with fail
      go_roundg (len0 - (k + 1))
      case measure => omega
      case rel => exact ⟨k + 1, by go_num, by omega, Nat.le_refl _, Lib.hid (FK.out.put hlt (fun j _ => by split <;> rfl) (fun j h1 h2 => by omega)), Lib.hid (TK.out.put LT.out hgH _), Lib.hid (by have := GK.out; simpa using this)⟩
    · obtain rfl : k = len0 := by omega
      have F5 : Hid (Fill wr g k k (whoseTo z0 k 0 0)) := Lib.hid (FK.out.congr fun j _ => whose_start z0 k j)
      clear FK hg1 hlt hk
      go_wp2_with fail
      obtain ⟨wo, hwo⟩ : ∃ wo : World, wo = wr := ⟨_, rfl⟩
      subst hwo
      clear q0 q1
      go_loopg [5] k (fun g1 v wr => ∃ i : Nat, v = .int .i64 i ∧ i ≤ k ∧ k - i ≤ g1 ∧ Hid (Fill wr g k k (whoseTo z0 k i 0)) ∧ Hid (One w.heap.size w.heap.size a0 k cap0 x0 z0 w wr) ∧ Hid (g < wr.heap.size))
      case atStart => exact ⟨0, rfl, by omega, by omega, F5, TK, GK⟩
      case round =>
        obtain ⟨i, rfl, hi, hg1, FI, TI, GI⟩ := hrel
        clear F5 TK GK
        obtain ⟨-, -, -, q0, q1⟩ := TI.out
        by_cases hlt : i < k
        · have hltz : (i : Int) < k := by omega
          have hi0' : (0 : Int) ≤ i := by omega
          have hkin : Hid ((z0 i).kind ≠ 0 → kidsOf (dps z0) k i = []) := Lib.hid (no_kids_text SH.out hlt)
          go_wp2_with fail
          refine (KK.out _ _ _ _ _ _ _ TI.out.doc (by omega) (by omega)).mono ?_
          rintro e v6 ⟨B, cB, rfl, hp, hfr, hb⟩
          have kv : kidsAns z0 k i = kidsOf (dps z0) k i := by unfold kidsAns; rw [if_pos ⟨by omega, by omega⟩]; rfl
          have T6 := Lib.hid (TI.out.next hb)
          have F6 := Lib.hid (FI.out.below hb GI.out)
          have G6 : Hid (g < v6.heap.size) := Lib.hid (Nat.lt_of_lt_of_le GI.out hb.size)
          have PL := Lib.hid hp
          have PF : Hid (∀ b off, B = some ⟨b, off, none⟩ → g < b) := Lib.hid (fun b off e => Nat.lt_of_lt_of_le GI.out (hfr b off e))
          clear hb hp hfr q0 q1 TI FI GI
          obtain ⟨-, -, -, q0, q1⟩ := T6.out
          rw [kv] at PL ⊢
          have KV := Lib.hid kv
          clear kv
          have NX : Hid (∀ j, j < k → whoseTo z0 k i (kidsOf (dps z0) k i).length j = whoseTo z0 k (i + 1) 0 j) := Lib.hid (fun j hj => whose_next SH.out.steps hlt hj)
          have KG : Hid (∀ m p, (kidsOf (dps z0) k i)[m]? = some p → (i < p ∧ p < k) ∧ whoseTo z0 k i m p = -1 ∧ ∀ j, whoseTo z0 k i (m + 1) j = if j = p then (i : Int) else whoseTo z0 k i m j) := Lib.hid (fun m p h => ⟨⟨(kids_get hlt h).1, (kids_get hlt h).2.1⟩, whose_kid hlt h⟩)
          have KR : Hid (∀ m p q, (kidsOf (dps z0) k i)[m]? = some p → (kidsOf (dps z0) k i)[m + 1]? = some q → p < q) := Lib.hid (fun m p q h1 h2 => kids_rise_at (dps z0) h1 h2)
          generalize kidsOf (dps z0) k i = l at PL hkin NX KG KR ⊢
          have hl9 : l.length ≤ 9223372036854775807 := by have := PL.out.2.2.1; omega
          obtain ⟨kd, hkd⟩ : ∃ kd, (z0 i).kind = kd := ⟨_, rfl⟩
          obtain ⟨bN, oN, eN, hbN, atN⟩ := T6.out.doc.1.1.2 (by omega)
          have kc : v6.cell? ⟨bN, oN + i * 51 + 2, none⟩ = some (.int .u8 kd) := by rw [← hkd]; exact (atN i hlt 2 (by omega)).trans rfl
          rw [hkd] at hkin
          subst eN
          clear atN hkd
          by_cases hl0 : l.length = 0
          · have hlz : (l.length : Int) = 0 := by omega
            have e0 : l = [] := List.eq_nil_of_length_eq_zero hl0
            subst e0
            clear hlz hl0
            go_wp2_with fail
            refine wp_loop_rounds 1 ?_
            rw [rounds_succ]
            go_wp2_with fail
            go_roundg (k - (i + 1))
            case measure => omega
            case rel => exact ⟨i + 1, by go_num, by omega, Nat.le_refl _, Lib.hid (F6.out.congr fun j hj => (NX.out j hj).symm), T6, G6⟩
          · have hlz : (0 : Int) < l.length := by omega
            have hln : 0 < l.length := by omega
            have hkd : (kd != 0) = false := by
              by_cases e : kd = 0
              · simp [e]
              · exact absurd (by rw [hkin.out e]; rfl) hl0
            clear hl0 hkin
            go_wp2_with fail
            clear q0 q1 kc hkd
            obtain ⟨wi, hwi⟩ : ∃ wi : World, wi = wr := ⟨_, rfl⟩
            subst hwi
            go_loopg [7] l.length (fun g2 v wr => ∃ m : Nat, v = .int .i64 m ∧ m ≤ l.length ∧ l.length - m ≤ g2 ∧ Hid (Fill wr g k k (whoseTo z0 k i m)) ∧ Hid (One w.heap.size w.heap.size (some ⟨bN, oN, none⟩) k cap0 x0 z0 w wr) ∧ Hid (Places wr B cB l) ∧ Hid (g < wr.heap.size))
            case atStart => exact ⟨0, rfl, by omega, by omega, F6, T6, PL, G6⟩
            case round =>
              obtain ⟨m, rfl, hm, hg2, FM, TM, PM, GM⟩ := hrel
              clear F6 T6 PL G6
              obtain ⟨-, -, -, q0, q1⟩ := TM.out
              by_cases hml : m < l.length
              · have hmz : (m : Int) < l.length := by omega
                have hm0 : (0 : Int) ≤ m := by omega
                obtain ⟨p, hp⟩ : ∃ p, l[m]? = some p := ⟨_, List.getElem?_eq_getElem hml⟩
                obtain ⟨⟨hip, hpk⟩, hw1, hw2⟩ := KG.out m p hp
                have HW2 := Lib.hid hw2
                obtain ⟨bK, oK, rfl, hbK, hcK⟩ := PM.out.2.2.2 (by intro e; rw [e] at hml; simp at hml)
                have cp := hcK m p hp
                have wp := FM.out.done p hpk
                rw [hw1] at wp
                have wf := (FM.out.there p hpk).2
                have hp0 : (0 : Int) ≤ p := by omega
                have hpz : (p : Int) < k := by omega
                have t1 : decide (p ≤ i) = false := by simp; omega
                have t2 : decide (k ≤ p) = false := by simp; omega
                have t1' : decide ((p : Int) ≤ (i : Int)) = false := by simp; omega
                have t2' : decide ((k : Int) ≤ (p : Int)) = false := by simp; omega
                clear hw1 hw2
                rcases m with _ | m
                · have HP := Lib.hid hp
                  rw [Nat.add_zero] at cp
                  clear hp hcK
                  go_wp2_with fail
                  go_quiet (fail)
                  go_wp2_with fail
                  go_roundg (l.length - (0 + 1))
                  case measure => omega
                  case rel => exact ⟨0 + 1, by go_num, by omega, Nat.le_refl _, Lib.hid (fill_drawn (FM.out.put hpk (fun j _ => HW2.out j) (fun j h1 _ => h1)) _), Lib.hid (one_drawn (TM.out.put LT.out hgH _) _), Lib.hid (places_drawn (PM.out.put PF.out) _), Lib.hid (by have := GM.out; simpa using this)⟩
                · obtain ⟨p', hp'⟩ : ∃ p', l[m]? = some p' := ⟨_, List.getElem?_eq_getElem (by omega)⟩
                  have cp' := hcK m p' hp'
                  have hlt' := KR.out m p' p hp' hp
                  have hw1 : IntKind.i64.wrap (((m + 1 : Nat) : Int) - 1) = (m : Nat) := by rw [IntKind.wrap_i64]; omega
                  have hw2 : IntKind.i64.wrap ((m : Int) + 1 - 1) = (m : Nat) := by rw [IntKind.wrap_i64]; omega
                  have hmm : (0 : Int) ≤ m := by omega
                  have hml' : (m : Int) < l.length := by omega
                  have t3 : decide (p ≤ p') = false := by simp; omega
                  have t3' : decide ((p : Int) ≤ (p' : Int)) = false := by simp; omega
                  have t4 : decide (0 < m + 1) = true := by simp
                  have HP := Lib.hid hp
                  clear hp hcK hp'
                  go_wp2_with fail
                  go_quiet (fail)
                  clear hw1 hw2
                  go_wp2_with fail
                  go_roundg (l.length - (m + 1 + 1))
                  case measure => omega
                  case rel => exact ⟨m + 1 + 1, by go_num, by omega, Nat.le_refl _, Lib.hid (fill_drawn (FM.out.put hpk (fun j _ => HW2.out j) (fun j h1 _ => h1)) _), Lib.hid (one_drawn (TM.out.put LT.out hgH _) _), Lib.hid (places_drawn (PM.out.put PF.out) _), Lib.hid (by have := GM.out; simpa using this)⟩
              · obtain rfl : m = l.length := by omega
                go_wp2_with fail
                go_roundg (k - (i + 1))
                case measure => omega
                case rel => exact ⟨i + 1, by go_num, by omega, Nat.le_refl _, Lib.hid (FM.out.congr fun j hj => (NX.out j hj).symm), TM, GM⟩
        · obtain rfl : i = k := by omega
          have F7 : Hid (Fill wr g i i (parOf (dps z0))) := Lib.hid (FI.out.congr fun j hj => (whose_all hj).symm)
          clear FI hg1 hlt
          go_wp2_with fail
          clear q0 q1
          go_loopg [8] i (fun g1 v wr => ∃ k : Nat, v = .int .i64 k ∧ k ≤ i ∧ i - k ≤ g1 ∧ Hid (Fill wr g i i (parOf (dps z0))) ∧ Hid (One w.heap.size w.heap.size a0 i cap0 x0 z0 w wr) ∧ Hid (g < wr.heap.size))
          case atStart => exact ⟨0, rfl, by omega, by omega, F7, TI, GI⟩
          case round =>
            obtain ⟨k, rfl, hk, hg1, F8, T8, G8⟩ := hrel
            clear F7 TI GI
            obtain ⟨-, -, -, q0, q1⟩ := T8.out
            by_cases hlt : k < i
            · have hltz : (k : Int) < i := by omega
              have hk0 : (0 : Int) ≤ k := by omega
              have cw := F8.out.done k hlt
              obtain ⟨bN, oN, rfl, hbN, ck⟩ := key_cell T8.out.doc.1.1 hlt
              have pv : parAns z0 i k = parOf (dps z0) k := by unfold parAns; rw [if_pos ⟨by omega, by omega⟩]; rfl
              have VB : Hid (-1 ≤ parOf (dps z0) k ∧ (k = 0 → parOf (dps z0) k = -1) ∧ (0 < k → 0 ≤ parOf (dps z0) k)) := Lib.hid (by
                refine ⟨?_, fun e => by subst e; rfl, fun h => ?_⟩
                · rcases parFrom_cases (dps z0) (dps z0 k) k with ⟨h1, -⟩ | ⟨q, h1, -⟩ <;> (show -1 ≤ parFrom (dps z0) (dps z0 k) k) <;> omega
                · obtain ⟨q, hq, -⟩ := has_parent (dps z0) SH.out.steps h hlt
                  omega)
              have P1 := Lib.hid (par_one (H := w.heap.size) (p := w.heap.size) (A := some ⟨bN, oN, none⟩) (c := cap0) (x := x0) (w := w) KP.out (a := (k : Int)) ⟨by omega, by omega⟩ pv)
              have FN1 := Lib.hid (find_one (H := w.heap.size) (p := w.heap.size) (A := some ⟨bN, oN, none⟩) (c := cap0) (w := w) KF.out SH.out hlt (T8.out.doc.1.1.1 k hlt).key)
              clear pv
              generalize parOf (dps z0) k = v at cw P1 VB
              generalize (z0 k).key = ky at ck FN1
              have hgw := G8.out
              clear hk
              by_cases h0 : k = 0
              · have hv1 : (v == -1) = true := by have := VB.out.2.1 h0; simp [this]
                have hv2 : ((k : Int) == 0) = true := by simp [h0]
                clear h0 VB
                go_wp2_with fail
                go_region_held3 (fun W' => (One w.heap.size w.heap.size (some ⟨bN, oN, none⟩) i cap0 x0 z0 w W' ∧ Below wr.heap.size wr W') ∧ W'.cell? ⟨w.heap.size, 0, none⟩ = some (.slice (some ⟨bN, oN, none⟩) i cap0) ∧ W'.cell? ⟨w.heap.size, 1, none⟩ = some (.int .i64 x0) ∧ W'.cell? ⟨g, k, none⟩ = some (.int .i64 v) ∧ W'.cell? ⟨bN, oN + k * 51, none⟩ = some (.int .i64 ky))
                  (first | (with_reducible exact ⟨⟨KB.out, KW.out⟩, KB.out.x0, KB.out.x1, (KW.out.cell hgw).trans cw, (KW.out.cell hbN).trans ck⟩) | (with_reducible exact ⟨⟨T8.out.drew, (Below.refl _ _).drew⟩, T8.out.drew.x0, T8.out.drew.x1, ((Below.refl wr.heap.size wr).drew.cell hgw).trans cw, ((Below.refl wr.heap.size wr).drew.cell hbN).trans ck⟩))
                  (first
                  | (go_at_call 12; (with_reducible refine (P1.out _ (And.left (And.left (by assumption)))).mono ?_); rintro e w5 ⟨rfl, hb⟩; have KB : Hid (One w.heap.size w.heap.size (some ⟨bN, oN, none⟩) i cap0 x0 z0 w w5) := Lib.hid (One.next (And.left (And.left (by assumption))) hb); have KW : Hid (Below wr.heap.size wr w5) := Lib.hid (Below.trans (And.right (And.left (by assumption))) (hb.mono (Below.size (And.right (And.left (by assumption)))))); clear hb)
                  | (go_at_call 13; (with_reducible refine (FN1.out _ (And.left (And.left (by assumption)))).mono ?_); rintro e w5 ⟨rfl, hb⟩; have KB : Hid (One w.heap.size w.heap.size (some ⟨bN, oN, none⟩) i cap0 x0 z0 w w5) := Lib.hid (One.next (And.left (And.left (by assumption))) hb); have KW : Hid (Below wr.heap.size wr w5) := Lib.hid (Below.trans (And.right (And.left (by assumption))) (hb.mono (Below.size (And.right (And.left (by assumption)))))); clear hb))
                go_wp2_with fail
                go_roundg (i - (k + 1))
                case measure => omega
                case rel => exact ⟨k + 1, by go_num, by omega, Nat.le_refl _, Lib.hid (F8.out.below KW.out hgw), KB, Lib.hid (Nat.lt_of_lt_of_le hgw KW.out.size)⟩
              · have hv1 : (v == -1) = false := by have := VB.out.2.2 (by omega); simp; omega
                have hv2 : ((k : Int) == 0) = false := by simp; omega
                clear h0 VB
                go_wp2_with fail
                go_region_held3 (fun W' => (One w.heap.size w.heap.size (some ⟨bN, oN, none⟩) i cap0 x0 z0 w W' ∧ Below wr.heap.size wr W') ∧ W'.cell? ⟨w.heap.size, 0, none⟩ = some (.slice (some ⟨bN, oN, none⟩) i cap0) ∧ W'.cell? ⟨w.heap.size, 1, none⟩ = some (.int .i64 x0) ∧ W'.cell? ⟨g, k, none⟩ = some (.int .i64 v) ∧ W'.cell? ⟨bN, oN + k * 51, none⟩ = some (.int .i64 ky))
                  (first | (with_reducible exact ⟨⟨KB.out, KW.out⟩, KB.out.x0, KB.out.x1, (KW.out.cell hgw).trans cw, (KW.out.cell hbN).trans ck⟩) | (with_reducible exact ⟨⟨T8.out.drew, (Below.refl _ _).drew⟩, T8.out.drew.x0, T8.out.drew.x1, ((Below.refl wr.heap.size wr).drew.cell hgw).trans cw, ((Below.refl wr.heap.size wr).drew.cell hbN).trans ck⟩))
                  (first
                  | (go_at_call 12; (with_reducible refine (P1.out _ (And.left (And.left (by assumption)))).mono ?_); rintro e w5 ⟨rfl, hb⟩; have KB : Hid (One w.heap.size w.heap.size (some ⟨bN, oN, none⟩) i cap0 x0 z0 w w5) := Lib.hid (One.next (And.left (And.left (by assumption))) hb); have KW : Hid (Below wr.heap.size wr w5) := Lib.hid (Below.trans (And.right (And.left (by assumption))) (hb.mono (Below.size (And.right (And.left (by assumption)))))); clear hb)
                  | (go_at_call 13; (with_reducible refine (FN1.out _ (And.left (And.left (by assumption)))).mono ?_); rintro e w5 ⟨rfl, hb⟩; have KB : Hid (One w.heap.size w.heap.size (some ⟨bN, oN, none⟩) i cap0 x0 z0 w w5) := Lib.hid (One.next (And.left (And.left (by assumption))) hb); have KW : Hid (Below wr.heap.size wr w5) := Lib.hid (Below.trans (And.right (And.left (by assumption))) (hb.mono (Below.size (And.right (And.left (by assumption)))))); clear hb))
                go_wp2_with fail
                go_roundg (i - (k + 1))
                case measure => omega
                case rel => exact ⟨k + 1, by go_num, by omega, Nat.le_refl _, Lib.hid (F8.out.below KW.out hgw), KB, Lib.hid (Nat.lt_of_lt_of_le hgw KW.out.size)⟩
            · obtain rfl : k = i := by omega
              have ev : endAns z0 k 0 = (k : Nat) := by
                have := end_first (dps z0) SH.out.steps SH.out.some_
                unfold endAns
                rw [if_pos ⟨by omega, by have := SH.out.some_; omega⟩]
                exact congrArg (fun t : Nat => (t : Int)) this
              have E1 := Lib.hid (end_one KE.out (a := 0) ⟨by omega, by omega⟩ (H := w.heap.size) (p := w.heap.size) (A := a0) (c := cap0) (x := x0) (w := w) ev)
              clear ev
              go_wp2_with fail
              go_region_held3 (fun W' => One w.heap.size w.heap.size a0 k cap0 x0 z0 w W' ∧ W'.cell? ⟨w.heap.size, 0, none⟩ = some (.slice a0 k cap0) ∧ W'.cell? ⟨w.heap.size, 1, none⟩ = some (.int .i64 x0))
                (first | (with_reducible exact one_S KB.out) | (with_reducible exact one_S T8.out.drew))
                (first | (go_at_call 14; (with_reducible refine (E1.out _ (And.left (by assumption))).mono ?_); rintro e w5 ⟨rfl, hb⟩; have KB : Hid (One w.heap.size w.heap.size a0 k cap0 x0 z0 w w5) := Lib.hid (One.next (And.left (by assumption)) hb); clear hb))
              go_wp2_with fail
              go_ret
              exact ⟨rfl, KB.out.below⟩
end Go.Proofs.Ytlkcmfohmkblfaa
