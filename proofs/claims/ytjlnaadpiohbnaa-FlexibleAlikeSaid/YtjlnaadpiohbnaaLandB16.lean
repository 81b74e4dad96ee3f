/-
  The landed Sizes: giveOut, settleChanged, settle, Sizes.
-/
import Derived.Test.YtjlnaadpiohbnaaLandA16
import Derived.Test.YtjlnaadpiohbnaaDiv
import Derived.WalkMore
import Derived.ScopeJumps
namespace Go.Proofs.Ytjlnaadpiohbnaa

section
open Go.RowKit

theorem openN_opA {S : Nat → Bool} : ∀ {n k : Nat}, k < openN S n → openN S (opA S n k) = k
  | 0, k, h => absurd h (by simp [openN])
  | n + 1, k, h => by
    cases e : S n with
    | true =>
      rw [openN_old e] at h
      rw [opA_old h]
      exact openN_opA h
    | false =>
      rw [openN_new e] at h
      by_cases hk : k < openN S n
      · rw [opA_old hk]; exact openN_opA hk
      · obtain rfl : k = openN S n := by omega
        rw [opA_new e]
theorem opA_openN {S : Nat → Bool} {n i : Nat} (hi : i < n) (hs : S i = false) : openN S i < openN S n ∧ opA S n (openN S i) = i := by
  obtain ⟨k, hk, rfl⟩ := opA_ex hi hs
  rw [openN_opA hk]
  exact ⟨hk, rfl⟩
/-- one more of the first so many -/
theorem open_upd {α : Type} {S : Nat → Bool} {n k : Nat} (hk : k < openN S n) (f g : Nat → α) : ∀ i, i < n → (if i = opA S n k then f (opA S n k) else if S i = false ∧ openN S i < k then f i else g i) = if S i = false ∧ openN S i < k + 1 then f i else g i := by
  intro i hi
  by_cases e : i = opA S n k
  · subst e
    rw [if_pos rfl, if_pos ⟨(opA_in hk).2, by rw [openN_opA hk]; omega⟩]
  · rw [if_neg e]
    by_cases c : S i = false ∧ openN S i < k
    · rw [if_pos c, if_pos ⟨c.1, by omega⟩]
    · rw [if_neg c, if_neg]
      rintro ⟨c1, c2⟩
      have h := opA_openN hi c1
      have : openN S i = k := by
        have : ¬ openN S i < k := fun d => c ⟨c1, d⟩
        omega
      rw [this] at h
      exact e h.2.symm
theorem open_none {α : Type} {S : Nat → Bool} (f g : Nat → α) (i : Nat) : (if S i = false ∧ openN S i < 0 then f i else g i) = g i := if_neg (by omega)
theorem open_all {α : Type} {S : Nat → Bool} {n : Nat} (f g : Nat → α) : ∀ i, i < n → (if S i = false ∧ openN S i < openN S n then f i else g i) = if S i = true then g i else f i := by
  intro i hi
  cases e : S i with
  | true => rw [if_neg (by simp), if_pos rfl]
  | false => rw [if_pos ⟨rfl, (opA_openN hi e).1⟩, if_neg (by simp)]
def goalR (l : List It16) (G : Nat → Int) (S : Nat → Bool) (X : Nat → Int) (i : Nat) : Int := if S i = true then G i else (itA l i).base + X i
theorem ws_of {l : List It16} {g : Bool} {S : Nat → Bool} {i : Nat} (hs : S i = false) (hx : GoodT (itA l i)) : ((wsR l g S i : Nat) : Int) = wI g (itA l i) ∧ wsR l g S i ≤ 1125899906842624 := by
  have h := hx.w g
  unfold wsR
  rw [hs, if_neg (by decide)]
  omega
theorem fit_leftG {g : Bool} {t : Int} (h : Fit t) : Fit (leftG g t) := by
  unfold Fit at h ⊢
  unfold leftG
  split <;> omega
set_option maxRecDepth 100000 in
set_option maxHeartbeats 16000000 in
theorem give16 {w : World} {p b n o c m B : Nat} {R : Int} {g : Bool} {l : List It16} {G Z : Nat → Int} {S : Nat → Bool} (hl : LnAt w p b n R g) (hb : BxB w b n (itA l) G Z S) (ho : OpB16 w o b m (opA S n)) (hm : openN S n = m) (hn : n ≤ 2048)
    (hgd : ∀ i, i < n → GoodT (itA l i)) (t : Int) (ht : Fit t) (hB : B ≤ b) (hob : o ≠ b) :
    Calls Try.prog 40 #[.pointer (some ⟨p, 0, none⟩), .int .i64 t, .slice (some ⟨o, 0, none⟩) m c] w fun e w' => e = .returned (.tuple #[]) ∧ ∃ X, ShareOf (leftG g t) (wsR l g S) n X ∧ BxB w' b n (itA l) (goalR l G S X) (outR l Z S X) S ∧ But2 B b b w w' := by
  have HL := Lib.hid hl
  have HB := Lib.hid hb
  have HO := Lib.hid ho
  have HM := Lib.hid hm
  have HGD := Lib.hid hgd
  have HF := Lib.hid (fit_leftG (g := g) ht)
  have HN := Lib.hid (And.intro hB hob)
  have LBW : Hid (B ≤ w.heap.size) := Lib.hid (Nat.le_trans hB (Nat.le_of_lt hb.lt))
  have mn : m ≤ 2048 := by have := openN_at S n; omega
  have GV := Lib.hid (fun W (h : LnAt W p b n R g) => given16 t h)
  generalize leftG g t = tg at HF GV ⊢
  have hmk := make_ints m (by omega) w
  have M0 : Hid (Whole (w.alloc (.cells (cellsOf .i64 m (fun _ => 0)) 3)) w.heap.size 3 (cellsOf .i64 m (fun _ => 0))) := Lib.hid (Whole.new w _ _)
  have B0 : Hid (Below w.heap.size w (w.alloc (.cells (cellsOf .i64 m (fun _ => 0)) 3))) := Lib.hid ((Below.refl _ w).alloc (Nat.le_refl _) _)
  generalize w.alloc (.cells (cellsOf .i64 m (fun _ => 0)) 3) = w1 at hmk M0 B0
  obtain ⟨gw, hgw⟩ : ∃ gw, w.heap.size = gw := ⟨_, rfl⟩
  have HG := Lib.hid hgw
  rw [hgw] at hmk M0
  clear hgw hl hb ho hm hgd ht hB hob
  go_enter Try.func40, Try.ntmps40
  go_wp2_with fail
  clear hmk
  go_loopg [18] m (fun g1 vi wr => ∃ k : Nat, vi = .int .i64 k ∧ k ≤ m ∧ m - k ≤ g1 ∧ Hid (Whole wr gw 3 (cellsOf .i64 m (fun j => if j < k then wI g (itA l (opA S n j)) else 0))) ∧ Hid (Below w.heap.size w wr))
  case atStart => exact ⟨0, rfl, by omega, by omega, Lib.hid (by rw [cellsOf_congr (f := fun j => if j < 0 then wI g (itA l (opA S n j)) else 0) (g := fun _ => 0) (fun i _ => by simp)]; exact M0.out), B0⟩
  case round =>
    obtain ⟨k, rfl, hk, hg1, M, Bl⟩ := hrel
    obtain ⟨wo, hwo⟩ : ∃ wo, wo = wr := ⟨_, rfl⟩
    subst hwo
    clear M0 B0
    by_cases hlt : k < m
    · have hkz : (k : Int) < m := by omega
      have hk0 : (0 : Int) ≤ k := by omega
      have wi : IntKind.i64.wrap ((k : Int) + 1) = (k : Int) + 1 := IntWalk.i64_in _ (by omega)
      have o0 := (HO.out.keep Bl.out).cell k hlt
      have IN := opA_in (S := S) (n := n) (k := k) (by rw [HM.out]; exact hlt)
      have AT := (HB.out.keep Bl.out).at IN.1
      have KW := Lib.hid (weight16 (HL.out.keep Bl.out) AT (HGD.out _ IN.1))
      have CZ : Hid (cellsOf .i64 m (upd (fun j => if j < k then wI g (itA l (opA S n j)) else 0) k (wI g (itA l (opA S n k)))) = cellsOf .i64 m (fun j => if j < k + 1 then wI g (itA l (opA S n j)) else 0)) := Lib.hid (cellsOf_congr (fun j _ => by
        unfold upd
        show (if j = k then wI g (itA l (opA S n k)) else if j < k then wI g (itA l (opA S n j)) else 0) = if j < k + 1 then wI g (itA l (opA S n j)) else 0
        by_cases e : j = k
        · subst e; rw [if_pos rfl, if_pos (by omega)]
        · by_cases h : j < k
          · rw [if_neg e, if_pos h, if_pos (by omega)]
          · rw [if_neg e, if_neg h, if_neg (by omega)]))
      generalize wI g (itA l (opA S n k)) = y at KW CZ
      generalize opA S n k = i at o0 KW
      clear AT IN
      go_wp2_with (go_at_call 43; (with_reducible refine KW.out.mono ?_); rintro e5 w5 ⟨rfl, hb⟩; have B5 := Lib.hid (b_nx16 Bl.out hb); have M5 := Lib.hid (M.out.below hb M.out.lt); clear hb; have m0 := M5.out.cell k; rw [cellsOf_get hlt] at m0; have f0 := M5.out.frozen k)
      have MS := Lib.hid (M5.out.set_ k (.int .i64 y))
      rw [cellsOf_set, CZ.out] at MS
      have BN := Lib.hid (B5.out.setCell (p := ⟨gw, k, none⟩) (by rw [HG.out]; exact Nat.le_refl _) (.int .i64 y))
      clear m0 f0 CZ M5 B5 KW o0
      go_wp2_with fail
      go_roundg (m - (k + 1))
      case measure => omega
      case rel => exact ⟨k + 1, by go_num, by omega, Nat.le_refl _, MS, BN⟩
    · obtain rfl : k = m := by omega
      have hz : ¬ (k : Int) < k := by omega
      have WS : Hid (∀ j, j < k → ((wsR l g S (opA S n j) : Nat) : Int) = wI g (itA l (opA S n j)) ∧ wsR l g S (opA S n j) ≤ 1125899906842624) := Lib.hid (fun j hj => by
        have IN := opA_in (S := S) (n := n) (k := j) (by rw [HM.out]; exact hj)
        exact ws_of IN.2 (HGD.out _ IN.1))
      have MI : Hid (Ints wo (some ⟨gw, 0, none⟩) k (fun j => ((wsR l g S (opA S n j) : Nat) : Int))) := Lib.hid (by
        refine IntsB.ints (whole_ints (T := 3) ?_) (fun j hj => by have := (WS.out j hj).2; omega)
        rw [cellsOf_congr (f := fun j => ((wsR l g S (opA S n j) : Nat) : Int)) (g := fun j => if j < k then wI g (itA l (opA S n j)) else 0) (fun j hj => by rw [if_pos hj]; exact (WS.out j hj).1)]
        exact M.out)
      have KG := Lib.hid (GV.out wo (HL.out.keep Bl.out))
      have KS := Lib.hid (share_yes tg k k (some ⟨gw, 0, none⟩) (fun j => wsR l g S (opA S n j)) wo HF.out mn (fun j hj => (WS.out j hj).2) MI.out (.inr div_any))
      clear M MI WS GV
      go_wp2_with (first
        | (go_at_call 45; (with_reducible refine KG.out.mono ?_); rintro e5 w5 ⟨rfl, rfl⟩)
        | (go_at_call 44; (with_reducible refine KS.out.mono ?_); rintro e6 w6 ⟨gs, Y, rfl, hY, hb6, hge, hSh⟩; have MY := Lib.hid hY; have B6 := Lib.hid (b_nx16 Bl.out hb6); have GE := Lib.hid (Nat.le_trans Bl.out.size hge); have SH := Lib.hid hSh; clear hY hb6 hge hSh))
      clear KG KS
      obtain ⟨X, hX, hYX⟩ := share_all16 (S := S) (n := n) (v := wsR l g S) (fun i _ hs => by unfold wsR; rw [if_pos hs]) (by rw [HM.out]; exact SH.out)
      rw [HM.out] at hYX
      have XB := Lib.hid (share_bd16 hX HF.out (by omega))
      have HX := Lib.hid hX
      have HY := Lib.hid hYX
      have HLT : Hid (b < w6.heap.size) := Lib.hid (Nat.lt_of_lt_of_le HB.out.lt B6.out.size)
      have HB6 : Hid _ := Lib.hid (HB.out.keep B6.out)
      have HO6 : Hid _ := Lib.hid (HO.out.keep B6.out)
      have NE : Hid (gs ≠ b) := Lib.hid (by have := HB.out.lt; have := GE.out; omega)
      clear hX hYX SH HL HB HO GE Bl HF
      go_loopg [40] k (fun g1 vi wr => ∃ j : Nat, vi = .int .i64 j ∧ j ≤ k ∧ k - j ≤ g1 ∧ Hid (BxB wr b n (itA l) (fun i => if S i = false ∧ openN S i < j then (itA l i).base + X i else G i) (fun i => if S i = false ∧ openN S i < j then cI (itA l i) ((itA l i).base + X i) else Z i) S) ∧ Hid (But2 B b b w6 wr))
      case atStart => exact ⟨0, rfl, by omega, by omega, Lib.hid (BxB.congr HB6.out (fun i _ => (open_none (S := S) (fun i => (itA l i).base + X i) G i).symm) (fun i _ => (open_none (S := S) (fun i => cI (itA l i) ((itA l i).base + X i)) Z i).symm) (fun _ _ => rfl)), Lib.hid (But2.refl _ _ _ _)⟩
      case round =>
        obtain ⟨j, rfl, hj, hg2, BX, BT⟩ := hrel
        obtain ⟨wq, hwq⟩ : ∃ wq, wq = wr := ⟨_, rfl⟩
        subst hwq
        by_cases hlt : j < k
        · have hkz2 : (j : Int) < k := by omega
          have hk02 : (0 : Int) ≤ j := by omega
          have wi : IntKind.i64.wrap ((j : Int) + 1) = (j : Int) + 1 := IntWalk.i64_in _ (by omega)
          have o0 := (HO6.out.but2 BT.out HN.out.2 HN.out.2).cell j hlt
          have s0 := ((whole_ints MY.out).but2 BT.out NE.out NE.out).cell j hlt
          rw [HY.out j hlt] at s0
          have IN := opA_in (S := S) (n := n) (k := j) (by rw [HM.out]; exact hlt)
          have U1 := Lib.hid (open_upd (S := S) (n := n) (k := j) (by rw [HM.out]; exact hlt) (fun i => (itA l i).base + X i) G)
          have U2 := Lib.hid (open_upd (S := S) (n := n) (k := j) (by rw [HM.out]; exact hlt) (fun i => cI (itA l i) ((itA l i).base + X i)) Z)
          have GX := HGD.out _ IN.1
          have GB := GX.hbase
          have Ytjlnaadpiohbnaa := XB.out _ IN.1
          have KC := Lib.hid (fun W => clamp_any ((itA l (opA S n j)).base + X (opA S n j)) (itA l (opA S n j)).least (itA l (opA S n j)).most W (cI (itA l (opA S n j)) ((itA l (opA S n j)).base + X (opA S n j))) rfl)
          have HIN := Lib.hid IN.1
          clear GX IN
          obtain ⟨G0, hG0⟩ : ∃ f, f = fun i => if S i = false ∧ openN S i < j then (itA l i).base + X i else G i := ⟨_, rfl⟩
          obtain ⟨Z0, hZ0⟩ : ∃ f, f = fun i => if S i = false ∧ openN S i < j then cI (itA l i) ((itA l i).base + X i) else Z i := ⟨_, rfl⟩
          have BX1 : Hid (BxB wq b n (itA l) G0 Z0 S) := Lib.hid (by rw [hG0, hZ0]; exact BX.out)
          have NX : Hid (∀ W', BxB W' b n (itA l) (fun i => if i = opA S n j then (itA l (opA S n j)).base + X (opA S n j) else G0 i) (fun i => if i = opA S n j then cI (itA l (opA S n j)) ((itA l (opA S n j)).base + X (opA S n j)) else Z0 i) S → BxB W' b n (itA l) (fun i => if S i = false ∧ openN S i < j + 1 then (itA l i).base + X i else G i) (fun i => if S i = false ∧ openN S i < j + 1 then cI (itA l i) ((itA l i).base + X i) else Z i) S) := Lib.hid (fun W' h => by rw [hG0, hZ0] at h; exact BxB.congr h U1.out U2.out (fun _ _ => rfl))
          clear hG0 hZ0 BX U1 U2
          obtain ⟨a0, a1, a2, a3, a4, a5, a6, a7, a8⟩ := BX1.out.at HIN.out
          generalize cI (itA l (opA S n j)) ((itA l (opA S n j)).base + X (opA S n j)) = zv at KC NX
          generalize X (opA S n j) = xs at KC NX Ytjlnaadpiohbnaa s0
          obtain ⟨gv, hgv⟩ : ∃ gv, (itA l (opA S n j)).base + xs = gv := ⟨_, rfl⟩
          rw [hgv] at KC NX
          generalize opA S n j = i at o0 HIN NX KC GB hgv a0 a1 a2 a3 a4 a5 a6 a7 a8
          obtain ⟨x, hx⟩ : ∃ x, itA l i = x := ⟨_, rfl⟩
          have XI := Lib.hid hx
          rw [hx] at KC a0 a1 a2 a3 a4 a5 GB hgv
          clear hx
          obtain ⟨x0, x1, x2, x3, x4, x5⟩ := x
          dsimp only at KC a0 a1 a2 a3 a4 a5 GB hgv
          have wg : IntKind.i64.wrap (x0 + xs) = gv := (IntWalk.i64_in _ (by omega)).trans hgv
          have CT : Hid (∀ W, Below wq.heap.size wq W → W.cell? ⟨b, i * 9, none⟩ = some (.int .i64 x0) ∧ W.cell? ⟨gs, j, none⟩ = some (.int .i64 xs)) := Lib.hid (fun W hW => ⟨(hW.cell (p := ⟨b, i * 9, none⟩) BX1.out.lt).trans a0, (hW.cell (p := ⟨gs, j, none⟩) (Nat.lt_of_lt_of_le MY.out.lt BT.out.below.size)).trans s0⟩)
          have LB6 : Hid (B ≤ w6.heap.size) := Lib.hid (Nat.le_trans HN.out.1 (Nat.le_of_lt HLT.out))
          go_upto_region 10 with fail
          clear GB Ytjlnaadpiohbnaa hgv a0 a1 a2 a3 a4 a5 a6 a7 a8 o0 s0
          refine' wp_region_lastD [opV (.pointer (some ⟨b, i * 9, none⟩)), opV (.pointer (some ⟨b, i * 9, none⟩)), opV (.pointer (some ⟨b, i * 9, none⟩)), opV (.pointer (some ⟨b, i * 9, none⟩)), opV (.pointer (some ⟨b, i * 9, none⟩)), opV (.int .i64 x0), opV (.slice (some ⟨gs, 0, none⟩) k k), opV (.int .i64 (j : Nat)), opV (.pointer (some ⟨gs, j, none⟩)), opV (.int .i64 xs), opV (.int .i64 gv), opV (.pointer (some ⟨b, i * 9, none⟩)), opV (.pointer (some ⟨b, i * 9 + 6, none⟩))] 13 _ rfl (by kernel_rfl) rfl (by kernel_rfl) ⟨?s0, ?s1, ?s2, ?s3, ?s4, ?s5, ?s6, ?s7, ?s8, ?s9, ?s10, ?s11, ?s12, trivial⟩ rfl ?fin
          case s0 =>
            refine BStep.of [] [] (opV (.pointer (some ⟨b, i * 9, none⟩))) (by kernel_rfl) (fun _ _ => by kernel_rfl) rfl ?_
            intro vs wv hB hA
            clear hA
            simp only [fillP]
            have ct := CT.out wv hB; have a0 := ct.1; have s0 := ct.2; clear ct CT NX KC BX1 BT; go_wp2_with fail; exact postB_val (by first | rfl | simp) (Below.refl _ _)
          case s1 =>
            refine BStep.of [] [] (opV (.pointer (some ⟨b, i * 9, none⟩))) (by kernel_rfl) (fun _ _ => by kernel_rfl) rfl ?_
            intro vs wv hB hA
            clear hA
            simp only [fillP]
            have ct := CT.out wv hB; have a0 := ct.1; have s0 := ct.2; clear ct CT NX KC BX1 BT; go_wp2_with fail; exact postB_val (by first | rfl | simp) (Below.refl _ _)
          case s2 =>
            refine BStep.of [1] [(46, 1)] (opV (.pointer (some ⟨b, i * 9, none⟩))) (by kernel_rfl) (fun _ _ => by kernel_rfl) rfl ?_
            intro vs wv hB hA
            have h1 : vs 1 = _ := hA.1
            clear hA
            simp only [fillP, List.setIfInBounds_toArray, List.set_cons_zero, List.set_cons_succ, h1]
            have ct := CT.out wv hB; have a0 := ct.1; have s0 := ct.2; clear ct CT NX KC BX1 BT; go_wp2_with fail; exact postB_val (by first | rfl | simp) (Below.refl _ _)
          case s3 =>
            refine BStep.of [2] [(47, 2)] (opV (.pointer (some ⟨b, i * 9, none⟩))) (by kernel_rfl) (fun _ _ => by kernel_rfl) rfl ?_
            intro vs wv hB hA
            have h2 : vs 2 = _ := hA.1
            clear hA
            simp only [fillP, List.setIfInBounds_toArray, List.set_cons_zero, List.set_cons_succ, h2]
            have ct := CT.out wv hB; have a0 := ct.1; have s0 := ct.2; clear ct CT NX KC BX1 BT; go_wp2_with fail; exact postB_val (by first | rfl | simp) (Below.refl _ _)
          case s4 =>
            refine BStep.of [3] [(48, 3)] (opV (.pointer (some ⟨b, i * 9, none⟩))) (by kernel_rfl) (fun _ _ => by kernel_rfl) rfl ?_
            intro vs wv hB hA
            have h3 : vs 3 = _ := hA.1
            clear hA
            simp only [fillP, List.setIfInBounds_toArray, List.set_cons_zero, List.set_cons_succ, h3]
            have ct := CT.out wv hB; have a0 := ct.1; have s0 := ct.2; clear ct CT NX KC BX1 BT; go_wp2_with fail; exact postB_val (by first | rfl | simp) (Below.refl _ _)
          case s5 =>
            refine BStep.of [4] [(49, 4)] (opV (.int .i64 x0)) (by kernel_rfl) (fun _ _ => by kernel_rfl) rfl ?_
            intro vs wv hB hA
            have h4 : vs 4 = _ := hA.1
            clear hA
            simp only [fillP, List.setIfInBounds_toArray, List.set_cons_zero, List.set_cons_succ, h4]
            have ct := CT.out wv hB; have a0 := ct.1; have s0 := ct.2; clear ct CT NX KC BX1 BT; go_wp2_with fail; exact postB_val (by first | rfl | simp) (Below.refl _ _)
          case s6 =>
            refine BStep.of [] [] (opV (.slice (some ⟨gs, 0, none⟩) k k)) (by kernel_rfl) (fun _ _ => by kernel_rfl) rfl ?_
            intro vs wv hB hA
            clear hA
            simp only [fillP]
            have ct := CT.out wv hB; have a0 := ct.1; have s0 := ct.2; clear ct CT NX KC BX1 BT; go_wp2_with fail; exact postB_val (by first | rfl | simp) (Below.refl _ _)
          case s7 =>
            refine BStep.of [] [] (opV (.int .i64 (j : Nat))) (by kernel_rfl) (fun _ _ => by kernel_rfl) rfl ?_
            intro vs wv hB hA
            clear hA
            simp only [fillP]
            have ct := CT.out wv hB; have a0 := ct.1; have s0 := ct.2; clear ct CT NX KC BX1 BT; go_wp2_with fail; exact postB_val (by first | rfl | simp) (Below.refl _ _)
          case s8 =>
            refine BStep.of [6, 7] [(51, 6), (52, 7)] (opV (.pointer (some ⟨gs, j, none⟩))) (by kernel_rfl) (fun _ _ => by kernel_rfl) rfl ?_
            intro vs wv hB hA
            have h6 : vs 6 = _ := hA.1
            have h7 : vs 7 = _ := hA.2.1
            clear hA
            simp only [fillP, List.setIfInBounds_toArray, List.set_cons_zero, List.set_cons_succ, h6, h7]
            have ct := CT.out wv hB; have a0 := ct.1; have s0 := ct.2; clear ct CT NX KC BX1 BT; go_wp2_with fail; exact postB_val (by first | rfl | simp) (Below.refl _ _)
          case s9 =>
            refine BStep.of [8] [(53, 8)] (opV (.int .i64 xs)) (by kernel_rfl) (fun _ _ => by kernel_rfl) rfl ?_
            intro vs wv hB hA
            have h8 : vs 8 = _ := hA.1
            clear hA
            simp only [fillP, List.setIfInBounds_toArray, List.set_cons_zero, List.set_cons_succ, h8]
            have ct := CT.out wv hB; have a0 := ct.1; have s0 := ct.2; clear ct CT NX KC BX1 BT; go_wp2_with fail; exact postB_val (by first | rfl | simp) (Below.refl _ _)
          case s10 =>
            refine BStep.of [5, 9] [(50, 5), (54, 9)] (opV (.int .i64 gv)) (by kernel_rfl) (fun _ _ => by kernel_rfl) rfl ?_
            intro vs wv hB hA
            have h5 : vs 5 = _ := hA.1
            have h9 : vs 9 = _ := hA.2.1
            clear hA
            simp only [fillP, List.setIfInBounds_toArray, List.set_cons_zero, List.set_cons_succ, h5, h9]
            have ct := CT.out wv hB; have a0 := ct.1; have s0 := ct.2; clear ct CT NX KC BX1 BT; go_wp2_with fail; exact postB_val (by first | rfl | simp) (Below.refl _ _)
          case s11 =>
            refine BStep.of [0, 1, 2, 3, 4, 5, 6, 7, 8, 9, 10] [(45, 0), (46, 1), (47, 2), (48, 3), (49, 4), (50, 5), (51, 6), (52, 7), (53, 8), (54, 9), (55, 10)] (opV (.pointer (some ⟨b, i * 9, none⟩))) (by kernel_rfl) (fun _ _ => by kernel_rfl) rfl ?_
            intro vs wv hB hA
            have h0 : vs 0 = _ := hA.1
            have h1 : vs 1 = _ := hA.2.1
            have h2 : vs 2 = _ := hA.2.2.1
            have h3 : vs 3 = _ := hA.2.2.2.1
            have h4 : vs 4 = _ := hA.2.2.2.2.1
            have h5 : vs 5 = _ := hA.2.2.2.2.2.1
            have h6 : vs 6 = _ := hA.2.2.2.2.2.2.1
            have h7 : vs 7 = _ := hA.2.2.2.2.2.2.2.1
            have h8 : vs 8 = _ := hA.2.2.2.2.2.2.2.2.1
            have h9 : vs 9 = _ := hA.2.2.2.2.2.2.2.2.2.1
            have h10 : vs 10 = _ := hA.2.2.2.2.2.2.2.2.2.2.1
            clear hA
            simp only [fillP, List.setIfInBounds_toArray, List.set_cons_zero, List.set_cons_succ, h0, h1, h2, h3, h4, h5, h6, h7, h8, h9, h10]
            have ct := CT.out wv hB; have a0 := ct.1; have s0 := ct.2; clear ct CT NX KC BX1 BT; go_wp2_with fail; exact postB_val (by first | rfl | simp) (Below.refl _ _)
          case s12 =>
            refine BStep.of [0, 1, 2, 3, 4, 5, 6, 7, 8, 9, 10, 11] [(45, 0), (46, 1), (47, 2), (48, 3), (49, 4), (50, 5), (51, 6), (52, 7), (53, 8), (54, 9), (55, 10), (56, 11)] (opV (.pointer (some ⟨b, i * 9 + 6, none⟩))) (by kernel_rfl) (fun _ _ => by kernel_rfl) rfl ?_
            intro vs wv hB hA
            have h0 : vs 0 = _ := hA.1
            have h1 : vs 1 = _ := hA.2.1
            have h2 : vs 2 = _ := hA.2.2.1
            have h3 : vs 3 = _ := hA.2.2.2.1
            have h4 : vs 4 = _ := hA.2.2.2.2.1
            have h5 : vs 5 = _ := hA.2.2.2.2.2.1
            have h6 : vs 6 = _ := hA.2.2.2.2.2.2.1
            have h7 : vs 7 = _ := hA.2.2.2.2.2.2.2.1
            have h8 : vs 8 = _ := hA.2.2.2.2.2.2.2.2.1
            have h9 : vs 9 = _ := hA.2.2.2.2.2.2.2.2.2.1
            have h10 : vs 10 = _ := hA.2.2.2.2.2.2.2.2.2.2.1
            have h11 : vs 11 = _ := hA.2.2.2.2.2.2.2.2.2.2.2.1
            clear hA
            simp only [fillP, List.setIfInBounds_toArray, List.set_cons_zero, List.set_cons_succ, h0, h1, h2, h3, h4, h5, h6, h7, h8, h9, h10, h11]
            have ct := CT.out wv hB; have a0 := ct.1; have s0 := ct.2; clear ct CT NX KC BX1 BT; go_wp2_with fail; exact postB_val (by first | rfl | simp) (Below.refl _ _)
          case fin =>
            refine last_of [0, 1, 2, 3, 4, 5, 6, 7, 8, 9, 10, 11, 12] [(45, 0), (46, 1), (47, 2), (48, 3), (49, 4), (50, 5), (51, 6), (52, 7), (53, 8), (54, 9), (55, 10), (56, 11), (57, 12)] (by kernel_rfl) (fun _ _ => by kernel_rfl) ?_
            intro vs wv hB hA
            have h0 : vs 0 = _ := hA.1
            have h1 : vs 1 = _ := hA.2.1
            have h2 : vs 2 = _ := hA.2.2.1
            have h3 : vs 3 = _ := hA.2.2.2.1
            have h4 : vs 4 = _ := hA.2.2.2.2.1
            have h5 : vs 5 = _ := hA.2.2.2.2.2.1
            have h6 : vs 6 = _ := hA.2.2.2.2.2.2.1
            have h7 : vs 7 = _ := hA.2.2.2.2.2.2.2.1
            have h8 : vs 8 = _ := hA.2.2.2.2.2.2.2.2.1
            have h9 : vs 9 = _ := hA.2.2.2.2.2.2.2.2.2.1
            have h10 : vs 10 = _ := hA.2.2.2.2.2.2.2.2.2.2.1
            have h11 : vs 11 = _ := hA.2.2.2.2.2.2.2.2.2.2.2.1
            have h12 : vs 12 = _ := hA.2.2.2.2.2.2.2.2.2.2.2.2.1
            clear hA
            simp only [fillP, List.setIfInBounds_toArray, List.set_cons_zero, List.set_cons_succ, h0, h1, h2, h3, h4, h5, h6, h7, h8, h9, h10, h11, h12]
            have BXv := Lib.hid (BX1.out.keep hB); have BTv := Lib.hid (BT.out.next LB6.out hB); clear BX1 BT CT hB
            have BX2 := Lib.hid (BXv.out.setG HIN.out gv)
            have BT2 := Lib.hid (BTv.out.cellA HN.out.1 (i * 9 + 6) (.int .i64 gv))
            have c6 := (BXv.out.at HIN.out).2.2.2.2.2.2.1
            have f6 := BXv.out.fro HIN.out (show 6 < 9 by omega)
            clear BXv BTv
            go_upto_region 11 with fail
            clear c6 f6
            generalize wv.setCell ⟨b, i * 9 + 6, none⟩ (.int .i64 gv) = wx at BX2 BT2 ⊢
            have CT2 : Hid (∀ W, Below wx.heap.size wx W → W.cell? ⟨b, i * 9 + 6, none⟩ = some (.int .i64 gv) ∧ W.cell? ⟨b, i * 9 + 1, none⟩ = some (.int .i64 x1) ∧ W.cell? ⟨b, i * 9 + 2, none⟩ = some (.int .i64 x2)) := Lib.hid (fun W hW => by
              obtain ⟨-, q1, q2, -, -, -, q6, -, -⟩ := (BX2.out.keep hW).at HIN.out
              rw [XI.out] at q1 q2
              rw [if_pos rfl] at q6
              exact ⟨q6, q1, q2⟩)
            refine' wp_region_lastD [opV (.pointer (some ⟨b, i * 9, none⟩)), opV (.pointer (some ⟨b, i * 9, none⟩)), opV (.pointer (some ⟨b, i * 9, none⟩)), opV (.pointer (some ⟨b, i * 9 + 6, none⟩)), opV (.int .i64 gv), opV (.pointer (some ⟨b, i * 9, none⟩)), opV (.pointer (some ⟨b, i * 9, none⟩)), opV (.pointer (some ⟨b, i * 9, none⟩)), opV (.pointer (some ⟨b, i * 9 + 1, none⟩)), opV (.int .i64 x1), opV (.pointer (some ⟨b, i * 9, none⟩)), opV (.pointer (some ⟨b, i * 9, none⟩)), opV (.pointer (some ⟨b, i * 9, none⟩)), opV (.pointer (some ⟨b, i * 9 + 2, none⟩)), opV (.int .i64 x2), opV (.int .i64 zv), opV (.pointer (some ⟨b, i * 9, none⟩)), opV (.pointer (some ⟨b, i * 9 + 7, none⟩))] 18 _ rfl (by kernel_rfl) rfl (by kernel_rfl) ⟨?s0, ?s1, ?s2, ?s3, ?s4, ?s5, ?s6, ?s7, ?s8, ?s9, ?s10, ?s11, ?s12, ?s13, ?s14, ?s15, ?s16, ?s17, trivial⟩ rfl ?fin
            case s0 =>
              refine BStep.of [] [] (opV (.pointer (some ⟨b, i * 9, none⟩))) (by kernel_rfl) (fun _ _ => by kernel_rfl) rfl ?_
              intro vs wv hB hA
              clear hA
              simp only [fillP]
              have ct := CT2.out wv hB; have a6 := ct.1; have a1 := ct.2.1; have a2 := ct.2.2; clear ct CT2 NX KC BX2 BT2; go_wp2_with fail; exact postB_val (by first | rfl | simp) (Below.refl _ _)
            case s1 =>
              refine BStep.of [] [] (opV (.pointer (some ⟨b, i * 9, none⟩))) (by kernel_rfl) (fun _ _ => by kernel_rfl) rfl ?_
              intro vs wv hB hA
              clear hA
              simp only [fillP]
              have ct := CT2.out wv hB; have a6 := ct.1; have a1 := ct.2.1; have a2 := ct.2.2; clear ct CT2 NX KC BX2 BT2; go_wp2_with fail; exact postB_val (by first | rfl | simp) (Below.refl _ _)
            case s2 =>
              refine BStep.of [1] [(59, 1)] (opV (.pointer (some ⟨b, i * 9, none⟩))) (by kernel_rfl) (fun _ _ => by kernel_rfl) rfl ?_
              intro vs wv hB hA
              have h1 : vs 1 = _ := hA.1
              clear hA
              simp only [fillP, List.setIfInBounds_toArray, List.set_cons_zero, List.set_cons_succ, h1]
              have ct := CT2.out wv hB; have a6 := ct.1; have a1 := ct.2.1; have a2 := ct.2.2; clear ct CT2 NX KC BX2 BT2; go_wp2_with fail; exact postB_val (by first | rfl | simp) (Below.refl _ _)
            case s3 =>
              refine BStep.of [2] [(60, 2)] (opV (.pointer (some ⟨b, i * 9 + 6, none⟩))) (by kernel_rfl) (fun _ _ => by kernel_rfl) rfl ?_
              intro vs wv hB hA
              have h2 : vs 2 = _ := hA.1
              clear hA
              simp only [fillP, List.setIfInBounds_toArray, List.set_cons_zero, List.set_cons_succ, h2]
              have ct := CT2.out wv hB; have a6 := ct.1; have a1 := ct.2.1; have a2 := ct.2.2; clear ct CT2 NX KC BX2 BT2; go_wp2_with fail; exact postB_val (by first | rfl | simp) (Below.refl _ _)
            case s4 =>
              refine BStep.of [3] [(61, 3)] (opV (.int .i64 gv)) (by kernel_rfl) (fun _ _ => by kernel_rfl) rfl ?_
              intro vs wv hB hA
              have h3 : vs 3 = _ := hA.1
              clear hA
              simp only [fillP, List.setIfInBounds_toArray, List.set_cons_zero, List.set_cons_succ, h3]
              have ct := CT2.out wv hB; have a6 := ct.1; have a1 := ct.2.1; have a2 := ct.2.2; clear ct CT2 NX KC BX2 BT2; go_wp2_with fail; exact postB_val (by first | rfl | simp) (Below.refl _ _)
            case s5 =>
              refine BStep.of [] [] (opV (.pointer (some ⟨b, i * 9, none⟩))) (by kernel_rfl) (fun _ _ => by kernel_rfl) rfl ?_
              intro vs wv hB hA
              clear hA
              simp only [fillP]
              have ct := CT2.out wv hB; have a6 := ct.1; have a1 := ct.2.1; have a2 := ct.2.2; clear ct CT2 NX KC BX2 BT2; go_wp2_with fail; exact postB_val (by first | rfl | simp) (Below.refl _ _)
            case s6 =>
              refine BStep.of [5] [(63, 5)] (opV (.pointer (some ⟨b, i * 9, none⟩))) (by kernel_rfl) (fun _ _ => by kernel_rfl) rfl ?_
              intro vs wv hB hA
              have h5 : vs 5 = _ := hA.1
              clear hA
              simp only [fillP, List.setIfInBounds_toArray, List.set_cons_zero, List.set_cons_succ, h5]
              have ct := CT2.out wv hB; have a6 := ct.1; have a1 := ct.2.1; have a2 := ct.2.2; clear ct CT2 NX KC BX2 BT2; go_wp2_with fail; exact postB_val (by first | rfl | simp) (Below.refl _ _)
            case s7 =>
              refine BStep.of [6] [(64, 6)] (opV (.pointer (some ⟨b, i * 9, none⟩))) (by kernel_rfl) (fun _ _ => by kernel_rfl) rfl ?_
              intro vs wv hB hA
              have h6 : vs 6 = _ := hA.1
              clear hA
              simp only [fillP, List.setIfInBounds_toArray, List.set_cons_zero, List.set_cons_succ, h6]
              have ct := CT2.out wv hB; have a6 := ct.1; have a1 := ct.2.1; have a2 := ct.2.2; clear ct CT2 NX KC BX2 BT2; go_wp2_with fail; exact postB_val (by first | rfl | simp) (Below.refl _ _)
            case s8 =>
              refine BStep.of [7] [(65, 7)] (opV (.pointer (some ⟨b, i * 9 + 1, none⟩))) (by kernel_rfl) (fun _ _ => by kernel_rfl) rfl ?_
              intro vs wv hB hA
              have h7 : vs 7 = _ := hA.1
              clear hA
              simp only [fillP, List.setIfInBounds_toArray, List.set_cons_zero, List.set_cons_succ, h7]
              have ct := CT2.out wv hB; have a6 := ct.1; have a1 := ct.2.1; have a2 := ct.2.2; clear ct CT2 NX KC BX2 BT2; go_wp2_with fail; exact postB_val (by first | rfl | simp) (Below.refl _ _)
            case s9 =>
              refine BStep.of [8] [(66, 8)] (opV (.int .i64 x1)) (by kernel_rfl) (fun _ _ => by kernel_rfl) rfl ?_
              intro vs wv hB hA
              have h8 : vs 8 = _ := hA.1
              clear hA
              simp only [fillP, List.setIfInBounds_toArray, List.set_cons_zero, List.set_cons_succ, h8]
              have ct := CT2.out wv hB; have a6 := ct.1; have a1 := ct.2.1; have a2 := ct.2.2; clear ct CT2 NX KC BX2 BT2; go_wp2_with fail; exact postB_val (by first | rfl | simp) (Below.refl _ _)
            case s10 =>
              refine BStep.of [] [] (opV (.pointer (some ⟨b, i * 9, none⟩))) (by kernel_rfl) (fun _ _ => by kernel_rfl) rfl ?_
              intro vs wv hB hA
              clear hA
              simp only [fillP]
              have ct := CT2.out wv hB; have a6 := ct.1; have a1 := ct.2.1; have a2 := ct.2.2; clear ct CT2 NX KC BX2 BT2; go_wp2_with fail; exact postB_val (by first | rfl | simp) (Below.refl _ _)
            case s11 =>
              refine BStep.of [10] [(68, 10)] (opV (.pointer (some ⟨b, i * 9, none⟩))) (by kernel_rfl) (fun _ _ => by kernel_rfl) rfl ?_
              intro vs wv hB hA
              have h10 : vs 10 = _ := hA.1
              clear hA
              simp only [fillP, List.setIfInBounds_toArray, List.set_cons_zero, List.set_cons_succ, h10]
              have ct := CT2.out wv hB; have a6 := ct.1; have a1 := ct.2.1; have a2 := ct.2.2; clear ct CT2 NX KC BX2 BT2; go_wp2_with fail; exact postB_val (by first | rfl | simp) (Below.refl _ _)
            case s12 =>
              refine BStep.of [11] [(69, 11)] (opV (.pointer (some ⟨b, i * 9, none⟩))) (by kernel_rfl) (fun _ _ => by kernel_rfl) rfl ?_
              intro vs wv hB hA
              have h11 : vs 11 = _ := hA.1
              clear hA
              simp only [fillP, List.setIfInBounds_toArray, List.set_cons_zero, List.set_cons_succ, h11]
              have ct := CT2.out wv hB; have a6 := ct.1; have a1 := ct.2.1; have a2 := ct.2.2; clear ct CT2 NX KC BX2 BT2; go_wp2_with fail; exact postB_val (by first | rfl | simp) (Below.refl _ _)
            case s13 =>
              refine BStep.of [12] [(70, 12)] (opV (.pointer (some ⟨b, i * 9 + 2, none⟩))) (by kernel_rfl) (fun _ _ => by kernel_rfl) rfl ?_
              intro vs wv hB hA
              have h12 : vs 12 = _ := hA.1
              clear hA
              simp only [fillP, List.setIfInBounds_toArray, List.set_cons_zero, List.set_cons_succ, h12]
              have ct := CT2.out wv hB; have a6 := ct.1; have a1 := ct.2.1; have a2 := ct.2.2; clear ct CT2 NX KC BX2 BT2; go_wp2_with fail; exact postB_val (by first | rfl | simp) (Below.refl _ _)
            case s14 =>
              refine BStep.of [13] [(71, 13)] (opV (.int .i64 x2)) (by kernel_rfl) (fun _ _ => by kernel_rfl) rfl ?_
              intro vs wv hB hA
              have h13 : vs 13 = _ := hA.1
              clear hA
              simp only [fillP, List.setIfInBounds_toArray, List.set_cons_zero, List.set_cons_succ, h13]
              have ct := CT2.out wv hB; have a6 := ct.1; have a1 := ct.2.1; have a2 := ct.2.2; clear ct CT2 NX KC BX2 BT2; go_wp2_with fail; exact postB_val (by first | rfl | simp) (Below.refl _ _)
            case s15 =>
              refine BStep.of [4, 9, 14] [(62, 4), (67, 9), (72, 14)] (opV (.int .i64 zv)) (by kernel_rfl) (fun _ _ => by kernel_rfl) rfl ?_
              intro vs wv hB hA
              have h4 : vs 4 = _ := hA.1
              have h9 : vs 9 = _ := hA.2.1
              have h14 : vs 14 = _ := hA.2.2.1
              clear hA
              simp only [fillP, List.setIfInBounds_toArray, List.set_cons_zero, List.set_cons_succ, h4, h9, h14]
              clear CT2 NX BX2 BT2; (go_wp2_with (go_at_call 30; (with_reducible refine (KC.out _).mono ?_); rintro e w7 ⟨rfl, hw⟩; obtain rfl := hw)); exact postB_val rfl (Below.refl _ _)
            case s16 =>
              refine BStep.of [0, 1, 2, 3, 4, 5, 6, 7, 8, 9, 10, 11, 12, 13, 14, 15] [(58, 0), (59, 1), (60, 2), (61, 3), (62, 4), (63, 5), (64, 6), (65, 7), (66, 8), (67, 9), (68, 10), (69, 11), (70, 12), (71, 13), (72, 14), (73, 15)] (opV (.pointer (some ⟨b, i * 9, none⟩))) (by kernel_rfl) (fun _ _ => by kernel_rfl) rfl ?_
              intro vs wv hB hA
              have h0 : vs 0 = _ := hA.1
              have h1 : vs 1 = _ := hA.2.1
              have h2 : vs 2 = _ := hA.2.2.1
              have h3 : vs 3 = _ := hA.2.2.2.1
              have h4 : vs 4 = _ := hA.2.2.2.2.1
              have h5 : vs 5 = _ := hA.2.2.2.2.2.1
              have h6 : vs 6 = _ := hA.2.2.2.2.2.2.1
              have h7 : vs 7 = _ := hA.2.2.2.2.2.2.2.1
              have h8 : vs 8 = _ := hA.2.2.2.2.2.2.2.2.1
              have h9 : vs 9 = _ := hA.2.2.2.2.2.2.2.2.2.1
              have h10 : vs 10 = _ := hA.2.2.2.2.2.2.2.2.2.2.1
              have h11 : vs 11 = _ := hA.2.2.2.2.2.2.2.2.2.2.2.1
              have h12 : vs 12 = _ := hA.2.2.2.2.2.2.2.2.2.2.2.2.1
              have h13 : vs 13 = _ := hA.2.2.2.2.2.2.2.2.2.2.2.2.2.1
              have h14 : vs 14 = _ := hA.2.2.2.2.2.2.2.2.2.2.2.2.2.2.1
              have h15 : vs 15 = _ := hA.2.2.2.2.2.2.2.2.2.2.2.2.2.2.2.1
              clear hA
              simp only [fillP, List.setIfInBounds_toArray, List.set_cons_zero, List.set_cons_succ, h0, h1, h2, h3, h4, h5, h6, h7, h8, h9, h10, h11, h12, h13, h14, h15]
              have ct := CT2.out wv hB; have a6 := ct.1; have a1 := ct.2.1; have a2 := ct.2.2; clear ct CT2 NX KC BX2 BT2; go_wp2_with fail; exact postB_val (by first | rfl | simp) (Below.refl _ _)
            case s17 =>
              refine BStep.of [0, 1, 2, 3, 4, 5, 6, 7, 8, 9, 10, 11, 12, 13, 14, 15, 16] [(58, 0), (59, 1), (60, 2), (61, 3), (62, 4), (63, 5), (64, 6), (65, 7), (66, 8), (67, 9), (68, 10), (69, 11), (70, 12), (71, 13), (72, 14), (73, 15), (74, 16)] (opV (.pointer (some ⟨b, i * 9 + 7, none⟩))) (by kernel_rfl) (fun _ _ => by kernel_rfl) rfl ?_
              intro vs wv hB hA
              have h0 : vs 0 = _ := hA.1
              have h1 : vs 1 = _ := hA.2.1
              have h2 : vs 2 = _ := hA.2.2.1
              have h3 : vs 3 = _ := hA.2.2.2.1
              have h4 : vs 4 = _ := hA.2.2.2.2.1
              have h5 : vs 5 = _ := hA.2.2.2.2.2.1
              have h6 : vs 6 = _ := hA.2.2.2.2.2.2.1
              have h7 : vs 7 = _ := hA.2.2.2.2.2.2.2.1
              have h8 : vs 8 = _ := hA.2.2.2.2.2.2.2.2.1
              have h9 : vs 9 = _ := hA.2.2.2.2.2.2.2.2.2.1
              have h10 : vs 10 = _ := hA.2.2.2.2.2.2.2.2.2.2.1
              have h11 : vs 11 = _ := hA.2.2.2.2.2.2.2.2.2.2.2.1
              have h12 : vs 12 = _ := hA.2.2.2.2.2.2.2.2.2.2.2.2.1
              have h13 : vs 13 = _ := hA.2.2.2.2.2.2.2.2.2.2.2.2.2.1
              have h14 : vs 14 = _ := hA.2.2.2.2.2.2.2.2.2.2.2.2.2.2.1
              have h15 : vs 15 = _ := hA.2.2.2.2.2.2.2.2.2.2.2.2.2.2.2.1
              have h16 : vs 16 = _ := hA.2.2.2.2.2.2.2.2.2.2.2.2.2.2.2.2.1
              clear hA
              simp only [fillP, List.setIfInBounds_toArray, List.set_cons_zero, List.set_cons_succ, h0, h1, h2, h3, h4, h5, h6, h7, h8, h9, h10, h11, h12, h13, h14, h15, h16]
              have ct := CT2.out wv hB; have a6 := ct.1; have a1 := ct.2.1; have a2 := ct.2.2; clear ct CT2 NX KC BX2 BT2; go_wp2_with fail; exact postB_val (by first | rfl | simp) (Below.refl _ _)
            case fin =>
              refine last_of [0, 1, 2, 3, 4, 5, 6, 7, 8, 9, 10, 11, 12, 13, 14, 15, 16, 17] [(58, 0), (59, 1), (60, 2), (61, 3), (62, 4), (63, 5), (64, 6), (65, 7), (66, 8), (67, 9), (68, 10), (69, 11), (70, 12), (71, 13), (72, 14), (73, 15), (74, 16), (75, 17)] (by kernel_rfl) (fun _ _ => by kernel_rfl) ?_
              intro vs wv hB hA
              have h0 : vs 0 = _ := hA.1
              have h1 : vs 1 = _ := hA.2.1
              have h2 : vs 2 = _ := hA.2.2.1
              have h3 : vs 3 = _ := hA.2.2.2.1
              have h4 : vs 4 = _ := hA.2.2.2.2.1
              have h5 : vs 5 = _ := hA.2.2.2.2.2.1
              have h6 : vs 6 = _ := hA.2.2.2.2.2.2.1
              have h7 : vs 7 = _ := hA.2.2.2.2.2.2.2.1
              have h8 : vs 8 = _ := hA.2.2.2.2.2.2.2.2.1
              have h9 : vs 9 = _ := hA.2.2.2.2.2.2.2.2.2.1
              have h10 : vs 10 = _ := hA.2.2.2.2.2.2.2.2.2.2.1
              have h11 : vs 11 = _ := hA.2.2.2.2.2.2.2.2.2.2.2.1
              have h12 : vs 12 = _ := hA.2.2.2.2.2.2.2.2.2.2.2.2.1
              have h13 : vs 13 = _ := hA.2.2.2.2.2.2.2.2.2.2.2.2.2.1
              have h14 : vs 14 = _ := hA.2.2.2.2.2.2.2.2.2.2.2.2.2.2.1
              have h15 : vs 15 = _ := hA.2.2.2.2.2.2.2.2.2.2.2.2.2.2.2.1
              have h16 : vs 16 = _ := hA.2.2.2.2.2.2.2.2.2.2.2.2.2.2.2.2.1
              have h17 : vs 17 = _ := hA.2.2.2.2.2.2.2.2.2.2.2.2.2.2.2.2.2.1
              clear hA
              simp only [fillP, List.setIfInBounds_toArray, List.set_cons_zero, List.set_cons_succ, h0, h1, h2, h3, h4, h5, h6, h7, h8, h9, h10, h11, h12, h13, h14, h15, h16, h17]
              have BXv := Lib.hid (BX2.out.keep hB); have BTv := Lib.hid (BT2.out.next LB6.out hB); clear BX2 BT2 CT2 KC hB
              have BX3 := Lib.hid (NX.out _ (BXv.out.setZ HIN.out zv))
              have BT3 := Lib.hid (BTv.out.cellA HN.out.1 (i * 9 + 7) (.int .i64 zv))
              have c7 := (BXv.out.at HIN.out).2.2.2.2.2.2.2.1
              have f7 := BXv.out.fro HIN.out (show 7 < 9 by omega)
              clear BXv BTv NX
              go_wp2_with fail
              go_roundg (k - (j + 1))
              case measure => omega
              case rel => exact ⟨j + 1, by go_num, by omega, Nat.le_refl _, BX3, BT3⟩
        · obtain rfl : j = k := by omega
          have hz2 : ¬ (j : Int) < j := by omega
          have BF : Hid (BxB wq b n (itA l) (goalR l G S X) (outR l Z S X) S) := Lib.hid (BxB.congr BX.out (fun i hi => by rw [← HM.out]; exact open_all (S := S) (fun i => (itA l i).base + X i) G i hi) (fun i hi => by rw [← HM.out]; exact open_all (S := S) (fun i => cI (itA l i) ((itA l i).base + X i)) Z i hi) (fun _ _ => rfl))
          have BW : Hid (But2 B b b w wq) := Lib.hid ((But2.of LBW.out B6.out).trans BT.out)
          go_wp2_with fail
          refine bodyPost_end (results_none rfl _ _ _) rfl ?_
          exact ⟨rfl, X, HX.out, BF.out, BW.out⟩
/-- what the loop over changes comes to: who is settled -/
def setB16 (A c : Int) : Bool := decide (A = 0) || decide (cmpI16 c 0 = cmpI16 A 0)
theorem setB_iff (A c : Int) : setB16 A c = decide (A = 0 ∨ (0 < A ∧ 0 < c) ∨ (A < 0 ∧ c < 0)) := by
  unfold setB16
  rw [Bool.eq_iff_iff, Bool.or_eq_true, decide_eq_true_eq, decide_eq_true_eq, decide_eq_true_eq]
  unfold cmpI16
  split <;> split <;> (try split) <;> (try split) <;> omega
set_option maxRecDepth 100000 in
set_option maxHeartbeats 16000000 in
theorem changes16 {w : World} {b n o c m B : Nat} {X : Nat → It16} {G Z ch : Nat → Int} {S : Nat → Bool} (hb : BxB w b n X G Z S) (ho : OpB16 w o b m (opA S n)) (hm : openN S n = m) (hn : n ≤ 2048)
    (hch : ∀ i, i < n → S i = false → Z i - G i = ch i ∧ -4398046511104 ≤ ch i ∧ ch i ≤ 4398046511104) (hB : B ≤ b) (hob : o ≠ b) :
    Calls Try.prog 41 #[.slice (some ⟨o, 0, none⟩) m c] w fun e w' => e = .returned (.tuple #[]) ∧ BxB w' b n X G Z (fun i => if S i = true then S i else setB16 (sumZ (fun i => if S i = true then 0 else ch i) n) (ch i)) ∧ But2 B b b w w' := by
  have HB := Lib.hid hb
  have HO := Lib.hid ho
  have HM := Lib.hid hm
  have HC := Lib.hid hch
  have HN := Lib.hid (And.intro hB hob)
  have LBW : Hid (B ≤ w.heap.size) := Lib.hid (Nat.le_trans hB (Nat.le_of_lt hb.lt))
  have mn : m ≤ 2048 := by have := openN_at S n; omega
  have SM := Lib.hid (opA_sum ch (S := S) n)
  rw [hm] at SM
  have SB := Lib.hid (fun k (hk : k ≤ m) => sumB_bd (f := fun j => ch (opA S n j)) (c := 4398046511104) (n := k) (fun j hj => by
    have IN := opA_in (S := S) (n := n) (k := j) (by omega)
    exact (hch _ IN.1 IN.2).2))
  clear hb ho hm hch hB hob
  go_enter Try.func41, Try.ntmps41
  go_wp2_with fail
  go_loopg [2, 9] m (fun g1 va vi wr => ∃ k : Nat, vi = .int .i64 k ∧ va = .int .i64 (sumZ (fun j => ch (opA S n j)) k) ∧ k ≤ m ∧ m - k ≤ g1 ∧ Hid (Below w.heap.size w wr))
  case atStart => exact ⟨0, rfl, rfl, by omega, by omega, Lib.hid (Below.refl _ _)⟩
  case round =>
    obtain ⟨k, rfl, rfl, hk, hg1, Bl⟩ := hrel
    obtain ⟨wo, hwo⟩ : ∃ wo, wo = wr := ⟨_, rfl⟩
    subst hwo
    by_cases hlt : k < m
    · have hkz : (k : Int) < m := by omega
      have hk0 : (0 : Int) ≤ k := by omega
      have wi : IntKind.i64.wrap ((k : Int) + 1) = (k : Int) + 1 := IntWalk.i64_in _ (by omega)
      have o0 := (HO.out.keep Bl.out).cell k hlt
      have IN := opA_in (S := S) (n := n) (k := k) (by rw [HM.out]; exact hlt)
      have AT := (HB.out.keep Bl.out).at IN.1
      have CI := HC.out _ IN.1 IN.2
      have KW := Lib.hid (changed16 AT (by omega))
      rw [CI.1] at KW
      have b0 := SB.out k (by omega)
      have b1 := SB.out (k + 1) (by omega)
      rw [← sumZ_B] at b0 b1
      have E : Hid (sumZ (fun j => ch (opA S n j)) (k + 1) = sumZ (fun j => ch (opA S n j)) k + ch (opA S n k)) := Lib.hid rfl
      rw [E.out] at b1
      generalize sumZ (fun j => ch (opA S n j)) k = a at b0 b1 E ⊢
      generalize ch (opA S n k) = y at KW b1 E CI
      generalize opA S n k = i at o0 KW
      have wa : IntKind.i64.wrap (a + y) = a + y := IntWalk.i64_in _ (by omega)
      clear AT IN CI b0 b1
      go_wp2_with (go_at_call 46; (with_reducible refine KW.out.mono ?_); rintro e5 w5 ⟨rfl, hb⟩; have B5 := Lib.hid (b_nx16 Bl.out hb); clear hb)
      go_roundg (m - (k + 1))
      case measure => omega
      case rel => exact ⟨k + 1, by go_num, by rw [E.out], by omega, Nat.le_refl _, B5⟩
    · obtain rfl : k = m := by omega
      have hz : ¬ (k : Int) < k := by omega
      rw [SM.out]
      obtain ⟨A, hA0⟩ : ∃ A, sumZ (fun i => if S i = true then 0 else ch i) n = A := ⟨_, rfl⟩
      rw [hA0]
      have HA := Lib.hid hA0
      clear SM SB hA0
      go_wp2_with fail
      have HLT : Hid (b < wo.heap.size) := Lib.hid (Nat.lt_of_lt_of_le HB.out.lt Bl.out.size)
      have LB6 : Hid (B ≤ wo.heap.size) := Lib.hid (Nat.le_trans LBW.out Bl.out.size)
      have HB6 : Hid _ := Lib.hid (HB.out.keep Bl.out)
      have HO6 : Hid _ := Lib.hid (HO.out.keep Bl.out)
      clear HB HO
      go_loopg [20] k (fun g1 vi wr => ∃ j : Nat, vi = .int .i64 j ∧ j ≤ k ∧ k - j ≤ g1 ∧ Hid (BxB wr b n X G Z (fun i => if S i = false ∧ openN S i < j then setB16 A (ch i) else S i)) ∧ Hid (But2 B b b wo wr))
      case atStart => exact ⟨0, rfl, by omega, by omega, Lib.hid (BxB.congr HB6.out (fun _ _ => rfl) (fun _ _ => rfl) (fun i _ => (open_none (S := S) (fun i => setB16 A (ch i)) S i).symm)), Lib.hid (But2.refl _ _ _ _)⟩
      case round =>
        obtain ⟨j, rfl, hj, hg2, BX, BT⟩ := hrel
        obtain ⟨wq, hwq⟩ : ∃ wq, wq = wr := ⟨_, rfl⟩
        subst hwq
        by_cases hlt : j < k
        · have hkz2 : (j : Int) < k := by omega
          have hk02 : (0 : Int) ≤ j := by omega
          have wi : IntKind.i64.wrap ((j : Int) + 1) = (j : Int) + 1 := IntWalk.i64_in _ (by omega)
          have o0 := (HO6.out.but2 BT.out HN.out.2 HN.out.2).cell j hlt
          have IN := opA_in (S := S) (n := n) (k := j) (by rw [HM.out]; exact hlt)
          have U1 := Lib.hid (open_upd (S := S) (n := n) (k := j) (by rw [HM.out]; exact hlt) (fun i => setB16 A (ch i)) S)
          have CI := HC.out _ IN.1 IN.2
          have HIN := Lib.hid IN.1
          have KW := Lib.hid (changed16 (BX.out.at IN.1) (by omega))
          rw [CI.1] at KW
          obtain ⟨S0, hS0⟩ : ∃ f, f = fun i => if S i = false ∧ openN S i < j then setB16 A (ch i) else S i := ⟨_, rfl⟩
          have BX1 : Hid (BxB wq b n X G Z S0) := Lib.hid (by rw [hS0]; exact BX.out)
          have NX : Hid (∀ W', BxB W' b n X G Z (fun i => if i = opA S n j then setB16 A (ch (opA S n j)) else S0 i) → BxB W' b n X G Z (fun i => if S i = false ∧ openN S i < j + 1 then setB16 A (ch i) else S i)) := Lib.hid (fun W' h => by rw [hS0] at h; exact BxB.congr h (fun _ _ => rfl) (fun _ _ => rfl) U1.out)
          clear hS0 BX U1 CI IN
          obtain ⟨u, hu⟩ : ∃ u, setB16 A (ch (opA S n j)) = u := ⟨_, rfl⟩
          rw [hu] at NX
          have UE := Lib.hid hu
          clear hu
          unfold setB16 at UE
          generalize ch (opA S n j) = y at KW UE
          generalize opA S n j = i at o0 HIN NX KW
          have c8 := (BX1.out.at HIN.out).2.2.2.2.2.2.2.2
          have f8 := BX1.out.fro HIN.out (show 8 < 9 by omega)
          by_cases hA : A = 0
          · have dA : (A == 0) = true := by simp [hA]
            have UT : Hid (u = true) := Lib.hid (by rw [← UE.out, decide_eq_true hA]; rfl)
            have BX3 := Lib.hid (NX.out _ (BX1.out.setS HIN.out u))
            have BT3 := Lib.hid (BT.out.cellA HN.out.1 (i * 9 + 8) (.bool u))
            rw [UT.out] at BX3 BT3
            clear hA NX KW UE BX1 BT
            go_wp2_with fail
            go_roundg (k - (j + 1))
            case measure => omega
            case rel => exact ⟨j + 1, by go_num, by omega, Nat.le_refl _, BX3, BT3⟩
          · have dA : (A == 0) = false := by simp [hA]
            have UF : Hid (u = decide (cmpI16 y 0 = cmpI16 A 0)) := Lib.hid (by rw [← UE.out, decide_eq_false hA]; rfl)
            have K1 := Lib.hid (fun W => cmp16 y 0 W)
            have K2 := Lib.hid (fun W => cmp16 A 0 W)
            generalize cmpI16 y 0 = q1 at K1 UF
            generalize cmpI16 A 0 = q2 at K2 UF
            have dq : decide (q1 = q2) = u := UF.out.symm
            have dq2 : (q1 == q2) = u := by rw [← dq]; rfl
            clear hA UE c8 f8 UF
            go_wp2_with (first
              | (go_at_call 46; (with_reducible refine KW.out.mono ?_); rintro e5 w5 ⟨rfl, hb⟩; have BX5 := Lib.hid (BX1.out.keep hb); have BT5 := Lib.hid (BT.out.next LB6.out hb); clear hb; have c8 := (BX5.out.at HIN.out).2.2.2.2.2.2.2.2; have f8 := BX5.out.fro HIN.out (show 8 < 9 by omega))
              | (go_at_call 47; first | ((with_reducible refine (K1.out _).mono ?_); rintro e6 w6 ⟨rfl, rfl⟩) | ((with_reducible refine (K2.out _).mono ?_); rintro e6 w6 ⟨rfl, rfl⟩)))
            have BX3 := Lib.hid (NX.out _ (BX5.out.setS HIN.out u))
            have BT3 := Lib.hid (BT5.out.cellA HN.out.1 (i * 9 + 8) (.bool u))
            go_roundg (k - (j + 1))
            case measure => omega
            case rel => exact ⟨j + 1, by go_num, by omega, Nat.le_refl _, BX3, BT3⟩
        · obtain rfl : j = k := by omega
          have hz2 : ¬ (j : Int) < j := by omega
          have BF : Hid (BxB wq b n X G Z (fun i => if S i = true then S i else setB16 A (ch i))) := Lib.hid (BxB.congr BX.out (fun _ _ => rfl) (fun _ _ => rfl) (fun i hi => by rw [← HM.out]; exact open_all (S := S) (fun i => setB16 A (ch i)) S i hi))
          have BW : Hid (But2 B b b w wq) := Lib.hid ((But2.of LBW.out Bl.out).trans BT.out)
          go_wp2_with fail
          refine bodyPost_end (results_none rfl _ _ _) rfl ?_
          exact ⟨rfl, by rw [HA.out]; exact BF.out, BW.out⟩
end

section
open Go.RowKit

/-- the least of numbers of which it is so -/
noncomputable def leastOf (p : Nat → Prop) : Nat := by
  classical exact if h : ∃ n, p n ∧ ∀ m, p m → n ≤ m then Classical.choose h else 0
theorem leastOf_is {p : Nat → Prop} (h : ∃ n, p n) : p (leastOf p) ∧ ∀ m, p m → leastOf p ≤ m := by
  have key : ∀ k n, n ≤ k → p n → ∃ n, p n ∧ ∀ m, p m → n ≤ m := by
    intro k
    induction k with
    | zero => intro n hn hp; exact ⟨n, hp, fun m _ => by omega⟩
    | succ k ih =>
      intro n hn hp
      by_cases c : ∃ m, p m ∧ m < n
      · obtain ⟨m, h1, h2⟩ := c
        exact ih m (by omega) h1
      · exact ⟨n, hp, fun m hm => by
          rcases Nat.lt_or_ge m n with d | d
          · exact absurd ⟨m, hm, d⟩ c
          · exact d⟩
  obtain ⟨n, hn⟩ := h
  have h2 := key n n (Nat.le_refl _) hn
  unfold leastOf
  rw [dif_pos h2]
  exact Classical.choose_spec h2
/-- **A scope in which the run jumps back to one label**, with a ghost that each pass lowers -/
theorem wp_scope_ghost {P : Program} {a : Act} {w : World} {Q : Exit → Act → World → Prop} {c rest : Code} (l : Nat) (J : Nat → Act → World → Prop) (hf : findLabel c l = some rest)
    (first : c.wp P (Exit.jump l (fun a' w' => ∃ n, J n a' w') Q) a w)
    (pass : ∀ n a w, J n a w → rest.wp P (Exit.jump l (fun a' w' => ∃ m, m < n ∧ J m a' w') Q) a w) : (Code.scope c).wp P Q a w := by
  refine wp_scope_jumps l (fun a' w' => ∃ n, J n a' w') (fun a' w' => leastOf (fun n => J n a' w')) hf first (fun a' w' h => ?_)
  refine Code.wp_mono ?_ (pass _ a' w' (leastOf_is h).1)
  intro e a2 w2 hq
  cases e with
  | goto l' =>
    obtain ⟨h1, m, hm, hJ⟩ := hq
    exact ⟨h1, ⟨m, hJ⟩, Nat.lt_of_le_of_lt ((leastOf_is ⟨m, hJ⟩).2 m hJ) hm⟩
  | normal => exact hq
  | exit id => exact hq
  | ret => exact hq
  | panic ch => exact hq
  | outgrown => exact hq
theorem wp_scope_label {P : Program} {a : Act} {w : World} {Q : Exit → Act → World → Prop} {A rest : Code} (l : Nat) (J : Nat → Act → World → Prop) (hf : findLabel (A.seq ((Code.label l).seq rest)) l = some (Code.skip.seq rest))
    (first : ∀ K : Act → World → Prop, (∀ n a w, J n a w → K a w) → A.wp P (Exit.then K (Exit.jump l (fun a' w' => ∃ n, J n a' w') Q)) a w)
    (pass : ∀ n a w, J n a w → rest.wp P (Exit.jump l (fun a' w' => ∃ m, m < n ∧ J m a' w') Q) a w) : (Code.scope (A.seq ((Code.label l).seq rest))).wp P Q a w := by
  refine wp_scope_ghost l J hf (wp_seq (Code.wp_mono ?_ (first (fun a w => ∃ n, J n a w) (fun n a w h => ⟨n, h⟩)))) (fun n a w h => wp_seq (wp_skip (pass n a w h)))
  intro e a2 w2 hq
  cases e with
  | normal =>
    obtain ⟨n, h⟩ := hq
    refine wp_seq (wp_label ?_)
    refine Code.wp_mono ?_ (pass n a2 w2 h)
    intro e a3 w3 hq
    cases e with
    | goto l' =>
      obtain ⟨h1, m, -, hJ⟩ := hq
      exact ⟨h1, m, hJ⟩
    | normal => exact hq
    | exit id => exact hq
    | ret => exact hq
    | panic ch => exact hq
    | outgrown => exact hq
  | goto l' => exact hq
  | exit id => exact hq
  | ret => exact hq
  | panic ch => exact hq
  | outgrown => exact hq
/-- where the rounds stand -/
structure St16 (w0 W : World) (p b n B : Nat) (R : Int) (g : Bool) (l : List It16) (G Z : Nat → Int) (S : Nat → Bool) : Prop where
  ln : LnAt W p b n R g
  bx : BxB W b n (itA l) G Z S
  below : Below B w0 W
  runs : ∀ r, Runs l n g R Z S r → Runs l n g R (out0 l) (set0 l g) r
  bd : ∀ i, i < n → S i = true → 0 ≤ Z i ∧ Z i ≤ 1099511627776
/-- what settle leaves -/
def Settled16 (w0 : World) (b n B : Nat) (R : Int) (g : Bool) (l : List It16) (e : Ending) (W : World) : Prop :=
  (Runs l n g R (out0 l) (set0 l g) none ∧ e = .returned (.int .i64 10) ∧ Below B w0 W) ∨
  ∃ o G S, Runs l n g R (out0 l) (set0 l g) (some o) ∧ e = .returned (.int .i64 0) ∧ BxB W b n (itA l) G o S ∧ Below B w0 W ∧ ∀ i, i < n → 0 ≤ o i ∧ o i ≤ 1099511627776
theorem all_set16 {S : Nat → Bool} {n : Nat} (h : openN S n = 0) : ∀ i, i < n → S i = true := fun i hi => by
  cases e : S i with
  | true => rfl
  | false => have := (opA_openN hi e).1; omega
theorem some_open16 {S : Nat → Bool} {n : Nat} (h : 0 < openN S n) : ∃ i, i < n ∧ S i = false := ⟨_, opA_in h⟩
theorem stay_set16 (l : List It16) (g : Bool) (i : Nat) : stayB g (itA l i) (out0 l i) = set0 l g i := rfl
/-- what holds at each jump -/
def Jn16 (w0 : World) (p b n B : Nat) (R : Int) (g : Bool) (l : List It16) (N : Nat) (a : Act) (W : World) : Prop :=
  (∃ u1_ u3_ u4_ u5_ u6_ u7_ u8_ u9_ u10_ u11_ u12_ u13_ u14_ u15_ u16_ u17_ u18_ u19_ u20_ u21_ u22_ u23_ u24_ u25_ u26_ u27_ u28_ u29_ u30_ u31_ u32_ u33_ u34_ u35_ u36_ u37_ u38_ u39_ u40_ u41_ u42_ u43_ u44_ u45_ u46_ : Value, a = { tmps := #[.pointer (some ⟨p, 0, none⟩), u1_, .int .i64 0, u3_, u4_, u5_, u6_, u7_, u8_, u9_, u10_, u11_, u12_, u13_, u14_, u15_, u16_, u17_, u18_, u19_, u20_, u21_, u22_, u23_, u24_, u25_, u26_, u27_, u28_, u29_, u30_, u31_, u32_, u33_, u34_, u35_, u36_, u37_, u38_, u39_, u40_, u41_, u42_, u43_, u44_, u45_, u46_], defers := [] }) ∧ ∃ G Z S, St16 w0 W p b n B R g l G Z S ∧ openN S n ≤ N
set_option maxRecDepth 100000 in
set_option maxHeartbeats 16000000 in
theorem settle16 {w : World} {p b n B : Nat} {R : Int} {g : Bool} {l : List It16} (hl : LnAt w p b n R g) (hb : BxB w b n (itA l) (fun _ => 0) (out0 l) (fun _ => false)) (hn : n ≤ 2048) (hR : -9007199254740992 ≤ R ∧ R ≤ 9007199254740992)
    (hgd : ∀ i, i < n → GoodT (itA l i)) (hB : B ≤ b) (hpb : p ≠ b) :
    Calls Try.prog 28 #[.pointer (some ⟨p, 0, none⟩)] w (Settled16 w b n B R g l) := by
  have HL := Lib.hid hl
  have HB := Lib.hid hb
  have HGD := Lib.hid hgd
  have HN := Lib.hid (And.intro hB hpb)
  have HR := Lib.hid hR
  have LBW : Hid (B ≤ w.heap.size) := Lib.hid (Nat.le_trans hB (Nat.le_of_lt hb.lt))
  have l0 := hl.c0
  clear hl hb hgd hB hpb hR
  go_enter Try.func28, Try.ntmps28
  go_wp2_with fail
  refine wp_scope_label 0 (Jn16 w p b n B R g l) rfl ?_ ?_
  · intro KA hKA
    have HKA := Lib.hid hKA
    clear hKA
    go_wp2_with fail
    clear l0
    go_loopg [11] n (fun g1 vi wr => ∃ k : Nat, vi = .int .i64 k ∧ k ≤ n ∧ n - k ≤ g1 ∧ Hid (BxB wr b n (itA l) (fun _ => 0) (out0 l) (fun i => if i < k then set0 l g i else false)) ∧ Hid (But2 B b b w wr))
    case atStart => exact ⟨0, rfl, by omega, by omega, Lib.hid (BxB.congr HB.out (fun _ _ => rfl) (fun _ _ => rfl) (fun i _ => by simp)), Lib.hid (But2.refl _ _ _ _)⟩
    case round =>
      obtain ⟨k, rfl, hk, hg1, BX, BT⟩ := hrel
      obtain ⟨wo, hwo⟩ : ∃ wo, wo = wr := ⟨_, rfl⟩
      subst hwo
      by_cases hlt : k < n
      · have hkz : (k : Int) < n := by omega
        have hk0 : (0 : Int) ≤ k := by omega
        have wi : IntKind.i64.wrap ((k : Int) + 1) = (k : Int) + 1 := IntWalk.i64_in _ (by omega)
        have LN := Lib.hid (HL.out.but BT.out HN.out.2)
        have KS := Lib.hid (fun W (hW : Below wo.heap.size wo W) => stays16 (LN.out.keep hW) ((BX.out.keep hW).at hlt))
        rw [stay_set16] at KS
        obtain ⟨u, hu⟩ : ∃ u, set0 l g k = u := ⟨_, rfl⟩
        rw [hu] at KS
        have NX : Hid (∀ W', BxB W' b n (itA l) (fun _ => 0) (out0 l) (fun i => if i = k then u else if i < k then set0 l g i else false) → BxB W' b n (itA l) (fun _ => 0) (out0 l) (fun i => if i < k + 1 then set0 l g i else false)) := Lib.hid (fun W' h => BxB.congr h (fun _ _ => rfl) (fun _ _ => rfl) (fun i _ => by
          by_cases e : i = k
          · subst e; rw [if_pos rfl, if_pos (by omega)]; exact hu.symm
          · by_cases h : i < k
            · rw [if_neg e, if_pos h, if_pos (by omega)]
            · rw [if_neg e, if_neg h, if_neg (by omega)]))
        clear hu
        have CT : Hid (∀ W, Below wo.heap.size wo W → W.cell? ⟨p, 0, none⟩ = some (.slice (some ⟨b, 0, none⟩) n n)) := Lib.hid (fun W hW => (LN.out.keep hW).c0)
        go_upto_region 4 with fail
        refine' wp_region_lastD [opV (.pointer (some ⟨p, 0, none⟩)), opV (.pointer (some ⟨p, 0, none⟩)), opV (.pointer (some ⟨p, 0, none⟩)), opV (.slice (some ⟨b, 0, none⟩) n n), opV (.int .i64 (k : Nat)), opV (.pointer (some ⟨p, 0, none⟩)), opV (.pointer (some ⟨p, 0, none⟩)), opV (.pointer (some ⟨p, 0, none⟩)), opV (.pointer (some ⟨p, 0, none⟩)), opV (.slice (some ⟨b, 0, none⟩) n n), opV (.int .i64 (k : Nat)), opV (.pointer (some ⟨b, k * 9, none⟩)), opV (.bool u), opV (.pointer (some ⟨b, k * 9, none⟩)), opV (.pointer (some ⟨b, k * 9 + 8, none⟩))] 15 _ rfl (by kernel_rfl) rfl (by kernel_rfl) ⟨?s0, ?s1, ?s2, ?s3, ?s4, ?s5, ?s6, ?s7, ?s8, ?s9, ?s10, ?s11, ?s12, ?s13, ?s14, trivial⟩ rfl ?fin
        case s0 =>
          refine BStep.of [] [] (opV (.pointer (some ⟨p, 0, none⟩))) (by kernel_rfl) (fun _ _ => by kernel_rfl) rfl ?_
          intro vs wv hB hA
          clear hA
          simp only [fillP]
          have l0 := CT.out wv hB; clear CT NX KS BX BT LN; go_wp2_with fail; exact postB_val (by first | rfl | simp) (Below.refl _ _)
        case s1 =>
          refine BStep.of [0] [(14, 0)] (opV (.pointer (some ⟨p, 0, none⟩))) (by kernel_rfl) (fun _ _ => by kernel_rfl) rfl ?_
          intro vs wv hB hA
          have h0 : vs 0 = _ := hA.1
          clear hA
          simp only [fillP, List.setIfInBounds_toArray, List.set_cons_zero, List.set_cons_succ, h0]
          have l0 := CT.out wv hB; clear CT NX KS BX BT LN; go_wp2_with fail; exact postB_val (by first | rfl | simp) (Below.refl _ _)
        case s2 =>
          refine BStep.of [1] [(15, 1)] (opV (.pointer (some ⟨p, 0, none⟩))) (by kernel_rfl) (fun _ _ => by kernel_rfl) rfl ?_
          intro vs wv hB hA
          have h1 : vs 1 = _ := hA.1
          clear hA
          simp only [fillP, List.setIfInBounds_toArray, List.set_cons_zero, List.set_cons_succ, h1]
          have l0 := CT.out wv hB; clear CT NX KS BX BT LN; go_wp2_with fail; exact postB_val (by first | rfl | simp) (Below.refl _ _)
        case s3 =>
          refine BStep.of [2] [(16, 2)] (opV (.slice (some ⟨b, 0, none⟩) n n)) (by kernel_rfl) (fun _ _ => by kernel_rfl) rfl ?_
          intro vs wv hB hA
          have h2 : vs 2 = _ := hA.1
          clear hA
          simp only [fillP, List.setIfInBounds_toArray, List.set_cons_zero, List.set_cons_succ, h2]
          have l0 := CT.out wv hB; clear CT NX KS BX BT LN; go_wp2_with fail; exact postB_val (by first | rfl | simp) (Below.refl _ _)
        case s4 =>
          refine BStep.of [] [] (opV (.int .i64 (k : Nat))) (by kernel_rfl) (fun _ _ => by kernel_rfl) rfl ?_
          intro vs wv hB hA
          clear hA
          simp only [fillP]
          have l0 := CT.out wv hB; clear CT NX KS BX BT LN; go_wp2_with fail; exact postB_val (by first | rfl | simp) (Below.refl _ _)
        case s5 =>
          refine BStep.of [] [] (opV (.pointer (some ⟨p, 0, none⟩))) (by kernel_rfl) (fun _ _ => by kernel_rfl) rfl ?_
          intro vs wv hB hA
          clear hA
          simp only [fillP]
          have l0 := CT.out wv hB; clear CT NX KS BX BT LN; go_wp2_with fail; exact postB_val (by first | rfl | simp) (Below.refl _ _)
        case s6 =>
          refine BStep.of [] [] (opV (.pointer (some ⟨p, 0, none⟩))) (by kernel_rfl) (fun _ _ => by kernel_rfl) rfl ?_
          intro vs wv hB hA
          clear hA
          simp only [fillP]
          have l0 := CT.out wv hB; clear CT NX KS BX BT LN; go_wp2_with fail; exact postB_val (by first | rfl | simp) (Below.refl _ _)
        case s7 =>
          refine BStep.of [6] [(20, 6)] (opV (.pointer (some ⟨p, 0, none⟩))) (by kernel_rfl) (fun _ _ => by kernel_rfl) rfl ?_
          intro vs wv hB hA
          have h6 : vs 6 = _ := hA.1
          clear hA
          simp only [fillP, List.setIfInBounds_toArray, List.set_cons_zero, List.set_cons_succ, h6]
          have l0 := CT.out wv hB; clear CT NX KS BX BT LN; go_wp2_with fail; exact postB_val (by first | rfl | simp) (Below.refl _ _)
        case s8 =>
          refine BStep.of [7] [(21, 7)] (opV (.pointer (some ⟨p, 0, none⟩))) (by kernel_rfl) (fun _ _ => by kernel_rfl) rfl ?_
          intro vs wv hB hA
          have h7 : vs 7 = _ := hA.1
          clear hA
          simp only [fillP, List.setIfInBounds_toArray, List.set_cons_zero, List.set_cons_succ, h7]
          have l0 := CT.out wv hB; clear CT NX KS BX BT LN; go_wp2_with fail; exact postB_val (by first | rfl | simp) (Below.refl _ _)
        case s9 =>
          refine BStep.of [8] [(22, 8)] (opV (.slice (some ⟨b, 0, none⟩) n n)) (by kernel_rfl) (fun _ _ => by kernel_rfl) rfl ?_
          intro vs wv hB hA
          have h8 : vs 8 = _ := hA.1
          clear hA
          simp only [fillP, List.setIfInBounds_toArray, List.set_cons_zero, List.set_cons_succ, h8]
          have l0 := CT.out wv hB; clear CT NX KS BX BT LN; go_wp2_with fail; exact postB_val (by first | rfl | simp) (Below.refl _ _)
        case s10 =>
          refine BStep.of [] [] (opV (.int .i64 (k : Nat))) (by kernel_rfl) (fun _ _ => by kernel_rfl) rfl ?_
          intro vs wv hB hA
          clear hA
          simp only [fillP]
          have l0 := CT.out wv hB; clear CT NX KS BX BT LN; go_wp2_with fail; exact postB_val (by first | rfl | simp) (Below.refl _ _)
        case s11 =>
          refine BStep.of [9, 10] [(23, 9), (24, 10)] (opV (.pointer (some ⟨b, k * 9, none⟩))) (by kernel_rfl) (fun _ _ => by kernel_rfl) rfl ?_
          intro vs wv hB hA
          have h9 : vs 9 = _ := hA.1
          have h10 : vs 10 = _ := hA.2.1
          clear hA
          simp only [fillP, List.setIfInBounds_toArray, List.set_cons_zero, List.set_cons_succ, h9, h10]
          have l0 := CT.out wv hB; clear CT NX KS BX BT LN; go_wp2_with fail; exact postB_val (by first | rfl | simp) (Below.refl _ _)
        case s12 =>
          refine BStep.of [5, 11] [(19, 5), (25, 11)] (opV (.bool u)) (by kernel_rfl) (fun _ _ => by kernel_rfl) rfl ?_
          intro vs wv hB hA
          have h5 : vs 5 = _ := hA.1
          have h11 : vs 11 = _ := hA.2.1
          clear hA
          simp only [fillP, List.setIfInBounds_toArray, List.set_cons_zero, List.set_cons_succ, h5, h11]
          clear CT NX BX BT LN; (go_wp2_with (go_at_call 37; (with_reducible refine (KS.out _ hB).mono ?_); rintro e w7 ⟨rfl, hb⟩)); exact postB_val rfl hb
        case s13 =>
          refine BStep.of [0, 1, 2, 3, 4, 5, 6, 7, 8, 9, 10, 11, 12] [(14, 0), (15, 1), (16, 2), (17, 3), (18, 4), (19, 5), (20, 6), (21, 7), (22, 8), (23, 9), (24, 10), (25, 11), (26, 12)] (opV (.pointer (some ⟨b, k * 9, none⟩))) (by kernel_rfl) (fun _ _ => by kernel_rfl) rfl ?_
          intro vs wv hB hA
          have h0 : vs 0 = _ := hA.1
          have h1 : vs 1 = _ := hA.2.1
          have h2 : vs 2 = _ := hA.2.2.1
          have h3 : vs 3 = _ := hA.2.2.2.1
          have h4 : vs 4 = _ := hA.2.2.2.2.1
          have h5 : vs 5 = _ := hA.2.2.2.2.2.1
          have h6 : vs 6 = _ := hA.2.2.2.2.2.2.1
          have h7 : vs 7 = _ := hA.2.2.2.2.2.2.2.1
          have h8 : vs 8 = _ := hA.2.2.2.2.2.2.2.2.1
          have h9 : vs 9 = _ := hA.2.2.2.2.2.2.2.2.2.1
          have h10 : vs 10 = _ := hA.2.2.2.2.2.2.2.2.2.2.1
          have h11 : vs 11 = _ := hA.2.2.2.2.2.2.2.2.2.2.2.1
          have h12 : vs 12 = _ := hA.2.2.2.2.2.2.2.2.2.2.2.2.1
          clear hA
          simp only [fillP, List.setIfInBounds_toArray, List.set_cons_zero, List.set_cons_succ, h0, h1, h2, h3, h4, h5, h6, h7, h8, h9, h10, h11, h12]
          have l0 := CT.out wv hB; clear CT NX KS BX BT LN; go_wp2_with fail; exact postB_val (by first | rfl | simp) (Below.refl _ _)
        case s14 =>
          refine BStep.of [0, 1, 2, 3, 4, 5, 6, 7, 8, 9, 10, 11, 12, 13] [(14, 0), (15, 1), (16, 2), (17, 3), (18, 4), (19, 5), (20, 6), (21, 7), (22, 8), (23, 9), (24, 10), (25, 11), (26, 12), (27, 13)] (opV (.pointer (some ⟨b, k * 9 + 8, none⟩))) (by kernel_rfl) (fun _ _ => by kernel_rfl) rfl ?_
          intro vs wv hB hA
          have h0 : vs 0 = _ := hA.1
          have h1 : vs 1 = _ := hA.2.1
          have h2 : vs 2 = _ := hA.2.2.1
          have h3 : vs 3 = _ := hA.2.2.2.1
          have h4 : vs 4 = _ := hA.2.2.2.2.1
          have h5 : vs 5 = _ := hA.2.2.2.2.2.1
          have h6 : vs 6 = _ := hA.2.2.2.2.2.2.1
          have h7 : vs 7 = _ := hA.2.2.2.2.2.2.2.1
          have h8 : vs 8 = _ := hA.2.2.2.2.2.2.2.2.1
          have h9 : vs 9 = _ := hA.2.2.2.2.2.2.2.2.2.1
          have h10 : vs 10 = _ := hA.2.2.2.2.2.2.2.2.2.2.1
          have h11 : vs 11 = _ := hA.2.2.2.2.2.2.2.2.2.2.2.1
          have h12 : vs 12 = _ := hA.2.2.2.2.2.2.2.2.2.2.2.2.1
          have h13 : vs 13 = _ := hA.2.2.2.2.2.2.2.2.2.2.2.2.2.1
          clear hA
          simp only [fillP, List.setIfInBounds_toArray, List.set_cons_zero, List.set_cons_succ, h0, h1, h2, h3, h4, h5, h6, h7, h8, h9, h10, h11, h12, h13]
          have l0 := CT.out wv hB; clear CT NX KS BX BT LN; go_wp2_with fail; exact postB_val (by first | rfl | simp) (Below.refl _ _)
        case fin =>
          refine last_of [0, 1, 2, 3, 4, 5, 6, 7, 8, 9, 10, 11, 12, 13, 14] [(14, 0), (15, 1), (16, 2), (17, 3), (18, 4), (19, 5), (20, 6), (21, 7), (22, 8), (23, 9), (24, 10), (25, 11), (26, 12), (27, 13), (28, 14)] (by kernel_rfl) (fun _ _ => by kernel_rfl) ?_
          intro vs wv hB hA
          have h0 : vs 0 = _ := hA.1
          have h1 : vs 1 = _ := hA.2.1
          have h2 : vs 2 = _ := hA.2.2.1
          have h3 : vs 3 = _ := hA.2.2.2.1
          have h4 : vs 4 = _ := hA.2.2.2.2.1
          have h5 : vs 5 = _ := hA.2.2.2.2.2.1
          have h6 : vs 6 = _ := hA.2.2.2.2.2.2.1
          have h7 : vs 7 = _ := hA.2.2.2.2.2.2.2.1
          have h8 : vs 8 = _ := hA.2.2.2.2.2.2.2.2.1
          have h9 : vs 9 = _ := hA.2.2.2.2.2.2.2.2.2.1
          have h10 : vs 10 = _ := hA.2.2.2.2.2.2.2.2.2.2.1
          have h11 : vs 11 = _ := hA.2.2.2.2.2.2.2.2.2.2.2.1
          have h12 : vs 12 = _ := hA.2.2.2.2.2.2.2.2.2.2.2.2.1
          have h13 : vs 13 = _ := hA.2.2.2.2.2.2.2.2.2.2.2.2.2.1
          have h14 : vs 14 = _ := hA.2.2.2.2.2.2.2.2.2.2.2.2.2.2.1
          clear hA
          simp only [fillP, List.setIfInBounds_toArray, List.set_cons_zero, List.set_cons_succ, h0, h1, h2, h3, h4, h5, h6, h7, h8, h9, h10, h11, h12, h13, h14]
          have BXv := Lib.hid (BX.out.keep hB); have BTv := Lib.hid (BT.out.next LBW.out hB); clear BX BT CT LN KS hB
          have BX3 := Lib.hid (NX.out _ (BXv.out.setS hlt u))
          have BT3 := Lib.hid (BTv.out.cellA HN.out.1 (k * 9 + 8) (.bool u))
          have c8 := (BXv.out.at hlt).2.2.2.2.2.2.2.2
          have f8 := BXv.out.fro hlt (show 8 < 9 by omega)
          clear BXv BTv NX
          go_wp2_with fail
          go_roundg (n - (k + 1))
          case measure => omega
          case rel => exact ⟨k + 1, by go_num, by omega, Nat.le_refl _, BX3, BT3⟩
      · obtain rfl : k = n := by omega
        have hz : ¬ (k : Int) < k := by omega
        have BF : Hid (BxB wo b k (itA l) (fun _ => 0) (out0 l) (set0 l g)) := Lib.hid (BxB.congr BX.out (fun _ _ => rfl) (fun _ _ => rfl) (fun i hi => if_pos hi))
        have ST : Hid (St16 w wo p b k B R g l (fun _ => 0) (out0 l) (set0 l g)) := Lib.hid ⟨HL.out.but BT.out HN.out.2, BF.out, BT.out.below, fun _ h => h, fun i hi _ => (HGD.out i hi).c _⟩
        clear BX BF
        go_wp2_with fail
        exact HKA.out _ _ _ ⟨⟨_, _, _, _, _, _, _, _, _, _, _, _, _, _, _, _, _, _, _, _, _, _, _, _, _, _, _, _, _, _, _, _, _, _, _, _, _, _, _, _, _, _, _, _, _, rfl⟩, _, _, _, ST.out, Nat.le_refl _⟩
  · intro N a W hJ
    obtain ⟨⟨u1_, u3_, u4_, u5_, u6_, u7_, u8_, u9_, u10_, u11_, u12_, u13_, u14_, u15_, u16_, u17_, u18_, u19_, u20_, u21_, u22_, u23_, u24_, u25_, u26_, u27_, u28_, u29_, u30_, u31_, u32_, u33_, u34_, u35_, u36_, u37_, u38_, u39_, u40_, u41_, u42_, u43_, u44_, u45_, u46_, rfl⟩, G, Z, S, hST, hN⟩ := hJ
    have ST := Lib.hid hST
    have ON := Lib.hid hN
    clear hST hN l0
    have O1 := Lib.hid (open16 ST.out.ln ST.out.bx hn)
    obtain ⟨m, hm⟩ : ∃ m, openN S n = m := ⟨_, rfl⟩
    have MN := Lib.hid hm
    by_cases h0 : m = 0
    · subst h0
      go_wp2_with (go_at_call 38; (with_reducible refine O1.out.mono ?_); rintro e w1 ⟨v1, rfl, hO, hb⟩; obtain ⟨A1, c1, rfl⟩ : ∃ A c, v1 = .slice A 0 c := (by obtain ⟨A, c, e, -⟩ := own_form hO; exact ⟨A, c, by rw [e, opensL_len, MN.out]⟩); have B1 := Lib.hid hb; clear hO hb)
      simp only [Exit.jump]
      go_ret
      exact .inr ⟨Z, G, S, ST.out.runs _ (.done _ _ (all_set16 MN.out)), rfl, ST.out.bx.keep B1.out, ST.out.below.trans (B1.out.mono (Nat.le_trans LBW.out ST.out.below.size)), fun i hi => ST.out.bd i hi (all_set16 MN.out i hi)⟩
    · have hm0 : 0 < m := by omega
      have mz : ¬ (m : Int) = 0 := by omega
      have mze : ((m : Int) == 0) = false := by simp; omega
      have mn : m ≤ 2048 := by have := openN_at S n; omega
      have OE := Lib.hid (some_open16 (S := S) (n := n) (by omega))
      have LW : Hid (B ≤ W.heap.size) := Lib.hid (Nat.le_trans LBW.out ST.out.below.size)
      clear h0
      go_upto_region 7 with (go_at_call 38; (with_reducible refine O1.out.mono ?_); rintro e w1 ⟨v1, rfl, hO, hb⟩; obtain ⟨o1, c1, rfl, hge, hOp⟩ : ∃ o c, v1 = .slice (some ⟨o, 0, none⟩) m c ∧ W.heap.size ≤ o ∧ OpB16 w1 o b m (opA S n) := (by have h := own_open16 hO (by rw [MN.out]; exact hm0); rw [MN.out] at h; exact h); have B1 := Lib.hid hb; have OP := Lib.hid hOp; have OG := Lib.hid hge; clear hO hb hOp hge)
      clear O1
      have ln1 := ST.out.ln.keep B1.out
      have bx1 := ST.out.bx.keep B1.out
      have KL := Lib.hid (left16 ln1 bx1 hn HR.out HGD.out ST.out.bd)
      obtain ⟨t, ht⟩ : ∃ t, left0 l n R Z S = t := ⟨_, rfl⟩
      rw [ht] at KL
      have TB : -11258999068426240 ≤ t ∧ t ≤ 11258999068426240 := by
        rw [← ht]
        exact leftP_bd (l := l) (R := R) (out := Z) (S := S) (k := n) hn HR.out HGD.out ST.out.bd
      have HT := Lib.hid ht
      obtain ⟨fit, hfit⟩ : ∃ fit, decide (Fit t) = fit := ⟨_, rfl⟩
      have KF := Lib.hid (fun W => fits_any _ _ 1 _ _ (Ints.one W t (by omega) 3) (by omega) fit (by rw [← hfit]; unfold allFit; simp))
      have HFT := Lib.hid hfit
      clear ht ln1 bx1 TB hfit
      go_upto_region 10 with (go_at_call 39; (with_reducible refine KL.out.mono ?_); rintro e w2 ⟨rfl, hb⟩; have B2 := Lib.hid (b_nx16 B1.out hb); have OP2 := Lib.hid (CellsB.keep OP.out hb); clear hb)
      clear KL
      have B3 : Hid (Below W.heap.size W (w2.alloc (.cells #[.int .i64 t] 3))) := Lib.hid (B2.out.alloc B2.out.size _)
      have OP3 : Hid (OpB16 (w2.alloc (.cells #[.int .i64 t] 3)) o1 b m (opA S n)) := Lib.hid (CellsB.keep OP2.out ((Below.refl _ w2).alloc (Nat.le_refl _) _))
      have KF2 := Lib.hid (KF.out w2)
      clear KF B1 B2 OP OP2
      cases fit with
      | false =>
        go_wp2_with (go_at_call 24; (with_reducible refine KF2.out.mono ?_); rintro e w4 ⟨rfl, hw⟩; have B4 : Hid (Below W.heap.size W w4) := Lib.hid (by rw [← hw]; exact B3.out); clear hw)
        simp only [Exit.jump]
        go_ret
        exact .inl ⟨ST.out.runs _ (.far _ _ OE.out (by rw [HT.out]; exact of_decide_eq_false HFT.out)), rfl, ST.out.below.trans (B4.out.mono LW.out)⟩
      | true =>
        have hft : Fit t := of_decide_eq_true HFT.out
        go_upto_region 12 with (go_at_call 24; (with_reducible refine KF2.out.mono ?_); rintro e w4 ⟨rfl, hw⟩; have B4 : Hid (Below W.heap.size W w4) := Lib.hid (by rw [← hw]; exact B3.out); have OP4 : Hid (OpB16 w4 o1 b m (opA S n)) := Lib.hid (by rw [← hw]; exact OP3.out); clear hw)
        clear KF2 B3 OP3
        have NOB : Hid (o1 ≠ b) := Lib.hid (by have := OG.out; have := ST.out.bx.lt; omega)
        have KG := Lib.hid (give16 (c := c1) (ST.out.ln.keep B4.out) (ST.out.bx.keep B4.out) OP4.out MN.out hn HGD.out t hft HN.out.1 NOB.out)
        go_upto_region 13 with (go_at_call 40; refine KG.out.mono ?_; rintro e w5 ⟨rfl, X, hX, hBX, hBT⟩; have HX := Lib.hid hX; have BX5 := Lib.hid hBX; have BT5 := Lib.hid hBT; clear hX hBX hBT)
        clear KG
        have XB := Lib.hid (share_bd16 HX.out (fit_leftG hft) hn)
        have KC := Lib.hid (changes16 (c := c1) (ch := chR l S X) BX5.out (CellsB.but2 OP4.out BT5.out NOB.out NOB.out) MN.out hn (fun i hi hs => by
          have h1 := (HGD.out i hi).hbase
          have h2 := (HGD.out i hi).c ((itA l i).base + X i)
          have h3 := XB.out i hi
          unfold outR goalR chR
          rw [hs, if_neg (by decide), if_neg (by decide), if_neg (by decide)]
          omega) HN.out.1 NOB.out)
        go_wp2_with (go_at_call 41; refine KC.out.mono ?_; rintro e w6 ⟨rfl, hBX, hBT⟩; have BX6 := Lib.hid hBX; have BT6 := Lib.hid hBT; clear hBX hBT)
        clear KC
        have SE : Hid (∀ i, i < n → (if S i = true then S i else setB16 (sumZ (fun i => if S i = true then 0 else chR l S X i) n) (chR l S X i)) = setR l n S X i) := Lib.hid (fun i hi => by
          have es : sumZ (fun i => if S i = true then 0 else chR l S X i) n = sumB (chR l S X) n := by
            rw [← sumZ_B]
            refine sumZ_congr (fun i _ => ?_)
            split
            · next h => unfold chR; rw [if_pos h]
            · rfl
          rw [es, setB_iff]
          unfold setR
          cases e : S i with
          | true => rw [if_pos rfl]; rfl
          | false => rw [if_neg (by decide), Bool.false_or])
        have ST6 : Hid (St16 w w6 p b n B R g l (goalR l G S X) (outR l Z S X) (setR l n S X)) := Lib.hid ⟨((ST.out.ln.keep B4.out).but BT5.out HN.out.2).but BT6.out HN.out.2, BxB.congr BX6.out (fun _ _ => rfl) (fun _ _ => rfl) SE.out, ((ST.out.below.trans (B4.out.mono LW.out)).trans BT5.out.below).trans BT6.out.below,
          fun r hr => ST.out.runs r (.round _ _ X r OE.out (by rw [HT.out]; exact hft) (by rw [HT.out]; exact HX.out) hr), fun i hi _ => by
            unfold outR
            split
            · next h => exact ST.out.bd i hi h
            · exact (HGD.out i hi).c _⟩
        have LT : Hid (openN (setR l n S X) n < N) := Lib.hid (by
          obtain ⟨i, hi, h1, h2⟩ := setR_some (l := l) (n := n) (S := S) (X := X) OE.out
          exact Nat.lt_of_lt_of_le (openN_lt h1 h2 hi setR_keep) ON.out)
        go_step3
        exact ⟨rfl, _, LT.out, ⟨_, _, _, _, _, _, _, _, _, _, _, _, _, _, _, _, _, _, _, _, _, _, _, _, _, _, _, _, _, _, _, _, _, _, _, _, _, _, _, _, _, _, _, _, _, rfl⟩, _, _, _, ST6.out, Nat.le_refl _⟩
end

section
open Go.RowKit

theorem whole_own16 {W : World} {g n B : Nat} {f : Nat → Int} (h : Whole W g 3 (cellsOf .i64 n f)) (hB : B ≤ g) (hn : n ≤ 1000000) : ownsI16 W B (.slice (some ⟨g, 0, none⟩) n n) (listF f n) := by
  unfold ownsI16
  rw [listF_len]
  refine ⟨by rw [List.length_map, listF_len, Nat.mul_one], .inr ⟨g, n, cellsOf .i64 n f, rfl, hB, h, Nat.le_refl _, by unfold maxLen; omega, by rw [Nat.mul_one]; simp [cellsOf], ?_⟩⟩
  apply List.ext_getElem?
  intro i
  rw [Nat.mul_one]
  by_cases hi : i < n
  · rw [List.getElem?_take_of_lt hi, Array.getElem?_toList, cellsOf_get hi, List.getElem?_map, listF_get f hi]
    rfl
  · rw [List.getElem?_eq_none (by simp [cellsOf]; omega), List.getElem?_eq_none (by rw [List.length_map, listF_len]; omega)]
/-- a bool that says so -/
def SaysT (P : Prop) (b : Bool) : Prop := b = true ↔ P
theorem SaysT.yes {P : Prop} (h : SaysT P true) : P := h.1 rfl
theorem ask_split {l : List It16} {gap room : Int} (h : ¬ (2048 < l.length ∨ gap < 0 ∨ room < -1)) {r1 r2 f : Bool} (hr1 : r1 = true ↔ ∃ j, j < l.length ∧ BadT (itA l j)) (hr2 : r2 = true ↔ ∃ j, j < l.length ∧ ¬ FitT (itA l j)) (hf : f = true ↔ Fit gap ∧ Fit room) :
    askT l gap room = if r1 = true then 2 else if f = false ∨ r2 = true then 10 else 0 := by
  by_cases c1 : r1 = true
  · obtain ⟨j, hj, hb⟩ := hr1.1 c1
    rw [if_pos c1, askT_bad hj hb]
  · rw [if_neg c1]
    have hn : ∀ j, j < l.length → ¬ BadT (itA l j) := fun j hj hb => c1 (hr1.2 ⟨j, hj, hb⟩)
    by_cases c2 : f = false ∨ r2 = true
    · rw [if_pos c2, askT_end h hn (far := true) (by
        refine ⟨fun _ => ?_, fun _ => rfl⟩
        rcases c2 with c2 | c2
        · refine .inl ?_
          by_cases hg : Fit gap
          · exact .inr (fun hr => by rw [hf.2 ⟨hg, hr⟩] at c2; cases c2)
          · exact .inl hg
        · exact .inr (hr2.1 c2))]
      rfl
    · rw [if_neg c2, askT_end h hn (far := false) (by
        refine ⟨fun e => by (cases e), fun e => ?_⟩
        exfalso
        rcases e with (e | e) | e
        · exact c2 (.inl (by cases hff : f with | false => rfl | true => exact absurd (hf.1 hff).1 e))
        · exact c2 (.inl (by cases hff : f with | false => rfl | true => exact absurd (hf.1 hff).2 e))
        · exact c2 (.inr (hr2.2 e)))]
      rfl
set_option maxRecDepth 100000 in
set_option maxHeartbeats 16000000 in
theorem sizes16_ok : SizesOK 11 := by
  intro l v gap room w hv hn hbig hg hr
  have HV := Lib.hid hv
  have HBIG : Hid (∀ i, i < l.length → Big16 (itA l i)) := Lib.hid hbig
  obtain ⟨A, c, rfl, -, -, -⟩ := hv
  have HG := Lib.hid hg
  have HR := Lib.hid hr
  have NIL : Hid (∀ W, ownsI16 W w.heap.size (.slice none 0 0) []) := Lib.hid (fun W => ⟨rfl, .inl ⟨rfl, rfl⟩⟩)
  obtain ⟨n, en⟩ : ∃ n, l.length = n := ⟨_, rfl⟩
  have HL := Lib.hid en
  clear hbig hg hr
  rw [en] at HV hn ⊢
  clear en
  by_cases h1 : 2048 < l.length ∨ gap < 0 ∨ room < -1
  · have SZ : Hid (SizesIs l gap room [] 2) := Lib.hid (by have e := askT_args h1; rw [← e]; exact .bad (by rw [e]; decide))
    rw [HL.out] at h1
    by_cases a1 : 2048 < n
    · have hz : decide ((2048 : Int) < n) = true := decide_eq_true (by omega)
      have hz' : (2048 : Int) < n := by omega
      clear h1 a1
      go_enter Try.func11, Try.ntmps11
      go_wp2_with fail
      go_ret2
      exact ⟨_, [], 2, rfl, SZ.out, NIL.out _, Below.refl _ _⟩
    · have hz : decide ((2048 : Int) < n) = false := decide_eq_false (by omega)
      have hz' : ¬ (2048 : Int) < n := by omega
      by_cases a2 : gap < 0
      · have d2 : decide (gap < 0) = true := decide_eq_true a2
        clear h1 a1 a2
        go_enter Try.func11, Try.ntmps11
        go_wp2_with fail
        go_ret2
        exact ⟨_, [], 2, rfl, SZ.out, NIL.out _, Below.refl _ _⟩
      · have d2 : decide (gap < 0) = false := decide_eq_false a2
        have a3 : room < -1 := by omega
        have d3 : decide (room < -1) = true := decide_eq_true a3
        clear h1 a1 a2 a3
        go_enter Try.func11, Try.ntmps11
        go_wp2_with fail
        go_ret2
        exact ⟨_, [], 2, rfl, SZ.out, NIL.out _, Below.refl _ _⟩
  · have K1 := Lib.hid (fun W (h : TmIn W (.slice A n c) l) => anyWrong16 l _ W h (by omega) HBIG.out)
    have K2 := Lib.hid (fun W (h : TmIn W (.slice A n c) l) => anyOver16 l _ W h (by omega) HBIG.out)
    have AS := Lib.hid (fun r1 r2 f => ask_split (r1 := r1) (r2 := r2) (f := f) h1)
    have hz : decide ((2048 : Int) < n) = false := decide_eq_false (by have := HL.out; omega)
    have hz' : ¬ (2048 : Int) < n := by have := HL.out; omega
    have d2 : decide (gap < 0) = false := decide_eq_false (by omega)
    have d3 : decide (room < -1) = false := decide_eq_false (by omega)
    have NL : Hid (n ≤ 2048) := Lib.hid (by omega)
    obtain ⟨f, hf⟩ : ∃ f, decide (∀ y ∈ [gap, room], Fit y) = f := ⟨_, rfl⟩
    have FI : Hid (SaysT (Fit gap ∧ Fit room) f) := Lib.hid (by unfold SaysT; rw [← hf, decide_eq_true_eq]; simp)
    have KF := Lib.hid (fun W => fits_any _ _ 2 _ _ (pk_new W 3 [gap, room] (by have := HG.out; have := HR.out; intro y hy; simp at hy; rcases hy with rfl | rfl <;> omega)) (by simp) f ((pk_all [gap, room]).trans hf))
    clear h1 hf
    go_enter Try.func11, Try.ntmps11
    go_upto_region 1 with fail
    have K1W := Lib.hid (K1.out w HV.out)
    clear K1
    go_wp2_with (go_at_call 22; (with_reducible refine K1W.out.mono ?_); rintro e w1 ⟨r1, rfl, hr1, hb⟩; have R1 : Hid (SaysT (∃ j, j < l.length ∧ BadT (itA l j)) r1) := Lib.hid hr1; have B1 := Lib.hid hb; have V1 := Lib.hid (HV.out.keep hb); clear hr1 hb; cases r1)
    rotate_left
    · obtain ⟨j, hj, hjb⟩ := R1.out.yes
      have SZ : Hid (SizesIs l gap room [] 2) := Lib.hid (by have e := askT_bad (gap := gap) (room := room) hj hjb; rw [← e]; exact .bad (by rw [e]; decide))
      clear K1W K2 AS KF R1 hj hjb
      go_wp2_with fail
      go_ret2
      exact ⟨_, [], 2, rfl, SZ.out, NIL.out _, B1.out⟩
    clear K1W
    have B2 : Hid (Below w.heap.size w (w1.alloc (.cells #[.int .i64 gap, .int .i64 room] 3))) := Lib.hid (B1.out.alloc B1.out.size _)
    have V2 : Hid (TmIn (w1.alloc (.cells #[.int .i64 gap, .int .i64 room] 3)) (.slice A n c) l) := Lib.hid (V1.out.keep ((Below.refl _ w1).alloc (Nat.le_refl _) _))
    have KF1 := Lib.hid (KF.out w1)
    clear KF
    cases f with
    | false =>
      have SZ : Hid (∀ r2 : Bool, (r2 = true ↔ ∃ j, j < l.length ∧ ¬ FitT (itA l j)) → SizesIs l gap room [] 10) := Lib.hid (fun r2 h2 => by
        have e := AS.out false r2 false R1.out h2 FI.out
        rw [if_neg (by decide), if_pos (.inl rfl)] at e
        rw [← e]
        exact .bad (by rw [e]; decide))
      have SZ2 : Hid (SizesIs l gap room [] 10) := Lib.hid (by
        classical
        exact SZ.out (decide (∃ j, j < l.length ∧ ¬ FitT (itA l j))) (by rw [decide_eq_true_eq]))
      clear SZ K2 AS R1 FI
      go_wp2_with (go_at_call 24; refine KF1.out.mono ?_; rintro e w2 ⟨rfl, hw⟩; have B3 : Hid (Below w.heap.size w w2) := Lib.hid (by rw [← hw]; exact B2.out); clear hw)
      go_ret2
      exact ⟨_, [], 10, rfl, SZ2.out, NIL.out _, B3.out⟩
    | true =>
      have K3 := Lib.hid (K2.out _ V2.out)
      clear K2
      go_wp2_with (first
        | (go_at_call 24; refine KF1.out.mono ?_; rintro e w2 ⟨rfl, hw⟩; obtain rfl := hw)
        | (go_at_call 22; (with_reducible refine K3.out.mono ?_); rintro e w3 ⟨r2, rfl, hr2, hb⟩; have R2 : Hid (SaysT (∃ j, j < l.length ∧ ¬ FitT (itA l j)) r2) := Lib.hid hr2; have B3 := Lib.hid (b_nx16 B2.out hb); have V3 := Lib.hid (V2.out.keep hb); clear hr2 hb; cases r2))
      rotate_left
      · have SZ : Hid (SizesIs l gap room [] 10) := Lib.hid (by
          have e := AS.out false true true R1.out R2.out FI.out
          rw [if_neg (by decide), if_pos (.inr rfl)] at e
          rw [← e]
          exact .bad (by rw [e]; decide))
        clear AS R1 R2 FI KF1 K3
        go_wp2_with fail
        go_ret2
        exact ⟨_, [], 10, rfl, SZ.out, NIL.out _, B3.out⟩
      have E0 : Hid (askT l gap room = 0) := Lib.hid (by
        have e := AS.out false false true R1.out R2.out FI.out
        rw [if_neg (by decide), if_neg (by simp)] at e
        exact e)
      clear AS R1 R2 FI KF1 K3 V1 V2 B1 B2
      have KB := Lib.hid (boxes16 l _ w3 V3.out (by have := HL.out; have := NL.out; omega))
      rw [HL.out] at KB
      go_upto_region 6 with (go_at_call 26; (with_reducible refine KB.out.mono ?_); rintro e w4 ⟨b, rfl, hge, hBX, hb⟩; have BX := Lib.hid hBX; have B4 := Lib.hid (b_nx16 B3.out hb); have BG := Lib.hid (Nat.le_trans B3.out.size hge); clear hge hBX hb)
      clear KB B3 V3
      by_cases h3 : room = -1
      · have d5 : (room != -1) = false := by simp [h3]
        have SZ : Hid (SizesIs l gap room (listF (out0 l) n) 0) := Lib.hid (by have h := SizesIs.wide E0.out h3; rw [HL.out] at h; exact h)
        have KZ := Lib.hid (sizes16_of b n _ _ _ _ w4 BX.out NL.out)
        clear h3
        go_wp2_with (go_at_call 29; (with_reducible refine KZ.out.mono ?_); rintro e w5 ⟨g, rfl, hge, hW, hb⟩; have B5 := Lib.hid (b_nx16 B4.out hb); have W5 := Lib.hid hW; have G5 := Lib.hid (Nat.le_trans B4.out.size hge); clear hge hW hb)
        go_ret2
        exact ⟨_, _, 0, rfl, SZ.out, whole_own16 W5.out G5.out (by have := NL.out; omega), B5.out⟩
      · have d5 : (room != -1) = true := by simp [h3]
        obtain ⟨-, hgap, hroom, hI⟩ := askT_ok E0.out
        rw [HL.out] at hI
        have HGD : Hid (∀ i, i < n → GoodT (itA l i)) := Lib.hid (fun i hi => (hI i hi).1)
        have RB : Hid (-9007199254740992 ≤ room - aroundI l gap n ∧ room - aroundI l gap n ≤ 9007199254740992) := Lib.hid (by
          have := around_bd2 (l := l) (gap := gap) (k := n) NL.out hgap (fun i hi => (hI i hi).2)
          omega)
        have H3 := Lib.hid h3
        clear hgap hroom hI h3
        have KL := Lib.hid (line16 l gap room b n w4 BX.out HL.out E0.out)
        obtain ⟨R, hR⟩ : ∃ R, room - aroundI l gap n = R := ⟨_, rfl⟩
        obtain ⟨gr, hgr⟩ : ∃ gr, growI l n gap room = gr := ⟨_, rfl⟩
        rw [hR] at RB KL
        rw [hgr] at KL
        have ER : Hid (∀ r, Runs l n gr R (out0 l) (set0 l gr) r → RunsOf l gap room r) := Lib.hid (fun r h => by
          unfold RunsOf
          rw [HL.out, hR, hgr]
          exact h)
        clear hR hgr
        go_upto_region 8 with (first
          | (go_at_call 27; (with_reducible refine KL.out.mono ?_); rintro e w5 ⟨p, rfl, hge, hLN, hb⟩; have KS := Lib.hid (settle16 (B := w.heap.size) hLN (BX.out.keep hb) NL.out RB.out HGD.out BG.out (by have := BX.out.lt; omega)); have B5 := Lib.hid (b_nx16 B4.out hb); clear hge hLN hb)
          | (go_at_call 28; (with_reducible refine KS.out.mono ?_); rintro e w6 hS; obtain ⟨z, rfl, hz⟩ : ∃ z, e = .returned (.int .i64 z) ∧ ((z = 10 ∧ Runs l n gr R (out0 l) (set0 l gr) none ∧ Below w.heap.size w5 w6) ∨ (z = 0 ∧ ∃ o G S, Runs l n gr R (out0 l) (set0 l gr) (some o) ∧ BxB w6 b n (itA l) G o S ∧ Below w.heap.size w5 w6 ∧ ∀ i, i < n → 0 ≤ o i ∧ o i ≤ 1099511627776)) := (by rcases hS with ⟨h1, h2, h3⟩ | ⟨o, G, S, h1, h2, h3, h4, h5⟩; exact ⟨10, h2, .inl ⟨rfl, h1, h3⟩⟩; exact ⟨0, h2, .inr ⟨rfl, o, G, S, h1, h3, h4, h5⟩⟩); have HZ := Lib.hid hz; clear hS hz))
        clear KL KS
        rcases HZ.out with ⟨rfl, h1, hb⟩ | ⟨rfl, o, G, S, h1, hBX, hb, ho⟩
        · have SZ : Hid (SizesIs l gap room [] 10) := Lib.hid (.far E0.out H3.out (ER.out _ h1))
          have B6 := Lib.hid (B5.out.trans hb)
          clear h1 hb HZ
          go_wp2_with fail
          go_ret2
          exact ⟨_, [], 10, rfl, SZ.out, NIL.out _, B6.out⟩
        · have SZ : Hid (SizesIs l gap room (listF o n) 0) := Lib.hid (by
            have h := SizesIs.ok o E0.out H3.out (ER.out _ h1) (fun i hi => by
              have := ho i (by have := HL.out; omega)
              unfold Fit
              omega)
            rw [HL.out] at h
            exact h)
          have KZ := Lib.hid (sizes16_of b n _ _ _ _ w6 hBX NL.out)
          have B6 := Lib.hid (B5.out.trans hb)
          clear h1 hBX hb ho HZ
          go_wp2_with (go_at_call 29; (with_reducible refine KZ.out.mono ?_); rintro e w7 ⟨g, rfl, hge, hW, hb⟩; have B7 := Lib.hid (b_nx16 B6.out hb); have W7 := Lib.hid hW; have G7 := Lib.hid (Nat.le_trans B6.out.size hge); clear hge hW hb)
          go_ret2
          exact ⟨_, _, 0, rfl, SZ.out, whole_own16 W7.out G7.out (by have := NL.out; omega), B7.out⟩
end
end Go.Proofs.Ytjlnaadpiohbnaa
