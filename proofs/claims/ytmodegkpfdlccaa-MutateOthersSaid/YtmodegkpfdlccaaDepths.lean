/-
  tree.depthsMay of the landed code.
-/
import Derived.Test.YtmodegkpfdlccaaOfNode
import Derived.Test.YtmodegkpfdlccaaSame5
import Derived.Deep.LoopGhost
namespace Go.Proofs.Ytmodegkpfdlccaa
open Go.RowKit

/-- whether it is so is told -/
def ToldB (P : Prop) (w : World) (e : Ending) (w' : World) : Prop := ∃ b : Bool, e = .returned (.bool b) ∧ (b = true ↔ P) ∧ Below w.heap.size w w'
set_option maxRecDepth 100000 in
theorem toldB {P : Prop} {w w' : World} {b : Bool} (h : b = true ↔ P) (hb : Below w.heap.size w w') : ToldB P w (.returned (.bool b)) w' := ⟨b, rfl, h, hb⟩
set_option maxRecDepth 100000 in
theorem told_no {P : Prop} {w w' : World} (h : ¬ P) (hb : Below w.heap.size w w') : ToldB P w (.returned (.bool false)) w' := toldB ⟨(fun h => by cases h), fun hp => absurd hp h⟩ hb
set_option maxRecDepth 100000 in
theorem toldB_yes {P : Prop} {w w' : World} (h : P) (hb : Below w.heap.size w w') : ToldB P w (.returned (.bool true)) w' := toldB ⟨fun _ => h, fun _ => rfl⟩ hb

/-- so many nodes are as deep as they may be -/
def DeepTo (N : Nat → RN) (k : Nat) : Prop := ∀ i, 0 < i → i < k → 1 ≤ (N i).depth ∧ (N i).depth ≤ mostBehind (N (i - 1))
def DepthsOK (N : Nat → RN) (n : Nat) : Prop := (N 0).depth = 0 ∧ (N 0).kind = 0 ∧ DeepTo N n
set_option maxRecDepth 100000 in
theorem mostBehind_le {v : RN} (h : v.depth ≤ 15) : mostBehind v ≤ 15 := by
  unfold mostBehind
  split
  · exact h
  · split <;> omega
set_option maxRecDepth 100000 in
theorem DeepTo.bd {N : Nat → RN} {k : Nat} (h : DeepTo N k) (h0 : (N 0).depth = 0) : ∀ i, i < k → 0 ≤ (N i).depth ∧ (N i).depth ≤ 15 := by
  intro i
  induction i with
  | zero => intro _; omega
  | succ i ih =>
    intro hi
    have h1 := h (i + 1) (by omega) hi
    have h2 := mostBehind_le (ih (by omega)).2
    rw [Nat.add_sub_cancel] at h1
    omega
set_option maxRecDepth 100000 in
theorem DeepTo.next {N : Nat → RN} {k : Nat} (h : DeepTo N (k + 1)) (h1 : 1 ≤ (N (k + 1)).depth) (h2 : (N (k + 1)).depth ≤ mostBehind (N k)) : DeepTo N (k + 1 + 1) := by
  intro i hi hk
  rcases Nat.lt_or_ge i (k + 1) with hl | hl
  · exact h i hi hl
  · obtain rfl : i = k + 1 := by omega
    exact ⟨h1, h2⟩
set_option maxRecDepth 100000 in
theorem node_alloc_range {W : World} {X : List Value} : (W.alloc (.cells X.toArray 32)).rangeAt W.heap.size 0 X := fun j u hu => by
  rw [World.cell?_alloc_new, Nat.zero_add]
  simpa using hu

set_option maxRecDepth 100000 in
set_option maxHeartbeats 8000000 in
theorem depths_any (A : Option Addr) (n c : Nat) (N : Nat → RN) (w : World) (hN : Nodes w A n N) (h0 : 0 < n) (hn : n ≤ 300) (hc : n ≤ c) (hcm : c ≤ 9223372036854775807) :
    Calls Try.prog 43 #[.slice A n c] w (ToldB (DepthsOK N n) w) := by
  obtain ⟨b, off, rfl, hb, hat⟩ := hN.2 h0
  have ok0 := hN.1 0 h0
  have at0 := hat 0 h0
  rw [Nat.zero_mul, Nat.add_zero] at at0
  have d0 : w.cell? ⟨b, off + 1, none⟩ = some (.int .i64 (N 0).depth) := (at0 1 (by omega)).trans rfl
  have k0 : w.cell? ⟨b, off + 2, none⟩ = some (.int .u8 (N 0).kind) := (at0 2 (by omega)).trans rfl
  have r0 : Hid (w.rangeAt b off (N 0).cells) := Lib.hid (node_range ok0 at0)
  have D0 := ok0.depth
  have K0 := ok0.kind
  have HN := Lib.hid hN
  have hnz : (1 : Int) ≤ n := by omega
  have LS : ∀ j, j < n → Hid ((Try.prog.info? 32).map (·.size) = some (N j).cells.length) := fun j hj => Lib.hid (by rw [(hN.1 j hj).len]; exact node_isize)
  have L0 := LS 0 h0
  have HL := Lib.hid LS
  clear hN hat at0 LS
  by_cases hd : (N 0).depth = 0
  · have hdd : ((N 0).depth != 0) = false := by simpa using hd
    have HD := Lib.hid hd
    clear hd
    by_cases hk : (N 0).kind = 0
    · have hkk : ((N 0).kind != 0) = false := by simpa using hk
      have HK := Lib.hid hk
      clear hk
      have C0 := Lib.hid (fun W => deepest_any (N 0) ok0 W (by have := HD.out; omega) (by have := HD.out; omega))
      clear ok0 D0 K0
      by_cases hc1 : c = 1
      · obtain rfl : n = 1 := by omega
        subst hc1
        go_enter Try.func43, Try.ntmps43
        go_wp2_with (first
          | ((with_reducible change wpList _ _ _ (Oper.mk (some 20) _ _ _ _ _ :: _) _ _); refine wpList_load_mid rfl 32 _ rfl b off rfl (N 0).cells _ r0.out Try.underlying32 rfl L0.out ?_)
          | (go_at_call 73; refine (C0.out _).mono ?_; rintro e w1 ⟨rfl, hb1⟩))
        refine wp_loop_rounds 1 ?_
        rw [rounds_succ]
        go_wp2
        go_ret
        exact toldB_yes ⟨HD.out, HK.out, fun i h1 h2 => absurd h1 (by omega)⟩ hb1
      · have hc2 : (1 : Int) < c := by omega
        have hc2n : 1 < c := by omega
        have hne1 : ¬ (c = 1) := hc1
        go_enter Try.func43, Try.ntmps43
        go_wp2_with (first
          | ((with_reducible change wpList _ _ _ (Oper.mk (some 20) _ _ _ _ _ :: _) _ _); refine wpList_load_mid rfl 32 _ rfl b off rfl (N 0).cells _ r0.out Try.underlying32 rfl L0.out ?_)
          | (go_at_call 73; refine (C0.out _).mono ?_; rintro e w1 ⟨rfl, hb1⟩))
        have B1 := Lib.hid hb1
        clear hb1 d0 k0
        go_loopg [3, 25] (n - 1) (fun g1 v3 v25 wr => ∃ k : Nat, v25 = .int .i64 k ∧ k + 1 ≤ n ∧ n - 1 - k ≤ g1 ∧ v3 = .int .i64 (mostBehind (N k)) ∧ Hid (DeepTo N (k + 1)) ∧ Hid (Below w.heap.size w wr))
        case atStart => exact ⟨0, rfl, by omega, by omega, rfl, Lib.hid (fun i h1 h2 => absurd h1 (by omega)), B1⟩
        case round =>
          obtain ⟨k, rfl, hk, hg1, rfl, DT, BW⟩ := hrel
          clear B1
          have HW := Lib.hid (HN.out.below BW.out)
          by_cases hlt : k + 1 < n
          · have hltz : (k : Int) < n - 1 := by omega
            have hkz : (k : Int) < ((n - 1 : Nat) : Int) := by omega
            have hk0 : (0 : Int) ≤ k := by omega
            obtain ⟨b', off', e', hb', hat⟩ := HW.out.2 (by omega)
            obtain ⟨rfl, rfl⟩ : b = b' ∧ off = off' := by
              simp only [Option.some.injEq, Addr.mk.injEq, and_true] at e'
              exact e'
            have okk := HW.out.1 (k + 1) hlt
            have rk : Hid (wr.rangeAt b (off + 51 + k * 51) (N (k + 1)).cells) := Lib.hid (by
              have := node_range okk (hat (k + 1) hlt)
              rwa [show off + (k + 1) * 51 = off + 51 + k * 51 by omega] at this)
            have Lk := HL.out (k + 1) hlt
            have hdk := okk.depth
            have e1 : (N (k + 1)).cells[1]? = some (.int .i64 (N (k + 1)).depth) := okk.get1
            have ones := Lib.hid (N (k + 1)).cells_one
            have hm15 := mostBehind_le (DT.out.bd HD.out k (by omega)).2
            have DC : Hid (1 ≤ (N (k + 1)).depth → (N (k + 1)).depth ≤ mostBehind (N k) → ∀ W, Calls Try.prog 73 #[.agg (N (k + 1)).cells.toArray] W fun e w' => e = .returned (.int .i64 (mostBehind (N (k + 1)))) ∧ Below W.heap.size W w') :=
              Lib.hid (fun h1 h2 W => deepest_any (N (k + 1)) okk W (by omega) (by omega))
            have XL : Hid ((N (k + 1)).cells.length = 51) := Lib.hid okk.len
            have NX : Hid (1 ≤ (N (k + 1)).depth → (N (k + 1)).depth ≤ mostBehind (N k) → DeepTo N (k + 1 + 1)) := Lib.hid (fun h1 h2 => DT.out.next h1 h2)
            have BAD : Hid (¬ (1 ≤ (N (k + 1)).depth ∧ (N (k + 1)).depth ≤ mostBehind (N k)) → ¬ DepthsOK N n) := Lib.hid (fun h hn => h (by have := hn.2.2 (k + 1) (by omega) hlt; rwa [Nat.add_sub_cancel] at this))
            clear okk hat e' hb' HW hm15
            generalize (N (k + 1)).cells = X at rk Lk e1 ones DC XL
            generalize hM2 : mostBehind (N (k + 1)) = m2 at DC ⊢
            have M2 := Lib.hid hM2
            clear hM2
            generalize (N (k + 1)).depth = D at e1 hdk DC NX BAD
            generalize mostBehind (N k) = m1 at DC NX BAD ⊢
            have c1 : (wr.alloc (.cells X.toArray 32)).cell? ⟨wr.heap.size, 1, none⟩ = some (.int .i64 D) := by rw [World.cell?_alloc_new]; simpa using e1
            have B3 : Hid (Below w.heap.size w (wr.alloc (.cells X.toArray 32))) := Lib.hid (BW.out.alloc BW.out.size _)
            clear e1
            by_cases h1 : D < 1
            · go_wp2_with (first
                | ((with_reducible change wpList _ _ _ (Oper.mk (some 28) _ _ _ _ _ :: _) _ _); refine wpList_load_mid rfl 32 _ rfl b (off + 51 + k * 51) rfl X _ rk.out Try.underlying32 rfl Lk.out ?_)
                | ((with_reducible change wpList _ _ _ (Oper.mk (some 5) _ _ _ _ _ :: _) _ _); refine wpList_alloc_node rfl rfl ?_)
                | ((with_reducible change wpList _ _ _ (Oper.mk none (.store 32 _ _) _ _ _ _ :: _) _ _); refine wpList_store_new rfl 32 _ _ rfl nodeZero X.toArray rfl rfl (by rw [nodeZero_size, List.size_toArray, XL.out]) (by rw [List.size_toArray]; exact Lk.out) (by simpa using ones.out) ?_))
              go_ret
              exact told_no (BAD.out (fun h => by omega)) B3.out
            · by_cases h2 : m1 < D
              · go_wp2_with (first
                  | ((with_reducible change wpList _ _ _ (Oper.mk (some 28) _ _ _ _ _ :: _) _ _); refine wpList_load_mid rfl 32 _ rfl b (off + 51 + k * 51) rfl X _ rk.out Try.underlying32 rfl Lk.out ?_)
                  | ((with_reducible change wpList _ _ _ (Oper.mk (some 5) _ _ _ _ _ :: _) _ _); refine wpList_alloc_node rfl rfl ?_)
                  | ((with_reducible change wpList _ _ _ (Oper.mk none (.store 32 _ _) _ _ _ _ :: _) _ _); refine wpList_store_new rfl 32 _ _ rfl nodeZero X.toArray rfl rfl (by rw [nodeZero_size, List.size_toArray, XL.out]) (by rw [List.size_toArray]; exact Lk.out) (by simpa using ones.out) ?_))
                go_ret
                exact told_no (BAD.out (fun h => by omega)) B3.out
              · have DC2 := Lib.hid (DC.out (by omega) (by omega))
                have NX2 := Lib.hid (NX.out (by omega) (by omega))
                have RN3 : Hid ((wr.alloc (.cells X.toArray 32)).rangeAt wr.heap.size 0 X) := Lib.hid node_alloc_range
                clear DC NX BAD
                go_wp2_with (first
                  | ((with_reducible change wpList _ _ _ (Oper.mk (some 28) _ _ _ _ _ :: _) _ _); refine wpList_load_mid rfl 32 _ rfl b (off + 51 + k * 51) rfl X _ rk.out Try.underlying32 rfl Lk.out ?_)
                  | ((with_reducible change wpList _ _ _ (Oper.mk (some 5) _ _ _ _ _ :: _) _ _); refine wpList_alloc_node rfl rfl ?_)
                  | ((with_reducible change wpList _ _ _ (Oper.mk none (.store 32 _ _) _ _ _ _ :: _) _ _); refine wpList_store_new rfl 32 _ _ rfl nodeZero X.toArray rfl rfl (by rw [nodeZero_size, List.size_toArray, XL.out]) (by rw [List.size_toArray]; exact Lk.out) (by simpa using ones.out) ?_)
                  | ((with_reducible change wpList _ _ _ (Oper.mk (some 38) _ _ _ _ _ :: _) _ _); refine wpList_load_mid rfl 32 _ rfl wr.heap.size 0 rfl X _ RN3.out Try.underlying32 rfl Lk.out ?_)
                  | (go_at_call 73; refine (DC2.out _).mono ?_; rintro e w3 ⟨rfl, hb3⟩))
                go_roundg (n - 1 - (k + 1))
                case measure => omega
                case rel => exact ⟨k + 1, by go_num, by omega, Nat.le_refl _, by rw [M2.out], NX2, Lib.hid (B3.out.trans (hb3.mono (by simp; have := BW.out.size; omega)))⟩
          · have hkn : k + 1 = n := by omega
            have HT : Hid (DeepTo N n) := Lib.hid (by rw [← hkn]; exact DT.out)
            have hkz : ((n - 1 : Nat) : Int) ≤ k := by omega
            go_wp2
            go_ret
            exact toldB_yes ⟨HD.out, HK.out, HT.out⟩ BW.out
    · have hkk : ((N 0).kind != 0) = true := by simpa using hk
      have HK := Lib.hid hk
      clear hk
      go_enter Try.func43, Try.ntmps43
      go_wp2
      go_ret
      exact told_no (fun h => absurd h.2.1 HK.out) (Below.refl _ _)
  · have hdd : ((N 0).depth != 0) = true := by simpa using hd
    have HD := Lib.hid hd
    clear hd
    go_enter Try.func43, Try.ntmps43
    go_wp2
    go_ret
    exact told_no (fun h => absurd h.1 HD.out) (Below.refl _ _)
end Go.Proofs.Ytmodegkpfdlccaa
