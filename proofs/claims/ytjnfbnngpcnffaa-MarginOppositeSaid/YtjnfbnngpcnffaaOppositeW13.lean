/-
  The law MarginOpposite: of any Join, One, Value that answer as is asked.
-/
import Derived.Test.YtjnfbnngpcnffaaComesW13
import Derived.Test.YtjnfbnngpcnffaaMoreW13
import Derived.Test.YtjnfbnngpcnffaaRely2
import Derived.Deep.LoopGhost
namespace Go.Proofs.Ytjnfbnngpcnffaa
open Go.RowKit

def rowM (v : Value) (l l' : List Mg) : Row2 := ⟨24, 2, v, l.length, cellsM l, l'.length, cellsM l'⟩
theorem MgIn.grown {w w' : World} {v : Value} {l : List Mg} (h : MgIn w v l) {r : Option Nat} (hg : w.grownBy w' r) (hr : ∀ g, v.ownBlock = some g → r ≠ some g) : MgIn w' v l := by
  obtain ⟨A, c, rfl, hc, hq⟩ := h
  refine ⟨A, c, rfl, hc, fun e => ?_⟩
  obtain ⟨b, off, rfl, h2, h3⟩ := hq e
  have hb : w'.heap[b]? = w.heap[b]? := hg.block b h2 (fun e => hr b rfl e.symm)
  exact ⟨b, off, rfl, Nat.lt_of_lt_of_le h2 hg.size, fun j hj => ⟨by have := (h3 j hj).1; unfold World.cell? at *; rwa [hb], by have := (h3 j hj).2; unfold World.cell? at *; rwa [hb]⟩⟩
/-- margins in a block that is newer than a world -/
def MgIn2 (w0 w : World) (v : Value) (l : List Mg) : Prop := MgIn w v l ∧ ∃ g, w0.heap.size ≤ g ∧ v.ownBlock = some g
def opcM {h0 : Nat} (l : List Mg) : OpC h0 := ⟨fun v w => MgIn w v l ∧ ∃ g, h0 ≤ g ∧ v.ownBlock = some g, fun v w w' r hr hg h => ⟨h.1.grown hg (fun g e he => by
  obtain ⟨g2, h2, e2⟩ := h.2
  rw [e2] at e
  have := hr g he
  simp at e
  omega), h.2⟩⟩
theorem new_one (W : World) (a : Mg) : MgIn (W.alloc (.cells #[.int .i64 a.1, .int .i64 a.2] 24)) (.slice (some ⟨W.heap.size, 0, none⟩) 1 1) [a] := mgs_new [a] (by simp) _
theorem neg_first (f : Nat → Int) (k : Nat) : firstZ (fun i => -(f i)) k = (firstZ f k).map (fun x => -x) := by simp [firstZ]

set_option maxRecDepth 100000 in
set_option maxHeartbeats 8000000 in
theorem opposite13 (hJ : JoinOK 8) (hO : OneOK 12) (hV : ValueOK 14) (hA : AwakeOK13 16) (A : Option Addr) (n c : Nat) (f : Nat → Int) (w : World) (hI : Ints w A n f) :
    Calls Try.prog 7 #[.slice A n c] w fun e w' => e = .returned (.bool true) ∧ Below w.heap.size w w' := by
  have KA := Lib.hid (fun W => hA W)
  have HI := Lib.hid hI
  clear hI hA
  by_cases h : 500 < n
  · have hz : (500 : Int) < n := by omega
    clear hJ hO hV
    go_enter Try.func7, Try.ntmps7
    go_wp2_with (go_at_call 16; (with_reducible refine (KA.out _).mono ?_); rintro e w1 ⟨rfl, hb⟩; have B1 := Lib.hid hb; clear hb)
    go_ret
    exact ⟨rfl, B1.out⟩
  · have hz : ¬ (500 : Int) < n := by omega
    have hn : n ≤ 500 := by omega
    obtain ⟨i0, hi, iz0, iz1, iz2⟩ := info_parts10 Try.infoMg
    have KJ := Lib.hid (fun l v W (hW : MgIn W v l) (hl : l.length ≤ 100000) => hJ l v W hW hl)
    have KO := Lib.hid (fun x W => hO x W)
    have KV := Lib.hid (fun (a b : Int) W => hV (a, b) W)
    obtain ⟨f2, hf2⟩ : ∃ f2 : Nat → Int, f2 = fun i => -(f i) := ⟨_, rfl⟩
    have HF2 := Lib.hid hf2
    clear hJ hO hV h hf2
    go_enter Try.func7, Try.ntmps7
    go_wp2_with (go_at_call 16; (with_reducible refine (KA.out _).mono ?_); rintro e w1 ⟨rfl, hb⟩; have B1 := Lib.hid hb; clear hb)
    have I1 := Lib.hid (HI.out.below B1.out)
    clear HI KA
    obtain ⟨w2, hw2⟩ : ∃ w2, w2 = w1 := ⟨_, rfl⟩
    subst hw2
    go_loopg [3, 4, 5] n (fun g1 va vb vi wr => ∃ k : Nat, vi = .int .i64 k ∧ k ≤ n ∧ n - k ≤ g1 ∧ Hid (ownsM wr w2.heap.size va (firstM f k)) ∧ Hid (ownsM wr w2.heap.size vb (firstM f2 k)) ∧ Hid (∀ g, va.ownBlock = some g → vb.ownBlock ≠ some g) ∧ Hid (Below w2.heap.size w2 wr) ∧ Hid (∀ i, i < k → -1099511627776 ≤ f i ∧ f i ≤ 1099511627776))
    case atStart => exact ⟨0, rfl, by omega, by omega, Lib.hid (ownsM.nil _ _), Lib.hid (ownsM.nil _ _), Lib.hid (fun g hg => by cases hg), Lib.hid (Below.refl _ _), Lib.hid (fun i hi => absurd hi (by omega))⟩
    case round =>
      obtain ⟨k, rfl, hk, hg1, HOA, HOB, HD, HB, HF⟩ := hrel
      obtain ⟨wo, hwo⟩ : ∃ wo, wo = wr := ⟨_, rfl⟩
      subst hwo
      by_cases hlt : k < n
      · have hz1 : (k : Int) < n := by omega
        have hz0 : (0 : Int) ≤ k := by omega
        have wi : IntKind.i64.wrap ((k : Int) + 1) = (k : Int) + 1 := IntWalk.i64_in _ (by omega)
        obtain ⟨b, off, rfl, hb, c9⟩ := I1.out.at_ hlt
        have CT : Hid (∀ W, Below w2.heap.size wo W → W.cell? ⟨b, off + k, none⟩ = some (.int .i64 (f k))) := Lib.hid (fun W hW => ((HB.out.trans hW).cell (p := ⟨b, off + k, none⟩) hb).trans c9)
        have FMA := firstM_succ f k
        have FMB := firstM_succ f2 k
        have ef2 : f2 k = -(f k) := by rw [HF2.out]
        rw [ef2] at FMB
        have FX : Hid (∀ x, f k = x → -1099511627776 ≤ x ∧ x ≤ 1099511627776 → ∀ i, i < k + 1 → -1099511627776 ≤ f i ∧ f i ≤ 1099511627776) := Lib.hid (fun x e hx i hi => by
          rcases Nat.lt_or_ge i k with h | h
          · exact HF.out i h
          · obtain rfl : i = k := by omega
            rw [e]; exact hx)
        clear hb c9 ef2 HF
        generalize f k = x at CT FMA FMB FX
        have FX := Lib.hid (FX.out x rfl)
        have BZ := Lib.hid (B1.out.trans (HB.out.mono B1.out.size))
        have c0 := CT.out wo (Below.refl _ _)
        by_cases h1 : 1099511627776 < x
        · have d1 : decide (1099511627776 < x) = true := decide_eq_true h1
          clear FMA FMB FX KJ KO KV
          go_wp2_with fail
          go_ret
          exact ⟨rfl, BZ.out⟩
        · have d1 : decide (1099511627776 < x) = false := decide_eq_false h1
          by_cases h2 : x < -1099511627776
          · have d2 : decide (x < -1099511627776) = true := decide_eq_true h2
            clear FMA FMB FX KJ KO KV
            go_wp2_with fail
            go_ret
            exact ⟨rfl, BZ.out⟩
          · have d2 : decide (x < -1099511627776) = false := decide_eq_false h2
            have FX := Lib.hid (FX.out ⟨by omega, by omega⟩)
            have vn : IntKind.i64.wrap (-x) = -x := IntWalk.i64_in _ (by omega)
            have KO1 := Lib.hid (fun W => KO.out x W)
            have KO2 := Lib.hid (fun W => KO.out (-x) W)
            obtain ⟨⟨p1, q1⟩, hp1⟩ : ∃ m, oneM x = m := ⟨_, rfl⟩
            obtain ⟨⟨p2, q2⟩, hp2⟩ : ∃ m, oneM (-x) = m := ⟨_, rfl⟩
            rw [hp1] at KO1 FMA
            rw [hp2] at KO2 FMB
            unfold mgV at KO1 KO2
            dsimp only at KO1 KO2
            have FA : Hid (∀ (W : World) (v : Value), W.ownsRow w2.heap.size 24 2 v ((firstM f k).length + 1) (cellsM (firstM f k) ++ cellsM [(p1, q1)]) → W.ownsRow w2.heap.size 24 2 v (firstM f (k + 1)).length (cellsM (firstM f (k + 1)))) := Lib.hid (fun W v h => by
              rw [FMA, cellsM_append, List.length_append]
              exact h)
            have FB : Hid (∀ (W : World) (v : Value), W.ownsRow w2.heap.size 24 2 v ((firstM f2 k).length + 1) (cellsM (firstM f2 k) ++ cellsM [(p2, q2)]) → W.ownsRow w2.heap.size 24 2 v (firstM f2 (k + 1)).length (cellsM (firstM f2 (k + 1)))) := Lib.hid (fun W v h => by
              rw [FMB, cellsM_append, List.length_append]
              exact h)
            have FLA : Hid ((firstM f k).length + 1 ≤ maxLen ∧ ((firstM f k).length + 1) * 16 ≤ 140737488355328) := Lib.hid (by rw [firstM_len]; unfold maxLen; omega)
            have FLB : Hid ((firstM f2 k).length + 1 ≤ maxLen ∧ ((firstM f2 k).length + 1) * 16 ≤ 140737488355328) := Lib.hid (by rw [firstM_len]; unfold maxLen; omega)
            clear hp1 hp2 FMA FMB KO KJ KV h1 h2
            go_wp2_with fail
            clear c0
            refine' wp_region_two w2.heap.size [opcV _ _, opcV _ _, opcV _ _, opcV _ _, opcV _ _, opcV _ (.agg #[.int .i64 p1, .int .i64 q1]), opcM [(p1, q1)], opcAny _, opcV _ _, opcV _ _, opcV _ _, opcV _ _, opcV _ _, opcV _ _, opcV _ (.agg #[.int .i64 p2, .int .i64 q2]), opcM [(p2, q2)], opcAny _, opcAny _, opcAny _] 7 16 (rowM u3 (firstM f k) (firstM f (k + 1))) (rowM u4 (firstM f2 k) (firstM f2 (k + 1))) [(7, 17), (16, 18)] rfl (by kernel_rfl) (by kernel_rfl) (by decide) HB.out.size HOA.out HOB.out HD.out ⟨?s0, ?s1, ?s2, ?s3, ?s4, ?s5, ?s6, ?s7, ?s8, ?s9, ?s10, ?s11, ?s12, ?s13, ?s14, ?s15, ?s16, ?s17, ?s18, trivial⟩ ?fin
            case s0 =>
              rw [if_neg (by decide), if_neg (by decide)]
              refine CStep.of [] [] [] (opcV _ _) (by kernel_rfl) (fun _ _ => by kernel_rfl) rfl rfl ?_
              intro vs wv hB hA
              clear hA
              simp only [fillP]
              have c0 := CT.out wv hB; go_wp2_with fail
              refine postC_val ?_ (Below.refl _ _)
              simp only [List.getElem?_cons_succ, List.getElem?_cons_zero]
              rfl
            case s1 =>
              rw [if_neg (by decide), if_neg (by decide)]
              refine CStep.of [] [] [] (opcV _ _) (by kernel_rfl) (fun _ _ => by kernel_rfl) rfl rfl ?_
              intro vs wv hB hA
              clear hA
              simp only [fillP]
              have c0 := CT.out wv hB; go_wp2_with fail
              refine postC_val ?_ (Below.refl _ _)
              simp only [List.getElem?_cons_succ, List.getElem?_cons_zero]
              rfl
            case s2 =>
              rw [if_neg (by decide), if_neg (by decide)]
              refine CStep.of [] [] [] (opcV _ _) (by kernel_rfl) (fun _ _ => by kernel_rfl) rfl rfl ?_
              intro vs wv hB hA
              clear hA
              simp only [fillP]
              have c0 := CT.out wv hB; go_wp2_with fail
              refine postC_val ?_ (Below.refl _ _)
              simp only [List.getElem?_cons_succ, List.getElem?_cons_zero]
              rfl
            case s3 =>
              rw [if_neg (by decide), if_neg (by decide)]
              refine CStep.of [1, 2] [(32, 1), (33, 2)] [] (opcV _ _) (by kernel_rfl) (fun _ _ => by kernel_rfl) rfl rfl ?_
              intro vs wv hB hA
              have h1 : vs 1 = _ := hA.1
              have h2 : vs 2 = _ := hA.2.1
              clear hA
              simp only [fillP, List.setIfInBounds_toArray, List.set_cons_zero, List.set_cons_succ, h1, h2]
              have c0 := CT.out wv hB; go_wp2_with fail
              refine postC_val ?_ (Below.refl _ _)
              simp only [List.getElem?_cons_succ, List.getElem?_cons_zero]
              rfl
            case s4 =>
              rw [if_neg (by decide), if_neg (by decide)]
              refine CStep.of [3] [(34, 3)] [] (opcV _ _) (by kernel_rfl) (fun _ _ => by kernel_rfl) rfl rfl ?_
              intro vs wv hB hA
              have h3 : vs 3 = _ := hA.1
              clear hA
              simp only [fillP, List.setIfInBounds_toArray, List.set_cons_zero, List.set_cons_succ, h3]
              have c0 := CT.out wv hB; go_wp2_with fail
              refine postC_val ?_ (Below.refl _ _)
              simp only [List.getElem?_cons_succ, List.getElem?_cons_zero]
              rfl
            case s5 =>
              rw [if_neg (by decide), if_neg (by decide)]
              refine CStep.of [4] [(35, 4)] [] (opcV _ (.agg #[.int .i64 p1, .int .i64 q1])) (by kernel_rfl) (fun _ _ => by kernel_rfl) rfl rfl ?_
              intro vs wv hB hA
              have h4 : vs 4 = _ := hA.1
              clear hA
              simp only [fillP, List.setIfInBounds_toArray, List.set_cons_zero, List.set_cons_succ, h4]
              (go_wp2_with (go_at_call 12; (with_reducible refine (KO1.out _).mono ?_); rintro e w7 ⟨rfl, hb⟩)); exact postC_val rfl hb
            case s6 =>
              rw [if_neg (by decide), if_neg (by decide)]
              refine CStep.of [5] [(36, 5)] [] (opcM [(p1, q1)]) (by kernel_rfl) (fun _ _ => by kernel_rfl) rfl rfl ?_
              intro vs wv hB hA
              have h5 : vs 5 = _ := hA.1
              clear hA
              simp only [fillP, List.setIfInBounds_toArray, List.set_cons_zero, List.set_cons_succ, h5]
              go_wp2_with fail; exact postC_R rfl ⟨new_one wv (p1, q1), wv.heap.size, hB.size, rfl⟩ ((Below.refl _ _).alloc (Nat.le_refl _) _)
            case s7 =>
              rw [if_pos (by decide)]
              refine RStep.of [0, 5, 6] [(31, 0), (36, 5), (37, 6)] (by kernel_rfl) (fun _ _ => by kernel_rfl) ?_
              intro vs wv hB hN hA
              have h0 : vs 0 = _ := hA.1
              have h5 : vs 5 = _ := hA.2.1
              have h6 : MgIn2 wo wv (vs 6) [(p1, q1)] := hA.2.2.1
              clear hA
              simp only [fillP, List.setIfInBounds_toArray, List.set_cons_zero, List.set_cons_succ, h0, h5]
              (obtain ⟨Ax, cx, ex, -, hcx⟩ := h6.1; obtain ⟨bx, offx, rfl, -, -⟩ := hcx (by simp); simp only [ex]; go_wp2_with (refine wpList_append_own_at _ rfl _ _ 22 rfl w2.heap.size 24 i0 _ 2 16 Try.underlying22 hi iz0 iz1 iz2 rfl (by decide) u3 (firstM f k).length (cellsM (firstM f k)) rfl hN ⟨bx, offx, none⟩ _ _ (cellsM [(p1, q1)]) rfl (cellsM_len _) (h6.1.cells ex _ rfl) (cellsM_one _) FLA.out.1 FLA.out.2 (Nat.le_trans HB.out.size hB.size) ?_; intro v5 w5 hO hgr _ hat)); exact postRow_of rfl (FA.out _ _ hO) hgr hat
            case s8 =>
              rw [if_neg (by decide), if_neg (by decide)]
              refine CStep.of [] [] [] (opcV _ _) (by kernel_rfl) (fun _ _ => by kernel_rfl) rfl rfl ?_
              intro vs wv hB hA
              clear hA
              simp only [fillP]
              have c0 := CT.out wv hB; go_wp2_with fail
              refine postC_val ?_ (Below.refl _ _)
              simp only [List.getElem?_cons_succ, List.getElem?_cons_zero]
              rfl
            case s9 =>
              rw [if_neg (by decide), if_neg (by decide)]
              refine CStep.of [] [] [] (opcV _ _) (by kernel_rfl) (fun _ _ => by kernel_rfl) rfl rfl ?_
              intro vs wv hB hA
              clear hA
              simp only [fillP]
              have c0 := CT.out wv hB; go_wp2_with fail
              refine postC_val ?_ (Below.refl _ _)
              simp only [List.getElem?_cons_succ, List.getElem?_cons_zero]
              rfl
            case s10 =>
              rw [if_neg (by decide), if_neg (by decide)]
              refine CStep.of [] [] [] (opcV _ _) (by kernel_rfl) (fun _ _ => by kernel_rfl) rfl rfl ?_
              intro vs wv hB hA
              clear hA
              simp only [fillP]
              have c0 := CT.out wv hB; go_wp2_with fail
              refine postC_val ?_ (Below.refl _ _)
              simp only [List.getElem?_cons_succ, List.getElem?_cons_zero]
              rfl
            case s11 =>
              rw [if_neg (by decide), if_neg (by decide)]
              refine CStep.of [9, 10] [(40, 9), (41, 10)] [] (opcV _ _) (by kernel_rfl) (fun _ _ => by kernel_rfl) rfl rfl ?_
              intro vs wv hB hA
              have h9 : vs 9 = _ := hA.1
              have h10 : vs 10 = _ := hA.2.1
              clear hA
              simp only [fillP, List.setIfInBounds_toArray, List.set_cons_zero, List.set_cons_succ, h9, h10]
              have c0 := CT.out wv hB; go_wp2_with fail
              refine postC_val ?_ (Below.refl _ _)
              simp only [List.getElem?_cons_succ, List.getElem?_cons_zero]
              rfl
            case s12 =>
              rw [if_neg (by decide), if_neg (by decide)]
              refine CStep.of [11] [(42, 11)] [] (opcV _ _) (by kernel_rfl) (fun _ _ => by kernel_rfl) rfl rfl ?_
              intro vs wv hB hA
              have h11 : vs 11 = _ := hA.1
              clear hA
              simp only [fillP, List.setIfInBounds_toArray, List.set_cons_zero, List.set_cons_succ, h11]
              have c0 := CT.out wv hB; go_wp2_with fail
              refine postC_val ?_ (Below.refl _ _)
              simp only [List.getElem?_cons_succ, List.getElem?_cons_zero]
              rfl
            case s13 =>
              rw [if_neg (by decide), if_neg (by decide)]
              refine CStep.of [12] [(43, 12)] [] (opcV _ _) (by kernel_rfl) (fun _ _ => by kernel_rfl) rfl rfl ?_
              intro vs wv hB hA
              have h12 : vs 12 = _ := hA.1
              clear hA
              simp only [fillP, List.setIfInBounds_toArray, List.set_cons_zero, List.set_cons_succ, h12]
              have c0 := CT.out wv hB; go_wp2_with fail
              refine postC_val ?_ (Below.refl _ _)
              simp only [List.getElem?_cons_succ, List.getElem?_cons_zero]
              rfl
            case s14 =>
              rw [if_neg (by decide), if_neg (by decide)]
              refine CStep.of [7, 13] [(38, 7), (44, 13)] [] (opcV _ (.agg #[.int .i64 p2, .int .i64 q2])) (by kernel_rfl) (fun _ _ => by kernel_rfl) rfl rfl ?_
              intro vs wv hB hA
              have hr7 : Row2.is w2.heap.size (rowM u3 (firstM f k) (firstM f (k + 1))) (vs 7) wv ∧ (∀ g, (vs 7).ownBlock = some g → ((rowM u4 (firstM f2 k) (firstM f2 (k + 1)))).v.ownBlock ≠ some g) := hA.1
              have h13 : vs 13 = _ := hA.2.1
              clear hA
              simp only [fillP, List.setIfInBounds_toArray, List.set_cons_zero, List.set_cons_succ, h13]
              (go_wp2_with (go_at_call 12; (with_reducible refine (KO2.out _).mono ?_); rintro e w7 ⟨rfl, hb⟩)); exact postC_val rfl hb
            case s15 =>
              rw [if_neg (by decide), if_neg (by decide)]
              refine CStep.of [14] [(45, 14)] [] (opcM [(p2, q2)]) (by kernel_rfl) (fun _ _ => by kernel_rfl) rfl rfl ?_
              intro vs wv hB hA
              have h14 : vs 14 = _ := hA.1
              clear hA
              simp only [fillP, List.setIfInBounds_toArray, List.set_cons_zero, List.set_cons_succ, h14]
              go_wp2_with fail; exact postC_R rfl ⟨new_one wv (p2, q2), wv.heap.size, hB.size, rfl⟩ ((Below.refl _ _).alloc (Nat.le_refl _) _)
            case s16 =>
              rw [if_neg (by decide), if_pos (by decide)]
              refine RStep.of [8, 14, 15] [(39, 8), (45, 14), (46, 15)] (by kernel_rfl) (fun _ _ => by kernel_rfl) ?_
              intro vs wv hB hN hA
              have h8 : vs 8 = _ := hA.1
              have h14 : vs 14 = _ := hA.2.1
              have h15 : MgIn2 wo wv (vs 15) [(p2, q2)] := hA.2.2.1
              clear hA
              simp only [fillP, List.setIfInBounds_toArray, List.set_cons_zero, List.set_cons_succ, h8, h14]
              (obtain ⟨Ax, cx, ex, -, hcx⟩ := h15.1; obtain ⟨bx, offx, rfl, -, -⟩ := hcx (by simp); simp only [ex]; go_wp2_with (refine wpList_append_own_at _ rfl _ _ 22 rfl w2.heap.size 24 i0 _ 2 16 Try.underlying22 hi iz0 iz1 iz2 rfl (by decide) u4 (firstM f2 k).length (cellsM (firstM f2 k)) rfl hN ⟨bx, offx, none⟩ _ _ (cellsM [(p2, q2)]) rfl (cellsM_len _) (h15.1.cells ex _ rfl) (cellsM_one _) FLB.out.1 FLB.out.2 (Nat.le_trans HB.out.size hB.size) ?_; intro v5 w5 hO hgr _ hat)); exact postRow_of rfl (FB.out _ _ hO) hgr hat
            case s17 =>
              rw [if_neg (by decide), if_neg (by decide)]
              refine CStep.of [0, 1, 2, 3, 4, 5, 6, 7, 16] [(31, 0), (32, 1), (33, 2), (34, 3), (35, 4), (36, 5), (37, 6), (38, 7), (47, 16)] [7] (opcAny _) (by kernel_rfl) (fun _ _ => by kernel_rfl) rfl rfl ?_
              intro vs wv hB hA
              have h0 : vs 0 = _ := hA.1
              have h1 : vs 1 = _ := hA.2.1
              have h2 : vs 2 = _ := hA.2.2.1
              have h3 : vs 3 = _ := hA.2.2.2.1
              have h4 : vs 4 = _ := hA.2.2.2.2.1
              have h5 : vs 5 = _ := hA.2.2.2.2.2.1
              have h6 : MgIn2 wo wv (vs 6) [(p1, q1)] := hA.2.2.2.2.2.2.1
              have hr7 : Row2.is w2.heap.size (rowM u3 (firstM f k) (firstM f (k + 1))) (vs 7) wv ∧ (∀ g, (vs 7).ownBlock = some g → ((rowM u4 (firstM f2 k) (firstM f2 (k + 1)))).v.ownBlock ≠ some g) := hA.2.2.2.2.2.2.2.1
              have hr16 : Row2.is w2.heap.size (rowM u4 (firstM f2 k) (firstM f2 (k + 1))) (vs 16) wv ∧ (∀ g, (vs 16).ownBlock = some g → ((rowM u3 (firstM f k) (firstM f (k + 1)))).v.ownBlock ≠ some g) := hA.2.2.2.2.2.2.2.2.1
              clear hA
              simp only [fillP, List.setIfInBounds_toArray, List.set_cons_zero, List.set_cons_succ, h0, h1, h2, h3, h4, h5]
              have c0 := CT.out wv hB; go_wp2_with fail
              exact postC_copy rfl (Below.refl _ _)
            case s18 =>
              rw [if_neg (by decide), if_neg (by decide)]
              refine CStep.of [0, 1, 2, 3, 4, 5, 6, 7, 8, 9, 10, 11, 12, 13, 14, 15, 16, 17] [(31, 0), (32, 1), (33, 2), (34, 3), (35, 4), (36, 5), (37, 6), (38, 7), (39, 8), (40, 9), (41, 10), (42, 11), (43, 12), (44, 13), (45, 14), (46, 15), (47, 16), (3, 17)] [16] (opcAny _) (by kernel_rfl) (fun _ _ => by kernel_rfl) rfl rfl ?_
              intro vs wv hB hA
              have h0 : vs 0 = _ := hA.1
              have h1 : vs 1 = _ := hA.2.1
              have h2 : vs 2 = _ := hA.2.2.1
              have h3 : vs 3 = _ := hA.2.2.2.1
              have h4 : vs 4 = _ := hA.2.2.2.2.1
              have h5 : vs 5 = _ := hA.2.2.2.2.2.1
              have h6 : MgIn2 wo wv (vs 6) [(p1, q1)] := hA.2.2.2.2.2.2.1
              have hr7 : Row2.is w2.heap.size (rowM u3 (firstM f k) (firstM f (k + 1))) (vs 7) wv ∧ (∀ g, (vs 7).ownBlock = some g → ((rowM u4 (firstM f2 k) (firstM f2 (k + 1)))).v.ownBlock ≠ some g) := hA.2.2.2.2.2.2.2.1
              have h8 : vs 8 = _ := hA.2.2.2.2.2.2.2.2.1
              have h9 : vs 9 = _ := hA.2.2.2.2.2.2.2.2.2.1
              have h10 : vs 10 = _ := hA.2.2.2.2.2.2.2.2.2.2.1
              have h11 : vs 11 = _ := hA.2.2.2.2.2.2.2.2.2.2.2.1
              have h12 : vs 12 = _ := hA.2.2.2.2.2.2.2.2.2.2.2.2.1
              have h13 : vs 13 = _ := hA.2.2.2.2.2.2.2.2.2.2.2.2.2.1
              have h14 : vs 14 = _ := hA.2.2.2.2.2.2.2.2.2.2.2.2.2.2.1
              have h15 : MgIn2 wo wv (vs 15) [(p2, q2)] := hA.2.2.2.2.2.2.2.2.2.2.2.2.2.2.2.1
              have hr16 : Row2.is w2.heap.size (rowM u4 (firstM f2 k) (firstM f2 (k + 1))) (vs 16) wv ∧ (∀ g, (vs 16).ownBlock = some g → ((rowM u3 (firstM f k) (firstM f (k + 1)))).v.ownBlock ≠ some g) := hA.2.2.2.2.2.2.2.2.2.2.2.2.2.2.2.2.1
              clear hA
              simp only [fillP, List.setIfInBounds_toArray, List.set_cons_zero, List.set_cons_succ, h0, h1, h2, h3, h4, h5, h8, h9, h10, h11, h12, h13, h14]
              have c0 := CT.out wv hB; go_wp2_with fail
              exact postC_copy rfl (Below.refl _ _)
            case fin =>
              refine fin_two (p := fun vs _ => vs 17 = vs 7 ∧ vs 18 = vs 16 ∧ ∀ g, (vs 7).ownBlock = some g → (vs 16).ownBlock ≠ some g) [0, 1, 2, 3, 4, 5, 6, 7, 8, 9, 10, 11, 12, 13, 14, 15, 16, 17, 18] [(31, 0), (32, 1), (33, 2), (34, 3), (35, 4), (36, 5), (37, 6), (38, 7), (39, 8), (40, 9), (41, 10), (42, 11), (43, 12), (44, 13), (45, 14), (46, 15), (47, 16), (3, 17), (4, 18)] (by kernel_rfl) (fun _ _ => by kernel_rfl) (fun vs wv h => ⟨(h 7 17 38 3 (by decide) (by kernel_rfl) (by kernel_rfl)).2.1 (by decide), (h 16 18 47 4 (by decide) (by kernel_rfl) (by kernel_rfl)).2.1 (by decide), (h 7 16 38 47 (by decide) (by kernel_rfl) (by kernel_rfl)).1 (.inl ⟨rfl, rfl⟩)⟩) ?_
              intro vs wv hB hA hp
              have h0 : vs 0 = _ := hA.1
              have h1 : vs 1 = _ := hA.2.1
              have h2 : vs 2 = _ := hA.2.2.1
              have h3 : vs 3 = _ := hA.2.2.2.1
              have h4 : vs 4 = _ := hA.2.2.2.2.1
              have h5 : vs 5 = _ := hA.2.2.2.2.2.1
              have h6 : MgIn2 wo wv (vs 6) [(p1, q1)] := hA.2.2.2.2.2.2.1
              have hr7 : Row2.is w2.heap.size (rowM u3 (firstM f k) (firstM f (k + 1))) (vs 7) wv ∧ (∀ g, (vs 7).ownBlock = some g → ((rowM u4 (firstM f2 k) (firstM f2 (k + 1)))).v.ownBlock ≠ some g) := hA.2.2.2.2.2.2.2.1
              have h8 : vs 8 = _ := hA.2.2.2.2.2.2.2.2.1
              have h9 : vs 9 = _ := hA.2.2.2.2.2.2.2.2.2.1
              have h10 : vs 10 = _ := hA.2.2.2.2.2.2.2.2.2.2.1
              have h11 : vs 11 = _ := hA.2.2.2.2.2.2.2.2.2.2.2.1
              have h12 : vs 12 = _ := hA.2.2.2.2.2.2.2.2.2.2.2.2.1
              have h13 : vs 13 = _ := hA.2.2.2.2.2.2.2.2.2.2.2.2.2.1
              have h14 : vs 14 = _ := hA.2.2.2.2.2.2.2.2.2.2.2.2.2.2.1
              have h15 : MgIn2 wo wv (vs 15) [(p2, q2)] := hA.2.2.2.2.2.2.2.2.2.2.2.2.2.2.2.1
              have hr16 : Row2.is w2.heap.size (rowM u4 (firstM f2 k) (firstM f2 (k + 1))) (vs 16) wv ∧ (∀ g, (vs 16).ownBlock = some g → ((rowM u3 (firstM f k) (firstM f (k + 1)))).v.ownBlock ≠ some g) := hA.2.2.2.2.2.2.2.2.2.2.2.2.2.2.2.2.1
              clear hA
              simp only [fillP, List.setIfInBounds_toArray, List.set_cons_zero, List.set_cons_succ, h0, h1, h2, h3, h4, h5, h8, h9, h10, h11, h12, h13, h14]
              obtain ⟨e17, e18, hdis⟩ := hp
              simp only [e17, e18]
              clear e17 e18 vn
              go_wp2_with fail
              go_roundg (n - (k + 1))
              case measure => omega
              case rel => exact ⟨k + 1, by go_num, by omega, Nat.le_refl _, Lib.hid hr7.1, Lib.hid hr16.1, Lib.hid hdis, Lib.hid (HB.out.trans hB), FX⟩
      · obtain rfl : k = n := by omega
        have hz1 : ¬ (k : Int) < k := by omega
        have J1 := join_first HF.out
        have HF2' : ∀ i, i < k → -1099511627776 ≤ f2 i ∧ f2 i ≤ 1099511627776 := fun i hi => by
          have := HF.out i hi
          rw [HF2.out]
          dsimp only
          omega
        have J2 := join_first HF2'
        have eN : firstZ f2 k = (firstZ f k).map (fun x => -x) := by rw [HF2.out]; exact neg_first f k
        rw [eN, (joins_neg _).1, (joins_neg _).2] at J2
        have MA := Lib.hid HOA.out.mgs
        have MB := Lib.hid HOB.out.mgs
        have KA1 := Lib.hid (fun W (hW : MgIn W u3 (firstM f k)) => KJ.out _ _ W hW (by rw [firstM_len]; omega))
        have KB1 := Lib.hid (fun W (hW : MgIn W u4 (firstM f2 k)) => KJ.out _ _ W hW (by rw [firstM_len]; omega))
        rw [J1.1] at KA1
        rw [J2.1] at KB1
        have BZ := Lib.hid (B1.out.trans (HB.out.mono B1.out.size))
        obtain ⟨A1, ca, ea, -, -⟩ := MA.out
        obtain ⟨A2, cb, eb, -, -⟩ := MB.out
        rw [firstM_len] at ea eb
        subst ea eb
        generalize greatZ (firstZ f k) = G at J1 J2 KA1 KB1
        generalize smallZ (firstZ f k) = S at J1 J2 KA1 KB1
        have hG : 0 ≤ G ∧ G ≤ 1099511627776 := J1.2.1
        have hS : S ≤ 0 ∧ -1099511627776 ≤ S := J1.2.2
        have KV1 := Lib.hid (fun W => KV.out G S W)
        have KV2 := Lib.hid (fun W => KV.out (-S) (-G) W)
        have v1 : valueM (G, S) = G + S := IntWalk.i64_in _ (by dsimp only; omega)
        have v2 : valueM (-S, -G) = -S + -G := IntWalk.i64_in _ (by dsimp only; omega)
        rw [v1] at KV1
        rw [v2] at KV2
        obtain ⟨s, hs⟩ : ∃ s, G + S = s := ⟨_, rfl⟩
        obtain ⟨t, ht⟩ : ∃ t, -S + -G = t := ⟨_, rfl⟩
        rw [hs] at KV1
        rw [ht] at KV2
        have g1 : IntKind.i64.wrap (-t) = s := by rw [IntWalk.i64_in _ (by omega)]; omega
        obtain ⟨S', hS'⟩ : ∃ S', -S = S' := ⟨_, rfl⟩
        obtain ⟨G', hG'⟩ : ∃ G', -G = G' := ⟨_, rfl⟩
        rw [hS'] at KB1 KV2
        rw [hG'] at KB1 KV2
        have g2 : IntKind.i64.wrap (-G') = G := by rw [IntWalk.i64_in _ (by omega)]; omega
        have g3 : IntKind.i64.wrap (-S') = S := by rw [IntWalk.i64_in _ (by omega)]; omega
        unfold mgV at KA1 KB1 KV1 KV2
        dsimp only at KA1 KB1 KV1 KV2
        clear J1 J2 HF HF2 HF2' eN v1 v2 hs ht hS' hG' hG hS KO KJ KV HOA HOB HD I1
        go_upto_region 13 with (first
          | (go_at_call 8; (with_reducible refine (KA1.out _ MA.out).mono ?_); rintro e w3 ⟨rfl, hb⟩; have B3 := Lib.hid hb; have MB3 := Lib.hid (MB.out.keep hb); clear hb)
          | (go_at_call 8; (with_reducible refine (KB1.out _ MB3.out).mono ?_); rintro e w4 ⟨rfl, hb⟩; have B4 := Lib.hid (b_next B3.out hb); clear hb))
        have C4 : Hid (Below w4.heap.size w4 ((w4.alloc (.cells #[.int .i64 G, .int .i64 S] 24)).alloc (.cells #[.int .i64 S', .int .i64 G'] 24))) := Lib.hid (((Below.refl _ _).alloc (Nat.le_refl _) _).alloc (by rw [World.size_alloc]; omega) _)
        have M1 : Hid (MgAt ((w4.alloc (.cells #[.int .i64 G, .int .i64 S] 24)).alloc (.cells #[.int .i64 S', .int .i64 G'] 24)) w4.heap.size (G, S)) := Lib.hid ((MgAt.new w4 (G, S)).keep ((Below.refl _ _).alloc (Nat.le_refl _) _))
        have M2 : Hid (MgAt ((w4.alloc (.cells #[.int .i64 G, .int .i64 S] 24)).alloc (.cells #[.int .i64 S', .int .i64 G'] 24)) (w4.heap.size + 1) (S', G')) := Lib.hid (by
          have h := MgAt.new (w4.alloc (.cells #[.int .i64 G, .int .i64 S] 24)) (S', G')
          rwa [World.size_alloc] at h)
        replace BZ := Lib.hid (b_next (b_next BZ.out B4.out) C4.out)
        clear C4 B4 B3 MB3 MA MB KA1 KB1
        generalize (w4.alloc (.cells #[.int .i64 G, .int .i64 S] 24)).alloc (.cells #[.int .i64 S', .int .i64 G'] 24) = w5 at M1 M2 BZ ⊢
        generalize w4.heap.size = g at M1 M2 ⊢
        have CT : Hid (∀ W, Below w5.heap.size w5 W → W.cell? ⟨g, 0, none⟩ = some (.int .i64 G) ∧ W.cell? ⟨g, 1, none⟩ = some (.int .i64 S) ∧ W.cell? ⟨g + 1, 0, none⟩ = some (.int .i64 S') ∧ W.cell? ⟨g + 1, 1, none⟩ = some (.int .i64 G')) := Lib.hid (fun W hW => by
          have h1 := MgAt.cells (MgAt.keep M1.out hW)
          have h2 := MgAt.cells (MgAt.keep M2.out hW)
          exact ⟨h1.1, h1.2, h2.1, h2.2⟩)
        clear M1 M2
        have k1 : (G == G) = true := by simp
        have k2 : (S == S) = true := by simp
        have k3 : (s == s) = true := by simp
        refine' wp_region_below [opV _, opV _, opV _, opV _, opV _, opV _, opV _, opV _, opV _, opV _, opV _, opV _, opV _, opV _, opV _, opV _, opV (.int .i64 s), opV _, opV (.int .i64 t), opV _, opV _, opV _, opV _] rfl (by kernel_rfl) ⟨?s0, ?s1, ?s2, ?s3, ?s4, ?s5, ?s6, ?s7, ?s8, ?s9, ?s10, ?s11, ?s12, ?s13, ?s14, ?s15, ?s16, ?s17, ?s18, ?s19, ?s20, ?s21, ?s22, trivial⟩ ?fin
        case s0 =>
          refine BStep.of [] [] (opV _) (by kernel_rfl) (fun _ _ => by kernel_rfl) rfl ?_
          intro vs wv hB hA
          clear hA
          simp only [fillP]
          have c0 := (CT.out wv hB).1; have c1 := (CT.out wv hB).2.1; have d0 := (CT.out wv hB).2.2.1; have d1 := (CT.out wv hB).2.2.2; go_wp2_with fail
          refine postB_val ?_ (Below.refl _ _)
          simp only [List.getElem?_cons_succ, List.getElem?_cons_zero]
          rfl
        case s1 =>
          refine BStep.of [0] [(52, 0)] (opV _) (by kernel_rfl) (fun _ _ => by kernel_rfl) rfl ?_
          intro vs wv hB hA
          have h0 : vs 0 = _ := hA.1
          clear hA
          simp only [fillP, List.setIfInBounds_toArray, List.set_cons_zero, List.set_cons_succ, h0]
          have c0 := (CT.out wv hB).1; have c1 := (CT.out wv hB).2.1; have d0 := (CT.out wv hB).2.2.1; have d1 := (CT.out wv hB).2.2.2; go_wp2_with fail
          refine postB_val ?_ (Below.refl _ _)
          simp only [List.getElem?_cons_succ, List.getElem?_cons_zero]
          rfl
        case s2 =>
          refine BStep.of [] [] (opV _) (by kernel_rfl) (fun _ _ => by kernel_rfl) rfl ?_
          intro vs wv hB hA
          clear hA
          simp only [fillP]
          have c0 := (CT.out wv hB).1; have c1 := (CT.out wv hB).2.1; have d0 := (CT.out wv hB).2.2.1; have d1 := (CT.out wv hB).2.2.2; go_wp2_with fail
          refine postB_val ?_ (Below.refl _ _)
          simp only [List.getElem?_cons_succ, List.getElem?_cons_zero]
          rfl
        case s3 =>
          refine BStep.of [2] [(54, 2)] (opV _) (by kernel_rfl) (fun _ _ => by kernel_rfl) rfl ?_
          intro vs wv hB hA
          have h2 : vs 2 = _ := hA.1
          clear hA
          simp only [fillP, List.setIfInBounds_toArray, List.set_cons_zero, List.set_cons_succ, h2]
          have c0 := (CT.out wv hB).1; have c1 := (CT.out wv hB).2.1; have d0 := (CT.out wv hB).2.2.1; have d1 := (CT.out wv hB).2.2.2; go_wp2_with fail
          refine postB_val ?_ (Below.refl _ _)
          simp only [List.getElem?_cons_succ, List.getElem?_cons_zero]
          rfl
        case s4 =>
          refine BStep.of [3] [(55, 3)] (opV _) (by kernel_rfl) (fun _ _ => by kernel_rfl) rfl ?_
          intro vs wv hB hA
          have h3 : vs 3 = _ := hA.1
          clear hA
          simp only [fillP, List.setIfInBounds_toArray, List.set_cons_zero, List.set_cons_succ, h3]
          have c0 := (CT.out wv hB).1; have c1 := (CT.out wv hB).2.1; have d0 := (CT.out wv hB).2.2.1; have d1 := (CT.out wv hB).2.2.2; go_wp2_with fail
          refine postB_val ?_ (Below.refl _ _)
          simp only [List.getElem?_cons_succ, List.getElem?_cons_zero]
          rfl
        case s5 =>
          refine BStep.of [1, 4] [(53, 1), (56, 4)] (opV _) (by kernel_rfl) (fun _ _ => by kernel_rfl) rfl ?_
          intro vs wv hB hA
          have h1 : vs 1 = _ := hA.1
          have h4 : vs 4 = _ := hA.2.1
          clear hA
          simp only [fillP, List.setIfInBounds_toArray, List.set_cons_zero, List.set_cons_succ, h1, h4]
          have c0 := (CT.out wv hB).1; have c1 := (CT.out wv hB).2.1; have d0 := (CT.out wv hB).2.2.1; have d1 := (CT.out wv hB).2.2.2; go_wp2_with fail
          refine postB_val ?_ (Below.refl _ _)
          simp only [List.getElem?_cons_succ, List.getElem?_cons_zero]
          rfl
        case s6 =>
          refine BStep.of [5] [(57, 5)] (opV _) (by kernel_rfl) (fun _ _ => by kernel_rfl) rfl ?_
          intro vs wv hB hA
          have h5 : vs 5 = _ := hA.1
          clear hA
          simp only [fillP, List.setIfInBounds_toArray, List.set_cons_zero, List.set_cons_succ, h5]
          have c0 := (CT.out wv hB).1; have c1 := (CT.out wv hB).2.1; have d0 := (CT.out wv hB).2.2.1; have d1 := (CT.out wv hB).2.2.2; go_wp2_with fail
          refine postB_val ?_ (Below.refl _ _)
          simp only [List.getElem?_cons_succ, List.getElem?_cons_zero]
          rfl
        case s7 =>
          refine BStep.of [6] [(58, 6)] (opV _) (by kernel_rfl) (fun _ _ => by kernel_rfl) rfl ?_
          intro vs wv hB hA
          have h6 : vs 6 = _ := hA.1
          clear hA
          simp only [fillP, List.setIfInBounds_toArray, List.set_cons_zero, List.set_cons_succ, h6]
          have c0 := (CT.out wv hB).1; have c1 := (CT.out wv hB).2.1; have d0 := (CT.out wv hB).2.2.1; have d1 := (CT.out wv hB).2.2.2; go_wp2_with fail
          refine postB_val ?_ (Below.refl _ _)
          simp only [List.getElem?_cons_succ, List.getElem?_cons_zero]
          rfl
        case s8 =>
          refine BStep.of [6, 7] [(58, 6), (59, 7)] (opV _) (by kernel_rfl) (fun _ _ => by kernel_rfl) rfl ?_
          intro vs wv hB hA
          have h6 : vs 6 = _ := hA.1
          have h7 : vs 7 = _ := hA.2.1
          clear hA
          simp only [fillP, List.setIfInBounds_toArray, List.set_cons_zero, List.set_cons_succ, h6, h7]
          have c0 := (CT.out wv hB).1; have c1 := (CT.out wv hB).2.1; have d0 := (CT.out wv hB).2.2.1; have d1 := (CT.out wv hB).2.2.2; go_wp2_with fail
          refine postB_val ?_ (Below.refl _ _)
          simp only [List.getElem?_cons_succ, List.getElem?_cons_zero]
          rfl
        case s9 =>
          refine BStep.of [6] [(58, 6)] (opV _) (by kernel_rfl) (fun _ _ => by kernel_rfl) rfl ?_
          intro vs wv hB hA
          have h6 : vs 6 = _ := hA.1
          clear hA
          simp only [fillP, List.setIfInBounds_toArray, List.set_cons_zero, List.set_cons_succ, h6]
          have c0 := (CT.out wv hB).1; have c1 := (CT.out wv hB).2.1; have d0 := (CT.out wv hB).2.2.1; have d1 := (CT.out wv hB).2.2.2; go_wp2_with fail
          refine postB_val ?_ (Below.refl _ _)
          simp only [List.getElem?_cons_succ, List.getElem?_cons_zero]
          rfl
        case s10 =>
          refine BStep.of [6, 9] [(58, 6), (61, 9)] (opV _) (by kernel_rfl) (fun _ _ => by kernel_rfl) rfl ?_
          intro vs wv hB hA
          have h6 : vs 6 = _ := hA.1
          have h9 : vs 9 = _ := hA.2.1
          clear hA
          simp only [fillP, List.setIfInBounds_toArray, List.set_cons_zero, List.set_cons_succ, h6, h9]
          have c0 := (CT.out wv hB).1; have c1 := (CT.out wv hB).2.1; have d0 := (CT.out wv hB).2.2.1; have d1 := (CT.out wv hB).2.2.2; go_wp2_with fail
          refine postB_val ?_ (Below.refl _ _)
          simp only [List.getElem?_cons_succ, List.getElem?_cons_zero]
          rfl
        case s11 =>
          refine BStep.of [6, 10] [(58, 6), (62, 10)] (opV _) (by kernel_rfl) (fun _ _ => by kernel_rfl) rfl ?_
          intro vs wv hB hA
          have h6 : vs 6 = _ := hA.1
          have h10 : vs 10 = _ := hA.2.1
          clear hA
          simp only [fillP, List.setIfInBounds_toArray, List.set_cons_zero, List.set_cons_succ, h6, h10]
          have c0 := (CT.out wv hB).1; have c1 := (CT.out wv hB).2.1; have d0 := (CT.out wv hB).2.2.1; have d1 := (CT.out wv hB).2.2.2; go_wp2_with fail
          refine postB_val ?_ (Below.refl _ _)
          simp only [List.getElem?_cons_succ, List.getElem?_cons_zero]
          rfl
        case s12 =>
          refine BStep.of [6, 8, 11] [(58, 6), (60, 8), (63, 11)] (opV _) (by kernel_rfl) (fun _ _ => by kernel_rfl) rfl ?_
          intro vs wv hB hA
          have h6 : vs 6 = _ := hA.1
          have h8 : vs 8 = _ := hA.2.1
          have h11 : vs 11 = _ := hA.2.2.1
          clear hA
          simp only [fillP, List.setIfInBounds_toArray, List.set_cons_zero, List.set_cons_succ, h6, h8, h11]
          have c0 := (CT.out wv hB).1; have c1 := (CT.out wv hB).2.1; have d0 := (CT.out wv hB).2.2.1; have d1 := (CT.out wv hB).2.2.2; go_wp2_with fail
          refine postB_val ?_ (Below.refl _ _)
          simp only [List.getElem?_cons_succ, List.getElem?_cons_zero]
          rfl
        case s13 =>
          refine BStep.of [6, 12] [(58, 6), (64, 12)] (opV _) (by kernel_rfl) (fun _ _ => by kernel_rfl) rfl ?_
          intro vs wv hB hA
          have h6 : vs 6 = _ := hA.1
          have h12 : vs 12 = _ := hA.2.1
          clear hA
          simp only [fillP, List.setIfInBounds_toArray, List.set_cons_zero, List.set_cons_succ, h6, h12]
          have c0 := (CT.out wv hB).1; have c1 := (CT.out wv hB).2.1; have d0 := (CT.out wv hB).2.2.1; have d1 := (CT.out wv hB).2.2.2; go_wp2_with fail
          refine postB_val ?_ (Below.refl _ _)
          simp only [List.getElem?_cons_succ, List.getElem?_cons_zero]
          rfl
        case s14 =>
          refine BStep.of [6, 13] [(58, 6), (65, 13)] (opV _) (by kernel_rfl) (fun _ _ => by kernel_rfl) rfl ?_
          intro vs wv hB hA
          have h6 : vs 6 = _ := hA.1
          have h13 : vs 13 = _ := hA.2.1
          clear hA
          simp only [fillP, List.setIfInBounds_toArray, List.set_cons_zero, List.set_cons_succ, h6, h13]
          have c0 := (CT.out wv hB).1; have c1 := (CT.out wv hB).2.1; have d0 := (CT.out wv hB).2.2.1; have d1 := (CT.out wv hB).2.2.2; go_wp2_with fail
          refine postB_val ?_ (Below.refl _ _)
          simp only [List.getElem?_cons_succ, List.getElem?_cons_zero]
          rfl
        case s15 =>
          refine BStep.of [14] [(66, 14)] (opV _) (by kernel_rfl) (fun _ _ => by kernel_rfl) rfl ?_
          intro vs wv hB hA
          have h14 : vs 14 = _ := hA.1
          clear hA
          simp only [fillP, List.setIfInBounds_toArray, List.set_cons_zero, List.set_cons_succ, h14]
          have c0 := (CT.out wv hB).1; have c1 := (CT.out wv hB).2.1; have d0 := (CT.out wv hB).2.2.1; have d1 := (CT.out wv hB).2.2.2; go_wp2_with fail
          refine postB_val ?_ (Below.refl _ _)
          simp only [List.getElem?_cons_succ, List.getElem?_cons_zero]
          rfl
        case s16 =>
          refine BStep.of [14, 15] [(66, 14), (67, 15)] (opV (.int .i64 s)) (by kernel_rfl) (fun _ _ => by kernel_rfl) rfl ?_
          intro vs wv hB hA
          have h14 : vs 14 = _ := hA.1
          have h15 : vs 15 = _ := hA.2.1
          clear hA
          simp only [fillP, List.setIfInBounds_toArray, List.set_cons_zero, List.set_cons_succ, h14, h15]
          (go_wp2_with (go_at_call 14; (with_reducible refine (KV1.out _).mono ?_); rintro e w7 ⟨rfl, hb⟩)); exact postB_val rfl hb
        case s17 =>
          refine BStep.of [14] [(66, 14)] (opV _) (by kernel_rfl) (fun _ _ => by kernel_rfl) rfl ?_
          intro vs wv hB hA
          have h14 : vs 14 = _ := hA.1
          clear hA
          simp only [fillP, List.setIfInBounds_toArray, List.set_cons_zero, List.set_cons_succ, h14]
          have c0 := (CT.out wv hB).1; have c1 := (CT.out wv hB).2.1; have d0 := (CT.out wv hB).2.2.1; have d1 := (CT.out wv hB).2.2.2; go_wp2_with fail
          refine postB_val ?_ (Below.refl _ _)
          simp only [List.getElem?_cons_succ, List.getElem?_cons_zero]
          rfl
        case s18 =>
          refine BStep.of [14, 16, 17] [(66, 14), (68, 16), (69, 17)] (opV (.int .i64 t)) (by kernel_rfl) (fun _ _ => by kernel_rfl) rfl ?_
          intro vs wv hB hA
          have h14 : vs 14 = _ := hA.1
          have h16 : vs 16 = _ := hA.2.1
          have h17 : vs 17 = _ := hA.2.2.1
          clear hA
          simp only [fillP, List.setIfInBounds_toArray, List.set_cons_zero, List.set_cons_succ, h14, h16, h17]
          (go_wp2_with (go_at_call 14; (with_reducible refine (KV2.out _).mono ?_); rintro e w7 ⟨rfl, hb⟩)); exact postB_val rfl hb
        case s19 =>
          refine BStep.of [14, 18] [(66, 14), (70, 18)] (opV _) (by kernel_rfl) (fun _ _ => by kernel_rfl) rfl ?_
          intro vs wv hB hA
          have h14 : vs 14 = _ := hA.1
          have h18 : vs 18 = _ := hA.2.1
          clear hA
          simp only [fillP, List.setIfInBounds_toArray, List.set_cons_zero, List.set_cons_succ, h14, h18]
          have c0 := (CT.out wv hB).1; have c1 := (CT.out wv hB).2.1; have d0 := (CT.out wv hB).2.2.1; have d1 := (CT.out wv hB).2.2.2; go_wp2_with fail
          refine postB_val ?_ (Below.refl _ _)
          simp only [List.getElem?_cons_succ, List.getElem?_cons_zero]
          rfl
        case s20 =>
          refine BStep.of [14, 16, 19] [(66, 14), (68, 16), (71, 19)] (opV _) (by kernel_rfl) (fun _ _ => by kernel_rfl) rfl ?_
          intro vs wv hB hA
          have h14 : vs 14 = _ := hA.1
          have h16 : vs 16 = _ := hA.2.1
          have h19 : vs 19 = _ := hA.2.2.1
          clear hA
          simp only [fillP, List.setIfInBounds_toArray, List.set_cons_zero, List.set_cons_succ, h14, h16, h19]
          have c0 := (CT.out wv hB).1; have c1 := (CT.out wv hB).2.1; have d0 := (CT.out wv hB).2.2.1; have d1 := (CT.out wv hB).2.2.2; go_wp2_with fail
          refine postB_val ?_ (Below.refl _ _)
          simp only [List.getElem?_cons_succ, List.getElem?_cons_zero]
          rfl
        case s21 =>
          refine BStep.of [14, 20] [(66, 14), (72, 20)] (opV _) (by kernel_rfl) (fun _ _ => by kernel_rfl) rfl ?_
          intro vs wv hB hA
          have h14 : vs 14 = _ := hA.1
          have h20 : vs 20 = _ := hA.2.1
          clear hA
          simp only [fillP, List.setIfInBounds_toArray, List.set_cons_zero, List.set_cons_succ, h14, h20]
          have c0 := (CT.out wv hB).1; have c1 := (CT.out wv hB).2.1; have d0 := (CT.out wv hB).2.2.1; have d1 := (CT.out wv hB).2.2.2; go_wp2_with fail
          refine postB_val ?_ (Below.refl _ _)
          simp only [List.getElem?_cons_succ, List.getElem?_cons_zero]
          rfl
        case s22 =>
          refine BStep.of [0, 1, 2, 3, 4, 5, 6, 7, 8, 9, 10, 11, 12, 13, 14, 15, 16, 17, 18, 19, 20, 21] [(52, 0), (53, 1), (54, 2), (55, 3), (56, 4), (57, 5), (58, 6), (59, 7), (60, 8), (61, 9), (62, 10), (63, 11), (64, 12), (65, 13), (66, 14), (67, 15), (68, 16), (69, 17), (70, 18), (71, 19), (72, 20), (73, 21)] (opV _) (by kernel_rfl) (fun _ _ => by kernel_rfl) rfl ?_
          intro vs wv hB hA
          have h0 : vs 0 = _ := hA.1
          have h1 : vs 1 = _ := hA.2.1
          have h2 : vs 2 = _ := hA.2.2.1
          have h3 : vs 3 = _ := hA.2.2.2.1
          have h4 : vs 4 = _ := hA.2.2.2.2.1
          have h5 : vs 5 = _ := hA.2.2.2.2.2.1
          have h6 : vs 6 = _ := hA.2.2.2.2.2.2.1
          have h7 : vs 7 = _ := hA.2.2.2.2.2.2.2.1
          have h8 : vs 8 = _ := hA.2.2.2.2.2.2.2.2.1
          have h9 : vs 9 = _ := hA.2.2.2.2.2.2.2.2.2.1
          have h10 : vs 10 = _ := hA.2.2.2.2.2.2.2.2.2.2.1
          have h11 : vs 11 = _ := hA.2.2.2.2.2.2.2.2.2.2.2.1
          have h12 : vs 12 = _ := hA.2.2.2.2.2.2.2.2.2.2.2.2.1
          have h13 : vs 13 = _ := hA.2.2.2.2.2.2.2.2.2.2.2.2.2.1
          have h14 : vs 14 = _ := hA.2.2.2.2.2.2.2.2.2.2.2.2.2.2.1
          have h15 : vs 15 = _ := hA.2.2.2.2.2.2.2.2.2.2.2.2.2.2.2.1
          have h16 : vs 16 = _ := hA.2.2.2.2.2.2.2.2.2.2.2.2.2.2.2.2.1
          have h17 : vs 17 = _ := hA.2.2.2.2.2.2.2.2.2.2.2.2.2.2.2.2.2.1
          have h18 : vs 18 = _ := hA.2.2.2.2.2.2.2.2.2.2.2.2.2.2.2.2.2.2.1
          have h19 : vs 19 = _ := hA.2.2.2.2.2.2.2.2.2.2.2.2.2.2.2.2.2.2.2.1
          have h20 : vs 20 = _ := hA.2.2.2.2.2.2.2.2.2.2.2.2.2.2.2.2.2.2.2.2.1
          have h21 : vs 21 = _ := hA.2.2.2.2.2.2.2.2.2.2.2.2.2.2.2.2.2.2.2.2.2.1
          clear hA
          simp only [fillP, List.setIfInBounds_toArray, List.set_cons_zero, List.set_cons_succ, h0, h1, h2, h3, h4, h5, h6, h7, h8, h9, h10, h11, h12, h13, h14, h15, h16, h17, h18, h19, h20, h21]
          have c0 := (CT.out wv hB).1; have c1 := (CT.out wv hB).2.1; have d0 := (CT.out wv hB).2.2.1; have d1 := (CT.out wv hB).2.2.2; go_wp2_with fail
          refine postB_val ?_ (Below.refl _ _)
          simp only [List.getElem?_cons_succ, List.getElem?_cons_zero]
          rfl
        case fin =>
          refine fin_of [0, 1, 2, 3, 4, 5, 6, 7, 8, 9, 10, 11, 12, 13, 14, 15, 16, 17, 18, 19, 20, 21, 22] [(52, 0), (53, 1), (54, 2), (55, 3), (56, 4), (57, 5), (58, 6), (59, 7), (60, 8), (61, 9), (62, 10), (63, 11), (64, 12), (65, 13), (66, 14), (67, 15), (68, 16), (69, 17), (70, 18), (71, 19), (72, 20), (73, 21), (2, 22)] (by kernel_rfl) (fun _ _ => by kernel_rfl) ?_
          intro vs wv hB hA
          have h0 : vs 0 = _ := hA.1
          have h1 : vs 1 = _ := hA.2.1
          have h2 : vs 2 = _ := hA.2.2.1
          have h3 : vs 3 = _ := hA.2.2.2.1
          have h4 : vs 4 = _ := hA.2.2.2.2.1
          have h5 : vs 5 = _ := hA.2.2.2.2.2.1
          have h6 : vs 6 = _ := hA.2.2.2.2.2.2.1
          have h7 : vs 7 = _ := hA.2.2.2.2.2.2.2.1
          have h8 : vs 8 = _ := hA.2.2.2.2.2.2.2.2.1
          have h9 : vs 9 = _ := hA.2.2.2.2.2.2.2.2.2.1
          have h10 : vs 10 = _ := hA.2.2.2.2.2.2.2.2.2.2.1
          have h11 : vs 11 = _ := hA.2.2.2.2.2.2.2.2.2.2.2.1
          have h12 : vs 12 = _ := hA.2.2.2.2.2.2.2.2.2.2.2.2.1
          have h13 : vs 13 = _ := hA.2.2.2.2.2.2.2.2.2.2.2.2.2.1
          have h14 : vs 14 = _ := hA.2.2.2.2.2.2.2.2.2.2.2.2.2.2.1
          have h15 : vs 15 = _ := hA.2.2.2.2.2.2.2.2.2.2.2.2.2.2.2.1
          have h16 : vs 16 = _ := hA.2.2.2.2.2.2.2.2.2.2.2.2.2.2.2.2.1
          have h17 : vs 17 = _ := hA.2.2.2.2.2.2.2.2.2.2.2.2.2.2.2.2.2.1
          have h18 : vs 18 = _ := hA.2.2.2.2.2.2.2.2.2.2.2.2.2.2.2.2.2.2.1
          have h19 : vs 19 = _ := hA.2.2.2.2.2.2.2.2.2.2.2.2.2.2.2.2.2.2.2.1
          have h20 : vs 20 = _ := hA.2.2.2.2.2.2.2.2.2.2.2.2.2.2.2.2.2.2.2.2.1
          have h21 : vs 21 = _ := hA.2.2.2.2.2.2.2.2.2.2.2.2.2.2.2.2.2.2.2.2.2.1
          have h22 : vs 22 = _ := hA.2.2.2.2.2.2.2.2.2.2.2.2.2.2.2.2.2.2.2.2.2.2.1
          clear hA
          simp only [fillP, List.setIfInBounds_toArray, List.set_cons_zero, List.set_cons_succ, h0, h1, h2, h3, h4, h5, h6, h7, h8, h9, h10, h11, h12, h13, h14, h15, h16, h17, h18, h19, h20, h21, h22]
          go_wp2_with fail; go_ret; exact ⟨by first|rfl | simp, b_next BZ.out hB⟩
end Go.Proofs.Ytjnfbnngpcnffaa
