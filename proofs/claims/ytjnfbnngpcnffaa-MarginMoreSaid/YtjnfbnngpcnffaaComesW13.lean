/-
  The law MarginComes: of any Join, One, Value, May that answer as is asked.
-/
import Derived.Test.YtjnfbnngpcnffaaAwake13
import Derived.Test.YtjnfbnngpcnffaaWords
namespace Go.Proofs.Ytjnfbnngpcnffaa
open Go.RowKit

def firstM (f : Nat → Int) (k : Nat) : List Mg := (List.range k).map (fun i => oneM (f i))
def firstZ (f : Nat → Int) (k : Nat) : List Int := (List.range k).map f
theorem firstM_len (f : Nat → Int) (k : Nat) : (firstM f k).length = k := by simp [firstM]
theorem firstM_succ (f : Nat → Int) (k : Nat) : firstM f (k + 1) = firstM f k ++ [oneM (f k)] := by simp [firstM, List.range_succ]
theorem great_succ (f : Nat → Int) (k : Nat) : greatZ (firstZ f (k + 1)) = if f k > greatZ (firstZ f k) then f k else greatZ (firstZ f k) := by simp [greatZ, firstZ, List.range_succ]
theorem small_succ (f : Nat → Int) (k : Nat) : smallZ (firstZ f (k + 1)) = if f k < smallZ (firstZ f k) then f k else smallZ (firstZ f k) := by unfold smallZ firstZ; rw [List.range_succ, List.map_append, List.foldl_append]; rfl
theorem join_first {f : Nat → Int} {n : Nat} (h : ∀ i, i < n → -1099511627776 ≤ f i ∧ f i ≤ 1099511627776) : joinM (firstM f n) = (greatZ (firstZ f n), smallZ (firstZ f n)) ∧ MayM (greatZ (firstZ f n), smallZ (firstZ f n)) := by
  have e : firstM f n = (firstZ f n).map oneM := by simp [firstM, firstZ]
  have hb : ∀ x ∈ firstZ f n, -1099511627776 ≤ x ∧ x ≤ 1099511627776 := by
    intro x hx
    obtain ⟨i, hi, rfl⟩ := List.mem_map.1 hx
    exact h i (List.mem_range.1 hi)
  have hj := join_ones hb
  rw [e]
  refine ⟨hj, ?_⟩
  rw [← hj]
  refine joinM_may (fun x hx => ?_)
  obtain ⟨y, hy, rfl⟩ := List.mem_map.1 hx
  exact oneM_may (hb y hy)

set_option maxRecDepth 100000 in
set_option maxHeartbeats 8000000 in
theorem comes13 (hJ : JoinOK 8) (hO : OneOK 12) (hM : MayOK13 10) (hV : ValueOK 14) (hA : AwakeOK13 16) (A : Option Addr) (n c : Nat) (f : Nat → Int) (w : World) (hI : Ints w A n f) :
    Calls Try.prog 5 #[.slice A n c] w fun e w' => e = .returned (.bool true) ∧ Below w.heap.size w w' := by
  have KA := Lib.hid (fun W => hA W)
  have HI := Lib.hid hI
  clear hI hA
  by_cases h : 500 < n
  · have hz : (500 : Int) < n := by omega
    clear hJ hO hM hV
    go_enter Try.func5, Try.ntmps5
    go_wp2_with (go_at_call 16; (with_reducible refine (KA.out _).mono ?_); rintro e w1 ⟨rfl, hb⟩; have B1 := Lib.hid hb; clear hb)
    go_ret
    exact ⟨rfl, B1.out⟩
  · have hz : ¬ (500 : Int) < n := by omega
    have hn : n ≤ 500 := by omega
    have KJ := Lib.hid (fun l v W (hW : MgIn W v l) (hl : l.length ≤ 100000) => hJ l v W hW hl)
    have KO := Lib.hid (fun x W => hO x W)
    have KM := Lib.hid (fun m W => hM m W)
    have KV := Lib.hid (fun m W => hV m W)
    clear hJ hO hM hV h
    go_enter Try.func5, Try.ntmps5
    go_wp2_with (go_at_call 16; (with_reducible refine (KA.out _).mono ?_); rintro e w1 ⟨rfl, hb⟩; have B1 := Lib.hid hb; clear hb)
    have I1 := Lib.hid (HI.out.below B1.out)
    clear HI KA
    go_loopg [3, 4, 5, 6] n (fun g1 vg vs va vi wr => ∃ k : Nat, vi = .int .i64 k ∧ vg = .int .i64 (greatZ (firstZ f k)) ∧ vs = .int .i64 (smallZ (firstZ f k)) ∧ k ≤ n ∧ n - k ≤ g1 ∧ Hid (ownsM wr w1.heap.size va (firstM f k)) ∧ Hid (Below w1.heap.size w1 wr) ∧ Hid (∀ i, i < k → -1099511627776 ≤ f i ∧ f i ≤ 1099511627776))
    case atStart => exact ⟨0, rfl, rfl, rfl, by omega, by omega, Lib.hid (ownsM.nil _ _), Lib.hid (Below.refl _ _), Lib.hid (fun i hi => absurd hi (by omega))⟩
    case round =>
      obtain ⟨k, rfl, rfl, rfl, hk, hg1, HO, HB, HF⟩ := hrel
      obtain ⟨wo, hwo⟩ : ∃ wo, wo = wr := ⟨_, rfl⟩
      subst hwo
      by_cases hlt : k < n
      · have hz1 : (k : Int) < n := by omega
        have hz0 : (0 : Int) ≤ k := by omega
        have wi : IntKind.i64.wrap ((k : Int) + 1) = (k : Int) + 1 := IntWalk.i64_in _ (by omega)
        obtain ⟨b, off, rfl, -, c0⟩ := (I1.out.below HB.out).at_ hlt
        have FM := Lib.hid (firstM_succ f k)
        have FL : Hid ((firstM f k).length ≤ 90000) := Lib.hid (by rw [firstM_len]; omega)
        have GS := Lib.hid (great_succ f k)
        have SS := Lib.hid (small_succ f k)
        have FX : Hid (∀ x, f k = x → -1099511627776 ≤ x ∧ x ≤ 1099511627776 → ∀ i, i < k + 1 → -1099511627776 ≤ f i ∧ f i ≤ 1099511627776) := Lib.hid (fun x e hx i hi => by
          rcases Nat.lt_or_ge i k with h | h
          · exact HF.out i h
          · obtain rfl : i = k := by omega
            rw [e]; exact hx)
        generalize f k = x at c0 FM GS SS FX
        have FX := Lib.hid (FX.out x rfl)
        have BZ := Lib.hid (B1.out.trans (HB.out.mono B1.out.size))
        by_cases h1 : 1099511627776 < x
        · have d1 : decide (1099511627776 < x) = true := decide_eq_true h1
          clear FM GS SS FX KJ KO KM KV
          go_wp2_with fail
          go_ret
          exact ⟨rfl, BZ.out⟩
        · have d1 : decide (1099511627776 < x) = false := decide_eq_false h1
          by_cases h2 : x < -1099511627776
          · have d2 : decide (x < -1099511627776) = true := decide_eq_true h2
            clear FM GS SS FX KJ KO KM KV
            go_wp2_with fail
            go_ret
            exact ⟨rfl, BZ.out⟩
          · have d2 : decide (x < -1099511627776) = false := decide_eq_false h2
            have FX := Lib.hid (FX.out ⟨by omega, by omega⟩)
            have KO1 := Lib.hid (fun W => KO.out x W)
            obtain ⟨⟨p, q⟩, hpq⟩ : ∃ m, oneM x = m := ⟨_, rfl⟩
            rw [hpq] at KO1 FM
            unfold mgV at KO1
            dsimp only at KO1
            obtain ⟨G, hG⟩ : ∃ G, greatZ (firstZ f k) = G := ⟨_, rfl⟩
            obtain ⟨S, hS⟩ : ∃ S, smallZ (firstZ f k) = S := ⟨_, rfl⟩
            rw [hG] at GS ⊢
            rw [hS] at SS ⊢
            clear hpq hG hS BZ
            by_cases h3 : G < x
            · have h3' : ¬ x ≤ G := by omega
              have GS' := Lib.hid (GS.out.trans (if_pos h3))
              by_cases h4 : x < S
              · have h4' : ¬ S ≤ x := by omega
                have SS' := Lib.hid (SS.out.trans (if_pos h4))
                clear GS SS
                go_wp2_with fail
                go_quiet (fail)
                have C3 := Lib.hid (drewN_below wo nq wo.heap.size)
                have c3 : (wo.drewN nq).cell? ⟨b, off + k, none⟩ = some (.int .i64 x) := c0
                generalize wo.drewN nq = w3 at C3 c3 ⊢
                go_wp2_with (first
                  | (go_at_call 12; (with_reducible refine (KO1.out _).mono ?_); rintro e w4 ⟨rfl, hb⟩; have B4 := Lib.hid (HB.out.trans ((b_next C3.out hb).mono HB.out.size)); have O4 := Lib.hid (HO.out.keep (b_next C3.out hb)); clear hb)
                  | ((with_reducible change wpList _ _ _ (Oper.mk (some 50) _ _ _ _ _ :: _) _ _); refine wpList_append_mg rfl _ _ rfl w1.heap.size _ (firstM f k) rfl O4.out (p, q) _ rfl FL.out B4.out.size ?_; intro v5 w5 hO hB _; have O5 := Lib.hid hO; rw [← FM.out] at O5; have B5 := Lib.hid (B4.out.trans hB); clear hO hB))
                clear FM
                go_roundg (n - (k + 1))
                case measure => omega
                case rel => exact ⟨k + 1, by go_num, by rw [GS'.out], by rw [SS'.out], by omega, Nat.le_refl _, O5, B5, FX⟩
              · have h4' : S ≤ x := by omega
                have SS' := Lib.hid (SS.out.trans (if_neg h4))
                clear GS SS
                go_wp2_with fail
                go_quiet (fail)
                have C3 := Lib.hid (drewN_below wo nq wo.heap.size)
                have c3 : (wo.drewN nq).cell? ⟨b, off + k, none⟩ = some (.int .i64 x) := c0
                generalize wo.drewN nq = w3 at C3 c3 ⊢
                go_wp2_with (first
                  | (go_at_call 12; (with_reducible refine (KO1.out _).mono ?_); rintro e w4 ⟨rfl, hb⟩; have B4 := Lib.hid (HB.out.trans ((b_next C3.out hb).mono HB.out.size)); have O4 := Lib.hid (HO.out.keep (b_next C3.out hb)); clear hb)
                  | ((with_reducible change wpList _ _ _ (Oper.mk (some 50) _ _ _ _ _ :: _) _ _); refine wpList_append_mg rfl _ _ rfl w1.heap.size _ (firstM f k) rfl O4.out (p, q) _ rfl FL.out B4.out.size ?_; intro v5 w5 hO hB _; have O5 := Lib.hid hO; rw [← FM.out] at O5; have B5 := Lib.hid (B4.out.trans hB); clear hO hB))
                clear FM
                go_roundg (n - (k + 1))
                case measure => omega
                case rel => exact ⟨k + 1, by go_num, by rw [GS'.out], by rw [SS'.out], by omega, Nat.le_refl _, O5, B5, FX⟩
            · have h3' : x ≤ G := by omega
              have GS' := Lib.hid (GS.out.trans (if_neg h3))
              by_cases h4 : x < S
              · have h4' : ¬ S ≤ x := by omega
                have SS' := Lib.hid (SS.out.trans (if_pos h4))
                clear GS SS
                go_wp2_with fail
                go_quiet (fail)
                have C3 := Lib.hid (drewN_below wo nq wo.heap.size)
                have c3 : (wo.drewN nq).cell? ⟨b, off + k, none⟩ = some (.int .i64 x) := c0
                generalize wo.drewN nq = w3 at C3 c3 ⊢
                go_wp2_with (first
                  | (go_at_call 12; (with_reducible refine (KO1.out _).mono ?_); rintro e w4 ⟨rfl, hb⟩; have B4 := Lib.hid (HB.out.trans ((b_next C3.out hb).mono HB.out.size)); have O4 := Lib.hid (HO.out.keep (b_next C3.out hb)); clear hb)
                  | ((with_reducible change wpList _ _ _ (Oper.mk (some 50) _ _ _ _ _ :: _) _ _); refine wpList_append_mg rfl _ _ rfl w1.heap.size _ (firstM f k) rfl O4.out (p, q) _ rfl FL.out B4.out.size ?_; intro v5 w5 hO hB _; have O5 := Lib.hid hO; rw [← FM.out] at O5; have B5 := Lib.hid (B4.out.trans hB); clear hO hB))
                clear FM
                go_roundg (n - (k + 1))
                case measure => omega
                case rel => exact ⟨k + 1, by go_num, by rw [GS'.out], by rw [SS'.out], by omega, Nat.le_refl _, O5, B5, FX⟩
              · have h4' : S ≤ x := by omega
                have SS' := Lib.hid (SS.out.trans (if_neg h4))
                clear GS SS
                go_wp2_with fail
                go_quiet (fail)
                have C3 := Lib.hid (drewN_below wo nq wo.heap.size)
                have c3 : (wo.drewN nq).cell? ⟨b, off + k, none⟩ = some (.int .i64 x) := c0
                generalize wo.drewN nq = w3 at C3 c3 ⊢
                go_wp2_with (first
                  | (go_at_call 12; (with_reducible refine (KO1.out _).mono ?_); rintro e w4 ⟨rfl, hb⟩; have B4 := Lib.hid (HB.out.trans ((b_next C3.out hb).mono HB.out.size)); have O4 := Lib.hid (HO.out.keep (b_next C3.out hb)); clear hb)
                  | ((with_reducible change wpList _ _ _ (Oper.mk (some 50) _ _ _ _ _ :: _) _ _); refine wpList_append_mg rfl _ _ rfl w1.heap.size _ (firstM f k) rfl O4.out (p, q) _ rfl FL.out B4.out.size ?_; intro v5 w5 hO hB _; have O5 := Lib.hid hO; rw [← FM.out] at O5; have B5 := Lib.hid (B4.out.trans hB); clear hO hB))
                clear FM
                go_roundg (n - (k + 1))
                case measure => omega
                case rel => exact ⟨k + 1, by go_num, by rw [GS'.out], by rw [SS'.out], by omega, Nat.le_refl _, O5, B5, FX⟩
      · obtain rfl : k = n := by omega
        have hz1 : ¬ (k : Int) < k := by omega
        have JF := join_first HF.out
        have KJ1 := Lib.hid (KJ.out (firstM f k) _ wo HO.out.mgs (by rw [firstM_len]; omega))
        obtain ⟨G, hG⟩ : ∃ G, greatZ (firstZ f k) = G := ⟨_, rfl⟩
        obtain ⟨S, hS⟩ : ∃ S, smallZ (firstZ f k) = S := ⟨_, rfl⟩
        rw [hG, hS] at JF
        rw [hG, hS]
        rw [JF.1] at KJ1
        have KM1 := Lib.hid (fun W => KM.out (G, S) W)
        have KV1 := Lib.hid (fun W => KV.out (G, S) W)
        rw [decide_eq_true JF.2] at KM1
        obtain ⟨-, ⟨g1, g2⟩, g3, g4⟩ := JF
        dsimp only at g1 g2 g3 g4
        have ws : IntKind.i64.wrap (G + S) = G + S := IntWalk.i64_in _ (by omega)
        unfold valueM at KV1
        unfold mgV at KJ1 KM1 KV1
        dsimp only at KJ1 KM1 KV1
        rw [ws] at KV1
        have BZ := Lib.hid (B1.out.trans (HB.out.mono B1.out.size))
        clear hG hS KJ KO KM KV g1 g2 g3 g4
        obtain ⟨C, d, rfl, -, -, -⟩ := own_form HO.out
        go_upto_region 15 with (go_at_call 8; (with_reducible refine (KJ1.out).mono ?_); rintro e w2 ⟨rfl, hb⟩; have B2 := Lib.hid (b_next BZ.out hb); clear hb)
        have B5 : Hid (Below w.heap.size w (w2.alloc (.cells #[.int .i64 G, .int .i64 S] 24))) := Lib.hid (B2.out.alloc B2.out.size _)
        have G5 : Hid (MgAt (w2.alloc (.cells #[.int .i64 G, .int .i64 S] 24)) w2.heap.size (G, S)) := Lib.hid (MgAt.new w2 (G, S))
        generalize w2.alloc (.cells #[.int .i64 G, .int .i64 S] 24) = w5 at B5 G5 ⊢
        generalize w2.heap.size = g at G5 ⊢
        have CS : Hid (∀ W, Below w5.heap.size w5 W → W.cell? ⟨g, 0, none⟩ = some (.int .i64 G) ∧ W.cell? ⟨g, 1, none⟩ = some (.int .i64 S)) := Lib.hid (fun W hW => MgAt.cells (MgAt.keep G5.out hW))
        obtain ⟨a0, a1⟩ := CS.out w5 (Below.refl _ _)
        have k1 : (G == G) = true := by simp
        have k2 : (S == S) = true := by simp
        have k3 : (G + S == G + S) = true := by simp
        clear B2 KJ1
        go_wp2_with (first
          | (go_at_call 14; (with_reducible refine (KV1.out _).mono ?_); rintro e wa ⟨rfl, hb⟩; have Da : Hid (Below w5.heap.size w5 wa) := Lib.hid hb; obtain ⟨c0, c1⟩ := CS.out wa Da.out; clear hb)
          | (go_at_call 10; (with_reducible refine (KM1.out _).mono ?_); rintro e wb ⟨rfl, hb⟩; have Db : Hid (Below w5.heap.size w5 wb) := Lib.hid (b_next Da.out hb); clear hb))
        go_ret
        exact ⟨by first | rfl | simp, b_next B5.out Db.out⟩
end Go.Proofs.Ytjnfbnngpcnffaa
