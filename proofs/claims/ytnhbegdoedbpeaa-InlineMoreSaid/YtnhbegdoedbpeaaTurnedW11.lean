/-
  The law InlineTurned: of any Place that answers as is asked.
-/
import Derived.Test.YtnhbegdoedbpeaaTurnMath11
namespace Go.Proofs.Ytnhbegdoedbpeaa
open Go.RowKit

theorem ex11_5 : placeA [] 3 5 9 1 = ([], 8, 3, 0) := by kernel_rfl
theorem u64_wrap_nat (x : Int) : ∃ m : Nat, IntKind.u64.wrap x = (m : Int) ∧ m < 18446744073709551616 := by
  have h1 := IntKind.wrap_u64 x
  exact ⟨(IntKind.u64.wrap x).toNat, by rw [h1]; omega, by rw [h1]; omega⟩
set_option maxRecDepth 100000 in
set_option maxHeartbeats 8000000 in
theorem turned11 (hP : PlaceOK 9) (hA : AwakeOK11 11) (l : List Sp) (v : Value) (x : RO) (z : Int) (w : World) (hv : SpIn w v l) :
    Calls Try.prog 6 #[v, ownV x, .int .i64 z] w fun e w' => e = .returned (.bool true) ∧ Below w.heap.size w w' := by
  have XC := Lib.hid (own_cells w x)
  have B0 : Hid (Below w.heap.size w (w.alloc (.cells #[.int .i64 x.up, .int .i64 x.down, .int .i64 x.width, .int .u8 (x.lines : Nat)] 24))) := Lib.hid ((Below.refl _ w).alloc (Nat.le_refl _) _)
  have KA := Lib.hid (fun W => hA W)
  have V0 := Lib.hid (hv.keep B0.out)
  obtain ⟨r, hr⟩ : ∃ r, decide (Near l x) = r := ⟨_, rfl⟩
  have KN := Lib.hid (fun W (hW : SpIn W v l) => near_any l v x W hW r hr)
  have HR := Lib.hid hr
  obtain ⟨A, c, rfl, -, -⟩ := hv
  have F5 := Lib.hid (fun W => place_lit hP [] 3 5 9 1 1 rfl _ _ _ _ 0 rfl ex11_5 (by decide) (by decide) _ W (SpIn.nil W))
  obtain ⟨n, en⟩ : ∃ n, l.length = n := ⟨_, rfl⟩
  have HN := Lib.hid en
  have KP := Lib.hid (fun (h : Near l x) gz hgz W hW => near_place hP h.l gz hgz n en (.slice A l.length c) W hW)
  have KQ := Lib.hid (fun (h : Near l x) f (hf : f < l.length) gz hgz v' W hW => near_place hP (both_near (rot_both l f hf) h.l) gz hgz n (by rw [rot_len, en]) v' W hW)
  rw [en] at KN KP V0 ⊢
  clear hP hA hr en
  unfold ownV at KN ⊢
  obtain ⟨up, down, width, lines⟩ := x
  dsimp only at XC B0 V0 KN KP KQ HR ⊢
  obtain ⟨gz, hgz⟩ : ∃ gz, ((lines : Nat) : Int) = gz := ⟨_, rfl⟩
  have KP := Lib.hid (fun h W hW => KP.out h gz hgz W hW)
  have KQ := Lib.hid (fun h f hf v' W hW => KQ.out h f hf gz hgz v' W hW)
  rw [hgz] at XC B0 V0 KN ⊢
  clear hgz
  go_enter Try.func6, Try.ntmps6
  go_upto_region 1 with fail
  generalize w.alloc (.cells #[.int .i64 up, .int .i64 down, .int .i64 width, .int .u8 gz] 24) = w0 at XC B0 V0 ⊢
  go_upto_region 3 with (go_at_call 11; (with_reducible refine (KA.out _).mono ?_); rintro e w1 ⟨rfl, hb⟩; have B1 := Lib.hid hb; clear hb)
  obtain ⟨x0, x1, x2, x3⟩ := XC.out w1 B1.out
  cases r with
  | false =>
    go_wp2_with (first
      | (go_at_call 12; (with_reducible refine (KN.out _ (V0.out.keep B1.out)).mono ?_); rintro e w2 ⟨rfl, hb⟩; have B2 : Hid (Below w0.heap.size w0 w2) := Lib.hid (B1.out.trans (hb.mono B1.out.size)); clear hb)
      | (go_at_call 9; (with_reducible refine (F5.out _).mono ?_); rintro e w3 ⟨A', c', rfl, -, hb⟩; have B3 : Hid (Below w0.heap.size w0 w3) := Lib.hid (B2.out.trans (hb.mono B2.out.size)); clear hb; dsimp only [List.length_nil]))
    go_ret
    exact ⟨rfl, B0.out.trans (B3.out.mono B0.out.size)⟩
  | true =>
    have NR := of_decide_eq_true HR.out
    have NL := Lib.hid NR.l
    have KP := Lib.hid (KP.out NR)
    have KQ := Lib.hid (KQ.out NR)
    have hn : n ≤ 200 := by have := NR.1; have := HN.out; omega
    clear HR NR
    by_cases h0 : n = 0
    · subst h0
      go_wp2_with (first
        | (go_at_call 12; (with_reducible refine (KN.out _ (V0.out.keep B1.out)).mono ?_); rintro e w2 ⟨rfl, hb⟩; have B2 : Hid (Below w0.heap.size w0 w2) := Lib.hid (B1.out.trans (hb.mono B1.out.size)); clear hb)
        | (go_at_call 9; (with_reducible refine (F5.out _).mono ?_); rintro e w3 ⟨A', c', rfl, -, hb⟩; have B3 : Hid (Below w0.heap.size w0 w3) := Lib.hid (B2.out.trans (hb.mono B2.out.size)); clear hb; dsimp only [List.length_nil]))
      go_ret
      exact ⟨rfl, B0.out.trans (B3.out.mono B0.out.size)⟩
    · have hz : ¬ (n : Int) = 0 := by omega
      have hze : ((n : Int) == 0) = false := by simp; omega
      have hpos : 0 < n := by omega
      clear F5
      go_upto_region 6 with (go_at_call 12; (with_reducible refine (KN.out _ (V0.out.keep B1.out)).mono ?_); rintro e w2 ⟨rfl, hb⟩; have B2 : Hid (Below w0.heap.size w0 w2) := Lib.hid (B1.out.trans (hb.mono B1.out.size)); clear hb)
      clear x0 x1 x2 x3
      obtain ⟨m, hm, hml⟩ := u64_wrap_nat z
      obtain ⟨f, hf⟩ : ∃ f, m % n = f := ⟨_, rfl⟩
      have hfn : f < n := by rw [← hf]; exact Nat.mod_lt _ hpos
      have u1 : IntKind.u64.wrap (n : Int) = n := by rw [IntKind.wrap_u64]; omega
      have u2 : (m : Int) % (n : Int) = (f : Int) := by rw [← hf, Int.natCast_emod]
      have u3 : (m : Int).tmod (n : Int) = (f : Int) := by rw [Int.tmod_eq_emod_of_nonneg (by omega)]; exact u2
      have u4 : IntKind.u64.wrap (f : Int) = f := by rw [IntKind.wrap_u64]; omega
      have u5 : IntKind.i64.wrap (f : Int) = f := IntWalk.i64_in _ (by omega)
      clear hml hf
      go_upto_region 9 with fail
      clear u1 u2 u3 u4 u5 hm
      have RL := Lib.hid (fun k (hk : k < n) => atR_lt (n := n) (f := f) (k := k) hpos)
      have RI : Hid (∀ k : Nat, k < n → ((f : Int) + (k : Int)).tmod (n : Int) = (atR n f k : Nat) ∧ ((f : Int) + (k : Int)) % (n : Int) = (atR n f k : Nat)) := Lib.hid (fun k hk => by
        have h : ((f : Int) + (k : Int)) % (n : Int) = (atR n f k : Nat) := by unfold atR; rw [Int.natCast_emod, Int.natCast_add]
        exact ⟨by rw [Int.tmod_eq_emod_of_nonneg (by omega)]; exact h, h⟩)
      have V2 := Lib.hid (V0.out.keep B2.out)
      go_loopg [11, 12] n (fun g1 vo vi wr => ∃ k : Nat, vi = .int .i64 k ∧ k ≤ n ∧ n - k ≤ g1 ∧ Hid (ownsS wr w2.heap.size vo (rot l f k)) ∧ Hid (Below w2.heap.size w2 wr))
      case atStart => exact ⟨0, rfl, by omega, by omega, Lib.hid (ownsS.nil _ _), Lib.hid (Below.refl _ _)⟩
      case round =>
        obtain ⟨k, rfl, hk, hg1, HO, HB⟩ := hrel
        obtain ⟨wo, hwo⟩ : ∃ wo, wo = wr := ⟨_, rfl⟩
        subst hwo
        by_cases hlt : k < n
        · have hz1 : (k : Int) < n := by omega
          have hz0 : (0 : Int) ≤ k := by omega
          have wi : IntKind.i64.wrap ((k : Int) + 1) = (k : Int) + 1 := IntWalk.i64_in _ (by omega)
          have wf : IntKind.i64.wrap ((f : Int) + (k : Int)) = (f : Int) + k := IntWalk.i64_in _ (by omega)
          obtain ⟨rt, rm⟩ := RI.out k hlt
          have hal := RL.out k hlt
          have RS : Hid (rot l f (k + 1) = rot l f k ++ [(sw l (atR n f k), su l (atR n f k), sd l (atR n f k), sa l (atR n f k))]) := Lib.hid (by rw [rot_succ, HN.out]; rfl)
          have wt : IntKind.i64.wrap ((atR n f k : Nat) : Int) = (atR n f k : Nat) := IntWalk.i64_in _ (by omega)
          have RN : Hid ((rot l f k).length ≤ 90000) := Lib.hid (by rw [rot_len]; omega)
          obtain ⟨b, off, c', e, c0, c1, c2, c3⟩ := (V2.out.keep HB.out).get (i := atR n f k) (by have := HN.out; omega)
          injection e with e1 e2 e3
          subst e1 e3
          clear e2
          generalize atR n f k = a at c0 c1 c2 c3 rt rm hal RS wt
          have ha1 : (a : Int) < n := by omega
          have ha0 : (0 : Int) ≤ a := by omega
          clear hal
          go_wp2_with ((with_reducible change wpList _ _ _ (Oper.mk (some 78) _ _ _ _ _ :: _) _ _); refine wpList_append_sp rfl _ _ rfl w2.heap.size _ (rot l f k) rfl HO.out (sw l a, su l a, sd l a, sa l a) _ rfl RN.out HB.out.size ?_; intro v5 w5 hO hB _; have O5 := Lib.hid hO; have B5 := Lib.hid (HB.out.trans hB); rw [← RS.out] at O5; clear hO hB)
          go_roundg (n - (k + 1))
          case measure => omega
          case rel => exact ⟨k + 1, by go_num, by omega, Nat.le_refl _, O5, B5⟩
        · obtain rfl : k = n := by omega
          have hz1 : ¬ (k : Int) < k := by omega
          have B3 : Hid (Below w0.heap.size w0 wo) := Lib.hid (B2.out.trans (HB.out.mono B2.out.size))
          have T3 := Lib.hid HO.out.sps
          obtain ⟨x0, x1, x2, x3⟩ := XC.out wo B3.out
          have KQ := Lib.hid (KQ.out f (by have := HN.out; omega))
          rw [HN.out] at KQ
          clear HO HB V2
          go_upto_region 13 with (go_at_call 9; (with_reducible refine (KP.out _ (V0.out.keep B3.out)).mono ?_); rintro e w5 ⟨A', c', rfl, hp, hb⟩; have B5 : Hid (Below w0.heap.size w0 w5) := Lib.hid (B3.out.trans (hb.mono B3.out.size)); have P5 := Lib.hid hp; have T5 := Lib.hid (T3.out.keep hb); clear hb hp)
          clear x0 x1 x2 x3 T3
          obtain ⟨x0, x1, x2, x3⟩ := XC.out w5 B5.out
          go_upto_region 14 with (go_at_call 9; (with_reducible refine (KQ.out _ _ T5.out).mono ?_); rintro e w6 ⟨C', d', rfl, hp, hb⟩; have B6 : Hid (Below w0.heap.size w0 w6) := Lib.hid (B5.out.trans (hb.mono B5.out.size)); have P6 := Lib.hid hp; have Q5 := Lib.hid (P5.out.keep hb); clear hb hp)
          have bo := rot_both l f (by have := HN.out; omega)
          rw [HN.out] at bo
          have MB := both_base bo up
          have MH := both_height bo up down
          have ML := rot_lead l f (by have := HN.out; omega) width lines
          rw [HN.out] at ML
          rw [MB, MH]
          have PA := Lib.hid (fun j (hj : j < k) => Q5.out.at_ hj)
          have PC := Lib.hid (fun j (hj : j < k) => P6.out.at_ hj)
          try dsimp only at PA PC
          rw [MB, MH, ML] at PC
          obtain ⟨B, hB⟩ : ∃ B, baseT l up = B := ⟨_, rfl⟩
          obtain ⟨H, hH⟩ : ∃ H, heightT l up down = H := ⟨_, rfl⟩
          obtain ⟨LD, hLD⟩ : ∃ LD, leadT l width lines = LD := ⟨_, rfl⟩
          rw [hB, hH, hLD] at PA PC
          rw [hB, hH]
          obtain ⟨ba, ea, -, a0, -⟩ := PA.out 0 hpos
          obtain ⟨bc, ec, -, c0, -⟩ := PC.out 0 hpos
          subst ea ec
          rw [sumS_zero, Int.add_zero, Nat.zero_mul] at a0 c0
          have YA : Hid (∀ j, j < k → w6.cell? ⟨ba, j * 2 + 1, none⟩ = some (.int .i64 (yT H B (sp l j)))) := Lib.hid (fun j hj => by
            obtain ⟨b', e', -, -, h2⟩ := PA.out j hj
            cases e'
            exact h2)
          have YC : Hid (∀ j, j < k → w6.cell? ⟨bc, j * 2 + 1, none⟩ = some (.int .i64 (yT H B (sp l (atR k f j))))) := Lib.hid (fun j hj => by
            obtain ⟨b', e', -, -, h2⟩ := PC.out j hj
            cases e'
            rw [rot_sp l f k hj, HN.out] at h2
            exact h2)
          have BZ : Hid (Below w.heap.size w w6) := Lib.hid (B0.out.trans (B6.out.mono B0.out.size))
          have kk : ((k : Int) != k) = false := by simp
          have hh1 : (H != H) = false := by simp
          have hb1 : (B != B) = false := by simp
          have hl1 : (LD != LD) = false := by simp
          have hk0 : (0 : Int) < k := by omega
          clear hB hH hLD MB MH ML KA KN KP KQ B1 B2 B3 B5 B6 P5 P6 Q5 T5 PA PC XC B0 V0 NL bo x0 x1 x2 x3
          go_quiet (fail)
          have BQ := Lib.hid (BZ.out.trans (drewN_below _ nq _))
          go_wp2_with fail
          have CQ : Hid (∀ j, j < k → w6.cell? ⟨bc, j * 2 + 1, none⟩ = some (.int .i64 (yT H B (sp l (atR k f j)))) ∧ w6.cell? ⟨ba, atR k f j * 2 + 1, none⟩ = some (.int .i64 (yT H B (sp l (atR k f j))))) := Lib.hid (fun j hj => ⟨YC.out j hj, YA.out _ (RL.out j hj)⟩)
          have BX : Hid (∀ q, Below w.heap.size w (w6.drewN q)) := Lib.hid (fun q => BZ.out.trans (drewN_below _ q _))
          clear a0 c0 kk hh1 hb1 hl1 YA YC BQ
          go_loopg [21] k (fun g1 vi wr => ∃ j q : Nat, vi = .int .i64 j ∧ j ≤ k ∧ k - j ≤ g1 ∧ wr = w6.drewN q)
          case atStart => exact ⟨0, nq, rfl, by omega, by omega, rfl⟩
          case round =>
            obtain ⟨j, q, rfl, hj, hg2, rfl⟩ := hrel
            by_cases hlt2 : j < k
            · have hz2 : (j : Int) < k := by omega
              have hz0 : (0 : Int) ≤ j := by omega
              have wi : IntKind.i64.wrap ((j : Int) + 1) = (j : Int) + 1 := IntWalk.i64_in _ (by omega)
              have wf : IntKind.i64.wrap ((f : Int) + (j : Int)) = (f : Int) + j := IntWalk.i64_in _ (by omega)
              obtain ⟨rt, rm⟩ := RI.out j hlt2
              have hal := RL.out j hlt2
              obtain ⟨y1, y2⟩ := CQ.out j hlt2
              have wt : IntKind.i64.wrap ((atR k f j : Nat) : Int) = (atR k f j : Nat) := IntWalk.i64_in _ (by omega)
              generalize yT H B (sp l (atR k f j)) = Y at y1 y2
              generalize atR k f j = a at y2 rt rm hal wt
              have ha1 : (a : Int) < k := by omega
              have ha0 : (0 : Int) ≤ a := by omega
              clear hal
              go_wp2_with fail
              go_quiet (fail)
              go_wp2_with fail
              go_roundg (k - (j + 1))
              case measure => omega
              case rel => exact ⟨j + 1, q + nq, by go_num, by omega, Nat.le_refl _, rfl⟩
            · obtain rfl : j = k := by omega
              have hz2 : ¬ (j : Int) < j := by omega
              have BY := Lib.hid (BX.out q)
              go_wp2_with fail
              go_ret
              exact ⟨rfl, BY.out⟩
theorem turned11_in (hP : PlaceOK 9) (hA : AwakeOK11 11) (a0 : Option Addr) (len0 cap0 : Nat) (z0 : List Sp) (z1 : RO) (a2 : Int) (w : World) (w0 : SpotsIn w a0 len0 cap0 z0) :
    Calls Try.prog 6 #[.slice a0 len0 cap0, ownV z1, .int .i64 a2] w fun e w' => e = .returned (.bool true) ∧ Below w.heap.size w w' := turned11 hP hA z0 _ z1 a2 w w0.1
end Go.Proofs.Ytnhbegdoedbpeaa
