/-
  The law InlineMore: of any Place that answers as is asked.
-/
import Derived.Test.YtnhbegdoedbpeaaNearMath11
namespace Go.Proofs.Ytnhbegdoedbpeaa
open Go.RowKit

theorem sp_old {l m : List Sp} {k : Nat} (h : k < l.length) : sp (l ++ m) k = sp l k := by
  unfold sp
  rw [List.getElem?_append_left h]
theorem sp_new (l : List Sp) (s : Sp) : sp (l ++ [s]) l.length = s := by
  unfold sp
  simp
theorem upS_old (l : List Sp) (s : Sp) (u : Int) (k : Nat) (hk : k ≤ l.length) : upS (l ++ [s]) u k = upS l u k := by
  induction k with
  | zero => rfl
  | succ k ih =>
    show (if sa (l ++ [s]) k = 0 ∧ upS (l ++ [s]) u k < su (l ++ [s]) k then su (l ++ [s]) k else upS (l ++ [s]) u k) = (if sa l k = 0 ∧ upS l u k < su l k then su l k else upS l u k)
    unfold sa su
    rw [sp_old (by omega), ih (by omega)]
theorem dnS_old (l : List Sp) (s : Sp) (u : Int) (k : Nat) (hk : k ≤ l.length) : dnS (l ++ [s]) u k = dnS l u k := by
  induction k with
  | zero => rfl
  | succ k ih =>
    show (if sa (l ++ [s]) k = 0 ∧ dnS (l ++ [s]) u k < sd (l ++ [s]) k then sd (l ++ [s]) k else dnS (l ++ [s]) u k) = (if sa l k = 0 ∧ dnS l u k < sd l k then sd l k else dnS l u k)
    unfold sa sd
    rw [sp_old (by omega), ih (by omega)]
theorem hS_old (l : List Sp) (s : Sp) (u : Int) (k : Nat) (hk : k ≤ l.length) : hS (l ++ [s]) u k = hS l u k := by
  induction k with
  | zero => rfl
  | succ k ih =>
    show (if ¬ sa (l ++ [s]) k = 0 ∧ hS (l ++ [s]) u k < su (l ++ [s]) k + sd (l ++ [s]) k then su (l ++ [s]) k + sd (l ++ [s]) k else hS (l ++ [s]) u k) = (if ¬ sa l k = 0 ∧ hS l u k < su l k + sd l k then su l k + sd l k else hS l u k)
    unfold sa su sd
    rw [sp_old (by omega), ih (by omega)]
theorem base_more (l : List Sp) (z u d : Int) : baseT (l ++ [(z, u, d, 0)]) u = baseT l u := by
  unfold baseT
  rw [List.length_append, List.length_singleton]
  show (if sa (l ++ [(z, u, d, 0)]) l.length = 0 ∧ upS (l ++ [(z, u, d, 0)]) u l.length < su (l ++ [(z, u, d, 0)]) l.length then su (l ++ [(z, u, d, 0)]) l.length else upS (l ++ [(z, u, d, 0)]) u l.length) = _
  unfold sa su
  rw [sp_new, upS_old _ _ _ _ (Nat.le_refl _), if_neg]
  have := (upS_ge l u l.length).1
  dsimp only
  omega
theorem down_more (l : List Sp) (z u d : Int) : dnS (l ++ [(z, u, d, 0)]) d (l.length + 1) = dnS l d l.length := by
  show (if sa (l ++ [(z, u, d, 0)]) l.length = 0 ∧ dnS (l ++ [(z, u, d, 0)]) d l.length < sd (l ++ [(z, u, d, 0)]) l.length then sd (l ++ [(z, u, d, 0)]) l.length else dnS (l ++ [(z, u, d, 0)]) d l.length) = _
  unfold sa sd
  rw [sp_new, dnS_old _ _ _ _ (Nat.le_refl _), if_neg]
  have := (dnS_ge l d l.length).1
  dsimp only
  omega
theorem height_more (l : List Sp) (z u d : Int) : heightT (l ++ [(z, u, d, 0)]) u d = heightT l u d := by
  have hb := base_more l z u d
  unfold baseT at hb
  unfold heightT
  rw [hb]
  rw [List.length_append, List.length_singleton, down_more]
  show (if ¬ sa (l ++ [(z, u, d, 0)]) l.length = 0 ∧ hS (l ++ [(z, u, d, 0)]) (upS l u l.length + dnS l d l.length) l.length < su (l ++ [(z, u, d, 0)]) l.length + sd (l ++ [(z, u, d, 0)]) l.length then su (l ++ [(z, u, d, 0)]) l.length + sd (l ++ [(z, u, d, 0)]) l.length else hS (l ++ [(z, u, d, 0)]) (upS l u l.length + dnS l d l.length) l.length) = _
  rw [hS_old _ _ _ _ (Nat.le_refl _), if_neg]
  rintro ⟨h, -⟩
  apply h
  unfold sa
  rw [sp_new]
theorem sum_more (l : List Sp) (s : Sp) (k : Nat) (hk : k ≤ l.length) : sumS (l ++ [s]) k = sumS l k := by
  unfold sumS
  rw [List.take_append_of_le_length hk]
theorem near_more {l : List Sp} {u d x z : Int} {g : Nat} (h : NearL l u d x g) (hl : l.length ≤ 199) (hz : 0 ≤ z ∧ z ≤ 268435456) : NearL (l ++ [(z, u, d, 0)]) u d x 0 := by
  have key : ∀ i, i < (l ++ [(z, u, d, 0)]).length → (i < l.length ∧ sp (l ++ [(z, u, d, 0)]) i = sp l i) ∨ sp (l ++ [(z, u, d, 0)]) i = (z, u, d, 0) := fun i hi => by
    rw [List.length_append, List.length_singleton] at hi
    by_cases e : i < l.length
    · exact .inl ⟨e, sp_old e⟩
    · obtain rfl : i = l.length := by omega
      exact .inr (sp_new l _)
  refine ⟨by rw [List.length_append, List.length_singleton]; omega, by omega, h.u, h.d, h.width, fun i hi => ?_, fun i hi => ?_, fun i hi => ?_, fun i hi => ?_⟩
  · unfold sa
    rcases key i hi with ⟨e, k⟩ | k
    · rw [k]; exact h.al i e
    · rw [k]; exact Nat.zero_le _
  · unfold sw
    rcases key i hi with ⟨e, k⟩ | k
    · rw [k]; exact h.w i e
    · rw [k]; exact hz
  · unfold su
    rcases key i hi with ⟨e, k⟩ | k
    · rw [k]; exact h.up i e
    · rw [k]; exact h.u
  · unfold sd
    rcases key i hi with ⟨e, k⟩ | k
    · rw [k]; exact h.dn i e
    · rw [k]; exact h.d
set_option maxRecDepth 100000 in
set_option maxHeartbeats 8000000 in
theorem more11 (hP : PlaceOK 9) (hA : AwakeOK11 11) (l : List Sp) (v : Value) (x : RO) (z : Int) (w : World) (hv : SpIn w v l) (hnil : ∀ n c, v = .slice none n c → n = 0 ∧ c = 0) :
    Calls Try.prog 7 #[v, ownV x, .int .i64 z] w fun e w' => e = .returned (.bool true) ∧ Below w.heap.size w w' := by
  have XC := Lib.hid (own_cells w x)
  have B0 : Hid (Below w.heap.size w (w.alloc (.cells #[.int .i64 x.up, .int .i64 x.down, .int .i64 x.width, .int .u8 (x.lines : Nat)] 24))) := Lib.hid ((Below.refl _ w).alloc (Nat.le_refl _) _)
  have KA := Lib.hid (fun W => hA W)
  have V0 := Lib.hid (hv.keep B0.out)
  obtain ⟨r, hr⟩ : ∃ r, decide (Near l x) = r := ⟨_, rfl⟩
  have KN := Lib.hid (fun W (hW : SpIn W v l) => near_any l v x W hW r hr)
  have HR := Lib.hid hr
  obtain ⟨A, c, rfl, -, -⟩ := hv
  have HC : Hid (∀ W, SpIn W (.slice A l.length c) l → ∀ p, A = some p → ∀ j u, (cellsS l)[j]? = some u → W.cell? (p.add j) = some u) := Lib.hid (fun W h => h.cells rfl)
  have HNI : Hid (A = none → l = [] ∧ c = 0) := Lib.hid (fun e => by
    have := hnil l.length c (by rw [e])
    exact ⟨List.length_eq_zero_iff.1 this.1, this.2⟩)
  obtain ⟨n, en⟩ : ∃ n, l.length = n := ⟨_, rfl⟩
  have HN := Lib.hid en
  have KP := Lib.hid (fun (h : Near l x) W hW => near_place hP h.l.start 0 rfl n en (.slice A l.length c) W hW)
  have KQ := Lib.hid (fun (h : Near l x) (hl : n ≤ 199) (hz : 0 ≤ z ∧ z ≤ 268435456) v' W hW => near_place hP (near_more h.l (by rw [en]; exact hl) hz) 0 rfl (n + 1) (by rw [List.length_append, List.length_singleton, en]) v' W hW)
  rw [en] at KN KP V0 HC ⊢
  clear hP hA hr hnil en
  unfold ownV at KN ⊢
  obtain ⟨up, down, width, lines⟩ := x
  dsimp only at XC B0 V0 KN KP KQ HR ⊢
  obtain ⟨gz, hgz⟩ : ∃ gz, ((lines : Nat) : Int) = gz := ⟨_, rfl⟩
  rw [hgz] at XC B0 V0 KN ⊢
  clear hgz
  go_enter Try.func7, Try.ntmps7
  go_upto_region 1 with fail
  generalize w.alloc (.cells #[.int .i64 up, .int .i64 down, .int .i64 width, .int .u8 gz] 24) = w0 at XC B0 V0 ⊢
  go_upto_region 3 with (go_at_call 11; (with_reducible refine (KA.out _).mono ?_); rintro e w1 ⟨rfl, hb⟩; have B1 := Lib.hid hb; clear hb)
  obtain ⟨x0, x1, x2, x3⟩ := XC.out w1 B1.out
  cases r with
  | false =>
    go_wp2_with (go_at_call 12; (with_reducible refine (KN.out _ (V0.out.keep B1.out)).mono ?_); rintro e w2 ⟨rfl, hb⟩; have B2 : Hid (Below w0.heap.size w0 w2) := Lib.hid (B1.out.trans (hb.mono B1.out.size)); clear hb)
    go_ret
    exact ⟨rfl, B0.out.trans (B2.out.mono B0.out.size)⟩
  | true =>
    have NR := of_decide_eq_true HR.out
    have NL := Lib.hid NR.l
    have KP := Lib.hid (KP.out NR)
    have KQ := Lib.hid (KQ.out NR)
    clear HR NR
    by_cases hz : (0 ≤ z ∧ z ≤ 268435456) ∧ n ≤ 199
    · have KQ := Lib.hid (KQ.out hz.2 hz.1)
      have hn := hz.2
      have ZZ := Lib.hid hz.1
      have d1 : decide (z < 0) = false := decide_eq_false (by omega)
      have d2 : decide (268435456 < z) = false := decide_eq_false (by omega)
      have d3 : decide ((199 : Int) < n) = false := decide_eq_false (by omega)
      clear hz
      go_upto_region 5 with (go_at_call 12; (with_reducible refine (KN.out _ (V0.out.keep B1.out)).mono ?_); rintro e w2 ⟨rfl, hb⟩; have B2 : Hid (Below w0.heap.size w0 w2) := Lib.hid (B1.out.trans (hb.mono B1.out.size)); clear hb)
      clear x0 x1 x2 x3 d1 d2 d3
      obtain ⟨x0, x1, x2, x3⟩ := XC.out w2 B2.out
      go_upto_region 6 with (go_at_call 9; (with_reducible refine (KP.out _ (V0.out.keep B2.out)).mono ?_); rintro e w3 ⟨A', c', rfl, hp, hb⟩; have B3 : Hid (Below w0.heap.size w0 w3) := Lib.hid (B2.out.trans (hb.mono B2.out.size)); have P3 := Lib.hid hp; clear hb hp)
      clear x0 x1 x2 x3
      have HC3 := Lib.hid (HC.out w3 (V0.out.keep B3.out))
      clear HC
      go_upto_region 8 with ((with_reducible change wpList _ _ _ (Oper.mk (some 51) _ _ _ _ _ :: _) _ _); refine wpList_append_sps rfl _ _ rfl w3.heap.size (.slice none 0 0) [] rfl (ownsS.nil _ _) l A c (by rw [HN.out]; rfl) HC3.out HNI.out (by have := HN.out; simp only [List.length_nil]; omega) (Nat.le_refl _) ?_; intro mine w4 hO hB _)
      have B4 := Lib.hid hB
      have M4 := Lib.hid hO
      rw [List.nil_append] at M4
      clear hB hO HC3 HNI
      have B04 : Hid (Below w0.heap.size w0 w4) := Lib.hid (B3.out.trans (B4.out.mono B3.out.size))
      obtain ⟨x0, x1, x2, x3⟩ := XC.out w4 B04.out
      go_upto_region 9 with ((with_reducible change wpList _ _ _ (Oper.mk (some 60) _ _ _ _ _ :: _) _ _); refine wpList_append_sp rfl _ _ rfl w3.heap.size mine l rfl M4.out (z, up, down, 0) _ rfl (by have := HN.out; omega) B4.out.size ?_; intro more w5 hO hB _)
      have B5 := Lib.hid (B4.out.trans hB)
      have M5 := Lib.hid hO.sps
      clear hB hO M4 B4
      have B05 : Hid (Below w0.heap.size w0 w5) := Lib.hid (B3.out.trans (B5.out.mono B3.out.size))
      clear x0 x1 x2 x3
      obtain ⟨x0, x1, x2, x3⟩ := XC.out w5 B05.out
      go_upto_region 10 with (go_at_call 9; (with_reducible refine (KQ.out _ _ M5.out).mono ?_); rintro e w6 ⟨C', d', rfl, hp, hb⟩; have B6 : Hid (Below w3.heap.size w3 w6) := Lib.hid (B5.out.trans (hb.mono B5.out.size)); have P6 := Lib.hid hp; clear hb hp)
      clear x0 x1 x2 x3
      have B06 : Hid (Below w0.heap.size w0 w6) := Lib.hid (B3.out.trans (B6.out.mono B3.out.size))
      obtain ⟨x0, x1, x2, x3⟩ := XC.out w6 B06.out
      have BZ : Hid (Below w.heap.size w w6) := Lib.hid (B0.out.trans (B06.out.mono B0.out.size))
      have wn : IntKind.i64.wrap ((n : Int) + 1) = (n : Int) + 1 := IntWalk.i64_in _ (by omega)
      have en1 : ((n + 1 : Nat) : Int) = (n : Int) + 1 := by omega
      have MB := base_more l z up down
      have MH := height_more l z up down
      rw [MB, MH]
      have PA := Lib.hid (fun k (hk : k < n) => (P3.out.keep B6.out).at_ hk)
      have PC := Lib.hid (fun k (hk : k < n + 1) => P6.out.at_ hk)
      rw [MB, MH] at PC
      have NB := NL.out.base
      have NU := NL.out.u
      try dsimp only at NB NU
      obtain ⟨B, hB⟩ : ∃ B, baseT l up = B := ⟨_, rfl⟩
      obtain ⟨H, hH⟩ : ∃ H, heightT l up down = H := ⟨_, rfl⟩
      rw [hB, hH] at PA PC
      rw [hB] at NB
      rw [hB, hH]
      have PE : Hid (∃ b, A' = some ⟨b, 0, none⟩ ∧ ∀ k, k < n → w6.cell? ⟨b, k * 2, none⟩ = some (.int .i64 (sumS l k)) ∧ w6.cell? ⟨b, k * 2 + 1, none⟩ = some (.int .i64 (yT H B (sp l k)))) ∨ n = 0 := by
        by_cases h0 : n = 0
        · exact .inr h0
        · obtain ⟨b, e, -, -, -⟩ := PA.out 0 (by omega)
          refine .inl (Lib.hid ⟨b, e, fun k hk => ?_⟩)
          obtain ⟨b', e', -, h1, h2⟩ := PA.out k hk
          rw [e] at e'
          cases e'
          rw [show leadT l width 0 = 0 from rfl, Int.zero_add] at h1
          exact ⟨h1, h2⟩
      obtain ⟨bc, ec, -, -, -⟩ := PC.out n (by omega)
      subst ec
      have PD : Hid (∀ k, k < n → w6.cell? ⟨bc, k * 2, none⟩ = some (.int .i64 (sumS l k)) ∧ w6.cell? ⟨bc, k * 2 + 1, none⟩ = some (.int .i64 (yT H B (sp l k)))) := Lib.hid (fun k hk => by
        obtain ⟨b', e', -, h1, h2⟩ := PC.out k (by omega)
        cases e'
        rw [show leadT (l ++ [(z, up, down, 0)]) width 0 = 0 from rfl, Int.zero_add, sum_more _ _ _ (by rw [HN.out]; omega)] at h1
        rw [sp_old (by rw [HN.out]; exact hk)] at h2
        exact ⟨h1, h2⟩)
      have PN : Hid (w6.cell? ⟨bc, n * 2 + 1, none⟩ = some (.int .i64 (B - up))) := Lib.hid (by
        obtain ⟨b', e', -, h1, h2⟩ := PC.out n (by omega)
        cases e'
        have e := sp_new l (z, up, down, 0)
        rw [HN.out] at e
        rw [e] at h2
        exact h2)
      have wbu : IntKind.i64.wrap (B - up) = B - up := IntWalk.i64_in _ (by omega)
      clear hB hH MB MH KA KN KP KQ B1 B2 B3 B5 B6 P3 P6 PA PC XC B0 V0 NB NU B04 B05 B06 M5 NL ZZ
      go_wp2_with fail
      clear en1 wn
      go_loopg [16] n (fun g1 vi wr => ∃ k q : Nat, vi = .int .i64 k ∧ k ≤ n ∧ n - k ≤ g1 ∧ wr = w6.drewN q)
      case atStart => exact ⟨0, 0, rfl, by omega, by omega, rfl⟩
      case round =>
        obtain ⟨k, q, rfl, hk, hg1, rfl⟩ := hrel
        by_cases hlt : k < n
        · have hz1 : (k : Int) < n := by omega
          have hz0 : (0 : Int) ≤ k := by omega
          have hz2 : (k : Int) < (n : Int) + 1 := by omega
          have hz3 : (k : Int) < ((n + 1 : Nat) : Int) := by omega
          have wi : IntKind.i64.wrap ((k : Int) + 1) = (k : Int) + 1 := IntWalk.i64_in _ (by omega)
          obtain ⟨b, rfl, hp⟩ := (PE.resolve_right (by omega)).out
          obtain ⟨a0, a1⟩ := hp k hlt
          obtain ⟨c0, c1⟩ := PD.out k hlt
          clear hp PE x0 x1 x2 x3
          generalize sumS l k = X at a0 c0
          generalize yT H B (sp l k) = Y at a1 c1
          go_wp2_with fail
          go_quiet (fail)
          go_wp2_with fail
          go_roundg (n - (k + 1))
          case measure => omega
          case rel => exact ⟨k + 1, q + nq, by go_num, by omega, Nat.le_refl _, rfl⟩
        · obtain rfl : k = n := by omega
          have hz1 : ¬ (k : Int) < k := by omega
          have hz2 : (k : Int) < (k : Int) + 1 := by omega
          have hz3 : (k : Int) < ((k + 1 : Nat) : Int) := by omega
          have hz0 : (0 : Int) ≤ k := by omega
          have pn := PN.out
          clear PE PD
          go_wp2_with fail
          go_quiet (fail)
          have BQ := Lib.hid (BZ.out.trans ((drewN_below w6 q w.heap.size).trans (drewN_below _ nq _)))
          go_wp2_with fail
          go_ret
          exact ⟨by first | rfl | simp, BQ.out⟩
    · have HF : Hid (¬ ((0 ≤ z ∧ z ≤ 268435456) ∧ (n : Int) ≤ 199)) := Lib.hid (fun h => hz ⟨h.1, by omega⟩)
      clear hz
      go_wp2_with (go_at_call 12; (with_reducible refine (KN.out _ (V0.out.keep B1.out)).mono ?_); rintro e w2 ⟨rfl, hb⟩; have B2 : Hid (Below w0.heap.size w0 w2) := Lib.hid (B1.out.trans (hb.mono B1.out.size)); clear hb)
      all_goals first
        | (go_ret; exact ⟨rfl, B0.out.trans (B2.out.mono B0.out.size)⟩)
        | (exfalso; have := HF.out; omega)
theorem more11_in (hP : PlaceOK 9) (hA : AwakeOK11 11) (a0 : Option Addr) (len0 cap0 : Nat) (z0 : List Sp) (z1 : RO) (a2 : Int) (w : World) (w0 : SpotsIn w a0 len0 cap0 z0) :
    Calls Try.prog 7 #[.slice a0 len0 cap0, ownV z1, .int .i64 a2] w fun e w' => e = .returned (.bool true) ∧ Below w.heap.size w w' := by
  obtain ⟨h1, rfl, h3, h4, h5⟩ := w0
  exact more11 hP hA z0 _ z1 a2 w h1 (fun n c e => by injection e with e1 e2 e3; subst e2 e3; exact h3 e1)
end Go.Proofs.Ytnhbegdoedbpeaa
