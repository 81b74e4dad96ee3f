/-
  The law InlineBeside: of any Place that answers as is asked.
-/
import Derived.Test.YtnhbegdoedbpeaaNearMath11
namespace Go.Proofs.Ytnhbegdoedbpeaa
open Go.RowKit

theorem lead_ways (l : List Sp) (x : Int) (g : Nat) (hg : g ≤ 2) (E : Int) (hE : leadT l x g + sumS l l.length = E) :
    (x - E < 0 ∧ leadT l x g = 0) ∨ (¬ x - E < 0 ∧ g = 0 ∧ leadT l x g = 0) ∨ (¬ x - E < 0 ∧ g = 1 ∧ x - E = 0) ∨ (¬ x - E < 0 ∧ g = 2 ∧ leadT l x g = x - E) ∨ (¬ x - E < 0 ∧ g = 2 ∧ ¬ leadT l x g = x - E ∧ leadT l x g + 1 = x - E) := by
  subst hE
  have h3 : g = 0 ∨ g = 1 ∨ g = 2 := by omega
  rcases h3 with rfl | rfl | rfl
  · have e : leadT l x 0 = 0 := rfl
    rw [e]
    omega
  · have e : leadT l x 1 = restT l x := rfl
    rw [e]
    unfold restT
    split <;> omega
  · have e : leadT l x 2 = restT l x / 2 := rfl
    rw [e]
    unfold restT
    split <;> omega
set_option maxRecDepth 100000 in
set_option maxHeartbeats 8000000 in
theorem beside11 (hP : PlaceOK 9) (hA : AwakeOK11 11) (l : List Sp) (v : Value) (x : RO) (w : World) (hv : SpIn w v l) :
    Calls Try.prog 4 #[v, ownV x] w fun e w' => e = .returned (.bool true) ∧ Below w.heap.size w w' := by
  have XC := Lib.hid (own_cells w x)
  have B0 : Hid (Below w.heap.size w (w.alloc (.cells #[.int .i64 x.up, .int .i64 x.down, .int .i64 x.width, .int .u8 (x.lines : Nat)] 24))) := Lib.hid ((Below.refl _ w).alloc (Nat.le_refl _) _)
  have KA := Lib.hid (fun W => hA W)
  have V0 := Lib.hid (hv.keep B0.out)
  obtain ⟨r, hr⟩ : ∃ r, decide (Near l x) = r := ⟨_, rfl⟩
  have KN := Lib.hid (fun W (hW : SpIn W v l) => near_any l v x W hW r hr)
  have HR := Lib.hid hr
  obtain ⟨A, c, rfl, -, -⟩ := hv
  obtain ⟨n, en⟩ : ∃ n, l.length = n := ⟨_, rfl⟩
  have HN := Lib.hid en
  have KP := Lib.hid (fun (h : Near l x) gz hgz W hW => near_place hP h.l gz hgz n en (.slice A l.length c) W hW)
  rw [en] at KN KP V0 ⊢
  clear hP hA hr
  unfold ownV at KN ⊢
  obtain ⟨up, down, width, lines⟩ := x
  dsimp only at XC B0 V0 KN KP HR ⊢
  obtain ⟨gz, hgz⟩ : ∃ gz, ((lines : Nat) : Int) = gz := ⟨_, rfl⟩
  have KP := Lib.hid (fun h W hW => KP.out h gz hgz W hW)
  rw [hgz] at XC B0 V0 KN ⊢
  have HG := Lib.hid hgz
  clear hgz
  go_enter Try.func4, Try.ntmps4
  go_upto_region 1 with fail
  have LT : Hid (w.heap.size < (w.alloc (.cells #[.int .i64 up, .int .i64 down, .int .i64 width, .int .u8 gz] 24)).heap.size) := Lib.hid (by rw [World.size_alloc]; omega)
  generalize w.alloc (.cells #[.int .i64 up, .int .i64 down, .int .i64 width, .int .u8 gz] 24) = w0 at XC B0 V0 LT ⊢
  go_upto_region 3 with (go_at_call 11; (with_reducible refine (KA.out _).mono ?_); rintro e w1 ⟨rfl, hb⟩; have B1 := Lib.hid hb; clear hb)
  obtain ⟨x0, x1, x2, x3⟩ := XC.out w1 B1.out
  cases r with
  | false =>
    go_wp2_with (go_at_call 12; (with_reducible refine (KN.out _ (V0.out.keep B1.out)).mono ?_); rintro e w2 ⟨rfl, hb⟩; have B2 : Hid (Below w0.heap.size w0 w2) := Lib.hid (B1.out.trans (hb.mono B1.out.size)); clear hb)
    go_ret
    exact ⟨rfl, B0.out.trans (B2.out.mono B0.out.size)⟩
  | true =>
    have NR := of_decide_eq_true HR.out
    have NL := Lib.hid NR.l
    have KP := Lib.hid (KP.out NR)
    have hn : n ≤ 200 := by have := NR.1; have := HN.out; omega
    clear HR NR
    by_cases h0 : n = 0
    · subst h0
      go_wp2_with (go_at_call 12; (with_reducible refine (KN.out _ (V0.out.keep B1.out)).mono ?_); rintro e w2 ⟨rfl, hb⟩; have B2 : Hid (Below w0.heap.size w0 w2) := Lib.hid (B1.out.trans (hb.mono B1.out.size)); clear hb)
      go_ret
      exact ⟨rfl, B0.out.trans (B2.out.mono B0.out.size)⟩
    · have hz : ¬ (n : Int) = 0 := by omega
      have hpos : 0 < n := by omega
      go_upto_region 5 with (go_at_call 12; (with_reducible refine (KN.out _ (V0.out.keep B1.out)).mono ?_); rintro e w2 ⟨rfl, hb⟩; have B2 : Hid (Below w0.heap.size w0 w2) := Lib.hid (B1.out.trans (hb.mono B1.out.size)); clear hb)
      clear x0 x1 x2 x3
      obtain ⟨x0, x1, x2, x3⟩ := XC.out w2 B2.out
      go_upto_region 6 with (go_at_call 9; (with_reducible refine (KP.out _ (V0.out.keep B2.out)).mono ?_); rintro e w3 ⟨A', c', rfl, hp, hb⟩; have B3 : Hid (Below w0.heap.size w0 w3) := Lib.hid (B2.out.trans (hb.mono B2.out.size)); have P3 := Lib.hid hp; clear hb hp)
      clear x0 x1 x2 x3
      obtain ⟨x0, x1, x2, x3⟩ := XC.out w3 B3.out
      have V3 := Lib.hid (V0.out.keep B3.out)
      have BZ : Hid (Below w.heap.size w w3) := Lib.hid (B0.out.trans (B3.out.mono B0.out.size))
      have PA := Lib.hid (fun k (hk : k < n) => P3.out.at_ hk)
      obtain ⟨LD, hLD⟩ : ∃ LD, leadT l width lines = LD := ⟨_, rfl⟩
      have LB := NL.out.lead
      have LW := Lib.hid (lead_ways l width lines NL.out.lines _ rfl)
      try dsimp only at LB LW PA
      rw [hLD] at LB LW PA
      obtain ⟨b, rfl, hbl, c0, -⟩ := PA.out 0 hpos
      rw [sumS_zero, Int.add_zero, Nat.zero_mul] at c0
      have PX : Hid (∀ k, k < n → w3.cell? ⟨b, k * 2, none⟩ = some (.int .i64 (LD + sumS l k))) := Lib.hid (fun k hk => by
        obtain ⟨b', e, -, h, -⟩ := PA.out k hk
        cases e
        exact h)
      have SB := Lib.hid (fun k hk => NL.out.sum k hk)
      have WB := NL.out.width
      try dsimp only at WB
      clear hLD KA KN KP B1 B2 B3 P3 PA XC B0 V0 hbl
      go_wp2_with fail
      go_loopg [9, 10] n (fun g1 ve vi wr => ∃ k : Nat, vi = .int .i64 k ∧ ve = .int .i64 (LD + sumS l k) ∧ k ≤ n ∧ n - k ≤ g1 ∧ w3 = wr)
      case atStart => exact ⟨0, rfl, by rw [sumS_zero, Int.add_zero], by omega, by omega, rfl⟩
      case round =>
        obtain ⟨k, rfl, rfl, hk, hg1, rfl⟩ := hrel
        by_cases hlt : k < n
        · have hz1 : (k : Int) < n := by omega
          have hz0 : (0 : Int) ≤ k := by omega
          have wi : IntKind.i64.wrap ((k : Int) + 1) = (k : Int) + 1 := IntWalk.i64_in _ (by omega)
          have p0 := PX.out k hlt
          obtain ⟨b', off, c2, e, s0, -, -, -⟩ := V3.out.get (i := k) (by have := HN.out; omega)
          injection e with e1 e2 e3
          subst e1 e3
          clear e2
          have S1 := SB.out (k + 1) (by have := HN.out; omega)
          have ss := sumS_succ (l := l) (k := k) (by have := HN.out; omega)
          have ws : IntKind.i64.wrap (LD + sumS l k + sw l k) = LD + sumS l (k + 1) := by
            rw [ss, Int.add_assoc]
            exact IntWalk.i64_in _ (by omega)
          obtain ⟨X', hX'⟩ : ∃ X', LD + sumS l (k + 1) = X' := ⟨_, rfl⟩
          rw [hX'] at ws
          have HX := Lib.hid hX'
          clear c0 S1 ss hX' LB WB
          generalize LD + sumS l k = X at p0 ws ⊢
          generalize sw l k = z at s0 ws
          go_wp2_with fail
          go_roundg (n - (k + 1))
          case measure => omega
          case rel => exact ⟨k + 1, by go_num, by rw [HX.out], by omega, Nat.le_refl _, rfl⟩
        · obtain rfl : k = n := by omega
          have hz1 : ¬ (k : Int) < k := by omega
          have S1 := SB.out k (by have := HN.out; omega)
          rw [HN.out] at LW
          obtain ⟨E, hE⟩ : ∃ E, LD + sumS l k = E := ⟨_, rfl⟩
          rw [hE] at LW ⊢
          have we : IntKind.i64.wrap (width - E) = width - E := IntWalk.i64_in _ (by omega)
          obtain ⟨D, hD⟩ : ∃ D, width - E = D := ⟨_, rfl⟩
          have wl : IntKind.i64.wrap (LD + 1) = LD + 1 := IntWalk.i64_in _ (by omega)
          rw [hD] at LW
          replace we := we.trans hD
          clear hE hD S1 LB WB SB PX V3 hpos
          have LW := LW.out
          rcases LW with ⟨h1, h2⟩ | ⟨h1, h2, h3⟩ | ⟨h1, h2, h3⟩ | ⟨h1, h2, h3⟩ | ⟨h1, h2, h3, h4⟩
          · subst h2
            go_wp2_with fail
            go_quiet (fail)
            have BQ := Lib.hid (BZ.out.trans (drewN_below _ nq _))
            go_wp2_with fail
            go_ret
            exact ⟨rfl, BQ.out⟩
          · subst h3
            obtain rfl : gz = 0 := by have := HG.out; omega
            go_wp2_with fail
            go_quiet (fail)
            have BQ := Lib.hid (BZ.out.trans (drewN_below _ nq _))
            go_wp2_with fail
            go_ret
            exact ⟨rfl, BQ.out⟩
          · subst h3
            obtain rfl : gz = 1 := by have := HG.out; omega
            go_wp2_with fail
            go_quiet (fail)
            have BQ := Lib.hid (BZ.out.trans (drewN_below _ nq _))
            go_wp2_with fail
            go_ret
            exact ⟨rfl, BQ.out⟩
          · subst h3
            obtain rfl : gz = 2 := by have := HG.out; omega
            go_wp2_with fail
            go_quiet (fail)
            have BQ := Lib.hid (BZ.out.trans (drewN_below _ nq _))
            go_wp2_with fail
            go_ret
            exact ⟨by simp, BQ.out⟩
          · obtain rfl : gz = 2 := by have := HG.out; omega
            have wd : IntKind.i64.wrap D = D := by rw [← h4]; exact wl
            have WD := Lib.hid wd
            go_wp2_with fail
            go_quiet (fail)
            have BQ := Lib.hid (BZ.out.trans (drewN_below _ nq _))
            go_wp2_with fail
            go_ret
            exact ⟨by first | rfl | (simp [wd]; done) | (simp; right; simpa using WD.out), BQ.out⟩
theorem beside11_in (hP : PlaceOK 9) (hA : AwakeOK11 11) (a0 : Option Addr) (len0 cap0 : Nat) (z0 : List Sp) (z1 : RO) (w : World) (w0 : SpotsIn w a0 len0 cap0 z0) :
    Calls Try.prog 4 #[.slice a0 len0 cap0, ownV z1] w fun e w' => e = .returned (.bool true) ∧ Below w.heap.size w w' := beside11 hP hA z0 _ z1 w w0.1
end Go.Proofs.Ytnhbegdoedbpeaa
