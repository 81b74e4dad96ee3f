/-
  The document's Share: the shares of a total.
-/
import Derived.Test.YtpjhhndjbpegcaaDivided
import Derived.Test.YtpjhhndjbpegcaaLists
import Derived.Test.YtpjhhndjbpegcaaSame
import Derived.RegionTactic
namespace Go.Proofs.Ytpjhhndjbpegcaa
open Go.RowKit

/-- the row of the shares and that of what was lost, both of the call's own -/
def Rows2 (w0 w : World) (ga gl n : Nat) (X Y : Nat → Int) : Prop := Whole w ga 3 (cellsOf .i64 n X) ∧ Whole w gl 3 (cellsOf .i64 n Y) ∧ Below w0.heap.size w0 w
section
variable {w0 w : World} {ga gl n : Nat} {X Y : Nat → Int}
theorem Rows2.drewN (h : Rows2 w0 w ga gl n X Y) (q : Nat) : Rows2 w0 (w.drewN q) ga gl n X Y := ⟨h.1.drewN q, h.2.1.drewN q, below_drewN h.2.2 q⟩
theorem Rows2.set1 (h : Rows2 w0 w ga gl n X Y) (hne : ga ≠ gl) (h0 : w0.heap.size ≤ ga) (k : Nat) (x : Int) : Rows2 w0 (w.setCell ⟨ga, k, none⟩ (.int .i64 x)) ga gl n (upd X k x) Y := by
  obtain ⟨h1, h2, h3⟩ := h
  have a := h1.set_ k (.int .i64 x)
  rw [cellsOf_set] at a
  exact ⟨a, h2.far (p := ⟨ga, k, none⟩) hne.symm _, h3.setCell h0 _⟩
theorem Rows2.set2 (h : Rows2 w0 w ga gl n X Y) (hne : ga ≠ gl) (h0 : w0.heap.size ≤ gl) (k : Nat) (y : Int) : Rows2 w0 (w.setCell ⟨gl, k, none⟩ (.int .i64 y)) ga gl n X (upd Y k y) := by
  obtain ⟨h1, h2, h3⟩ := h
  have b := h2.set_ k (.int .i64 y)
  rw [cellsOf_set] at b
  exact ⟨h1.far (p := ⟨gl, k, none⟩) hne _, b, h3.setCell h0 _⟩
theorem Rows2.congr {X' Y' : Nat → Int} (h : Rows2 w0 w ga gl n X Y) (e1 : ∀ i, i < n → X i = X' i) (e2 : ∀ i, i < n → Y i = Y' i) : Rows2 w0 w ga gl n X' Y' := by
  refine ⟨?_, ?_, h.2.2⟩
  · rw [← cellsOf_congr e1]; exact h.1
  · rw [← cellsOf_congr e2]; exact h.2.1
end
theorem share_zero {t : Int} {v : Nat → Nat} {n : Nat} (h : sumN v n = 0) : ShareOf t v n (fun _ => 0) := ⟨fun _ => 0, .inl ⟨h, fun _ _ => rfl⟩, fun i _ => by split <;> rfl⟩

set_option maxRecDepth 100000 in
set_option maxHeartbeats 8000000 in
theorem refShare_yes (t : Int) (n c : Nat) (A : Option Addr) (v : Nat → Nat) (w : World) (ht : Fit t) (hn : n ≤ 2048) (hv : ∀ i, i < n → v i ≤ 1125899906842624) (h : Ints w A n (fun i => (v i : Int))) :
    Calls Try.prog 29 #[.int .i64 t, .slice A n c] w (SharePost t v n w) := by
  have D : Hid (decide (Fit t) = true) := Lib.hid (by simpa using ht)
  have H := Lib.hid h
  have HV := Lib.hid hv
  obtain ⟨t1, t2⟩ := ht
  have hmk := make_ints n (by omega)
  have hn2 : ¬ (2048 : Int) < n := by omega
  have hn3 : decide ((2048 : Int) < n) = false := by simpa using hn2
  clear h hv
  go_enter Try.func29, Try.ntmps29
  go_wp2_with fail
  refine (refFits_any t w true D.out).mono ?_
  rintro e w1 ⟨rfl, rfl⟩
  go_wp2
  go_loopg [6, 7] n (fun g1 vs vi wr => ∃ k : Nat, vi = .int .i64 k ∧ vs = .int .i64 (sumN v k) ∧ k ≤ n ∧ n - k ≤ g1 ∧ Hid (w = wr))
  case atStart => exact ⟨0, rfl, rfl, by omega, by omega, Lib.hid rfl⟩
  case round =>
    obtain ⟨k, rfl, rfl, hk, hg1, HR⟩ := hrel
    obtain rfl := HR.out
    clear HR
    have hbs := sumN_le v (k := k) (c := 1125899906842624) (fun i hi => HV.out i (by omega))
    by_cases hlt : k < n
    · obtain ⟨b, off, rfl, hb, hc⟩ := H.out.at_ hlt
      have hvk := HV.out k hlt
      have S : Hid (sumN v (k + 1) = sumN v k + v k) := Lib.hid rfl
      generalize sumN v k = s at hbs S ⊢
      generalize v k = x at hc hvk S
      clear hb
      have x1 : ¬ (x : Int) < 0 := by omega
      have x2 : ¬ (1125899906842624 : Int) < x := by omega
      go_wp2
      go_roundg (n - (k + 1))
      case measure => omega
      case rel => exact ⟨k + 1, by go_num, by rw [S.out]; first | rfl | (congr 1; omega), by omega, Nat.le_refl _, Lib.hid rfl⟩
    · obtain rfl : n = k := by omega
      obtain ⟨W2, hW2⟩ : ∃ W2, ((w.alloc (.cells (cellsOf .i64 n fun _ => 0) 3)).alloc (.cells (cellsOf .i64 n fun _ => 0) 3)).drew = W2 := ⟨_, rfl⟩
      have RB : Below w.heap.size w W2 := by rw [← hW2]; exact (((Below.refl _ _).alloc (Nat.le_refl _) _).alloc (by simp) _).drew
      have RA1 : Whole W2 w.heap.size 3 (cellsOf .i64 n fun _ => 0) := by rw [← hW2]; exact (Whole.new w _ _).alloc _
      have RA2 : Whole W2 (w.heap.size + 1) 3 (cellsOf .i64 n fun _ => 0) := by
        rw [← hW2]
        have := Whole.new (w.alloc (.cells (cellsOf .i64 n fun _ => 0) 3)) 3 (cellsOf .i64 n fun _ => 0)
        rw [World.size_alloc] at this; exact this
      have PA : Hid (∃ ga gl, ga = w.heap.size ∧ gl = w.heap.size + 1 ∧ ga ≠ gl ∧ w.heap.size ≤ ga ∧ w.heap.size ≤ gl ∧ Hid (Rows2 w W2 ga gl n (fun _ => 0) (fun _ => 0))) := Lib.hid ⟨_, _, rfl, rfl, by omega, by omega, by omega, Lib.hid ⟨RA1, RA2, RB⟩⟩
      have PB : Hid (∃ ga gl, gl = w.heap.size ∧ ga = w.heap.size + 1 ∧ ga ≠ gl ∧ w.heap.size ≤ ga ∧ w.heap.size ≤ gl ∧ Hid (Rows2 w W2 ga gl n (fun _ => 0) (fun _ => 0))) := Lib.hid ⟨_, _, rfl, rfl, by omega, by omega, by omega, Lib.hid ⟨RA2, RA1, RB⟩⟩
      have HW2 := Lib.hid hW2
      clear RA1 RA2 RB hW2
      go_wp2
      go_region
      · obtain ⟨ga, gl, ea, el, hne, ha0, hl0, R⟩ := PA.out
        rw [HW2.out, ← ea]
        rw [show ga + 1 = gl by omega]
        clear ea el PA PB HW2 hmk
        by_cases hz : sumN v n = 0
        · have hz' : (((sumN v n : Nat) : Int) == 0) = true := by simp; omega
          have F : Hid (SharePost t v n w (.returned (.tuple #[.slice (some ⟨ga, 0, none⟩) n n, .int .i64 0])) W2) := Lib.hid ⟨ga, _, rfl, R.out.1, R.out.2.2, ha0, share_zero hz⟩
          clear hz
          go_wp2
          go_ret2
          exact F.out
        · have hz' : (((sumN v n : Nat) : Int) == 0) = false := by simp; omega
          have hs0 : 0 < sumN v n := by omega
          obtain ⟨T, hT⟩ : ∃ T : Nat, t.natAbs = T := ⟨_, rfl⟩
          have hTb : T ≤ 1099511627776 := by omega
          have hvs : Hid (∀ i, i < n → v i ≤ sumN v n) := Lib.hid (fun i hi => le_sumN v hi)
          have bsum : Hid (∀ k, k ≤ n → sumN (base T v (sumN v n)) k ≤ T) := Lib.hid (fun k hk => base_sum_le hs0 hk)
          have lle : Hid (T - sumN (base T v (sumN v n)) n ≤ n) := Lib.hid (left_le hs0)
          obtain ⟨q, hq⟩ := ordered_ex (fun i => (lost T v (sumN v n) i : Int)) n
          have GIV : Hid (∀ X, (∀ i, i < n → X i = bumped (fun i => (base T v (sumN v n) i : Int)) q (T - sumN (base T v (sumN v n)) n) i) → Given T v n X) :=
            Lib.hid (fun X h2 => .inr ⟨hs0, q, hq, h2⟩)
          have O := Lib.hid hq
          have hsb : sumN v n ≤ 2305843009213693952 := by have := sumN_le v (k := n) HV.out; omega
          have hnn : 0 < n := by
            rcases Nat.eq_zero_or_pos n with e | e
            · rw [e] at hz; exact absurd rfl hz
            · exact e
          clear hq hz
          generalize hs : sumN v n = s at hs0 hvs bsum lle GIV O hz' hsb ⊢
          have bt : Hid (∀ i, i < n → base T v s i ≤ T) := Lib.hid (fun i hi => base_le hs0 (hvs.out i hi))
          have lt' : Hid (∀ i, i < n → (0 : Int) ≤ ((lost T v s i : Nat) : Int) ∧ ((lost T v s i : Nat) : Int) ≤ 2305843009213693952) := Lib.hid (fun i _ => by have : lost T v s i < s := Nat.mod_lt _ hs0; omega)
          clear hs hbs
          have P2 : Hid (Rows2 w W2 ga gl n (upto (base T v s) 0) (upto (lost T v s) 0)) := R
          have HT := Lib.hid hT
          clear R
          have hne' : gl ≠ ga := hne.symm
          by_cases hneg : t < 0
          all_goals
            first
              | (have w1 : -t = (T : Int) := by omega)
              | (have w1 : t = (T : Int) := by omega)
            have WT := Lib.hid w1
            clear hT
            go_wp2
            clear w1
            go_loopg [11, 12] n (fun g1 vl vi wr => ∃ k : Nat, vi = .int .i64 k ∧ vl = .int .i64 ((T - sumN (base T v s) k : Nat) : Int) ∧ k ≤ n ∧ n - k ≤ g1 ∧ Hid (Rows2 w wr ga gl n (upto (base T v s) k) (upto (lost T v s) k)))
            case atStart => exact ⟨0, rfl, rfl, by omega, by omega, P2⟩
            case round =>
              obtain ⟨k, rfl, rfl, hk, hg2, HP⟩ := hrel
              by_cases hlt2 : k < n
              · have hI : Ints wr A n (fun i => (v i : Int)) := H.out.below HP.out.2.2
                obtain ⟨b, off, rfl, hb, hc⟩ := hI.at_ hlt2
                clear hI hb
                have c1 := (HP.out.1.cell k).trans (cellsOf_get hlt2)
                have c2 := (HP.out.2.1.cell k).trans (cellsOf_get hlt2)
                have f1 := HP.out.1.frozen k
                have f2 := HP.out.2.1.frozen k
                generalize upto (base T v s) k k = x1 at c1
                generalize upto (lost T v s) k k = x2 at c2
                have hvk := HV.out k hlt2
                have hvk2 := hvs.out k hlt2
                have dn : Hid (∀ W, Calls Try.prog 32 #[.int .i64 (T : Nat), .int .i64 (v k : Nat), .int .i64 (s : Nat)] W fun e w' => e = .returned (.tuple #[.int .i64 (base T v s k : Nat), .int .i64 (lost T v s k : Nat)]) ∧ W = w') :=
                  Lib.hid (fun W => divided_any T (v k) s W hTb hvk hvk2 hs0 hsb _ _ rfl rfl)
                have SS : Hid (sumN (base T v s) (k + 1) = sumN (base T v s) k + base T v s k) := Lib.hid rfl
                have b1 := bsum.out (k + 1) hlt2
                rw [SS.out] at b1
                have b2 := bt.out k hlt2
                have HP2 : Hid (Rows2 w ((wr.setCell ⟨ga, k, none⟩ (.int .i64 (base T v s k : Nat))).setCell ⟨gl, k, none⟩ (.int .i64 (lost T v s k : Nat))) ga gl n (upto (base T v s) (k + 1)) (upto (lost T v s) (k + 1))) :=
                  Lib.hid (((HP.out.set1 hne ha0 k _).set2 hne hl0 k _).congr (fun i _ => upto_step _ _ _) (fun i _ => upto_step _ _ _))
                clear HP
                generalize base T v s k = bk at dn SS b1 b2 HP2
                generalize lost T v s k = lk at dn HP2
                generalize sumN (base T v s) k = sb at SS b1 ⊢
                generalize v k = vk at hc dn
                clear hvk hvk2
                go_wp2_with fail
                refine (dn.out _).mono ?_
                rintro e w3 ⟨rfl, rfl⟩
                go_wp2
                go_roundg (n - (k + 1))
                case measure => omega
                case rel => exact ⟨k + 1, by go_num, by rw [SS.out]; congr 1; omega, by omega, Nat.le_refl _, HP2⟩
              · obtain rfl : n = k := by omega
                have HP3' : Rows2 w wr ga gl n (bumped (fun i => (base T v s i : Int)) q 0) (lessY (fun i => (lost T v s i : Int)) q 0) :=
                  HP.out.congr (fun i hi => by unfold upto; rw [if_pos hi]; rfl) (fun i hi => by unfold upto; rw [if_pos hi]; rfl)
                have HP3 := Lib.hid HP3'
                have LE := lle.out
                have BB : Hid (∀ i, i < n → (0 : Int) ≤ ((base T v s i : Nat) : Int) ∧ ((base T v s i : Nat) : Int) ≤ 1099511627776) := Lib.hid (fun i hi => by have := bt.out i hi; omega)
                have BB2 : Hid (∀ i, i < n → (0 : Int) ≤ (fun i => ((base T v s i : Nat) : Int)) i ∧ (fun i => ((base T v s i : Nat) : Int)) i ≤ 1099511627776) := BB
                have LB : Hid (∀ i, i < n → (0 : Int) ≤ (fun i => ((lost T v s i : Nat) : Int)) i ∧ (fun i => ((lost T v s i : Nat) : Int)) i ≤ 2305843009213693952) := lt'
                clear HP3' HP bsum lle bt lt' BB hvs
                generalize T - sumN (base T v s) n = l at LE GIV ⊢
                generalize (fun i => ((base T v s i : Nat) : Int)) = X0 at HP3 BB2 GIV
                generalize (fun i => ((lost T v s i : Nat) : Int)) = Y0 at HP3 LB O
                go_wp2
                go_loopg [11] l (fun g1 vl wr2 => ∃ j : Nat, vl = .int .i64 ((l - j : Nat) : Int) ∧ j ≤ l ∧ l - j ≤ g1 ∧ Hid (Rows2 w wr2 ga gl n (bumped X0 q j) (lessY Y0 q j)))
                case atStart => exact ⟨0, rfl, by omega, by omega, HP3⟩
                case round =>
                  clear HP3
                  obtain ⟨j, rfl, hj, hg3, HQ⟩ := hrel
                  by_cases hj2 : j < l
                  · have hjn : j < n := by omega
                    have hjl : (0 : Int) < ((l - j : Nat) : Int) := by omega
                    have hjl2 : 0 < l - j := by omega
                    have hjl3 : decide (0 < l - j) = true := by simpa using hjl2
                    go_wp2
                    go_loopg [13, 14] n (fun g1 vb vi wr3 => ∃ b m : Nat, vb = .int .i64 b ∧ vi = .int .i64 m ∧ b < n ∧ m ≤ n ∧ n - m ≤ g1 ∧ Hid (∀ m', m' < m → lessY Y0 q j m' < lessY Y0 q j b ∨ (lessY Y0 q j m' = lessY Y0 q j b ∧ b ≤ m')) ∧ Hid (b < m ∨ (b = 0 ∧ m = 0)) ∧ Hid (Rows2 w wr3 ga gl n (bumped X0 q j) (lessY Y0 q j)))
                    case atStart => exact ⟨0, 0, rfl, rfl, hnn, by omega, by omega, Lib.hid (fun m' h => absurd h (by omega)), Lib.hid (.inr ⟨rfl, rfl⟩), HQ⟩
                    case round =>
                      clear HQ
                      obtain ⟨b, m, rfl, rfl, hb, hm, hg4, HM, HB, HQ⟩ := hrel
                      by_cases hm2 : m < n
                      · have c1 := (HQ.out.2.1.cell m).trans (cellsOf_get hm2)
                        have c2 := (HQ.out.2.1.cell b).trans (cellsOf_get hb)
                        have hmZ : (m : Int) < n := by omega
                        have hbZ : (b : Int) < n := by omega
                        have NM : Hid (lessY Y0 q j b < lessY Y0 q j m → ∀ m', m' < m + 1 → lessY Y0 q j m' < lessY Y0 q j m ∨ (lessY Y0 q j m' = lessY Y0 q j m ∧ m ≤ m')) := Lib.hid (fun h m' hm' => by
                          by_cases e : m' = m
                          · subst e; exact .inr ⟨rfl, Nat.le_refl _⟩
                          · have := HM.out m' (by omega); left; omega)
                        have NB : Hid (¬ lessY Y0 q j b < lessY Y0 q j m → ∀ m', m' < m + 1 → lessY Y0 q j m' < lessY Y0 q j b ∨ (lessY Y0 q j m' = lessY Y0 q j b ∧ b ≤ m')) := Lib.hid (fun h m' hm' => by
                          by_cases e : m' = m
                          · subst e; have := HB.out; omega
                          · exact HM.out m' (by omega))
                        by_cases hgt : lessY Y0 q j b < lessY Y0 q j m
                        · have NX := Lib.hid (NM.out hgt)
                          have HN : Hid (b < m + 1) := Lib.hid (by have := HB.out; omega)
                          clear NM NB HM HB
                          generalize lessY Y0 q j m = ym at c1 hgt
                          generalize lessY Y0 q j b = yb at c2 hgt
                          go_wp2
                          go_quiet (fail)
                          go_wp2
                          go_roundg (n - (m + 1))
                          case measure => omega
                          case rel => exact ⟨m, m + 1, rfl, by go_num, hm2, by omega, Nat.le_refl _, NX, Lib.hid (.inl (by omega)), Lib.hid (HQ.out.drewN _)⟩
                        · have NX := Lib.hid (NB.out hgt)
                          have HN : Hid (b < m + 1) := Lib.hid (by have := HB.out; omega)
                          have hd : decide (lessY Y0 q j b < lessY Y0 q j m) = false := by simpa using hgt
                          clear NM NB HM HB
                          generalize lessY Y0 q j m = ym at c1 hgt hd
                          generalize lessY Y0 q j b = yb at c2 hgt hd
                          go_wp2
                          go_quiet (fail)
                          go_wp2
                          go_roundg (n - (m + 1))
                          case measure => omega
                          case rel => exact ⟨b, m + 1, rfl, by go_num, hb, by omega, Nat.le_refl _, NX, Lib.hid (.inl HN.out), Lib.hid (HQ.out.drewN _)⟩
                      · obtain rfl : n = m := by omega
                        have hbq : b = q j := best_is O.out (fun i hi => (LB.out i hi).1) hjn hb HM.out
                        clear HM HB
                        subst hbq
                        have c1 := (HQ.out.1.cell (q j)).trans (cellsOf_get hb)
                        have c2 := (HQ.out.2.1.cell (q j)).trans (cellsOf_get hb)
                        have f1 := HQ.out.1.frozen (q j)
                        have f2 := HQ.out.2.1.frozen (q j)
                        have bb := bumped_bd X0 q O.out.2.1 BB2.out j (by omega) (q j) hb
                        have S3 : Hid (Rows2 w ((wr.setCell ⟨ga, q j, none⟩ (.int .i64 (bumped X0 q j (q j) + 1))).setCell ⟨gl, q j, none⟩ (.int .i64 (-1))) ga gl n (bumped X0 q (j + 1)) (lessY Y0 q (j + 1))) :=
                          Lib.hid ((HQ.out.set1 hne ha0 (q j) _).set2 hne hl0 (q j) _)
                        clear HQ
                        have LQ : Hid ((((l - (j + 1) : Nat) : Int)) = ((l - j : Nat) : Int) - 1) := Lib.hid (by omega)
                        generalize bumped X0 q j (q j) = xj at c1 bb S3
                        generalize lessY Y0 q j (q j) = yj at c2
                        generalize q j = b at *
                        go_wp2
                        go_roundg (l - (j + 1))
                        case measure => omega
                        case rel => exact ⟨j + 1, by rw [LQ.out], by omega, Nat.le_refl _, S3⟩
                  · obtain rfl : l = j := by omega
                    clear hj2
                    have YB : Hid (∀ i, i < n → 0 ≤ bumped X0 q l i ∧ bumped X0 q l i ≤ 1099511627776 + l) := Lib.hid (bumped_bd X0 q O.out.2.1 BB2.out l (by omega))
                    have GV : Hid (Given t.natAbs v n (bumped X0 q l)) := Lib.hid (by rw [HT.out]; exact GIV.out _ (fun i _ => rfl))
                    clear BB2 LB O GIV
                    generalize bumped X0 q l = Y at HQ YB GV
                    generalize lessY Y0 q l = Z at HQ
                    have hj0 : decide (0 < l - l) = false := by simp
                    by_cases h5 : t < 0
                    · first
                        | (exfalso; omega)
                        | skip
                          have h5d : decide (t < 0) = true := by simpa using h5
                          go_wp2
                          go_loopg [15] n (fun g1 vi wr2 => ∃ m : Nat, vi = .int .i64 m ∧ m ≤ n ∧ n - m ≤ g1 ∧ Hid (Rows2 w wr2 ga gl n (fun i => if i < m then - Y i else Y i) Z))
                          case atStart => exact ⟨0, rfl, by omega, by omega, Lib.hid (HQ.out.congr (fun i _ => by simp) (fun _ _ => rfl))⟩
                          case round =>
                            clear HQ
                            obtain ⟨m, rfl, hm, hg5, HQ⟩ := hrel
                            by_cases hm2 : m < n
                            · have hmZ : (m : Int) < n := by omega
                              have c1 := (HQ.out.1.cell m).trans (cellsOf_get hm2)
                              simp only [Nat.lt_irrefl, if_false] at c1
                              have f1 := HQ.out.1.frozen m
                              have bb := YB.out m hm2
                              have S1 : Hid (Rows2 w (wr.setCell ⟨ga, m, none⟩ (.int .i64 (- Y m))) ga gl n (fun i => if i < m + 1 then - Y i else Y i) Z) := Lib.hid ((HQ.out.set1 hne ha0 m _).congr (fun i _ => by
                                unfold upd
                                by_cases e : i = m
                                · rw [if_pos e, if_pos (by omega), e]
                                · rw [if_neg e]
                                  show (if i < m then - Y i else Y i) = _
                                  by_cases e' : i < m
                                  · rw [if_pos e', if_pos (by omega)]
                                  · rw [if_neg e', if_neg (by omega)]) (fun _ _ => rfl))
                              clear HQ
                              generalize Y m = y at c1 bb S1
                              go_wp2
                              go_roundg (n - (m + 1))
                              case measure => omega
                              case rel => exact ⟨m + 1, by go_num, by omega, Nat.le_refl _, S1⟩
                            · obtain rfl : n = m := by omega
                              have F : Hid (SharePost t v n w (.returned (.tuple #[.slice (some ⟨ga, 0, none⟩) n n, .int .i64 0])) wr) := Lib.hid ⟨ga, _, rfl, HQ.out.1, HQ.out.2.2, ha0, Y, GV.out, fun i hi => by show (if i < n then - Y i else Y i) = _; rw [if_pos hi, if_pos h5]⟩
                              clear HQ
                              go_wp2
                              go_ret2
                              exact F.out
                    · first
                        | (exfalso; omega)
                        | skip
                          have hT5 : decide ((T : Int) < 0) = false := by simp
                          have F : Hid (SharePost t v n w (.returned (.tuple #[.slice (some ⟨ga, 0, none⟩) n n, .int .i64 0])) wr) := Lib.hid ⟨ga, _, rfl, HQ.out.1, HQ.out.2.2, ha0, Y, GV.out, fun i _ => by rw [if_neg h5]⟩
                          clear HQ
                          go_wp2
                          refine wp_loop_rounds 1 ?_
                          rw [rounds_succ]
                          go_wp2
                          go_ret2
                          exact F.out
      · obtain ⟨ga, gl, el, ea, hne, ha0, hl0, R⟩ := PB.out
        rw [HW2.out, ← ea]
        rw [← el]
        clear ea el PA PB HW2 hmk
        by_cases hz : sumN v n = 0
        · have hz' : (((sumN v n : Nat) : Int) == 0) = true := by simp; omega
          have F : Hid (SharePost t v n w (.returned (.tuple #[.slice (some ⟨ga, 0, none⟩) n n, .int .i64 0])) W2) := Lib.hid ⟨ga, _, rfl, R.out.1, R.out.2.2, ha0, share_zero hz⟩
          clear hz
          go_wp2
          go_ret2
          exact F.out
        · have hz' : (((sumN v n : Nat) : Int) == 0) = false := by simp; omega
          have hs0 : 0 < sumN v n := by omega
          obtain ⟨T, hT⟩ : ∃ T : Nat, t.natAbs = T := ⟨_, rfl⟩
          have hTb : T ≤ 1099511627776 := by omega
          have hvs : Hid (∀ i, i < n → v i ≤ sumN v n) := Lib.hid (fun i hi => le_sumN v hi)
          have bsum : Hid (∀ k, k ≤ n → sumN (base T v (sumN v n)) k ≤ T) := Lib.hid (fun k hk => base_sum_le hs0 hk)
          have lle : Hid (T - sumN (base T v (sumN v n)) n ≤ n) := Lib.hid (left_le hs0)
          obtain ⟨q, hq⟩ := ordered_ex (fun i => (lost T v (sumN v n) i : Int)) n
          have GIV : Hid (∀ X, (∀ i, i < n → X i = bumped (fun i => (base T v (sumN v n) i : Int)) q (T - sumN (base T v (sumN v n)) n) i) → Given T v n X) :=
            Lib.hid (fun X h2 => .inr ⟨hs0, q, hq, h2⟩)
          have O := Lib.hid hq
          have hsb : sumN v n ≤ 2305843009213693952 := by have := sumN_le v (k := n) HV.out; omega
          have hnn : 0 < n := by
            rcases Nat.eq_zero_or_pos n with e | e
            · rw [e] at hz; exact absurd rfl hz
            · exact e
          clear hq hz
          generalize hs : sumN v n = s at hs0 hvs bsum lle GIV O hz' hsb ⊢
          have bt : Hid (∀ i, i < n → base T v s i ≤ T) := Lib.hid (fun i hi => base_le hs0 (hvs.out i hi))
          have lt' : Hid (∀ i, i < n → (0 : Int) ≤ ((lost T v s i : Nat) : Int) ∧ ((lost T v s i : Nat) : Int) ≤ 2305843009213693952) := Lib.hid (fun i _ => by have : lost T v s i < s := Nat.mod_lt _ hs0; omega)
          clear hs hbs
          have P2 : Hid (Rows2 w W2 ga gl n (upto (base T v s) 0) (upto (lost T v s) 0)) := R
          have HT := Lib.hid hT
          clear R
          have hne' : gl ≠ ga := hne.symm
          by_cases hneg : t < 0
          all_goals
            first
              | (have w1 : -t = (T : Int) := by omega)
              | (have w1 : t = (T : Int) := by omega)
            have WT := Lib.hid w1
            clear hT
            go_wp2
            clear w1
            go_loopg [11, 12] n (fun g1 vl vi wr => ∃ k : Nat, vi = .int .i64 k ∧ vl = .int .i64 ((T - sumN (base T v s) k : Nat) : Int) ∧ k ≤ n ∧ n - k ≤ g1 ∧ Hid (Rows2 w wr ga gl n (upto (base T v s) k) (upto (lost T v s) k)))
            case atStart => exact ⟨0, rfl, rfl, by omega, by omega, P2⟩
            case round =>
              obtain ⟨k, rfl, rfl, hk, hg2, HP⟩ := hrel
              by_cases hlt2 : k < n
              · have hI : Ints wr A n (fun i => (v i : Int)) := H.out.below HP.out.2.2
                obtain ⟨b, off, rfl, hb, hc⟩ := hI.at_ hlt2
                clear hI hb
                have c1 := (HP.out.1.cell k).trans (cellsOf_get hlt2)
                have c2 := (HP.out.2.1.cell k).trans (cellsOf_get hlt2)
                have f1 := HP.out.1.frozen k
                have f2 := HP.out.2.1.frozen k
                generalize upto (base T v s) k k = x1 at c1
                generalize upto (lost T v s) k k = x2 at c2
                have hvk := HV.out k hlt2
                have hvk2 := hvs.out k hlt2
                have dn : Hid (∀ W, Calls Try.prog 32 #[.int .i64 (T : Nat), .int .i64 (v k : Nat), .int .i64 (s : Nat)] W fun e w' => e = .returned (.tuple #[.int .i64 (base T v s k : Nat), .int .i64 (lost T v s k : Nat)]) ∧ W = w') :=
                  Lib.hid (fun W => divided_any T (v k) s W hTb hvk hvk2 hs0 hsb _ _ rfl rfl)
                have SS : Hid (sumN (base T v s) (k + 1) = sumN (base T v s) k + base T v s k) := Lib.hid rfl
                have b1 := bsum.out (k + 1) hlt2
                rw [SS.out] at b1
                have b2 := bt.out k hlt2
                have HP2 : Hid (Rows2 w ((wr.setCell ⟨ga, k, none⟩ (.int .i64 (base T v s k : Nat))).setCell ⟨gl, k, none⟩ (.int .i64 (lost T v s k : Nat))) ga gl n (upto (base T v s) (k + 1)) (upto (lost T v s) (k + 1))) :=
                  Lib.hid (((HP.out.set1 hne ha0 k _).set2 hne hl0 k _).congr (fun i _ => upto_step _ _ _) (fun i _ => upto_step _ _ _))
                clear HP
                generalize base T v s k = bk at dn SS b1 b2 HP2
                generalize lost T v s k = lk at dn HP2
                generalize sumN (base T v s) k = sb at SS b1 ⊢
                generalize v k = vk at hc dn
                clear hvk hvk2
                go_wp2_with fail
                refine (dn.out _).mono ?_
                rintro e w3 ⟨rfl, rfl⟩
                go_wp2
                go_roundg (n - (k + 1))
                case measure => omega
                case rel => exact ⟨k + 1, by go_num, by rw [SS.out]; congr 1; omega, by omega, Nat.le_refl _, HP2⟩
              · obtain rfl : n = k := by omega
                have HP3' : Rows2 w wr ga gl n (bumped (fun i => (base T v s i : Int)) q 0) (lessY (fun i => (lost T v s i : Int)) q 0) :=
                  HP.out.congr (fun i hi => by unfold upto; rw [if_pos hi]; rfl) (fun i hi => by unfold upto; rw [if_pos hi]; rfl)
                have HP3 := Lib.hid HP3'
                have LE := lle.out
                have BB : Hid (∀ i, i < n → (0 : Int) ≤ ((base T v s i : Nat) : Int) ∧ ((base T v s i : Nat) : Int) ≤ 1099511627776) := Lib.hid (fun i hi => by have := bt.out i hi; omega)
                have BB2 : Hid (∀ i, i < n → (0 : Int) ≤ (fun i => ((base T v s i : Nat) : Int)) i ∧ (fun i => ((base T v s i : Nat) : Int)) i ≤ 1099511627776) := BB
                have LB : Hid (∀ i, i < n → (0 : Int) ≤ (fun i => ((lost T v s i : Nat) : Int)) i ∧ (fun i => ((lost T v s i : Nat) : Int)) i ≤ 2305843009213693952) := lt'
                clear HP3' HP bsum lle bt lt' BB hvs
                generalize T - sumN (base T v s) n = l at LE GIV ⊢
                generalize (fun i => ((base T v s i : Nat) : Int)) = X0 at HP3 BB2 GIV
                generalize (fun i => ((lost T v s i : Nat) : Int)) = Y0 at HP3 LB O
                go_wp2
                go_loopg [11] l (fun g1 vl wr2 => ∃ j : Nat, vl = .int .i64 ((l - j : Nat) : Int) ∧ j ≤ l ∧ l - j ≤ g1 ∧ Hid (Rows2 w wr2 ga gl n (bumped X0 q j) (lessY Y0 q j)))
                case atStart => exact ⟨0, rfl, by omega, by omega, HP3⟩
                case round =>
                  clear HP3
                  obtain ⟨j, rfl, hj, hg3, HQ⟩ := hrel
                  by_cases hj2 : j < l
                  · have hjn : j < n := by omega
                    have hjl : (0 : Int) < ((l - j : Nat) : Int) := by omega
                    have hjl2 : 0 < l - j := by omega
                    have hjl3 : decide (0 < l - j) = true := by simpa using hjl2
                    go_wp2
                    go_loopg [13, 14] n (fun g1 vb vi wr3 => ∃ b m : Nat, vb = .int .i64 b ∧ vi = .int .i64 m ∧ b < n ∧ m ≤ n ∧ n - m ≤ g1 ∧ Hid (∀ m', m' < m → lessY Y0 q j m' < lessY Y0 q j b ∨ (lessY Y0 q j m' = lessY Y0 q j b ∧ b ≤ m')) ∧ Hid (b < m ∨ (b = 0 ∧ m = 0)) ∧ Hid (Rows2 w wr3 ga gl n (bumped X0 q j) (lessY Y0 q j)))
                    case atStart => exact ⟨0, 0, rfl, rfl, hnn, by omega, by omega, Lib.hid (fun m' h => absurd h (by omega)), Lib.hid (.inr ⟨rfl, rfl⟩), HQ⟩
                    case round =>
                      clear HQ
                      obtain ⟨b, m, rfl, rfl, hb, hm, hg4, HM, HB, HQ⟩ := hrel
                      by_cases hm2 : m < n
                      · have c1 := (HQ.out.2.1.cell m).trans (cellsOf_get hm2)
                        have c2 := (HQ.out.2.1.cell b).trans (cellsOf_get hb)
                        have hmZ : (m : Int) < n := by omega
                        have hbZ : (b : Int) < n := by omega
                        have NM : Hid (lessY Y0 q j b < lessY Y0 q j m → ∀ m', m' < m + 1 → lessY Y0 q j m' < lessY Y0 q j m ∨ (lessY Y0 q j m' = lessY Y0 q j m ∧ m ≤ m')) := Lib.hid (fun h m' hm' => by
                          by_cases e : m' = m
                          · subst e; exact .inr ⟨rfl, Nat.le_refl _⟩
                          · have := HM.out m' (by omega); left; omega)
                        have NB : Hid (¬ lessY Y0 q j b < lessY Y0 q j m → ∀ m', m' < m + 1 → lessY Y0 q j m' < lessY Y0 q j b ∨ (lessY Y0 q j m' = lessY Y0 q j b ∧ b ≤ m')) := Lib.hid (fun h m' hm' => by
                          by_cases e : m' = m
                          · subst e; have := HB.out; omega
                          · exact HM.out m' (by omega))
                        by_cases hgt : lessY Y0 q j b < lessY Y0 q j m
                        · have NX := Lib.hid (NM.out hgt)
                          have HN : Hid (b < m + 1) := Lib.hid (by have := HB.out; omega)
                          clear NM NB HM HB
                          generalize lessY Y0 q j m = ym at c1 hgt
                          generalize lessY Y0 q j b = yb at c2 hgt
                          go_wp2
                          go_quiet (fail)
                          go_wp2
                          go_roundg (n - (m + 1))
                          case measure => omega
                          case rel => exact ⟨m, m + 1, rfl, by go_num, hm2, by omega, Nat.le_refl _, NX, Lib.hid (.inl (by omega)), Lib.hid (HQ.out.drewN _)⟩
                        · have NX := Lib.hid (NB.out hgt)
                          have HN : Hid (b < m + 1) := Lib.hid (by have := HB.out; omega)
                          have hd : decide (lessY Y0 q j b < lessY Y0 q j m) = false := by simpa using hgt
                          clear NM NB HM HB
                          generalize lessY Y0 q j m = ym at c1 hgt hd
                          generalize lessY Y0 q j b = yb at c2 hgt hd
                          go_wp2
                          go_quiet (fail)
                          go_wp2
                          go_roundg (n - (m + 1))
                          case measure => omega
                          case rel => exact ⟨b, m + 1, rfl, by go_num, hb, by omega, Nat.le_refl _, NX, Lib.hid (.inl HN.out), Lib.hid (HQ.out.drewN _)⟩
                      · obtain rfl : n = m := by omega
                        have hbq : b = q j := best_is O.out (fun i hi => (LB.out i hi).1) hjn hb HM.out
                        clear HM HB
                        subst hbq
                        have c1 := (HQ.out.1.cell (q j)).trans (cellsOf_get hb)
                        have c2 := (HQ.out.2.1.cell (q j)).trans (cellsOf_get hb)
                        have f1 := HQ.out.1.frozen (q j)
                        have f2 := HQ.out.2.1.frozen (q j)
                        have bb := bumped_bd X0 q O.out.2.1 BB2.out j (by omega) (q j) hb
                        have S3 : Hid (Rows2 w ((wr.setCell ⟨ga, q j, none⟩ (.int .i64 (bumped X0 q j (q j) + 1))).setCell ⟨gl, q j, none⟩ (.int .i64 (-1))) ga gl n (bumped X0 q (j + 1)) (lessY Y0 q (j + 1))) :=
                          Lib.hid ((HQ.out.set1 hne ha0 (q j) _).set2 hne hl0 (q j) _)
                        clear HQ
                        have LQ : Hid ((((l - (j + 1) : Nat) : Int)) = ((l - j : Nat) : Int) - 1) := Lib.hid (by omega)
                        generalize bumped X0 q j (q j) = xj at c1 bb S3
                        generalize lessY Y0 q j (q j) = yj at c2
                        generalize q j = b at *
                        go_wp2
                        go_roundg (l - (j + 1))
                        case measure => omega
                        case rel => exact ⟨j + 1, by rw [LQ.out], by omega, Nat.le_refl _, S3⟩
                  · obtain rfl : l = j := by omega
                    clear hj2
                    have YB : Hid (∀ i, i < n → 0 ≤ bumped X0 q l i ∧ bumped X0 q l i ≤ 1099511627776 + l) := Lib.hid (bumped_bd X0 q O.out.2.1 BB2.out l (by omega))
                    have GV : Hid (Given t.natAbs v n (bumped X0 q l)) := Lib.hid (by rw [HT.out]; exact GIV.out _ (fun i _ => rfl))
                    clear BB2 LB O GIV
                    generalize bumped X0 q l = Y at HQ YB GV
                    generalize lessY Y0 q l = Z at HQ
                    have hj0 : decide (0 < l - l) = false := by simp
                    by_cases h5 : t < 0
                    · first
                        | (exfalso; omega)
                        | skip
                          have h5d : decide (t < 0) = true := by simpa using h5
                          go_wp2
                          go_loopg [15] n (fun g1 vi wr2 => ∃ m : Nat, vi = .int .i64 m ∧ m ≤ n ∧ n - m ≤ g1 ∧ Hid (Rows2 w wr2 ga gl n (fun i => if i < m then - Y i else Y i) Z))
                          case atStart => exact ⟨0, rfl, by omega, by omega, Lib.hid (HQ.out.congr (fun i _ => by simp) (fun _ _ => rfl))⟩
                          case round =>
                            clear HQ
                            obtain ⟨m, rfl, hm, hg5, HQ⟩ := hrel
                            by_cases hm2 : m < n
                            · have hmZ : (m : Int) < n := by omega
                              have c1 := (HQ.out.1.cell m).trans (cellsOf_get hm2)
                              simp only [Nat.lt_irrefl, if_false] at c1
                              have f1 := HQ.out.1.frozen m
                              have bb := YB.out m hm2
                              have S1 : Hid (Rows2 w (wr.setCell ⟨ga, m, none⟩ (.int .i64 (- Y m))) ga gl n (fun i => if i < m + 1 then - Y i else Y i) Z) := Lib.hid ((HQ.out.set1 hne ha0 m _).congr (fun i _ => by
                                unfold upd
                                by_cases e : i = m
                                · rw [if_pos e, if_pos (by omega), e]
                                · rw [if_neg e]
                                  show (if i < m then - Y i else Y i) = _
                                  by_cases e' : i < m
                                  · rw [if_pos e', if_pos (by omega)]
                                  · rw [if_neg e', if_neg (by omega)]) (fun _ _ => rfl))
                              clear HQ
                              generalize Y m = y at c1 bb S1
                              go_wp2
                              go_roundg (n - (m + 1))
                              case measure => omega
                              case rel => exact ⟨m + 1, by go_num, by omega, Nat.le_refl _, S1⟩
                            · obtain rfl : n = m := by omega
                              have F : Hid (SharePost t v n w (.returned (.tuple #[.slice (some ⟨ga, 0, none⟩) n n, .int .i64 0])) wr) := Lib.hid ⟨ga, _, rfl, HQ.out.1, HQ.out.2.2, ha0, Y, GV.out, fun i hi => by show (if i < n then - Y i else Y i) = _; rw [if_pos hi, if_pos h5]⟩
                              clear HQ
                              go_wp2
                              go_ret2
                              exact F.out
                    · first
                        | (exfalso; omega)
                        | skip
                          have hT5 : decide ((T : Int) < 0) = false := by simp
                          have F : Hid (SharePost t v n w (.returned (.tuple #[.slice (some ⟨ga, 0, none⟩) n n, .int .i64 0])) wr) := Lib.hid ⟨ga, _, rfl, HQ.out.1, HQ.out.2.2, ha0, Y, GV.out, fun i _ => by rw [if_neg h5]⟩
                          clear HQ
                          go_wp2
                          refine wp_loop_rounds 1 ?_
                          rw [rounds_succ]
                          go_wp2
                          go_ret2
                          exact F.out
end Go.Proofs.Ytpjhhndjbpegcaa
