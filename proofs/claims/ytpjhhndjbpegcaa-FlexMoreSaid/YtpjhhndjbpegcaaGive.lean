/-
  fixed.giveOut: the shares of a total from 0 on, in memory of its own.
-/
import Derived.Test.YtpjhhndjbpegcaaFirst
import Derived.Test.YtpjhhndjbpegcaaDown
import Derived.Test.YtpjhhndjbpegcaaGiveMath
namespace Go.Proofs.Ytpjhhndjbpegcaa
open Go.RowKit

theorem info_word : (Try.prog.info? 61).map (fun i => (i.zero, i.size, i.bytes)) = some (some (.int .u64 0), 1, 8) := by kernel_rfl
theorem make_words (n : Nat) (hn : n ≤ 1048576) (W : World) :
    (Instr.makeSlice 60 (.int .i64 (n : Int)) (.int .i64 (n : Int))).run Try.prog W = .ok (.slice (some ⟨W.heap.size, 0, none⟩) n n) (W.alloc (.cells (cellsOf .u64 n (fun _ => 0)) 61)) := by
  obtain ⟨i0, hi, hz0, hz1, hz2⟩ := info_parts info_word
  have h := run_make (P := Try.prog) W 60 61 i0 (.int .u64 0) Try.underlying60 hi hz0 .i64 .i64 n n (by omega) (by omega) (by rw [hz2]; omega) (by omega)
  rw [hz1] at h
  simp only [Int.toNat_natCast] at h
  rw [madeCells_zero] at h
  exact h

def GivePost (t : Nat) (v : Nat → Nat) (n : Nat) (w : World) (e : Ending) (w' : World) : Prop :=
  ∃ g X, e = .returned (.slice (some ⟨g, 0, none⟩) n n) ∧ Whole w' g 3 (cellsOf .i64 n X) ∧ Below w.heap.size w w' ∧ w.heap.size ≤ g ∧ Given t v n X
/-- the row of the shares and that of what was lost, behind one another, both of the call's own -/
def Pair (w0 w : World) (g n : Nat) (X Y : Nat → Int) : Prop := Whole w g 3 (cellsOf .i64 n X) ∧ Whole w (g + 1) 61 (cellsOf .u64 n Y) ∧ Below g w0 w
section
variable {w0 w : World} {g n : Nat} {X Y : Nat → Int}
theorem Pair.drewN (h : Pair w0 w g n X Y) (q : Nat) : Pair w0 (w.drewN q) g n X Y := ⟨h.1.drewN q, h.2.1.drewN q, below_drewN h.2.2 q⟩
theorem Pair.put (h : Pair w0 w g n X Y) (k : Nat) (x y : Int) : Pair w0 ((w.setCell ⟨g, k, none⟩ (.int .i64 x)).setCell ⟨g + 1, k, none⟩ (.int .u64 y)) g n (upd X k x) (upd Y k y) := by
  obtain ⟨h1, h2, h3⟩ := h
  have a := (h1.set_ k (.int .i64 x)).far (p := ⟨g + 1, k, none⟩) (by simp) (.int .u64 y)
  have b := (h2.far (p := ⟨g, k, none⟩) (by simp) (.int .i64 x)).set_ k (.int .u64 y)
  rw [cellsOf_set] at a b
  exact ⟨a, b, (h3.setCell (by simp) _).setCell (by simp) _⟩
theorem Pair.congr {X' Y' : Nat → Int} (h : Pair w0 w g n X Y) (e1 : ∀ i, i < n → X i = X' i) (e2 : ∀ i, i < n → Y i = Y' i) : Pair w0 w g n X' Y' := by
  refine ⟨?_, ?_, h.2.2⟩
  · rw [← cellsOf_congr e1]; exact h.1
  · rw [← cellsOf_congr e2]; exact h.2.1
end
def upto (X : Nat → Nat) (k : Nat) : Nat → Int := fun i => if i < k then (X i : Int) else 0
theorem upto_step (X : Nat → Nat) (k i : Nat) : upd (upto X k) k (X k) i = upto X (k + 1) i := by
  unfold upd upto
  by_cases e : i = k
  · rw [if_pos e, if_pos (by omega), e]
  · rw [if_neg e]
    by_cases e' : i < k
    · rw [if_pos e', if_pos (by omega)]
    · rw [if_neg e', if_neg (by omega)]
set_option maxHeartbeats 2000000 in
theorem give_any (t n c : Nat) (A : Option Addr) (v : Nat → Nat) (w : World) (ht : t ≤ 1099511627776) (hn : n ≤ 2048) (hv : ∀ i, i < n → v i ≤ 1125899906842624) (h : Ints w A n (fun i => (v i : Int)))
    (hd : (∀ i, i < n → t * v i < 18446744073709551616) ∨ DivOK) :
    Calls Try.prog 34 #[.int .i64 t, .slice A n c] w (GivePost t v n w) := by
  have H := Lib.hid h
  have HV := Lib.hid hv
  have HD := Lib.hid hd
  have hmk := make_ints n (by omega)
  have hmw := make_words n (by omega)
  obtain ⟨w1, hw1⟩ : ∃ w1, w1 = w.alloc (.cells (cellsOf .i64 n (fun _ => 0)) 3) := ⟨_, rfl⟩
  have hs1 : w1.heap.size = w.heap.size + 1 := by rw [hw1]; simp
  have W1 : Hid (Whole w1 w.heap.size 3 (cellsOf .i64 n (fun _ => 0))) := Lib.hid (by rw [hw1]; exact Whole.new w _ _)
  have B1 : Hid (Below w.heap.size w w1) := Lib.hid (by rw [hw1]; exact (Below.refl _ _).alloc (Nat.le_refl _) _)
  have I1 : Hid (Ints w1 A n (fun i => (v i : Int))) := Lib.hid (h.below B1.out)
  have HW1 := Lib.hid hw1
  clear hw1 h hv hd
  go_enter Try.func34, Try.ntmps34
  go_wp2
  rw [← HW1.out]
  clear hmk HW1
  generalize hg : w.heap.size = g at *
  have HG := Lib.hid hg
  clear hg
  go_loopg [6, 20] n (fun g1 vs vi wr => ∃ k : Nat, vi = .int .i64 k ∧ vs = .int .i64 (sumN v k) ∧ k ≤ n ∧ n - k ≤ g1 ∧ Hid (wr = w1))
  case atStart => exact ⟨0, rfl, rfl, by omega, by omega, rfl⟩
  case round =>
    obtain ⟨k, rfl, rfl, hk, hg1, HR⟩ := hrel
    obtain rfl := HR.out
    clear HR
    have hbs := sumN_le v (k := k) (c := 1125899906842624) (fun i hi => HV.out i (by omega))
    by_cases hlt : k < n
    · obtain ⟨b, off, rfl, hb, hc⟩ := I1.out.at_ hlt
      have hvk := HV.out k hlt
      have S : Hid (sumN v (k + 1) = sumN v k + v k) := Lib.hid rfl
      generalize sumN v k = s at hbs S ⊢
      generalize v k = x at hc hvk S
      clear hb
      go_wp2
      go_roundg (n - (k + 1))
      case measure => omega
      case rel => exact ⟨k + 1, by go_num, by rw [S.out]; first | rfl | (congr 1; omega), by omega, Nat.le_refl _, rfl⟩
    · obtain rfl : n = k := by omega
      by_cases hz : sumN v n = 0
      · have hz' : (((sumN v n : Nat) : Int) == 0) = true := by simp; omega
        have F : Hid (GivePost t v n w (.returned (.slice (some ⟨g, 0, none⟩) n n)) wr) := Lib.hid ⟨g, _, rfl, W1.out, by rw [HG.out]; exact B1.out, by rw [HG.out]; exact Nat.le_refl _, .inl ⟨hz, fun _ _ => rfl⟩⟩
        clear hz
        go_wp2
        go_ret
        exact F.out
      · have hz' : (((sumN v n : Nat) : Int) == 0) = false := by simp; omega
        go_wp2
        have hs0 : 0 < sumN v n := by omega
        have hvs : Hid (∀ i, i < n → v i ≤ sumN v n) := Lib.hid (fun i hi => le_sumN v hi)
        have bsum : Hid (∀ k, k ≤ n → sumN (base t v (sumN v n)) k ≤ t) := Lib.hid (fun k hk => base_sum_le hs0 hk)
        have lle : Hid (t - sumN (base t v (sumN v n)) n ≤ n) := Lib.hid (left_le hs0)
        have GIV : Hid (∀ X q, Ordered (fun i => (lost t v (sumN v n) i : Int)) q n → (∀ i, i < n → X i = bumped (fun i => (base t v (sumN v n) i : Int)) q (t - sumN (base t v (sumN v n)) n) i) → Given t v n X) :=
          Lib.hid (fun X q h1 h2 => .inr ⟨hs0, q, h1, h2⟩)
        generalize hs : sumN v n = s at hs0 hbs hvs bsum lle GIV hz hz' ⊢
        have bt : Hid (∀ i, i < n → base t v s i ≤ t) := Lib.hid (fun i hi => base_le hs0 (hvs.out i hi))
        have HS := Lib.hid hs
        clear hs hz hz' hmw
        have hgs : wr.heap.size = g + 1 := hs1
        have P2 : Hid (Pair w (wr.alloc (.cells (cellsOf .u64 n (fun _ => 0)) 61)) g n (upto (base t v s) 0) (upto (lost t v s) 0)) := Lib.hid (by
          refine ⟨?_, ?_, ?_⟩
          · exact ((W1.out.alloc _))
          · have := Whole.new wr 61 (cellsOf .u64 n (fun _ => 0))
            rw [hgs] at this
            exact this
          · exact B1.out.alloc (by omega) _)
        have I2 : Hid (Ints w A n (fun i => (v i : Int))) := H
        generalize wr.alloc (.cells (cellsOf .u64 n (fun _ => 0)) 61) = w2 at P2 ⊢
        clear W1 B1 I1 hs1 hgs
        go_loopg [10, 37] n (fun g1 vl vi wr2 => ∃ k : Nat, vi = .int .i64 k ∧ vl = .int .i64 ((t - sumN (base t v s) k : Nat) : Int) ∧ k ≤ n ∧ n - k ≤ g1 ∧ Hid (Pair w wr2 g n (upto (base t v s) k) (upto (lost t v s) k)))
        case atStart => exact ⟨0, rfl, rfl, by omega, by omega, P2⟩
        case round =>
          obtain ⟨k, rfl, rfl, hk, hg2, HP⟩ := hrel
          by_cases hlt2 : k < n
          · have hI : Ints wr A n (fun i => (v i : Int)) := by
              refine I2.out.below ?_
              rw [HG.out]; exact HP.out.2.2
            obtain ⟨b, off, rfl, hb, hc⟩ := hI.at_ hlt2
            clear hI hb
            have c1 := (HP.out.1.cell k).trans (cellsOf_get hlt2)
            have c2 := (HP.out.2.1.cell k).trans (cellsOf_get hlt2)
            have f1 := HP.out.1.frozen k
            have f2 := HP.out.2.1.frozen k
            generalize upto (base t v s) k k = x1 at c1
            generalize upto (lost t v s) k k = x2 at c2
            have dn : Hid (∀ W, Calls Try.prog 36 #[.int .i64 t, .int .i64 (v k), .int .i64 s] W fun e w' => e = .returned (.tuple #[.int .i64 (base t v s k), .int .u64 (lost t v s k)]) ∧ Drawn W w') :=
              Lib.hid (fun W => down_any t (v k) s W ht (hvs.out k hlt2) hs0 (by have := sumN_le v (k := n) HV.out; rw [HS.out] at this; omega) (HD.out.elim (fun h => .inl (h k hlt2)) .inr) _ _ rfl rfl)
            have SS : Hid (sumN (base t v s) (k + 1) = sumN (base t v s) k + base t v s k) := Lib.hid rfl
            have b1 := bsum.out (k + 1) hlt2
            rw [SS.out] at b1
            have b2 := bt.out k hlt2
            have NX : Hid (∀ W, Pair w W g n (upd (upto (base t v s) k) k (base t v s k)) (upd (upto (lost t v s) k) k (lost t v s k)) → Pair w W g n (upto (base t v s) (k + 1)) (upto (lost t v s) (k + 1))) :=
              Lib.hid (fun W h => h.congr (fun i _ => upto_step _ _ _) (fun i _ => upto_step _ _ _))
            have HP2 : Hid (∀ q, Pair w (((wr.drewN q).setCell ⟨g, k, none⟩ (.int .i64 (base t v s k))).setCell ⟨g + 1, k, none⟩ (.int .u64 (lost t v s k))) g n (upto (base t v s) (k + 1)) (upto (lost t v s) (k + 1))) :=
              Lib.hid (fun q => NX.out _ ((HP.out.drewN q).put k _ _))
            clear NX
            generalize base t v s k = bk at dn SS b1 b2 HP2
            generalize lost t v s k = lk at dn HP2
            generalize sumN (base t v s) k = sb at SS b1 ⊢
            go_wp2_with fail
            refine (dn.out _).mono ?_
            rintro e w3 ⟨rfl, hd⟩
            obtain ⟨q, rfl⟩ := hd
            go_wp2
            go_roundg (n - (k + 1))
            case measure => omega
            case rel => exact ⟨k + 1, by go_num, by rw [SS.out]; congr 1; omega, by omega, Nat.le_refl _, Lib.hid (HP2.out q)⟩
          · obtain rfl : n = k := by omega
            have HF : Hid (Whole wr (g + 1) 61 (cellsOf .u64 n (fun i => (lost t v s i : Int)))) := Lib.hid (by
              rw [← cellsOf_congr (f := upto (lost t v s) n) (fun i hi => by unfold upto; rw [if_pos hi])]; exact HP.out.2.1)
            have HX : Hid (Whole wr g 3 (cellsOf .i64 n (fun i => (base t v s i : Int)))) := Lib.hid (by
              rw [← cellsOf_congr (f := upto (base t v s) n) (fun i hi => by unfold upto; rw [if_pos hi])]; exact HP.out.1)
            have HB : Hid (Below g w wr) := HP.out.2.2
            have n0 : 0 < n := by
              rcases Nat.eq_zero_or_pos n with e | e
              · have h9 := HS.out; rw [e] at h9; unfold sumN at h9; omega
              · exact e
            have LL := lle.out
            have LE : Hid (∀ i, i < n → 0 ≤ ((base t v s i : Nat) : Int) ∧ ((base t v s i : Nat) : Int) ≤ 1099511627776) := Lib.hid (fun i hi => by have := bt.out i hi; omega)
            generalize hl : t - sumN (base t v s) n = l at LL GIV ⊢
            clear hl HP bsum lle
            go_wp2_with fail
            refine (mostFirst_any n (g + 1) _ _ n0 (by omega) HF.out).mono ?_
            rintro e w3 ⟨g3, q, rfl, hw, ho, hb, hg3⟩
            have O := Lib.hid ho
            have K1 : Hid (Whole w3 g 3 (cellsOf .i64 n (bumped (fun i => (base t v s i : Int)) q 0))) := Lib.hid (HX.out.below hb HX.out.lt)
            have K2 := Lib.hid hw
            have hgg : g < g3 := Nat.lt_of_lt_of_le HX.out.lt hg3
            have K3 : Hid (Below g w w3) := Lib.hid (HB.out.trans (hb.mono (Nat.le_of_lt HX.out.lt)))
            clear hw ho hb hg3
            go_wp2
            go_loopg [67] l (fun g1 vi wr => ∃ k : Nat, vi = .int .i64 k ∧ k ≤ l ∧ l - k ≤ g1 ∧ Hid (Whole wr g 3 (cellsOf .i64 n (bumped (fun i => (base t v s i : Int)) q k))) ∧ Hid (Whole wr g3 3 (cellsOf .i64 n (fun k => (q k : Int)))) ∧ Hid (Below g w wr))
            case atStart => exact ⟨0, rfl, by omega, by omega, K1, K2, K3⟩
            case round =>
              clear K1 K2 K3
              obtain ⟨k, rfl, hk2, hg3, K1, K2, K3⟩ := hrel
              by_cases hlt3 : k < l
              · have hltz : (k : Int) < l := by omega
                have hqk : q k < n := O.out.2.1 k (by omega)
                have c1 := (K2.out.cell k).trans (cellsOf_get (by omega : k < n))
                have c2 := (K1.out.cell (q k)).trans (cellsOf_get hqk)
                have f2 := K1.out.frozen (q k)
                have bb := bumped_bd _ q O.out.2.1 LE.out k (by omega) (q k) hqk
                have N1 : Hid (∀ W, Whole W g 3 (cellsOf .i64 n (upd (bumped (fun i => (base t v s i : Int)) q k) (q k) (bumped (fun i => (base t v s i : Int)) q k (q k) + 1))) → Whole W g 3 (cellsOf .i64 n (bumped (fun i => (base t v s i : Int)) q (k + 1)))) := Lib.hid (fun W h => h)
                have S1 : Hid (Whole (wr.setCell ⟨g, q k, none⟩ (.int .i64 (bumped (fun i => (base t v s i : Int)) q k (q k) + 1))) g 3 (cellsOf .i64 n (bumped (fun i => (base t v s i : Int)) q (k + 1)))) := Lib.hid (by
                  have h9 := K1.out.set_ (q k) (.int .i64 (bumped (fun i => (base t v s i : Int)) q k (q k) + 1))
                  rw [cellsOf_set] at h9
                  exact N1.out _ h9)
                have S2 : Hid (∀ u, Whole (wr.setCell ⟨g, q k, none⟩ u) g3 3 (cellsOf .i64 n (fun k => (q k : Int)))) := Lib.hid (fun u => K2.out.far (p := ⟨g, q k, none⟩) (by show g3 ≠ g; omega) u)
                have S3 : Hid (∀ u, Below g w (wr.setCell ⟨g, q k, none⟩ u)) := Lib.hid (fun u => K3.out.setCell (p := ⟨g, q k, none⟩) (Nat.le_refl g) u)
                clear K1 K2 K3 N1
                generalize bumped (fun i => (base t v s i : Int)) q k (q k) = y at c2 bb S1
                generalize q k = x at c1 c2 f2 hqk S1 S2 S3
                have x0 : (0 : Int) ≤ x := by omega
                have x1 : (x : Int) < n := by omega
                have k1 : (k : Int) < n := by omega
                have y1 : IntKind.i64.wrap (y + 1) = y + 1 := IntWalk.i64_in _ (by omega)
                go_wp2
                go_roundg (l - (k + 1))
                case measure => omega
                case rel => exact ⟨k + 1, by go_num, by omega, Nat.le_refl _, S1, Lib.hid (S2.out _), Lib.hid (S3.out _)⟩
              · obtain rfl : l = k := by omega
                have F : Hid (GivePost t v n w (.returned (.slice (some ⟨g, 0, none⟩) n n)) wr) := Lib.hid ⟨g, _, rfl, K1.out, by rw [HG.out]; exact K3.out, by rw [HG.out]; exact Nat.le_refl _, GIV.out _ q O.out (fun _ _ => rfl)⟩
                clear K1 K2 K3
                go_wp2
                go_ret
                exact F.out
end Go.Proofs.Ytpjhhndjbpegcaa
