/-
  slices.symMergeCmpFunc where the first row is one place, or the second is.
-/
import Derived.Test.YtpjhhndjbpegcaaRotate
namespace Go.Proofs.Ytpjhhndjbpegcaa
open Go.RowKit

set_option maxRecDepth 100000 in
set_option maxHeartbeats 2000000 in
theorem symLeft (a m b n c : Nat) (g bx bl : Nat) (L : Nat → Int) (p : Nat → Nat) (w0 w : World) (hm1 : a + 1 ≤ m) (hm2 : m ≤ a + 1) (hab : m < b) (hb : b ≤ n) (hn : n ≤ 1048576) (ht : Two L p a m b) (h : Row w0 w g bx bl n L p) :
    Calls Try.prog 48 #[.slice (some ⟨g, 0, none⟩) n c, .int .i64 a, .int .i64 m, .int .i64 b, .func (.func 41) #[] #[.pointer (some ⟨bx, 0, none⟩)]] w fun e w' =>
      e = .returned (.tuple #[]) ∧ ∃ q, Merged L p q a b ∧ Row w0 w' g bx bl n L q := by
  have H := Lib.hid h
  have HT : Hid (Two L p a (a + 1) b) := Lib.hid (by rw [show a + 1 = m by omega]; exact ht)
  clear h ht
  have one : (((m : Int) - a) == 1) = true := by simp; omega
  go_enter Try.func48, Try.ntmps48
  go_wp2
  go_loopg [10, 11] (b - a) (fun g1 vi vj wr => ∃ (i j : Nat), vi = .int .i64 i ∧ vj = .int .i64 j ∧ a + 1 ≤ i ∧ i ≤ j ∧ j ≤ b ∧ j - i ≤ g1 ∧ Hid (a + 1 < i → L (p a) < L (p (i - 1))) ∧ Hid (j < b → ¬ L (p a) < L (p j)) ∧ Hid (Row w0 wr g bx bl n L p))
  case atStart =>
    exact ⟨m, b, rfl, rfl, by omega, by omega, by omega, by omega, Lib.hid (fun hh => absurd hh (by omega)), Lib.hid (fun hh => absurd hh (by omega)), H⟩
  case round =>
    obtain ⟨i, j, rfl, rfl, hi, hij, hj, hg1, H1, H2, HR⟩ := hrel
    by_cases hlt : i < j
    · have hltz : (i : Int) < (j : Int) := by omega
      obtain ⟨hm, hhm⟩ : ∃ hm, hm = (i + j) / 2 := ⟨_, rfl⟩
      have hm3 : i ≤ hm := by omega
      have hm4 : hm < j := by omega
      have c1 := HR.out.cell (i := hm) (by omega)
      have c2 := HR.out.cell (i := a) (by omega)
      obtain ⟨v, hv⟩ : ∃ v, cmpV (L (p a)) (L (p hm)) = v := ⟨_, rfl⟩
      have HC : Hid (∀ m, Calls Try.prog 41 #[.int .i64 (p hm), .int .i64 (p a), .pointer (some ⟨bx, 0, none⟩)] (World.drewN _ m) fun e w' => e = .returned (.int .i64 v) ∧ ∃ q, w' = (World.drewN _ m).drewN q) :=
        Lib.hid (fun m => (HR.out.drewN m).cmp (HR.out.2.2.2.2.2.2.2.2 _ (by omega)) (HR.out.2.2.2.2.2.2.2.2 _ (by omega)) v hv)
      have V := Lib.hid hv
      clear hv
      generalize ((p hm : Nat) : Int) = x at c1 HC
      generalize ((p a : Nat) : Int) = y at c2 HC
      have z1 : (hm : Int) < n := by omega
      have z2 : (0 : Int) ≤ hm := by omega
      have z3 : (a : Int) < n := by omega
      have z4 : (0 : Int) ≤ a := by omega
      have z5 : (i : Int) ≤ hm := by omega
      have z6 : (hm : Int) < j := by omega
      go_wp2_with fail
      rw [show ((i : Int) + j) / 2 = (hm : Int) from by omega]
      have HH := Lib.hid hhm
      clear hhm
      by_cases hlv : v < 0
      · go_quiet ((first | (go_at_call 41; exact Calls.quiet_of (HC.out _))))
        go_wp2
        go_roundg (j - (hm + 1))
        case measure => omega
        case rel =>
          have hl : L (p a) < L (p hm) := cmpV_lt.1 (by rw [V.out]; exact hlv)
          exact ⟨hm + 1, j, by go_num, rfl, by omega, by omega, by omega, Nat.le_refl _, Lib.hid (fun _ => hl), H2, Lib.hid (HR.out.drewN _)⟩
      · go_quiet ((first | (go_at_call 41; exact Calls.quiet_of (HC.out _))))
        go_wp2
        go_roundg (hm - i)
        case measure => omega
        case rel =>
          have hl : ¬ L (p a) < L (p hm) := fun hh => by have h9 := cmpV_lt.2 hh; rw [V.out] at h9; omega
          exact ⟨i, hm, rfl, rfl, by omega, by omega, by omega, Nat.le_refl _, H1, Lib.hid (fun _ => by omega), Lib.hid (HR.out.drewN _)⟩
    · obtain rfl : i = j := by omega
      go_wp2
      go_loopg [13] i (fun g1 vk wr2 => ∃ k : Nat, vk = .int .i64 k ∧ a ≤ k ∧ k ≤ i - 1 ∧ i - k ≤ g1 ∧ Hid (Row w0 wr2 g bx bl n L (rot p a (a + 1) (k + 1))))
      case atStart => exact ⟨a, rfl, by omega, by omega, by omega, Lib.hid (by rw [rot_nil_r p a (a + 1) (by omega)]; exact HR.out)⟩
      case round =>
        obtain ⟨k, rfl, hak, hki, hg2, HK⟩ := hrel
        by_cases hk : k < i - 1
        · have hkz : (k : Int) < (i : Int) - 1 := by omega
          have c1 := HK.out.cell (i := k) (by omega)
          have c2 := HK.out.cell (i := k + 1) (by omega)
          have f1 := HK.out.free k
          have f2 := HK.out.free (k + 1)
          generalize hx : ((rot p a (a + 1) (k + 1) k : Nat) : Int) = x at c1
          generalize hy : ((rot p a (a + 1) (k + 1) (k + 1) : Nat) : Int) = y at c2
          have X := Lib.hid hx
          have Y := Lib.hid hy
          clear hx hy
          have z1 : IntKind.i64.wrap ((k : Int) + 1) = (k : Int) + 1 := IntWalk.i64_in _ (by omega)
          have z2 : (0 : Int) ≤ (k : Int) + 1 := by omega
          have z3 : (k : Int) + 1 < n := by omega
          have z4 : (k : Int) < n := by omega
          have z5 : (0 : Int) ≤ k := by omega
          have e1 : ((k : Int) + 1).toNat = k + 1 := by omega
          go_wp2_with fail
          go_region
          all_goals go_wp2
          go_roundg (i - (k + 1))
          case measure => omega
          case rel =>
            have K := (HK.out.swap (i := k) (j := k + 1) (by omega) (by omega)).drew
            rw [X.out, Y.out, rot_up p hak] at K
            exact ⟨k + 1, by go_num, by omega, by omega, by omega, Lib.hid K⟩
        · have hkz : ¬ (k : Int) < (i : Int) - 1 := by omega
          have R := HK.out
          rw [show k + 1 = i by omega] at R
          have R2 := Lib.hid R
          clear R
          go_wp2
          refine bodyPost_ret (results_none rfl _ _ _) rfl ?_
          exact ⟨rfl, _, merged_left HT.out hi hj H1.out (fun hh => by have h9 := H2.out hh; omega), R2.out⟩

set_option maxRecDepth 100000 in
set_option maxHeartbeats 2000000 in
theorem symRight (a m b n c : Nat) (g bx bl : Nat) (L : Nat → Int) (p : Nat → Nat) (w0 w : World) (hm1 : a + 1 < m) (hm2 : m + 1 ≤ b) (hm5 : b ≤ m + 1) (hb : b ≤ n) (hn : n ≤ 1048576) (ht : Two L p a m b) (h : Row w0 w g bx bl n L p) :
    Calls Try.prog 48 #[.slice (some ⟨g, 0, none⟩) n c, .int .i64 a, .int .i64 m, .int .i64 b, .func (.func 41) #[] #[.pointer (some ⟨bx, 0, none⟩)]] w fun e w' =>
      e = .returned (.tuple #[]) ∧ ∃ q, Merged L p q a b ∧ Row w0 w' g bx bl n L q := by
  have H := Lib.hid h
  have HT : Hid (Two L p a m (m + 1)) := Lib.hid (by rw [show m + 1 = b by omega]; exact ht)
  have HE : Hid (b = m + 1) := Lib.hid (by omega)
  clear h ht
  have one : (((m : Int) - a) == 1) = false := by simp; omega
  have two : (((b : Int) - m) == 1) = true := by simp; omega
  go_enter Try.func48, Try.ntmps48
  go_wp2
  go_loopg [14, 15] (b - a) (fun g1 vi vj wr => ∃ (i j : Nat), vi = .int .i64 i ∧ vj = .int .i64 j ∧ a ≤ i ∧ i ≤ j ∧ j ≤ m ∧ j - i ≤ g1 ∧ Hid (a < i → ¬ L (p (i - 1)) < L (p m)) ∧ Hid (j < m → L (p j) < L (p m)) ∧ Hid (Row w0 wr g bx bl n L p))
  case atStart =>
    exact ⟨a, m, rfl, rfl, by omega, by omega, by omega, by omega, Lib.hid (fun hh => absurd hh (by omega)), Lib.hid (fun hh => absurd hh (by omega)), H⟩
  case round =>
    obtain ⟨i, j, rfl, rfl, hi, hij, hj, hg1, H1, H2, HR⟩ := hrel
    by_cases hlt : i < j
    · have hltz : (i : Int) < (j : Int) := by omega
      obtain ⟨hm, hhm⟩ : ∃ hm, hm = (i + j) / 2 := ⟨_, rfl⟩
      have hm3 : i ≤ hm := by omega
      have hm4 : hm < j := by omega
      have c1 := HR.out.cell (i := m) (by omega)
      have c2 := HR.out.cell (i := hm) (by omega)
      obtain ⟨v, hv⟩ : ∃ v, cmpV (L (p hm)) (L (p m)) = v := ⟨_, rfl⟩
      have HC : Hid (∀ k, Calls Try.prog 41 #[.int .i64 (p m), .int .i64 (p hm), .pointer (some ⟨bx, 0, none⟩)] (World.drewN _ k) fun e w' => e = .returned (.int .i64 v) ∧ ∃ q, w' = (World.drewN _ k).drewN q) :=
        Lib.hid (fun k => (HR.out.drewN k).cmp (HR.out.2.2.2.2.2.2.2.2 _ (by omega)) (HR.out.2.2.2.2.2.2.2.2 _ (by omega)) v hv)
      have V := Lib.hid hv
      clear hv
      generalize ((p m : Nat) : Int) = x at c1 HC
      generalize ((p hm : Nat) : Int) = y at c2 HC
      have z1 : (hm : Int) < n := by omega
      have z2 : (0 : Int) ≤ hm := by omega
      have z3 : (m : Int) < n := by omega
      have z4 : (0 : Int) ≤ m := by omega
      have z5 : (i : Int) ≤ hm := by omega
      have z6 : (hm : Int) < j := by omega
      go_wp2_with fail
      rw [show ((i : Int) + j) / 2 = (hm : Int) from by omega]
      have HH := Lib.hid hhm
      clear hhm
      by_cases hlv : v < 0
      · go_quiet ((first | (go_at_call 41; exact Calls.quiet_of (HC.out _))))
        go_wp2
        go_roundg (hm - i)
        case measure => omega
        case rel =>
          have hl : L (p hm) < L (p m) := cmpV_lt.1 (by rw [V.out]; exact hlv)
          exact ⟨i, hm, rfl, rfl, by omega, by omega, by omega, Nat.le_refl _, H1, Lib.hid (fun _ => hl), Lib.hid (HR.out.drewN _)⟩
      · go_quiet ((first | (go_at_call 41; exact Calls.quiet_of (HC.out _))))
        go_wp2
        go_roundg (j - (hm + 1))
        case measure => omega
        case rel =>
          have hl : ¬ L (p hm) < L (p m) := fun hh => by have h9 := cmpV_lt.2 hh; rw [V.out] at h9; omega
          exact ⟨hm + 1, j, by go_num, rfl, by omega, by omega, by omega, Nat.le_refl _, Lib.hid (fun _ => by rw [Nat.add_sub_cancel]; omega), H2, Lib.hid (HR.out.drewN _)⟩
    · obtain rfl : i = j := by omega
      go_wp2
      go_loopg [17] (m - i) (fun g1 vk wr2 => ∃ k : Nat, vk = .int .i64 k ∧ i ≤ k ∧ k ≤ m ∧ k - i ≤ g1 ∧ Hid (Row w0 wr2 g bx bl n L (rot p k m (m + 1))))
      case atStart => exact ⟨m, rfl, by omega, by omega, by omega, Lib.hid (by rw [rot_nil_l p m (m + 1) (by omega)]; exact HR.out)⟩
      case round =>
        obtain ⟨k, rfl, hak, hki, hg2, HK⟩ := hrel
        by_cases hk : i < k
        · obtain ⟨kp, rfl⟩ : ∃ kp, k = kp + 1 := ⟨k - 1, by omega⟩
          have hkz : (i : Int) < (kp : Int) + 1 := by omega
          have c1 := HK.out.cell (i := kp + 1) (by omega)
          have c2 := HK.out.cell (i := kp) (by omega)
          have f1 := HK.out.free (kp + 1)
          have f2 := HK.out.free kp
          generalize hx : ((rot p (kp + 1) m (m + 1) (kp + 1) : Nat) : Int) = x at c1
          generalize hy : ((rot p (kp + 1) m (m + 1) kp : Nat) : Int) = y at c2
          have X := Lib.hid hx
          have Y := Lib.hid hy
          clear hx hy
          have z1 : IntKind.i64.wrap (kp : Int) = (kp : Int) := IntWalk.i64_in _ (by omega)
          have z2 : (0 : Int) ≤ (kp : Int) + 1 := by omega
          have z3 : (kp : Int) + 1 < n := by omega
          have z4 : (kp : Int) < n := by omega
          have z5 : (0 : Int) ≤ kp := by omega
          have e1 : ((kp : Int) + 1).toNat = kp + 1 := by omega
          go_wp2_with fail
          go_region
          all_goals go_wp2
          go_roundg (kp - i)
          case measure => omega
          case rel =>
            have K := (HK.out.swap (i := kp + 1) (j := kp) (by omega) (by omega)).drew
            rw [X.out, Y.out, rot_down p (by omega)] at K
            exact ⟨kp, by go_num, by omega, by omega, Nat.le_refl _, Lib.hid K⟩
        · obtain rfl : k = i := by omega
          have hkz : ¬ (k : Int) < (k : Int) := by omega
          have R : Hid (Merged L p (rot p k m (m + 1)) a b) := Lib.hid (by rw [HE.out]; exact merged_right HT.out hi hj (fun hh => by have h9 := H1.out hh; omega) H2.out)
          go_wp2
          refine bodyPost_ret (results_none rfl _ _ _) rfl ?_
          exact ⟨rfl, _, R.out, HK.out⟩
end Go.Proofs.Ytpjhhndjbpegcaa
