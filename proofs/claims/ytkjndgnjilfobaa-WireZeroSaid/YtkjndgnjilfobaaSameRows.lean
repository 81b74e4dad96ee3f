/-
  The landed wire's Same of rows; whether one of a row is too long.
-/
import Derived.Test.YtkjndgnjilfobaaSameW
import Derived.Test.YtkjndgnjilfobaaWireOK
namespace Go.Proofs.Ytkjndgnjilfobaa
open Go.RowKit

def fiveV (v : RV) : Array Value := #[.int .u64 (v.n : Nat), .int .i64 v.i, .bool v.f, .slice v.bA v.bn v.bc, .slice v.lA v.ln v.lc]
theorem means_cons_eq {U V : Nat → RV} {n : Nat} (h : ∀ j, j < n → (U j).mean = (V j).mean) : means U n = means V n :=
  List.map_congr_left fun j hj => h j (List.mem_range.1 hj)
theorem means_ne {U V : Nat → RV} {n m j : Nat} (hn : j < n) (hm : j < m) (h : (U j).mean ≠ (V j).mean) : means U n ≠ means V m := fun e => h (by
  have := congrArg (·[j]?) e
  simpa [means_get _ _ _ hn, means_get _ _ _ hm] using this)

set_option maxRecDepth 100000 in
set_option maxHeartbeats 4000000 in
theorem equalFunc_any (A B : Option Addr) (n m c d : Nat) (U V : Nat → RV) (w : World) (hU : ValsIn w A n c U) (hV : ValsIn w B m d V) :
    Calls Try.prog 33 #[.slice A n c, .slice B m d, .func (.func 25) #[] #[]] w fun e w' => e = .returned (.bool (decide (means U n = means V m))) ∧ Below w.heap.size w w' := by
  generalize hd : decide (means U n = means V m) = r
  have HD := Lib.hid hd
  have HU := Lib.hid hU.1
  have HV := Lib.hid hV.1
  have n1 := hU.2.2.2
  clear hd hU hV
  by_cases hnm : n = m
  · subst hnm
    have nm : ((n : Int) != (n : Int)) = false := by simp
    go_enter Try.func33, Try.ntmps33
    go_wp2
    go_loopg [17] n (fun g1 vi wr => ∃ k : Nat, vi = .int .i64 k ∧ k ≤ n ∧ n - k ≤ g1 ∧ Hid (∀ j, j < k → (U j).mean = (V j).mean) ∧ Hid (Below w.heap.size w wr))
    case atStart => exact ⟨0, rfl, by omega, by omega, Lib.hid (fun j hj => by omega), Lib.hid (Below.refl _ _)⟩
    case round =>
      rename World => W
      obtain ⟨k, rfl, hk, hg1, P, Bl⟩ := hrel
      by_cases hlt : k < n
      · have hkz : (k : Int) < n := by omega
        have hk0 : (0 : Int) ≤ k := by omega
        have HB := Lib.hid (HU.out.below Bl.out)
        have HB' := Lib.hid (HV.out.below Bl.out)
        obtain ⟨b, off, rfl, hb, hfive⟩ := HU.out.at_ hlt
        obtain ⟨b', off', rfl, hb', hfive'⟩ := HV.out.at_ hlt
        have FA : Hid (∀ W', Below w.heap.size w W' → FiveAt W' b (off + k * 5) (U k)) := Lib.hid (fun W' hW => hfive.keep fun o => hW.cell (p := ⟨b, o, none⟩) hb)
        have FB : Hid (∀ W', Below w.heap.size w W' → FiveAt W' b' (off' + k * 5) (V k)) := Lib.hid (fun W' hW => hfive'.keep fun o => hW.cell (p := ⟨b', o, none⟩) hb')
        have UK := Lib.hid (HB.out.1 k hlt)
        have VK := Lib.hid (HB'.out.1 k hlt)
        have PE : Hid ((U k).mean = (V k).mean → ∀ j, j < k + 1 → (U j).mean = (V j).mean) := Lib.hid (fun he j hj => by
          rcases Nat.lt_or_ge j k with h | h
          · exact P.out j h
          · obtain rfl : j = k := by omega
            exact he)
        have PN : Hid ((U k).mean ≠ (V k).mean → r = false) := Lib.hid (fun he => by rw [← HD.out]; simp only [decide_eq_false_iff_not]; exact means_ne hlt hlt he)
        clear hfive hfive' hb hb' HB HB' P
        generalize U k = u at FA UK PE PN
        generalize V k = v at FB VK PE PN
        obtain ⟨h1, h2, h3, h4, h5⟩ := FA.out _ Bl.out
        have BA : Hid (Below W.heap.size W ((W.alloc (.cells #[.int .u64 (u.n : Nat), .int .i64 u.i, .bool u.f, .slice u.bA u.bn u.bc, .slice u.lA u.ln u.lc] 42)).alloc (.cells #[.int .u64 (v.n : Nat), .int .i64 v.i, .bool v.f, .slice v.bA v.bn v.bc, .slice v.lA v.ln v.lc] 42))) := Lib.hid (((Below.refl _ W).alloc (Nat.le_refl _) _).alloc (by simp) _)
        obtain ⟨k1, k2, k3, k4, k5⟩ := FB.out _ (Bl.out.alloc Bl.out.size (.cells #[.int .u64 (u.n : Nat), .int .i64 u.i, .bool u.f, .slice u.bA u.bn u.bc, .slice u.lA u.ln u.lc] 42))
        have SO := Lib.hid (same_one u v _ (UK.out.below BA.out) (VK.out.below BA.out))
        unfold RV.val at SO
        clear UK VK FA FB
        by_cases he : u.mean = v.mean
        · have hdt : decide (u.mean = v.mean) = true := by simp [he]
          rw [hdt] at SO
          have P2 := Lib.hid (PE.out he)
          clear he hdt
          go_wp2_with (go_at_call 25; refine SO.out.mono ?_; rintro e w5 ⟨rfl, hb⟩)
          have B5 : Hid (Below w.heap.size w w5) := Lib.hid (Bl.out.trans ((BA.out.trans (hb.mono (by simp; omega))).mono Bl.out.size))
          clear hb h1 h2 h3 h4 h5 k1 k2 k3 k4 k5
          go_wp2
          go_roundg (n - (k + 1))
          case measure => omega
          case rel => exact ⟨k + 1, by go_num, by omega, Nat.le_refl _, P2, B5⟩
        · have hdt : decide (u.mean = v.mean) = false := by simp [he]
          rw [hdt] at SO
          obtain rfl := PN.out he
          clear he hdt
          go_wp2_with (go_at_call 25; refine SO.out.mono ?_; rintro e w5 ⟨rfl, hb⟩)
          have B5 : Hid (Below w.heap.size w w5) := Lib.hid (Bl.out.trans ((BA.out.trans (hb.mono (by simp; omega))).mono Bl.out.size))
          clear hb h1 h2 h3 h4 h5 k1 k2 k3 k4 k5
          go_wp2
          go_ret
          exact ⟨rfl, B5.out⟩
      · obtain rfl : k = n := by omega
        obtain rfl : r = true := by rw [← HD.out]; simp only [decide_eq_true_eq]; exact means_cons_eq P.out
        go_wp2
        go_ret
        exact ⟨rfl, Bl.out⟩
  · have nm : ((n : Int) != (m : Int)) = true := by simp; omega
    obtain rfl : r = false := by
      rw [← HD.out]
      simp only [decide_eq_false_iff_not]
      intro h
      have := congrArg List.length h
      rw [means_len, means_len] at this
      exact hnm this
    go_enter Try.func33, Try.ntmps33
    go_wp2
    go_ret
    exact ⟨rfl, Below.refl _ _⟩

theorem sameW_any : SameOK := by
  intro A B n m c d U V w hU hV
  have E := Lib.hid (equalFunc_any A B n m c d U V w hU hV)
  clear hU hV
  generalize decide (means U n = means V m) = r at E ⊢
  go_enter Try.func16, Try.ntmps16
  go_wp2_with (go_at_call 33; refine E.out.mono ?_; rintro e w5 ⟨rfl, hb⟩)
  go_ret
  exact ⟨rfl, hb⟩
end Go.Proofs.Ytkjndgnjilfobaa
