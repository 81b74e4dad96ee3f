/-
  slices.symMergeCmpFunc: two sorted rows of places, one behind the other, become one.
-/
import Derived.Test.YtpjhhndjbpegcaaMergeOne
namespace Go.Proofs.Ytpjhhndjbpegcaa
open Go.RowKit

/-- what is asked of the call of itself -/
def MergeIH (k : Nat) (n c g bx bl : Nat) (L : Nat → Int) (w0 : World) : Prop :=
  ∀ (a m b : Nat) (p : Nat → Nat) (w : World), b - a ≤ k → a < m → m < b → b ≤ n → Two L p a m b → Row w0 w g bx bl n L p →
    Calls Try.prog 48 #[.slice (some ⟨g, 0, none⟩) n c, .int .i64 a, .int .i64 m, .int .i64 b, .func (.func 41) #[] #[.pointer (some ⟨bx, 0, none⟩)]] w fun e w' =>
      e = .returned (.tuple #[]) ∧ ∃ q, Merged L p q a b ∧ Row w0 w' g bx bl n L q

/-- where the search begins, and ends -/
def Start (a m b mid s0 r0 : Nat) : Prop := (mid < m ∧ s0 = mid + m - b ∧ r0 = mid) ∨ (m ≤ mid ∧ s0 = a ∧ r0 = m)
theorem cut_of {L : Nat → Int} {p : Nat → Nat} {a m b mid s0 r0 s : Nat} (ham : a < m) (hmb : m < b) (hmid : mid = (a + b) / 2) (hS : Start a m b mid s0 r0) (h1 : s0 ≤ s) (h2 : s ≤ r0)
    (hl : s0 < s → ¬ L (p (s - 1)) < L (p (mid + m - s))) (hr : s < r0 → L (p s) < L (p (mid + m - 1 - s))) : Cut L p a m b s (mid + m - s) mid := by
  unfold Start at hS
  refine ⟨by omega, by omega, by omega, by omega, by omega, fun c1 c2 => hl (by omega), fun c1 c2 => ?_⟩
  have := hr (by omega)
  rwa [show mid + m - s - 1 = mid + m - 1 - s by omega]

theorem Two.whole {L : Nat → Int} {p : Nat → Nat} {a m b : Nat} (h : Two L p a m b) (h1 : a ≤ m) (h2 : m ≤ b) (h3 : m ≤ a ∨ b ≤ m) : Merged L p p a b := by
  rcases h3 with h3 | h3
  · obtain rfl : m = a := by omega
    exact Merged.none_l h
  · obtain rfl : m = b := by omega
    exact Merged.none_r h
set_option maxRecDepth 100000 in
set_option maxHeartbeats 8000000 in
theorem symGen (k a m b n c : Nat) (g bx bl : Nat) (L : Nat → Int) (p : Nat → Nat) (w0 w : World) (hk : b - a ≤ k + 1) (hm1 : a + 1 < m) (hm2 : m + 1 < b) (hb : b ≤ n) (hn : n ≤ 1048576) (ht : Two L p a m b)
    (h : Row w0 w g bx bl n L p) (ih : MergeIH k n c g bx bl L w0) :
    Calls Try.prog 48 #[.slice (some ⟨g, 0, none⟩) n c, .int .i64 a, .int .i64 m, .int .i64 b, .func (.func 41) #[] #[.pointer (some ⟨bx, 0, none⟩)]] w fun e w' =>
      e = .returned (.tuple #[]) ∧ ∃ q, Merged L p q a b ∧ Row w0 w' g bx bl n L q := by
  have H := Lib.hid h
  have HT := Lib.hid ht
  have IH := Lib.hid ih
  clear h ht ih
  have one : (((m : Int) - a) == 1) = false := by simp; omega
  have two : (((b : Int) - m) == 1) = false := by simp; omega
  obtain ⟨mid, hmid⟩ : ∃ mid, mid = (a + b) / 2 := ⟨_, rfl⟩
  have mid1 : a < mid := by omega
  have mid2 : mid < b := by omega
  have HM := Lib.hid hmid
  have emid : ((a : Int) + b) / 2 = (mid : Int) := by omega
  have EM := Lib.hid emid
  clear hmid emid
  obtain ⟨s0, r0, hS, hs0, hr0⟩ : ∃ s0 r0, Start a m b mid s0 r0 ∧ a ≤ s0 ∧ s0 ≤ r0 := by
    by_cases hc : mid < m
    · exact ⟨mid + m - b, mid, .inl ⟨hc, rfl, rfl⟩, by have := HM.out; omega, by omega⟩
    · exact ⟨a, m, .inr ⟨by omega, rfl, rfl⟩, by omega, by omega⟩
  have hr0' : r0 ≤ m := by unfold Start at hS; omega
  have hr1' : r0 ≤ mid := by unfold Start at hS; omega
  have HS := Lib.hid hS
  clear hS
  obtain ⟨nn, hnn⟩ : ∃ nn, nn = mid + m := ⟨_, rfl⟩
  obtain ⟨pp, hpp⟩ : ∃ pp, pp + 1 = nn := ⟨mid + m - 1, by omega⟩
  have e1 : (mid : Int) + m = nn := by omega
  have e2 : (nn : Int) - 1 = pp := by omega
  have E1 := Lib.hid e1
  have E2 := Lib.hid e2
  have NN := Lib.hid hnn
  have PP := Lib.hid hpp
  have b1 : nn ≤ mid + m := by omega
  have b2 : mid + m ≤ nn := by omega
  have b3 : pp < nn := by omega
  have b4 : nn ≤ pp + 1 := by omega
  clear e1 e2 hnn hpp
  have b5 : nn ≤ s0 + b := by have h9 := HS.out; have h8 := EM.out; unfold Start at h9; omega
  have CUT : Hid (∀ s, s0 ≤ s → s ≤ r0 → (s0 < s → ¬ L (p (s - 1)) < L (p (nn - s))) → (s < r0 → L (p s) < L (p (pp - s))) → Cut L p a m b s (nn - s) mid) := Lib.hid (fun s h1 h2 h3 h4 => by
    have e5 := NN.out
    have e6 := PP.out
    rw [e5] at h3 ⊢
    exact cut_of (by omega) (by omega) HM.out HS.out h1 h2 h3 (by rw [show mid + m - 1 = pp by omega]; exact h4))
  by_cases hc : mid < m
  all_goals
    first
      | (have hc' : ((a : Int) + b) / 2 < m := by (have h9 := EM.out; have h7 : mid < m := hc; omega)
         have e3 : (nn : Int) - b = s0 := by (have h9 := HS.out; have h8 := EM.out; unfold Start at h9; omega)
         have e4 : r0 = mid := by (have h9 := HS.out; unfold Start at h9; omega)
         have E3 := Lib.hid e3
         have E4 := Lib.hid e4
         clear e3 e4
         go_enter Try.func48, Try.ntmps48
         go_wp2
         rw [EM.out, E1.out, E2.out, E3.out])
      | (have hc' : ¬ ((a : Int) + b) / 2 < m := by (have h9 := EM.out; have h7 : ¬ mid < m := hc; omega)
         have e3 : a = s0 := by (have h9 := HS.out; unfold Start at h9; omega)
         have e4 : m = r0 := by (have h9 := HS.out; unfold Start at h9; omega)
         have E3 := Lib.hid e3
         have E4 := Lib.hid e4
         clear e3 e4
         go_enter Try.func48, Try.ntmps48
         go_wp2
         rw [EM.out, E1.out, E2.out])
    go_loopg [20, 21] (b - a) (fun g1 vi vj wr => ∃ (s r : Nat), vi = .int .i64 s ∧ vj = .int .i64 r ∧ s0 ≤ s ∧ s ≤ r ∧ r ≤ r0 ∧ r - s ≤ g1 ∧ Hid (s0 < s → ¬ L (p (s - 1)) < L (p (nn - s))) ∧ Hid (r < r0 → L (p r) < L (p (pp - r))) ∧ Hid (Row w0 wr g bx bl n L p))
    case atStart => exact ⟨s0, r0, by first | rfl | rw [E3.out], by rw [E4.out], by omega, by omega, by omega, by omega, Lib.hid (fun hh => absurd hh (by omega)), Lib.hid (fun hh => absurd hh (by omega)), H⟩
    case round =>
      obtain ⟨s, r, rfl, rfl, hi, hij, hj, hg1, H1, H2, HR⟩ := hrel
      by_cases hlt : s < r
      · have hltz : (s : Int) < (r : Int) := by omega
        obtain ⟨cc, hcc⟩ : ∃ cc, cc = (s + r) / 2 := ⟨_, rfl⟩
        obtain ⟨d, hd⟩ : ∃ d, d = pp - cc := ⟨_, rfl⟩
        have hm3 : s ≤ cc := by omega
        have hm4 : cc < r := by omega
        have z7 : IntKind.i64.wrap ((pp : Int) - cc) = (d : Int) := by rw [IntWalk.i64_in _ (by omega)]; omega
        have z1 : (d : Int) < n := by omega
        have z2 : (0 : Int) ≤ d := by omega
        have z3 : (cc : Int) < n := by omega
        have z4 : (0 : Int) ≤ cc := by omega
        have z5 : (s : Int) ≤ cc := by omega
        have z6 : (cc : Int) < r := by omega
        have EC : ((s : Int) + r) / 2 = (cc : Int) := by omega
        have HEC := Lib.hid EC
        have HD := Lib.hid hd
        clear hcc hd EC
        have c1 := HR.out.cell (i := d) (by omega)
        have c2 := HR.out.cell (i := cc) (by omega)
        obtain ⟨v, hv⟩ : ∃ v, cmpV (L (p cc)) (L (p d)) = v := ⟨_, rfl⟩
        have HC : Hid (∀ k, Calls Try.prog 41 #[.int .i64 (p d), .int .i64 (p cc), .pointer (some ⟨bx, 0, none⟩)] (World.drewN _ k) fun e w' => e = .returned (.int .i64 v) ∧ ∃ q, w' = (World.drewN _ k).drewN q) :=
          Lib.hid (fun k => (HR.out.drewN k).cmp (HR.out.2.2.2.2.2.2.2.2 _ (by omega)) (HR.out.2.2.2.2.2.2.2.2 _ (by omega)) v hv)
        have V := Lib.hid hv
        clear hv
        generalize ((p d : Nat) : Int) = x at c1 HC
        generalize ((p cc : Nat) : Int) = y at c2 HC
        go_wp2_with fail
        rw [HEC.out]
        by_cases hlv : v < 0
        · go_quiet ((first | (go_at_call 41; exact Calls.quiet_of (HC.out _))))
          go_wp2
          go_roundg (cc - s)
          case measure => omega
          case rel =>
            have hl : L (p cc) < L (p d) := cmpV_lt.1 (by rw [V.out]; exact hlv)
            rw [HD.out] at hl
            exact ⟨s, cc, rfl, rfl, by omega, by omega, by omega, Nat.le_refl _, H1, Lib.hid (fun _ => hl), Lib.hid (HR.out.drewN _)⟩
        · go_quiet ((first | (go_at_call 41; exact Calls.quiet_of (HC.out _))))
          go_wp2
          go_roundg (r - (cc + 1))
          case measure => omega
          case rel =>
            have hl : ¬ L (p cc) < L (p d) := fun hh => by have h9 := cmpV_lt.2 hh; rw [V.out] at h9; omega
            rw [HD.out] at hl
            exact ⟨cc + 1, r, by go_num, rfl, by omega, by omega, by omega, Nat.le_refl _, Lib.hid (fun _ => by rw [Nat.add_sub_cancel, show nn - (cc + 1) = pp - cc by omega]; omega), H2, Lib.hid (HR.out.drewN _)⟩
      · obtain rfl : s = r := by omega
        have C : Hid (Cut L p a m b s (nn - s) mid) := Lib.hid (CUT.out s hi hj (fun hh => by have h9 := H1.out hh; omega) H2.out)
        obtain ⟨e, he⟩ : ∃ e, e = nn - s := ⟨_, rfl⟩
        have ee : (nn : Int) - s = (e : Int) := by omega
        rw [← he] at C
        have q1 := C.out.sm
        have q2 := C.out.me
        have q3 := C.out.eb
        have q4 := C.out.as
        have q5 : mid + m ≤ s + e := by rw [C.out.mid]; exact Nat.le_refl _
        have q6 : s + e ≤ mid + m := by rw [C.out.mid]; exact Nat.le_refl _
        clear he H1 H2 CUT E1 E2 E3 E4 HS HM NN PP EM one two hc' hs0 hr0 hr0' hr1' b3 b4 b5 hi hij hj hg1 hlt
        by_cases hA : s < m <;> by_cases hB : m < e <;> by_cases hC : a < s <;> by_cases hD : e < b
        all_goals
          first
            | have hE : mid < e := by omega
            | have hE : ¬ mid < e := by omega
        all_goals
          first
            | have hF : s < mid := by omega
            | have hF : ¬ s < mid := by omega
        all_goals
          first
            | (have F : s < m ∧ m < e := ⟨hA, hB⟩
               go_wp2_with fail
               refine (rotate_any s m e n c g bx bl L p _ w0 _ F.1 F.2 (by omega) hn HR.out).mono ?_
               rintro e' w1 ⟨rfl, hr⟩
               have R1 := Lib.hid hr
               clear hr F)
            | (have R1 : Hid (Row w0 wr g bx bl n L (rot p s m e)) := Lib.hid (by
                 first
                   | (rw [show e = m by omega, rot_nil_r p s m q1]; exact HR.out)
                   | (rw [show s = m by omega, rot_nil_l p m e q2]; exact HR.out)))
        all_goals
          first
            | (have F : a < s ∧ s < mid := ⟨hC, hF⟩
               go_wp2_with fail
               refine (IH.out a s mid (rot p s m e) _ (by omega) F.1 F.2 (by omega) (C.out.two_l HT.out) R1.out).mono ?_
               rintro e' w2 ⟨rfl, q, hq, hr⟩
               have M2 := Lib.hid hq
               have R2 := Lib.hid hr
               clear hq hr F)
            | (obtain ⟨q, hq, hr⟩ : ∃ q, Merged L (rot p s m e) q a mid ∧ Row w0 _ g bx bl n L q := ⟨_, (C.out.two_l HT.out).whole (by omega) (by omega) (by omega), R1.out⟩
               have M2 := Lib.hid hq
               have R2 := Lib.hid hr
               clear hq hr)
        all_goals
          first
            | (have F : mid < e ∧ e < b := ⟨hE, hD⟩
               go_wp2_with fail
               refine (IH.out mid e b q _ (by omega) F.1 F.2 hb ((C.out.two_r HT.out).stay (by omega) M2.out.1 (Nat.le_refl _)) R2.out).mono ?_
               rintro e' w3 ⟨rfl, r, hq, hr⟩
               have M3 := Lib.hid hq
               have R3 := Lib.hid hr
               clear hq hr F)
            | (obtain ⟨r, hq, hr⟩ : ∃ r, Merged L q r mid b ∧ Row w0 _ g bx bl n L r := ⟨_, ((C.out.two_r HT.out).stay (by omega) M2.out.1 (Nat.le_refl _)).whole (by omega) (by omega) (by omega), R2.out⟩
               have M3 := Lib.hid hq
               have R3 := Lib.hid hr
               clear hq hr)
        all_goals
          go_wp2_with fail
          go_end0
          exact ⟨rfl, _, C.out.merged HT.out M2.out M3.out, R3.out⟩
theorem sym_any (n c g bx bl : Nat) (L : Nat → Int) (w0 : World) (hn : n ≤ 1048576) (k : Nat) : MergeIH k n c g bx bl L w0 := by
  induction k with
  | zero => intro a m b p w h1 h2 h3; omega
  | succ k ih =>
    intro a m b p w h1 h2 h3 h4 ht h
    by_cases hm : m ≤ a + 1
    · exact symLeft a m b n c g bx bl L p w0 w (by omega) hm h3 h4 hn ht h
    · by_cases hb : b ≤ m + 1
      · exact symRight a m b n c g bx bl L p w0 w (by omega) (by omega) hb h4 hn ht h
      · exact symGen k a m b n c g bx bl L p w0 w h1 (by omega) (by omega) h4 hn ht h ih
end Go.Proofs.Ytpjhhndjbpegcaa
