/-
  slices.SortStableFunc over the row 0, 1, .., n - 1, by the closure of fixed.mostFirst: all in order.
-/
import Derived.Test.YtpjhhndjbpegcaaMerge
import Derived.Test.YtpjhhndjbpegcaaStableMath
namespace Go.Proofs.Ytpjhhndjbpegcaa
open Go.RowKit

theorem merge_any {a m b n c g bx bl : Nat} {L : Nat → Int} {p : Nat → Nat} {w0 : World} (w : World) (hn : n ≤ 1048576) (h1 : a < m) (h2 : m < b) (h3 : b ≤ n) (ht : Two L p a m b) (h : Row w0 w g bx bl n L p) :
    Calls Try.prog 48 #[.slice (some ⟨g, 0, none⟩) n c, .int .i64 a, .int .i64 m, .int .i64 b, .func (.func 41) #[] #[.pointer (some ⟨bx, 0, none⟩)]] w fun e w' =>
      e = .returned (.tuple #[]) ∧ ∃ q, Merged L p q a b ∧ Row w0 w' g bx bl n L q :=
  sym_any n c g bx bl L w0 hn (b - a) a m b p w (Nat.le_refl _) h1 h2 h3 ht h

set_option maxHeartbeats 4000000 in
theorem stable_any (n c g bx bl : Nat) (L : Nat → Int) (w0 w : World) (hn : n ≤ 1048576) (h : Row w0 w g bx bl n L (fun k => k)) :
    Calls Try.prog 44 #[.slice (some ⟨g, 0, none⟩) n c, .int .i64 n, .func (.func 41) #[] #[.pointer (some ⟨bx, 0, none⟩)]] w fun e w' =>
      e = .returned (.tuple #[]) ∧ ∃ q, Ordered L q n ∧ Row w0 w' g bx bl n L q := by
  have H := Lib.hid h
  clear h
  go_enter Try.func44, Try.ntmps44
  go_wp2
  go_loopg [7, 8] n (fun g1 va vb wr => ∃ (a : Nat) (q : Nat → Nat), va = .int .i64 a ∧ vb = .int .i64 ((a + 20 : Nat) : Int) ∧ a ≤ n ∧ n - a ≤ g1 ∧ Hid (Ph1 L q n a) ∧ Hid (Row w0 wr g bx bl n L q))
  case atStart => exact ⟨0, _, rfl, rfl, by omega, by omega, Lib.hid (Ph1.start L n), H⟩
  case round =>
    obtain ⟨a, q, rfl, hvb, han, hg1, HP, HR⟩ := hrel
    obtain ⟨b, hb⟩ : ∃ b, b = a + 20 := ⟨_, rfl⟩
    rw [← hb] at hvb
    subst hvb
    have hb1 : a + 20 ≤ b := by omega
    have hb2 : b ≤ a + 20 := by omega
    have HB := Lib.hid hb
    clear hb
    by_cases hlt : b ≤ n
    · have hltz : (b : Int) ≤ n := by omega
      go_wp2_with fail
      refine (insert_any a b n c g bx bl L q w0 _ (by omega) hlt hn HP.out.rises HR.out).mono ?_
      rintro e w1 ⟨rfl, r, hi, hr⟩
      rw [HB.out] at hi
      have HP2 := Lib.hid (HP.out.step (by omega) hi)
      have HR2 := Lib.hid hr
      clear hi hr
      go_wp2
      go_roundg (n - (a + 20))
      case measure => omega
      case rel => exact ⟨a + 20, r, by first | go_num | (congr 1; omega), by congr 1; omega, by omega, Nat.le_refl _, HP2, HR2⟩
    · have hltz : ¬ (b : Int) ≤ n := by omega
      by_cases han2 : a < n
      all_goals
        first
          | (have F : a < n := han2
             go_wp2_with fail
             refine (insert_any a n n c g bx bl L q w0 _ F (Nat.le_refl _) hn HP.out.rises HR.out).mono ?_
             rintro e w1 ⟨rfl, r, hi, hr⟩
             have HK : Hid (Blocks L r n 20) := Lib.hid (HP.out.done (by omega) (.inl ⟨F, hi⟩))
             have HR2 := Lib.hid hr
             clear hi hr F HP HR
             go_wp2)
          | (obtain rfl : n = a := by omega
             have HK : Hid (Blocks L q n 20) := Lib.hid (HP.out.done (by omega) (.inr ⟨Nat.le_refl _, rfl⟩))
             have HR2 := Lib.hid HR.out
             go_wp2_with fail
             refine (insert_none n n c hn _ _ _).mono ?_
             rintro e w1 ⟨rfl, rfl⟩
             clear HP HR
             go_wp2)
      all_goals
        clear hltz hb1 hb2 HB han2 han hg1
        go_loopg [6, 7, 8] (2 * n + 40) (fun g1 vs va vb wr => ∃ (bs : Nat) (q : Nat → Nat), vs = .int .i64 bs ∧ 20 ≤ bs ∧ bs ≤ 2 * n + 20 ∧ 2 * n + 40 - bs ≤ g1 ∧ Hid (Blocks L q n bs) ∧ Hid (Row w0 wr g bx bl n L q))
        case atStart => exact ⟨20, _, rfl, by omega, by omega, by omega, HK, HR2⟩
        case round =>
          clear HK HR2
          obtain ⟨bs, q, rfl, hbs, hbs2, hg2, HK, HR⟩ := hrel
          by_cases hlt2 : bs < n
          · have hlt2z : (bs : Int) < n := by omega
            go_wp2
            go_loopg [7, 8] n (fun g3 va vb wr2 => ∃ (a : Nat) (r : Nat → Nat), va = .int .i64 a ∧ vb = .int .i64 ((a + 2 * bs : Nat) : Int) ∧ a ≤ n ∧ n - a ≤ g3 ∧ Hid (Ph2 L r n bs a) ∧ Hid (Row w0 wr2 g bx bl n L r))
            case atStart => exact ⟨0, q, rfl, by congr 1; omega, by omega, by omega, Lib.hid (Ph2.start HK.out), HR⟩
            case round =>
              clear HK HR
              obtain ⟨a, r, rfl, hvb, han, hg3, HP, HR⟩ := hrel
              obtain ⟨b, hb⟩ : ∃ b, b = a + 2 * bs := ⟨_, rfl⟩
              rw [← hb] at hvb
              subst hvb
              have hb1 : a + 2 * bs ≤ b := by omega
              have hb2 : b ≤ a + 2 * bs := by omega
              have HB := Lib.hid hb
              clear hb
              obtain ⟨m, hm⟩ : ∃ m, m = a + bs := ⟨_, rfl⟩
              have em : (a : Int) + bs = m := by omega
              have hm1 : m ≤ a + bs := by omega
              have hm2 : a + bs ≤ m := by omega
              have HM := Lib.hid hm
              clear hm
              by_cases hltb : b ≤ n
              · have hltz : (b : Int) ≤ n := by omega
                have HT : Hid (Two L r a m b) := Lib.hid (by rw [HM.out, HB.out]; exact HP.out.two (by omega) (by omega))
                go_wp2_with fail
                refine (merge_any (a := a) (m := m) (b := b) (p := r) (w0 := w0) _ hn (by omega) (by omega) hltb HT.out HR.out).mono ?_
                rintro e w2 ⟨rfl, t, hi, hr⟩
                rw [HB.out] at hi
                have HP2 := Lib.hid (HP.out.step (by omega) (by omega) hi)
                have HR2 := Lib.hid hr
                clear hi hr HT
                go_wp2
                go_roundg (n - (a + 2 * bs))
                case measure => omega
                case rel => exact ⟨a + 2 * bs, t, by congr 1; omega, by congr 1; omega, by omega, Nat.le_refl _, HP2, HR2⟩
              · have hltz : ¬ (b : Int) ≤ n := by omega
                by_cases hmn : m < n
                · have hmnz : (m : Int) < n := by omega
                  have HT : Hid (Two L r a m n) := Lib.hid (by rw [HM.out]; exact HP.out.two_last (by omega) (by omega))
                  go_wp2_with fail
                  refine (merge_any (a := a) (m := m) (b := n) (p := r) (w0 := w0) _ hn (by omega) hmn (Nat.le_refl _) HT.out HR.out).mono ?_
                  rintro e w2 ⟨rfl, t, hi, hr⟩
                  have HK2 := Lib.hid (HP.out.done (by omega) (by omega) (.inl ⟨by omega, hi⟩))
                  have HR2 := Lib.hid hr
                  clear hi hr HT
                  go_wp2
                  go_roundg (2 * n + 40 - 2 * bs)
                  case measure => omega
                  case rel => exact ⟨2 * bs, t, by congr 1; omega, by omega, by omega, Nat.le_refl _, HK2, HR2⟩
                · have hmnz : ¬ (m : Int) < n := by omega
                  have HK2 : Hid (Blocks L r n (2 * bs)) := Lib.hid (HP.out.done (by omega) (by omega) (.inr ⟨by omega, rfl⟩))
                  go_wp2
                  go_roundg (2 * n + 40 - 2 * bs)
                  case measure => omega
                  case rel => exact ⟨2 * bs, r, by congr 1; omega, by omega, by omega, Nat.le_refl _, HK2, HR⟩
          · have hlt2z : ¬ (bs : Int) < n := by omega
            have O : Hid (Ordered L q n) := Lib.hid (HK.out.ordered (by omega))
            go_wp2
            go_end0
            exact ⟨rfl, q, O.out, HR.out⟩
theorem sort_any (n c g bx bl : Nat) (L : Nat → Int) (w0 w : World) (hn : n ≤ 1048576) (h : Row w0 w g bx bl n L (fun k => k)) :
    Calls Try.prog 40 #[.slice (some ⟨g, 0, none⟩) n c, .func (.func 41) #[] #[.pointer (some ⟨bx, 0, none⟩)]] w fun e w' =>
      e = .returned (.tuple #[]) ∧ ∃ q, Ordered L q n ∧ Row w0 w' g bx bl n L q := by
  have H := Lib.hid h
  clear h
  go_enter Try.func40, Try.ntmps40
  go_wp2_with fail
  refine (stable_any n c g bx bl L w0 _ hn H.out).mono ?_
  rintro e w' ⟨rfl, q, hq, hr⟩
  have Q := Lib.hid hq
  have R := Lib.hid hr
  clear hq hr
  go_wp2_with fail
  go_end0
  exact ⟨rfl, q, Q.out, R.out⟩
end Go.Proofs.Ytpjhhndjbpegcaa
