/-
  The document's Same of two rows of lines; what is asked of the landed calls.
-/
import Derived.Test.YtpfeiiabplaghaaRefFill
namespace Go.Proofs.Ytpfeiiabplaghaa
open Go.RowKit

/-- what is asked of lines.Fill, and of Widest -/
def FillOK (f : Nat) : Prop := ∀ (l : List It) (v : Value) (x : Int) (w : World), ItIn w v l → l.length ≤ 2100 → -9223372036854775808 ≤ x ∧ x ≤ 9223372036854775807 → (∀ i, i < l.length → kd l i < 256 ∧ -9223372036854775808 ≤ wd l i ∧ wd l i ≤ 9223372036854775807) →
  Calls Try.prog f #[v, .int .i64 x] w (FillEnd l x w)
def WidestOK (f : Nat) : Prop := ∀ (r : List Ln) (v : Value) (w : World), LnIn w v r → r.length ≤ 2100 →
  Calls Try.prog f #[v] w fun e w' => e = .returned (.int .i64 (widestT r)) ∧ Below w.heap.size w w'
def lnVal (x : Ln) : Array Value := #[.int .i64 (x.1 : Nat), .int .i64 (x.2.1 : Nat), .int .i64 x.2.2]
set_option maxRecDepth 100000 in
theorem ln_equal (p q : Ln) (W : World) : (Op.equalIn 10000 34 (.agg (lnVal p)) (.agg (lnVal q))).run Try.prog W = .ok (decide (p = q)) W := by
  obtain ⟨a, b, c⟩ := p
  obtain ⟨a', b', c'⟩ := q
  unfold lnVal
  have e : decide ((a, b, c) = (a', b', c')) = (((a : Int) == (a' : Int)) && (((b : Int) == (b' : Int)) && (c == c'))) := by
    by_cases h1 : a = a' <;> by_cases h2 : b = b' <;> by_cases h3 : c = c' <;> simp [h1, h2, h3] <;> omega
  rw [e]
  dsimp only
  generalize (a : Int) = x1
  generalize (a' : Int) = y1
  generalize (b : Int) = x2
  generalize (b' : Int) = y2
  go_simp
  by_cases h1 : x1 = y1 <;> by_cases h2 : x2 = y2 <;> by_cases h3 : c = c' <;> simp [h1, h2, h3]
set_option maxRecDepth 100000 in
set_option maxHeartbeats 4000000 in
theorem refSame10_any (v u : Value) (ps qs : List Ln) (w : World) (hv : LnIn w v ps) (hu : LnIn w u qs) (l1 : ps.length ≤ 8192) :
    Calls Try.prog 12 #[v, u] w fun e w' => e = .returned (.bool (decide (ps = qs))) ∧ ∃ q, w' = w.drewN q := by
  obtain ⟨A, c, rfl, -, hA⟩ := hv
  obtain ⟨B, d, rfl, -, hB⟩ := hu
  obtain ⟨n, hn⟩ : ∃ n, ps.length = n := ⟨_, rfl⟩
  obtain ⟨m, hm⟩ : ∃ m, qs.length = m := ⟨_, rfl⟩
  rw [hn, hm]
  rw [hn] at l1
  obtain ⟨r, hr⟩ : ∃ r, decide (ps = qs) = r := ⟨_, rfl⟩
  rw [hr]
  have HA := Lib.hid hA
  have HB := Lib.hid hB
  have HR := Lib.hid hr
  have HN := Lib.hid hn
  have HM := Lib.hid hm
  clear hA hB hr hn hm
  by_cases e : n = m
  · subst e
    have e1 : ((n : Int) != n) = false := by simp
    go_enter Try.func12, Try.ntmps12
    go_wp2_with fail
    go_loopg [5] n (fun g1 vi wr => ∃ (i q : Nat), vi = .int .i64 i ∧ i ≤ n ∧ n - i ≤ g1 ∧ wr = w.drewN q ∧ Hid (∀ j, j < i → ps[j]? = qs[j]?))
    case atStart => exact ⟨0, 0, rfl, by omega, by omega, rfl, Lib.hid (fun j hj => absurd hj (by omega))⟩
    case round =>
      obtain ⟨i, q, rfl, hi, hg1, rfl, hE⟩ := hrel
      by_cases hlt : i < n
      · have hz : (i : Int) < n := by omega
        have hz0 : (0 : Int) ≤ i := by omega
        have hlp : i < ps.length := by have := HN.out; omega
        have hlq : i < qs.length := by have := HM.out; omega
        obtain ⟨g, rfl, -, hat⟩ := HA.out (by intro e; rw [e] at hlp; simp at hlp)
        obtain ⟨g', rfl, -, hat'⟩ := HB.out (by intro e; rw [e] at hlq; simp at hlq)
        obtain ⟨p1, p2, p3, hp⟩ : ∃ a b c, ps[i] = (a, b, c) := ⟨_, _, _, rfl⟩
        obtain ⟨q1, q2, q3, hq⟩ : ∃ a b c, qs[i] = (a, b, c) := ⟨_, _, _, rfl⟩
        have gp : ps[i]? = some (p1, p2, p3) := by rw [List.getElem?_eq_getElem hlp, hp]
        have gq : qs[i]? = some (q1, q2, q3) := by rw [List.getElem?_eq_getElem hlq, hq]
        obtain ⟨c0, c1, c2⟩ := hat i _ gp
        obtain ⟨d0, d1, d2⟩ := hat' i _ gq
        have wi : IntKind.i64.wrap ((i : Int) + 1) = (i : Int) + 1 := IntWalk.i64_in _ (by omega)
        have GP := Lib.hid gp
        have GQ := Lib.hid gq
        clear hp hq hat hat' gp gq
        dsimp only at c0 c1 c2 d0 d1 d2
        by_cases h : (p1, p2, p3) = (q1, q2, q3)
        · have HE2 : Hid (∀ j, j < i + 1 → ps[j]? = qs[j]?) := Lib.hid (fun j hj => by
            by_cases e : j = i
            · rw [e, GP.out, GQ.out, h]
            · exact hE.out j (by omega))
          obtain ⟨rfl, h2⟩ := Prod.mk.inj h
          obtain ⟨rfl, rfl⟩ := Prod.mk.inj h2
          clear h h2
          go_wp2_with fail
          go_quiet (fail)
          go_wp2_with fail
          go_roundg (n - (i + 1))
          case measure => omega
          case rel => exact ⟨i + 1, q + nq, by go_num, by omega, Nat.le_refl _, rfl, HE2⟩
        · have R : Hid (r = false) := Lib.hid (by
            rw [← HR.out]
            exact decide_eq_false fun e => by
              have h1 := GP.out
              rw [e, GQ.out] at h1
              exact h (Option.some.inj h1).symm)
          have hd : ¬ (p1 : Int) = q1 ∨ ¬ (p2 : Int) = q2 ∨ ¬ p3 = q3 := by
            by_cases h1 : p1 = q1
            · by_cases h2 : p2 = q2
              · exact .inr (.inr (fun h3 => h (by rw [h1, h2, h3])))
              · exact .inr (.inl (by omega))
            · exact .inl (by omega)
          generalize (p1 : Int) = a1 at c0 hd
          generalize (q1 : Int) = b1 at d0 hd
          generalize (p2 : Int) = a2 at c1 hd
          generalize (q2 : Int) = b2 at d1 hd
          clear h
          by_cases h1 : a1 = b1
          · subst h1
            by_cases h2 : a2 = b2
            · subst h2
              have h3 : ¬ p3 = q3 := (hd.resolve_left (fun h => h rfl)).resolve_left (fun h => h rfl)
              clear hd
              go_wp2_with fail
              go_quiet (fail)
              go_wp2_with fail
              go_ret
              exact ⟨by rw [R.out]; rfl, _, World.drewN_drewN _ _ _⟩
            · clear hd
              go_wp2_with fail
              go_quiet (fail)
              go_wp2_with fail
              go_ret
              exact ⟨by rw [R.out]; rfl, _, World.drewN_drewN _ _ _⟩
          · clear hd
            go_wp2_with fail
            go_quiet (fail)
            go_wp2_with fail
            go_ret
            exact ⟨by rw [R.out]; rfl, _, World.drewN_drewN _ _ _⟩
      · obtain rfl : i = n := by omega
        have hz : ¬ (i : Int) < i := by omega
        have R : Hid (r = true) := Lib.hid (by
          rw [← HR.out]
          refine decide_eq_true (List.ext_getElem? fun j => ?_)
          by_cases hj : j < i
          · exact hE.out j hj
          · rw [List.getElem?_eq_none (by have := HN.out; omega), List.getElem?_eq_none (by have := HM.out; omega)])
        go_wp2_with fail
        go_ret
        exact ⟨by rw [R.out]; rfl, _, rfl⟩
  · have e1 : ((n : Int) != m) = true := by simp; omega
    have R : Hid (r = false) := Lib.hid (by rw [← HR.out]; exact decide_eq_false fun h => e (by rw [← HN.out, ← HM.out, h]))
    go_enter Try.func12, Try.ntmps12
    go_wp2_with fail
    go_ret
    exact ⟨by rw [R.out]; rfl, 0, rfl⟩
end Go.Proofs.Ytpfeiiabplaghaa
