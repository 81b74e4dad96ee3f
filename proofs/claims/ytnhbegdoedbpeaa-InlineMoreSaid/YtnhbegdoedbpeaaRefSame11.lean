/-
  The document's Same of two rows of places; what is asked of the landed Place.
-/
import Derived.Test.YtnhbegdoedbpeaaRefPlace
namespace Go.Proofs.Ytnhbegdoedbpeaa
open Go.RowKit

/-- what is asked of inline.Place -/
def PlaceOK (f : Nat) : Prop := ∀ (l : List Sp) (v : Value) (u d x : Int) (g : Nat) (w : World), SpIn w v l → l.length ≤ 1000000 → g < 256 →
  Calls Try.prog f #[v, .int .i64 u, .int .i64 d, .int .i64 x, .int .u8 (g : Nat)] w (PlaceEnd l u d x g w)
def psVal (x : Ps) : Array Value := #[.int .i64 x.1, .int .i64 x.2]
set_option maxRecDepth 100000 in
set_option maxHeartbeats 4000000 in
theorem refSame11_any (v u : Value) (ps qs : List Ps) (w : World) (hv : PsIn w v ps) (hu : PsIn w u qs) (l1 : ps.length ≤ 8192) :
    Calls Try.prog 10 #[v, u] w fun e w' => e = .returned (.bool (decide (ps = qs))) ∧ ∃ q, w' = w.drewN q := by
  obtain ⟨A, c, rfl, -, hA⟩ := hv
  obtain ⟨B, d, rfl, -, hB⟩ := hu
  obtain ⟨n, hn⟩ : ∃ n, ps.length = n := ⟨_, rfl⟩
  obtain ⟨m, hm⟩ : ∃ m, qs.length = m := ⟨_, rfl⟩
  rw [hn, hm]
  rw [hn] at l1
  obtain ⟨r, hr⟩ : ∃ r, decide (ps = qs) = r := ⟨_, rfl⟩
  rw [hr]
  have HA := Lib.hid hA
  have HB := Lib.hid hB
  have HR := Lib.hid hr
  have HN := Lib.hid hn
  have HM := Lib.hid hm
  clear hA hB hr hn hm
  by_cases e : n = m
  · subst e
    have e1 : ((n : Int) != n) = false := by simp
    go_enter Try.func10, Try.ntmps10
    go_wp2_with fail
    go_loopg [5] n (fun g1 vi wr => ∃ (i q : Nat), vi = .int .i64 i ∧ i ≤ n ∧ n - i ≤ g1 ∧ wr = w.drewN q ∧ Hid (∀ j, j < i → ps[j]? = qs[j]?))
    case atStart => exact ⟨0, 0, rfl, by omega, by omega, rfl, Lib.hid (fun j hj => absurd hj (by omega))⟩
    case round =>
      obtain ⟨i, q, rfl, hi, hg1, rfl, hE⟩ := hrel
      by_cases hlt : i < n
      · have hz : (i : Int) < n := by omega
        have hz0 : (0 : Int) ≤ i := by omega
        have hlp : i < ps.length := by have := HN.out; omega
        have hlq : i < qs.length := by have := HM.out; omega
        obtain ⟨g, rfl, -, hat⟩ := HA.out (by intro e; rw [e] at hlp; simp at hlp)
        obtain ⟨g', rfl, -, hat'⟩ := HB.out (by intro e; rw [e] at hlq; simp at hlq)
        obtain ⟨p1, p2, hp⟩ : ∃ a b, ps[i] = (a, b) := ⟨_, _, rfl⟩
        obtain ⟨q1, q2, hq⟩ : ∃ a b, qs[i] = (a, b) := ⟨_, _, rfl⟩
        have gp : ps[i]? = some (p1, p2) := by rw [List.getElem?_eq_getElem hlp, hp]
        have gq : qs[i]? = some (q1, q2) := by rw [List.getElem?_eq_getElem hlq, hq]
        obtain ⟨c0, c1⟩ := hat i _ gp
        obtain ⟨d0, d1⟩ := hat' i _ gq
        have wi : IntKind.i64.wrap ((i : Int) + 1) = (i : Int) + 1 := IntWalk.i64_in _ (by omega)
        have GP := Lib.hid gp
        have GQ := Lib.hid gq
        clear hp hq hat hat' gp gq
        dsimp only at c0 c1 d0 d1
        by_cases h : (p1, p2) = (q1, q2)
        · have HE2 : Hid (∀ j, j < i + 1 → ps[j]? = qs[j]?) := Lib.hid (fun j hj => by
            by_cases e : j = i
            · rw [e, GP.out, GQ.out, h]
            · exact hE.out j (by omega))
          obtain ⟨rfl, rfl⟩ := Prod.mk.inj h
          clear h
          go_wp2_with fail
          go_quiet (fail)
          go_wp2_with fail
          go_roundg (n - (i + 1))
          case measure => omega
          case rel => exact ⟨i + 1, q + nq, by go_num, by omega, Nat.le_refl _, rfl, HE2⟩
        · have R : Hid (r = false) := Lib.hid (by
            rw [← HR.out]
            exact decide_eq_false fun e => by
              have h1 := GP.out
              rw [e, GQ.out] at h1
              exact h (Option.some.inj h1).symm)
          have hd : ¬ p1 = q1 ∨ ¬ p2 = q2 := by
            by_cases h1 : p1 = q1
            · exact .inr (fun h2 => h (by rw [h1, h2]))
            · exact .inl h1
          clear h
          by_cases h1 : p1 = q1
          · subst h1
            have h3 : ¬ p2 = q2 := hd.resolve_left (fun h => h rfl)
            clear hd
            go_wp2_with fail
            go_quiet (fail)
            go_wp2_with fail
            go_ret
            exact ⟨by rw [R.out]; rfl, _, World.drewN_drewN _ _ _⟩
          · clear hd
            go_wp2_with fail
            go_quiet (fail)
            go_wp2_with fail
            go_ret
            exact ⟨by rw [R.out]; rfl, _, World.drewN_drewN _ _ _⟩
      · obtain rfl : i = n := by omega
        have hz : ¬ (i : Int) < i := by omega
        have R : Hid (r = true) := Lib.hid (by
          rw [← HR.out]
          refine decide_eq_true (List.ext_getElem? fun j => ?_)
          by_cases hj : j < i
          · exact hE.out j hj
          · rw [List.getElem?_eq_none (by have := HN.out; omega), List.getElem?_eq_none (by have := HM.out; omega)])
        go_wp2_with fail
        go_ret
        exact ⟨by rw [R.out]; rfl, _, rfl⟩
  · have e1 : ((n : Int) != m) = true := by simp; omega
    have R : Hid (r = false) := Lib.hid (by rw [← HR.out]; exact decide_eq_false fun h => e (by rw [← HN.out, ← HM.out, h]))
    go_enter Try.func10, Try.ntmps10
    go_wp2_with fail
    go_ret
    exact ⟨by rw [R.out]; rfl, 0, rfl⟩
end Go.Proofs.Ytnhbegdoedbpeaa
