/-
  The document's Same of two rows of pieces; what is asked of the landed calls.
-/
import Derived.Test.YtgfiiohglgbdiaaShown9
namespace Go.Proofs.Ytgfiiohglgbdiaa
open Go.RowKit

/-- what is asked of breaks.Cut, and of Shown -/
def CutOK (f : Nat) : Prop := ∀ (s : ByteArray) (ws : Int) (w : World), s.size ≤ 8192 → 0 ≤ ws ∧ ws < 256 →
  Calls Try.prog f #[.string s, .int .u8 ws] w fun e w' => ∃ v, e = .returned v ∧ ownsP w' w.heap.size v (cutP ws s.data.toList) ∧ Below w.heap.size w w'
def ShownOK (f : Nat) : Prop := ∀ (s : ByteArray) (ws : Int) (w : World), s.size ≤ 8192 → 0 ≤ ws ∧ ws < 256 →
  Calls Try.prog f #[.string s, .int .u8 ws] w fun e w' => e = .returned (.string ⟨(shownP ws s.data.toList).toArray⟩) ∧ Below w.heap.size w w'
def pcVal (p : Pc) : Array Value := #[.int .u8 (p.1 : Nat), .string ⟨p.2.toArray⟩]
set_option maxRecDepth 100000 in
theorem pc_equal (p q : Pc) (W : World) : (Op.equalIn 10000 26 (.agg (pcVal p)) (.agg (pcVal q))).run Try.prog W = .ok (decide (p = q)) W := by
  obtain ⟨k, t⟩ := p
  obtain ⟨k', t'⟩ := q
  unfold pcVal
  have e : decide ((k, t) = (k', t')) = (((k : Int) == (k' : Int)) && ((⟨t.toArray⟩ : ByteArray).toList == (⟨t'.toArray⟩ : ByteArray).toList)) := by
    rw [ByteArray.toList_mk, ByteArray.toList_mk]
    by_cases h1 : k = k' <;> by_cases h2 : t = t' <;> simp [h1, h2] <;> omega
  rw [e]
  generalize (k : Int) = a
  generalize (k' : Int) = b
  generalize (⟨t.toArray⟩ : ByteArray) = x
  generalize (⟨t'.toArray⟩ : ByteArray) = y
  go_simp
  by_cases h1 : a = b <;> by_cases h2 : x.toList = y.toList <;> simp [h1, h2]
set_option maxRecDepth 100000 in
set_option maxHeartbeats 4000000 in
theorem refSame9_any (v u : Value) (ps qs : List Pc) (w : World) (hv : PcIn w v ps) (hu : PcIn w u qs) (l1 : ps.length ≤ 8192) :
    Calls Try.prog 10 #[v, u] w fun e w' => e = .returned (.bool (decide (ps = qs))) ∧ ∃ q, w' = w.drewN q := by
  obtain ⟨A, c, rfl, hA⟩ := hv
  obtain ⟨B, d, rfl, hB⟩ := hu
  obtain ⟨n, hn⟩ : ∃ n, ps.length = n := ⟨_, rfl⟩
  obtain ⟨m, hm⟩ : ∃ m, qs.length = m := ⟨_, rfl⟩
  rw [hn, hm]
  rw [hn] at l1
  obtain ⟨r, hr⟩ : ∃ r, decide (ps = qs) = r := ⟨_, rfl⟩
  rw [hr]
  have HA := Lib.hid hA
  have HB := Lib.hid hB
  have HR := Lib.hid hr
  have HN := Lib.hid hn
  have HM := Lib.hid hm
  clear hA hB hr hn hm
  by_cases e : n = m
  · subst e
    have e1 : ((n : Int) != n) = false := by simp
    go_enter Try.func10, Try.ntmps10
    go_wp2_with fail
    go_loopg [5] n (fun g1 vi wr => ∃ (i q : Nat), vi = .int .i64 i ∧ i ≤ n ∧ n - i ≤ g1 ∧ wr = w.drewN q ∧ Hid (∀ j, j < i → ps[j]? = qs[j]?))
    case atStart => exact ⟨0, 0, rfl, by omega, by omega, rfl, Lib.hid (fun j hj => absurd hj (by omega))⟩
    case round =>
      obtain ⟨i, q, rfl, hi, hg1, rfl, hE⟩ := hrel
      by_cases hlt : i < n
      · have hz : (i : Int) < n := by omega
        have hz0 : (0 : Int) ≤ i := by omega
        have hlp : i < ps.length := by have := HN.out; omega
        have hlq : i < qs.length := by have := HM.out; omega
        obtain ⟨g, rfl, -, hat⟩ := HA.out (by intro e; rw [e] at hlp; simp at hlp)
        obtain ⟨g', rfl, -, hat'⟩ := HB.out (by intro e; rw [e] at hlq; simp at hlq)
        obtain ⟨k, t, hp⟩ : ∃ k t, ps[i] = (k, t) := ⟨_, _, rfl⟩
        obtain ⟨k', t', hq⟩ : ∃ k t, qs[i] = (k, t) := ⟨_, _, rfl⟩
        have gp : ps[i]? = some (k, t) := by rw [List.getElem?_eq_getElem hlp, hp]
        have gq : qs[i]? = some (k', t') := by rw [List.getElem?_eq_getElem hlq, hq]
        obtain ⟨c0, c1⟩ := hat i (k, t) gp
        obtain ⟨c2, c3⟩ := hat' i (k', t') gq
        have wi : IntKind.i64.wrap ((i : Int) + 1) = (i : Int) + 1 := IntWalk.i64_in _ (by omega)
        have EQ : ∀ W, (Op.equalIn 10000 26 (.agg #[.int .u8 (k : Nat), .string ⟨t.toArray⟩]) (.agg #[.int .u8 (k' : Nat), .string ⟨t'.toArray⟩])).run Try.prog W = .ok (decide ((k, t) = (k', t'))) W := fun W => pc_equal (k, t) (k', t') W
        have GP := Lib.hid gp
        have GQ := Lib.hid gq
        clear hp hq hat hat' gp gq
        by_cases h : (k, t) = (k', t')
        · have HE2 : Hid (∀ j, j < i + 1 → ps[j]? = qs[j]?) := Lib.hid (fun j hj => by
            by_cases e : j = i
            · rw [e, GP.out, GQ.out, h]
            · exact hE.out j (by omega))
          obtain ⟨rfl, rfl⟩ := Prod.mk.inj h
          clear EQ
          go_wp2_with fail
          go_quiet (fail)
          go_wp2_with fail
          go_roundg (n - (i + 1))
          case measure => omega
          case rel => exact ⟨i + 1, q + nq, by go_num, by omega, Nat.le_refl _, rfl, HE2⟩
        · have R : Hid (r = false) := Lib.hid (by
            rw [← HR.out]
            exact decide_eq_false fun e => by
              have h1 := GP.out
              rw [e, GQ.out] at h1
              exact h (Option.some.inj h1).symm)
          have hd : ¬ (k : Int) = k' ∨ ¬ (⟨t.toArray⟩ : ByteArray).toList = (⟨t'.toArray⟩ : ByteArray).toList := by
            rw [ByteArray.toList_mk, ByteArray.toList_mk]
            by_cases h1 : k = k'
            · by_cases h2 : t = t'
              · exact absurd (by rw [h1, h2]) h
              · exact .inr h2
            · exact .inl (by omega)
          clear EQ
          generalize (⟨t.toArray⟩ : ByteArray) = x at c1 hd
          generalize (⟨t'.toArray⟩ : ByteArray) = y at c3 hd
          generalize (k : Int) = a at c0 hd
          generalize (k' : Int) = b at c2 hd
          clear h
          by_cases h1 : a = b
          · subst h1
            have h2 : ¬ x.toList = y.toList := hd.resolve_left (fun h => h rfl)
            clear hd
            go_wp2_with fail
            go_quiet (fail)
            go_wp2_with fail
            go_ret
            exact ⟨by rw [R.out]; rfl, _, World.drewN_drewN _ _ _⟩
          · clear hd
            go_wp2_with fail
            go_quiet (fail)
            go_wp2_with fail
            go_ret
            exact ⟨by rw [R.out]; rfl, _, World.drewN_drewN _ _ _⟩
      · obtain rfl : i = n := by omega
        have hz : ¬ (i : Int) < i := by omega
        have R : Hid (r = true) := Lib.hid (by
          rw [← HR.out]
          refine decide_eq_true (List.ext_getElem? fun j => ?_)
          by_cases hj : j < i
          · exact hE.out j hj
          · rw [List.getElem?_eq_none (by have := HN.out; omega), List.getElem?_eq_none (by have := HM.out; omega)])
        go_wp2_with fail
        go_ret
        exact ⟨by rw [R.out]; rfl, _, rfl⟩
  · have e1 : ((n : Int) != m) = true := by simp; omega
    have R : Hid (r = false) := Lib.hid (by rw [← HR.out]; exact decide_eq_false fun h => e (by rw [← HN.out, ← HM.out, h]))
    go_enter Try.func10, Try.ntmps10
    go_wp2_with fail
    go_ret
    exact ⟨by rw [R.out]; rfl, 0, rfl⟩
end Go.Proofs.Ytgfiiohglgbdiaa
