/-
  The laws' great, solid and clusters over items.
-/
import Derived.Test.YtpfeiiabplaghaaSame10
namespace Go.Proofs.Ytpfeiiabplaghaa
open Go.RowKit

/-- items such as are not gone through -/
def odd10 (l : List It) (i : Nat) : Prop := 3 < kd l i ∨ wd l i < -1073741824 ∨ 1073741824 < wd l i
def great10 (l : List It) (x : Int) : Prop := 500 < l.length ∨ x < 0 ∨ 1099511627776 < x ∨ ∃ i, i < l.length ∧ odd10 l i
instance (l : List It) (i : Nat) : Decidable (odd10 l i) := by unfold odd10; infer_instance
instance (l : List It) (x : Int) : Decidable (great10 l x) := by unfold great10; infer_instance
set_option maxRecDepth 100000 in
set_option maxHeartbeats 4000000 in
theorem great_any10 (l : List It) (v : Value) (x : Int) (w : World) (hv : ItIn w v l) (b : Bool) (hb : decide (great10 l x) = b) :
    Calls Try.prog 16 #[v, .int .i64 x] w fun e w' => e = .returned (.bool b) ∧ w' = w := by
  have HV := Lib.hid hv
  obtain ⟨A, c, rfl, -, -⟩ := hv
  obtain ⟨n, en⟩ : ∃ n, l.length = n := ⟨_, rfl⟩
  have HN := Lib.hid en
  have HB := Lib.hid hb
  rw [en] at HV ⊢
  clear en hb
  by_cases h1 : 500 < n
  · have hz : (500 : Int) < n := by omega
    have R : Hid (b = true) := Lib.hid (by rw [← HB.out]; exact decide_eq_true (.inl (by rw [HN.out]; exact h1)))
    clear h1
    go_enter Try.func16, Try.ntmps16
    go_wp2_with fail
    go_ret
    exact ⟨by rw [R.out]; rfl, rfl⟩
  · have hz : ¬ (500 : Int) < n := by omega
    have hn : n ≤ 500 := by omega
    by_cases h2 : x < 0
    · have R : Hid (b = true) := Lib.hid (by rw [← HB.out]; exact decide_eq_true (.inr (.inl h2)))
      go_enter Try.func16, Try.ntmps16
      go_wp2_with fail
      go_ret
      exact ⟨by rw [R.out]; rfl, rfl⟩
    · by_cases h3 : 1099511627776 < x
      · have R : Hid (b = true) := Lib.hid (by rw [← HB.out]; exact decide_eq_true (.inr (.inr (.inl h3))))
        go_enter Try.func16, Try.ntmps16
        go_wp2_with fail
        go_ret
        exact ⟨by rw [R.out]; rfl, rfl⟩
      · have NO := Lib.hid (show (∀ i, i < n → ¬ odd10 l i) → ¬ great10 l x from fun h => by
          rintro (g | g | g | ⟨i, g1, g2⟩)
          · exact h1 (by rw [← HN.out]; exact g)
          · exact h2 g
          · exact h3 g
          · exact h i (by rw [← HN.out]; exact g1) g2)
        go_enter Try.func16, Try.ntmps16
        go_wp2_with fail
        go_loopg [5] n (fun g1 vi wr => ∃ k : Nat, vi = .int .i64 k ∧ k ≤ n ∧ n - k ≤ g1 ∧ Hid (∀ j, j < k → ¬ odd10 l j) ∧ w = wr)
        case atStart => exact ⟨0, rfl, by omega, by omega, Lib.hid (fun j hj => absurd hj (by omega)), rfl⟩
        case round =>
          obtain ⟨k, rfl, hk, hg1, hK, rfl⟩ := hrel
          clear h1 h2 h3 hz
          by_cases hlt : k < n
          · have hz : (k : Int) < n := by omega
            have hz0 : (0 : Int) ≤ k := by omega
            have wi : IntKind.i64.wrap ((k : Int) + 1) = (k : Int) + 1 := IntWalk.i64_in _ (by omega)
            obtain ⟨g, off, c', e, c0, c1⟩ := HV.out.get (i := k) (by have := HN.out; omega)
            injection e with e1 e2 e3
            subst e1 e3
            clear e2
            have RY : Hid (odd10 l k → b = true) := Lib.hid (fun h => by
              rw [← HB.out]
              exact decide_eq_true (.inr (.inr (.inr ⟨k, by rw [HN.out]; exact hlt, h⟩))))
            by_cases o1 : 3 < kd l k
            · have ho1 : (3 : Int) < (kd l k : Nat) := by omega
              have R : Hid (b = true) := Lib.hid (RY.out (.inl o1))
              generalize ((kd l k : Nat) : Int) = y at c0 ho1
              clear o1
              go_wp2_with fail
              go_ret
              exact ⟨by rw [R.out]; rfl, rfl⟩
            · have ho1 : ¬ (3 : Int) < (kd l k : Nat) := by omega
              by_cases o2 : wd l k < -1073741824
              · have R : Hid (b = true) := Lib.hid (RY.out (.inr (.inl o2)))
                generalize ((kd l k : Nat) : Int) = y at c0 ho1
                generalize wd l k = z at c1 o2
                clear o1
                go_wp2_with fail
                go_ret
                exact ⟨by rw [R.out]; rfl, rfl⟩
              · by_cases o3 : 1073741824 < wd l k
                · have R : Hid (b = true) := Lib.hid (RY.out (.inr (.inr o3)))
                  generalize ((kd l k : Nat) : Int) = y at c0 ho1
                  generalize wd l k = z at c1 o2 o3
                  clear o1
                  go_wp2_with fail
                  go_ret
                  exact ⟨by rw [R.out]; rfl, rfl⟩
                · have HK2 : Hid (∀ j, j < k + 1 → ¬ odd10 l j) := Lib.hid (fun j hj => by
                    by_cases e : j = k
                    · subst e
                      unfold odd10
                      omega
                    · exact hK.out j (by omega))
                  generalize ((kd l k : Nat) : Int) = y at c0 ho1
                  generalize wd l k = z at c1 o2 o3
                  clear o1
                  go_wp2_with fail
                  go_roundg (n - (k + 1))
                  case measure => omega
                  case rel => exact ⟨k + 1, by go_num, by omega, Nat.le_refl _, HK2, rfl⟩
          · obtain rfl : k = n := by omega
            have hz : ¬ (k : Int) < k := by omega
            have R : Hid (b = false) := Lib.hid (by rw [← HB.out]; exact decide_eq_false (NO.out hK.out))
            go_wp2_with fail
            go_ret
            exact ⟨by rw [R.out]; rfl, rfl⟩
/-- of items such as are gone through Fill answers the lines -/
theorem within_great {l : List It} {x : Int} (h : ¬ great10 l x) : Good l ∧ Within l 1073741824 ∧ l.length ≤ 500 ∧ 0 ≤ x ∧ x ≤ 1099511627776 := by
  have h1 : ¬ 500 < l.length := fun c => h (.inl c)
  have h2 : ¬ x < 0 := fun c => h (.inr (.inl c))
  have h3 : ¬ 1099511627776 < x := fun c => h (.inr (.inr (.inl c)))
  have h4 : ∀ i, i < l.length → ¬ odd10 l i := fun i hi c => h (.inr (.inr (.inr ⟨i, hi, c⟩)))
  refine ⟨fun i hi => ?_, fun i hi => ?_, by omega, by omega, by omega⟩
  · have := h4 i hi
    unfold odd10 at this
    omega
  · have := h4 i hi
    unfold odd10 at this
    omega
/-- items of no great number and width fill lines that all are lengths -/
theorem fillA_yes {l : List It} {x : Int} (hg : Good l) (hw : Within l 1073741824) (hn : l.length ≤ 1000) (h0 : 0 ≤ x) (h1 : x ≤ 1099511627776) : fillA l x = (linesT l x, 0) := by
  unfold fillA
  rw [if_neg (by omega), if_neg (fun ⟨i, hi, h⟩ => by have := hg i hi; omega), if_neg, if_neg]
  · rintro ⟨y, hy, h⟩
    obtain ⟨y1, y2, y3, E, y5⟩ := fill_all hg _ (st_first l) y hy
    apply h
    rw [y5]
    obtain ⟨n, e⟩ := Nat.exists_eq_add_of_le E.lo
    have hh := E.hi
    rw [e]
    have := sum_bound hw (by omega) y.1 n
    unfold Fit
    omega
  · rintro (h | ⟨i, hi, h⟩)
    · apply h
      unfold Fit
      omega
    · apply h
      have := hw i hi
      unfold Fit
      omega
/-- a word or a box, told of an item's cells -/
theorem solid_any10 (k : Nat) (z : Int) (w : World) (b : Bool) (hb : decide (k = 0 ∨ k = 3) = b) :
    Calls Try.prog 17 #[.agg #[.int .u8 (k : Nat), .int .i64 z]] w fun e w' => e = .returned (.bool b) ∧ Below w.heap.size w w' := by
  subst hb
  have e : decide (k = 0 ∨ k = 3) = (((k : Nat) : Int) == 0 || ((k : Nat) : Int) == 3) := by
    by_cases h0 : k = 0
    · subst h0; rfl
    · by_cases h3 : k = 3
      · subst h3; rfl
      · have h0' : ¬ ((k : Nat) : Int) = 0 := by omega
        have h3' : ¬ ((k : Nat) : Int) = 3 := by omega
        rw [decide_eq_false (by omega), beq_eq_false_iff_ne.2 h0', beq_eq_false_iff_ne.2 h3']
        rfl
  rw [e]
  generalize ((k : Nat) : Int) = y
  cases h0 : (y == 0) <;> cases h3 : (y == 3)
  all_goals
    go_enter Try.func17, Try.ntmps17
    go_wp2_with fail
    go_ret
    exact ⟨rfl, (Below.refl _ _).alloc (Nat.le_refl _) _⟩
end Go.Proofs.Ytpfeiiabplaghaa
