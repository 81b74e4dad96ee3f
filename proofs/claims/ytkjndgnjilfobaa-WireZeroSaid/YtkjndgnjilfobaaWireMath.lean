/-
  Values by a schema, and their form: plain mathematics. A form is told by its schema and its bytes: no form is a beginning of another one.
-/
import Derived.Test.YtkjndgnjilfobaaWordsMath
import Derived.Test.YtkjndgnjilfobaaVals
import Derived.Test.YtkjndgnjilfobaaFold
namespace Go.Proofs.Ytkjndgnjilfobaa

/-- a letter that there is: n, i, f, b, l -/
def Letter (c : Nat) : Prop := c = 110 ∨ c = 105 ∨ c = 102 ∨ c = 98 ∨ c = 108
instance (c : Nat) : Decidable (Letter c) := by unfold Letter; infer_instance
def Schema (s : List Nat) : Prop := (∀ c ∈ s, Letter c) ∧ s.length ≤ 64
instance (s : List Nat) : Decidable (Schema s) := by unfold Schema; infer_instance
/-- no field but the letter's -/
def Fits (c : Nat) (v : WV) : Prop := (v.n = 0 ∨ c = 110) ∧ (v.i = 0 ∨ c = 105) ∧ (v.f = false ∨ c = 102) ∧ (v.b = [] ∨ c = 98) ∧ (v.l = [] ∨ c = 108)
instance (c : Nat) (v : WV) : Decidable (Fits c v) := by unfold Fits; infer_instance
def Short (v : WV) : Prop := v.b.length ≤ 262144 ∧ v.l.length ≤ 4096
instance (v : WV) : Decidable (Short v) := by unfold Short; infer_instance
/-- what a value of Go's can be -/
def Real (v : WV) : Prop := v.n < 18446744073709551616 ∧ (-9223372036854775808 ≤ v.i ∧ v.i ≤ 9223372036854775807) ∧ (∀ x ∈ v.b, x < 256) ∧ (∀ x ∈ v.l, x < 18446744073709551616) ∧ v.b.length < 18446744073709551616 ∧ v.l.length < 18446744073709551616
/-- a value's bytes -/
def form (c : Nat) (v : WV) : List Nat :=
  if c = 110 then word v.n else if c = 105 then word (foldN v.i) else if c = 102 then [if v.f then 1 else 0] else if c = 98 then word v.b.length ++ v.b else word v.l.length ++ v.l.flatMap word
def forms : List Nat → List WV → List Nat
  | c :: s, v :: l => form c v ++ forms s l
  | _, _ => []

theorem foldN_lt {i : Int} (h : -9223372036854775808 ≤ i ∧ i ≤ 9223372036854775807) : foldN i < 18446744073709551616 := by unfold foldN; split <;> omega
theorem foldN_inj {i j : Int} (h : foldN i = foldN j) : i = j := by rw [← unfold_fold i, h, unfold_fold]
theorem form_pos (c : Nat) (v : WV) : 0 < (form c v).length := by
  unfold form
  split
  · exact word_pos _
  · split
    · exact word_pos _
    · split
      · simp
      · split
        · rw [List.length_append]; have := word_pos v.b.length; omega
        · rw [List.length_append]; have := word_pos v.l.length; omega
theorem flat_take : ∀ {ns ms r s : List Nat}, ns.length = ms.length → ns.flatMap word ++ r = ms.flatMap word ++ s → ns = ms ∧ r = s
  | [], [], r, s, _, h => ⟨rfl, by simpa using h⟩
  | n :: ns, m :: ms, r, s, hl, h => by
    simp only [List.flatMap_cons, List.append_assoc] at h
    have e := word_inj h
    subst e
    have := List.append_cancel_left h
    obtain ⟨e1, e2⟩ := flat_take (by simpa using hl) this
    exact ⟨by rw [e1], e2⟩
/-- a value is told by its bytes, whatever stands behind them -/
theorem form_inj {c : Nat} (hc : Letter c) {v w : WV} {r s : List Nat} (hv : Fits c v) (hw : Fits c w) (h : form c v ++ r = form c w ++ s) : v = w ∧ r = s := by
  obtain ⟨vn, vi, vf, vb, vl⟩ := v
  obtain ⟨wn, wi, wf, wb, wl⟩ := w
  obtain ⟨a1, a2, a3, a4, a5⟩ := hv
  obtain ⟨b1, b2, b3, b4, b5⟩ := hw
  dsimp only at a1 a2 a3 a4 a5 b1 b2 b3 b4 b5
  unfold form at h
  dsimp only at h
  rcases hc with rfl | rfl | rfl | rfl | rfl
  · simp at a1 a2 a3 a4 a5 b1 b2 b3 b4 b5 h
    have e := word_inj h
    subst e
    exact ⟨by simp [a2, a3, a4, a5, b2, b3, b4, b5], List.append_cancel_left h⟩
  · simp at a1 a2 a3 a4 a5 b1 b2 b3 b4 b5 h
    have e := word_inj h
    rw [e] at h
    have e := foldN_inj e
    subst e
    exact ⟨by simp [a1, a3, a4, a5, b1, b3, b4, b5], List.append_cancel_left h⟩
  · simp at a1 a2 a3 a4 a5 b1 b2 b3 b4 b5 h
    obtain ⟨h, hr⟩ := h
    have : vf = wf := by cases vf <;> cases wf <;> simp at h ⊢
    exact ⟨by simp [a1, a2, a4, a5, b1, b2, b4, b5, this], hr⟩
  · simp at a1 a2 a3 a4 a5 b1 b2 b3 b4 b5 h
    have e := word_inj h
    rw [e] at h
    obtain ⟨h1, h2⟩ := List.append_inj (List.append_cancel_left h) e
    exact ⟨by simp [a1, a2, a3, a5, b1, b2, b3, b5, h1], h2⟩
  · simp at a1 a2 a3 a4 a5 b1 b2 b3 b4 b5 h
    have e := word_inj h
    rw [e] at h
    obtain ⟨h1, h2⟩ := flat_take e (List.append_cancel_left h)
    exact ⟨by simp [a1, a2, a3, a4, b1, b2, b3, b4, h1], h2⟩
/-- each value fits its letter -/
def AllFit : List Nat → List WV → Prop
  | c :: s, v :: l => Fits c v ∧ AllFit s l
  | [], [] => True
  | _, _ => False
theorem AllFit.len : ∀ {s : List Nat} {l : List WV}, AllFit s l → s.length = l.length
  | [], [], _ => rfl
  | _ :: _, _ :: _, h => by simp [AllFit.len h.2]
theorem forms_inj : ∀ {s : List Nat} {l m : List WV} {r t : List Nat}, (∀ c ∈ s, Letter c) → AllFit s l → AllFit s m → forms s l ++ r = forms s m ++ t → l = m ∧ r = t
  | [], [], [], r, t, _, _, _, h => ⟨rfl, by simpa [forms] using h⟩
  | c :: s, v :: l, w :: m, r, t, hs, hl, hm, h => by
    simp only [forms, List.append_assoc] at h
    obtain ⟨e1, h1⟩ := form_inj (hs c (by simp)) hl.1 hm.1 h
    obtain ⟨e2, h2⟩ := forms_inj (fun c hc => hs c (by simp [hc])) hl.2 hm.2 h1
    exact ⟨by rw [e1, e2], h2⟩
theorem forms_append : ∀ {s t : List Nat} {l m : List WV}, s.length = l.length → forms (s ++ t) (l ++ m) = forms s l ++ forms t m
  | [], _, [], _, _ => rfl
  | c :: s, t, v :: l, m, h => by
    simp only [List.cons_append, forms, List.append_assoc]
    rw [forms_append (by simpa using h)]
theorem AllFit.append : ∀ {s t : List Nat} {l m : List WV}, AllFit s l → AllFit t m → AllFit (s ++ t) (l ++ m)
  | [], _, [], _, _, h => h
  | _ :: _, _, _ :: _, _, h, h' => ⟨h.1, AllFit.append h.2 h'⟩
end Go.Proofs.Ytkjndgnjilfobaa
