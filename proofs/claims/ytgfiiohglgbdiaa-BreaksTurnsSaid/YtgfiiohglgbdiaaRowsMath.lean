/-
  A text's longest rows of marks, and of other bytes; the pieces out of them: mathematics.
-/
import Derived.Test.YtgfiiohglgbdiaaBreaksMath
namespace Go.Proofs.Ytgfiiohglgbdiaa

/-- one byte more, ahead of all rows -/
def consR (f : UInt8 → Bool) (b : UInt8) : List (List UInt8 × Bool) → List (List UInt8 × Bool)
  | (t, m) :: r => if m = f b then (b :: t, m) :: r else ([b], f b) :: (t, m) :: r
  | [] => [([b], f b)]
/-- the longest rows of bytes that are marks, and that are none, and whether they are -/
def rowsR (f : UInt8 → Bool) (s : List UInt8) : List (List UInt8 × Bool) := s.foldr (consR f) []
theorem rowsR_cons (f : UInt8 → Bool) (b : UInt8) (s : List UInt8) : rowsR f (b :: s) = consR f b (rowsR f s) := rfl
/-- the first row of a text that begins with b is one of b's kind -/
theorem rowsR_head (f : UInt8 → Bool) (b : UInt8) (s : List UInt8) : ∃ t r, rowsR f (b :: s) = (t, f b) :: r := by
  rw [rowsR_cons]
  cases rowsR f s with
  | nil => exact ⟨_, _, rfl⟩
  | cons p r =>
    obtain ⟨t, m⟩ := p
    by_cases h : m = f b
    · subst h
      exact ⟨b :: t, r, by simp [consR]⟩
    · exact ⟨[b], (t, m) :: r, by simp [consR, h]⟩
/-- a row of one kind, what comes behind it is of the other one, or nothing -/
theorem rowsR_row (f : UInt8 → Bool) (t : List UInt8) (m : Bool) (r : List UInt8) (ht : t ≠ []) (hm : ∀ b ∈ t, f b = m) (hr : ∀ b q, r = b :: q → f b ≠ m) : rowsR f (t ++ r) = (t, m) :: rowsR f r := by
  induction t with
  | nil => exact absurd rfl ht
  | cons b t ih =>
    have hb : f b = m := hm b (by simp)
    rw [List.cons_append, rowsR_cons]
    cases t with
    | nil =>
      rw [List.nil_append]
      cases r with
      | nil => simp [rowsR, consR, hb]
      | cons c q =>
        obtain ⟨u, r', e⟩ := rowsR_head f c q
        rw [e]
        have hc := hr c q rfl
        simp [consR, hb, hc]
    | cons c t =>
      rw [ih (by simp) (fun x hx => hm x (List.mem_cons_of_mem _ hx))]
      simp [consR, hb]
theorem rowsR_ne (f : UInt8 → Bool) (s : List UInt8) : ∀ p ∈ rowsR f s, p.1 ≠ [] := by
  induction s with
  | nil => intro p hp; cases hp
  | cons b s ih =>
    rw [rowsR_cons]
    intro p hp
    cases h : rowsR f s with
    | nil =>
      rw [h] at hp
      obtain rfl : p = ([b], f b) := by simpa [consR] using hp
      simp
    | cons q r =>
      obtain ⟨t, m⟩ := q
      rw [h] at hp ih
      by_cases e : m = f b
      · simp only [consR, e, if_true] at hp
        rcases List.mem_cons.1 hp with rfl | hp
        · simp
        · exact ih p (List.mem_cons_of_mem _ hp)
      · simp only [consR, e, if_false] at hp
        rcases List.mem_cons.1 hp with rfl | hp
        · simp
        · exact ih p hp
/-- the pieces of WsNormal: a word for each row of other bytes, a blank for each one of blanks -/
def pcN (p : List UInt8 × Bool) : Pc := if p.2 then (1, [32]) else (0, p.1)
theorem cutN_rows (s : List UInt8) : cutN s = (rowsR isB s).map pcN := by
  induction s with
  | nil => rfl
  | cons b s ih =>
    rw [cutN_cons, ih, rowsR_cons]
    cases h : rowsR isB s with
    | nil => cases hb : isB b <;> simp [consN, consR, pcN, hb]
    | cons q r =>
      obtain ⟨t, m⟩ := q
      cases hb : isB b <;> cases m <;> simp [consN, consR, pcN, hb]
/-- the pieces of WsKeep: a word for each row of other bytes, an end for each byte 10 -/
def is10 (b : UInt8) : Bool := b == 10
def pcK (p : List UInt8 × Bool) : List Pc := if p.2 then List.replicate p.1.length (2, []) else [(0, p.1)]
theorem cutK_rows (s : List UInt8) : cutK s = (rowsR is10 s).flatMap pcK := by
  induction s with
  | nil => rfl
  | cons b s ih =>
    rw [cutK_cons, ih, rowsR_cons]
    have N := rowsR_ne is10 s
    cases h : rowsR is10 s with
    | nil => cases hb : (b == 10) <;> simp [consK, consR, pcK, is10, hb]
    | cons q r =>
      obtain ⟨t, m⟩ := q
      rw [h] at N
      have hn := N (t, m) (by simp)
      cases t with
      | nil => exact absurd rfl hn
      | cons c t =>
        cases hb : (b == 10) <;> cases m <;> simp [consK, consR, pcK, is10, hb, List.replicate_succ]
/-- the rows, one behind the other, are the text -/
theorem rowsR_join (f : UInt8 → Bool) (s : List UInt8) : ((rowsR f s).map (·.1)).flatten = s := by
  induction s with
  | nil => rfl
  | cons b s ih =>
    rw [rowsR_cons]
    cases h : rowsR f s with
    | nil =>
      rw [h] at ih
      simp at ih
      simp [consR, ← ih]
    | cons q r =>
      obtain ⟨t, m⟩ := q
      rw [h] at ih
      by_cases e : m = f b
      · simp only [consR, e, if_true]
        simp at ih ⊢
        exact ih
      · simp only [consR, e, if_false]
        simp at ih ⊢
        exact ih
theorem rowsR_len {f : UInt8 → Bool} {s : List UInt8} {p : List UInt8 × Bool} (h : p ∈ rowsR f s) : p.1.length ≤ s.length := by
  rw [← rowsR_join f s]
  generalize rowsR f s = l at h
  induction l with
  | nil => cases h
  | cons q l ih =>
    rw [List.map_cons, List.flatten_cons, List.length_append]
    rcases List.mem_cons.1 h with rfl | h
    · omega
    · have := ih h; omega
theorem prefix_last {α : Type} {pre : List α} {x : α} {xs : List α} (h : pre ++ [x] <+: xs) : ∃ post, xs = pre ++ x :: post := by
  obtain ⟨post, e⟩ := h
  exact ⟨post, by rw [← e]; simp⟩
theorem prefix_mem {α : Type} {pre : List α} {x : α} {xs : List α} (h : pre ++ [x] <+: xs) : x ∈ xs := by
  obtain ⟨post, rfl⟩ := prefix_last h
  simp
end Go.Proofs.Ytgfiiohglgbdiaa
