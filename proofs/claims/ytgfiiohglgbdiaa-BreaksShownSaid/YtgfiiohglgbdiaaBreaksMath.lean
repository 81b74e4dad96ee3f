/-
  A text's pieces, however blanks count, what is shown of them, and what follows: mathematics of rows of bytes.
-/
import Derived.Test.YtgfiiohglgbdiaaProg
namespace Go.Proofs.Ytgfiiohglgbdiaa

/-- a piece: its kind, its bytes -/
abbrev Pc := Nat × List UInt8
def isB (b : UInt8) : Bool := b == 32 || b == 10
def consN (b : UInt8) (ps : List Pc) : List Pc :=
  if isB b then (match ps with
    | (1, _) :: _ => ps
    | _ => (1, [32]) :: ps)
  else match ps with
    | (0, t) :: r => (0, b :: t) :: r
    | _ => (0, [b]) :: ps
def consK (b : UInt8) (ps : List Pc) : List Pc :=
  if b == 10 then (2, []) :: ps
  else match ps with
    | (0, t) :: r => (0, b :: t) :: r
    | _ => (0, [b]) :: ps
def sq (b : UInt8) (t : List UInt8) : List UInt8 :=
  if isB b then (match t with
    | 32 :: _ => t
    | _ => 32 :: t)
  else b :: t
def cutN (s : List UInt8) : List Pc := s.foldr consN []
def cutK (s : List UInt8) : List Pc := s.foldr consK []
def squeeze (s : List UInt8) : List UInt8 := s.foldr sq []
def cutS : List UInt8 → List Pc
  | [] => []
  | s => [(0, squeeze s)]
/-- a text's pieces -/
def cutP (ws : Int) (s : List UInt8) : List Pc := if ws = 0 then cutN s else if ws = 1 then cutS s else if ws = 2 then cutK s else []
def showP : List Pc → List UInt8
  | [] => []
  | (k, t) :: r => (if k = 2 then [10] else []) ++ t ++ showP r
def shownP (ws : Int) (s : List UInt8) : List UInt8 := showP (cutP ws s)
def bareP (s : List UInt8) : List UInt8 := s.filter (fun b => !isB b)

theorem cutN_cons (b : UInt8) (s : List UInt8) : cutN (b :: s) = consN b (cutN s) := rfl
theorem cutK_cons (b : UInt8) (s : List UInt8) : cutK (b :: s) = consK b (cutK s) := rfl
theorem squeeze_cons (b : UInt8) (s : List UInt8) : squeeze (b :: s) = sq b (squeeze s) := rfl
theorem isB_32 : isB 32 = true := rfl
theorem isB_10 : isB 10 = true := rfl
theorem isB_no {b : UInt8} (h : isB b = false) : b ≠ 32 ∧ b ≠ 10 := by
  simp only [isB, Bool.or_eq_false_iff, beq_eq_false_iff_ne] at h
  exact h

/-- the first piece of WsNormal is a blank just if the text begins with one -/
theorem head_N (s : List UInt8) : (∀ b r, s = b :: r → ∃ t ps, cutN s = ((if isB b then 1 else 0), t) :: ps) ∧ (s = [] → cutN s = []) := by
  refine ⟨fun b r h => ?_, fun h => by rw [h]; rfl⟩
  subst h
  rw [cutN_cons]
  unfold consN
  cases hb : isB b with
  | true =>
    simp only [if_true]
    split
    · rename_i t ps h
      exact ⟨t, ps, h⟩
    · exact ⟨_, _, rfl⟩
  | false =>
    simp only [Bool.false_eq_true, if_false]
    split
    · exact ⟨_, _, rfl⟩
    · exact ⟨_, _, rfl⟩
/-- pieces of WsNormal: words and blanks by turns -/
inductive Turns : List Pc → Prop
  | nil : Turns []
  | word (t : List UInt8) (ps : List Pc) : t ≠ [] → (∀ b ∈ t, isB b = false) → Turns ps → (∀ u r, ps ≠ (0, u) :: r) → Turns ((0, t) :: ps)
  | blank (ps : List Pc) : Turns ps → (∀ u r, ps ≠ (1, u) :: r) → Turns ((1, [32]) :: ps)
theorem turns_N (s : List UInt8) : Turns (cutN s) := by
  induction s with
  | nil => exact .nil
  | cons b s ih =>
    rw [cutN_cons]
    unfold consN
    cases hb : isB b with
    | true =>
      simp only [if_true]
      split
      · exact ih
      · rename_i h
        exact .blank _ ih (fun u r e => h u r e)
    | false =>
      simp only [Bool.false_eq_true, if_false]
      split
      · rename_i t r h
        rw [h] at ih
        cases ih with
        | word _ _ h1 h2 h3 h4 =>
          exact .word _ _ (by simp) (fun c hc => by
            rcases List.mem_cons.1 hc with rfl | hc
            · exact hb
            · exact h2 c hc) h3 h4
      · rename_i h
        exact .word _ _ (by simp) (fun c hc => by
          obtain rfl : c = b := by simpa using hc
          exact hb) ih (fun u r e => h u r e)
theorem show0 (t : List UInt8) (r : List Pc) : showP ((0, t) :: r) = t ++ showP r := by simp [showP]
theorem show1 (t : List UInt8) (r : List Pc) : showP ((1, t) :: r) = t ++ showP r := by simp [showP]
theorem show2 (t : List UInt8) (r : List Pc) : showP ((2, t) :: r) = 10 :: (t ++ showP r) := by simp [showP]
theorem show_cons (k : Nat) (t : List UInt8) (r : List Pc) : showP ((k, t) :: r) = (if k = 2 then [10] else []) ++ t ++ showP r := rfl
/-- of WsNormal is shown what is squeezed -/
theorem shown_N (s : List UInt8) : showP (cutN s) = squeeze s := by
  induction s with
  | nil => rfl
  | cons b s ih =>
    rw [cutN_cons, squeeze_cons]
    have T := turns_N s
    unfold consN sq
    cases hb : isB b with
    | true =>
      simp only [if_true]
      split
      · rename_i t ps h
        rw [h] at T ih
        cases T with
        | blank _ _ _ =>
          rw [h, ih, ← ih]
          simp [showP]
      · rename_i h
        rw [show1, ih]
        split
        · rename_i u e
          exfalso
          cases hc : cutN s with
          | nil => rw [hc] at ih; rw [← ih] at e; simp [showP] at e
          | cons p ps =>
            obtain ⟨k, t⟩ := p
            rw [hc] at T ih
            cases T with
            | word _ _ h1 h2 _ _ =>
              rw [← ih, show0] at e
              cases t with
              | nil => exact h1 rfl
              | cons c t =>
                simp at e
                have := h2 c (by simp)
                rw [e.1] at this
                exact absurd this (by decide)
            | blank _ _ _ => exact h _ _ hc
        · rfl
    | false =>
      simp only [Bool.false_eq_true, if_false]
      split
      · rename_i t r h
        rw [h] at ih
        rw [← ih, show0, show0]
        rfl
      · rw [← ih, show0]
        rfl
theorem shown_K (s : List UInt8) : showP (cutK s) = s := by
  induction s with
  | nil => rfl
  | cons b s ih =>
    rw [cutK_cons]
    unfold consK
    split
    · rename_i h
      rw [show2, ih]
      have : b = 10 := by simpa using h
      rw [this]
      rfl
    · split
      · rename_i t r h
        rw [h] at ih
        rw [← ih, show0, show0]
        rfl
      · rw [show0, ih]
        rfl
theorem shown_S (s : List UInt8) : showP (cutS s) = squeeze s := by
  cases s with
  | nil => rfl
  | cons b s => simp [cutS, showP]
theorem shown_any (ws : Int) (s : List UInt8) : shownP ws s = if ws = 0 ∨ ws = 1 then squeeze s else if ws = 2 then s else [] := by
  by_cases h0 : ws = 0
  · simp [shownP, cutP, h0, shown_N]
  · by_cases h1 : ws = 1
    · simp [shownP, cutP, h1, shown_S]
    · by_cases h2 : ws = 2
      · simp [shownP, cutP, h2, shown_K]
      · simp [shownP, cutP, h0, h1, h2, showP]
/-- no two blanks side by side, and none but 32 -/
def Calm : List UInt8 → Prop
  | [] => True
  | b :: t => b ≠ 10 ∧ (b = 32 → ∀ r, t ≠ 32 :: r) ∧ Calm t
theorem calm_sq (s : List UInt8) : Calm (squeeze s) := by
  induction s with
  | nil => trivial
  | cons b s ih =>
    rw [squeeze_cons]
    unfold sq
    cases hb : isB b with
    | true =>
      simp only [if_true]
      split
      · exact ih
      · rename_i h
        exact ⟨by decide, fun _ r e => h r e, ih⟩
    | false =>
      simp only [Bool.false_eq_true, if_false]
      exact ⟨(isB_no hb).2, fun e => absurd e (isB_no hb).1, ih⟩
theorem sq_calm {t : List UInt8} (h : Calm t) : squeeze t = t := by
  induction t with
  | nil => rfl
  | cons b t ih =>
    obtain ⟨h1, h2, h3⟩ := h
    rw [squeeze_cons, ih h3]
    unfold sq
    cases hb : isB b with
    | true =>
      have e : b = 32 := by
        simp only [isB, Bool.or_eq_true, beq_iff_eq] at hb
        rcases hb with e | e
        · exact e
        · exact absurd e h1
      subst e
      simp only [if_true]
      split
      · rename_i r
        exact absurd rfl (h2 rfl r)
      · rfl
    | false => rfl
theorem sq_twice (s : List UInt8) : squeeze (squeeze s) = squeeze s := sq_calm (calm_sq s)
theorem bare_sq (s : List UInt8) : bareP (squeeze s) = bareP s := by
  induction s with
  | nil => rfl
  | cons b s ih =>
    rw [squeeze_cons]
    unfold sq
    cases hb : isB b with
    | true =>
      have e : bareP (b :: s) = bareP s := by simp [bareP, hb]
      simp only [if_true]
      rw [e, ← ih]
      split
      · rfl
      · simp [bareP, isB_32]
    | false =>
      simp only [Bool.false_eq_true, if_false]
      simp only [bareP] at ih ⊢
      simp only [List.filter_cons, hb, Bool.not_false, if_true, ih]
/-- pieces, one byte more at the end -/
def sN : List Pc → UInt8 → List Pc
  | [], b => if isB b then [(1, [32])] else [(0, [b])]
  | [(k, t)], b => if isB b then (if k = 1 then [(k, t)] else [(k, t), (1, [32])]) else if k = 0 then [(0, t ++ [b])] else [(k, t), (0, [b])]
  | p :: q :: r, b => p :: sN (q :: r) b
def sK : List Pc → UInt8 → List Pc
  | [], b => if b == 10 then [(2, [])] else [(0, [b])]
  | [(k, t)], b => if b == 10 then [(k, t), (2, [])] else if k = 0 then [(0, t ++ [b])] else [(k, t), (0, [b])]
  | p :: q :: r, b => p :: sK (q :: r) b
theorem sN_pre (pre : List Pc) (q : Pc) (r : List Pc) (b : UInt8) : sN (pre ++ q :: r) b = pre ++ sN (q :: r) b := by
  induction pre with
  | nil => rfl
  | cons p pre ih =>
    cases pre with
    | nil => rfl
    | cons x pre =>
      show p :: sN (x :: (pre ++ q :: r)) b = p :: ((x :: pre) ++ sN (q :: r) b)
      rw [← ih]
      rfl
theorem sK_pre (pre : List Pc) (q : Pc) (r : List Pc) (b : UInt8) : sK (pre ++ q :: r) b = pre ++ sK (q :: r) b := by
  induction pre with
  | nil => rfl
  | cons p pre ih =>
    cases pre with
    | nil => rfl
    | cons x pre =>
      show p :: sK (x :: (pre ++ q :: r)) b = p :: ((x :: pre) ++ sK (q :: r) b)
      rw [← ih]
      rfl
theorem consN_head (c : UInt8) (p : Pc) : ∃ pre : List Pc, ∀ x, consN c (p :: x) = pre ++ x := by
  obtain ⟨k, t⟩ := p
  cases hc : isB c with
  | true =>
    by_cases h1 : k = 1
    · subst h1
      exact ⟨[(1, t)], fun x => by simp [consN, hc]⟩
    · refine ⟨[(1, [32]), (k, t)], fun x => ?_⟩
      simp only [consN, hc, if_true]
      split
      · rename_i h; simp at h; exact absurd h.1.1 h1
      · rfl
  | false =>
    by_cases h1 : k = 0
    · subst h1
      exact ⟨[(0, c :: t)], fun x => by simp [consN, hc]⟩
    · refine ⟨[(0, [c]), (k, t)], fun x => ?_⟩
      simp only [consN, hc, Bool.false_eq_true, if_false]
      split
      · rename_i h; simp at h; exact absurd h.1.1 h1
      · rfl
theorem consK_head (c : UInt8) (p : Pc) : ∃ pre : List Pc, ∀ x, consK c (p :: x) = pre ++ x := by
  obtain ⟨k, t⟩ := p
  cases hc : (c == 10) with
  | true => exact ⟨[(2, []), (k, t)], fun x => by simp [consK, hc]⟩
  | false =>
    by_cases h1 : k = 0
    · subst h1
      exact ⟨[(0, c :: t)], fun x => by simp [consK, hc]⟩
    · refine ⟨[(0, [c]), (k, t)], fun x => ?_⟩
      simp only [consK, hc, Bool.false_eq_true, if_false]
      split
      · rename_i h; simp at h; exact absurd h.1.1 h1
      · rfl
theorem commN (c b : UInt8) (ps : List Pc) : consN c (sN ps b) = sN (consN c ps) b := by
  match ps with
  | [] => cases hc : isB c <;> cases hb : isB b <;> simp [consN, sN, hc, hb]
  | [(k, t)] =>
    cases hc : isB c <;> cases hb : isB b <;> by_cases h0 : k = 0 <;> by_cases h1 : k = 1
    all_goals first | omega | skip
    all_goals first | (subst h0; simp [consN, sN, hc, hb]; done) | (subst h1; simp [consN, sN, hc, hb]; done) | skip
    all_goals
      simp only [consN, sN, hc, hb, h0, h1, if_true, if_false, Bool.false_eq_true]
      try (split <;> (try (rename_i h; simp at h; omega)) <;> (try (split <;> (try (rename_i h; simp at h; omega)))) <;> simp [sN, hb, h0, h1])
  | p :: q :: r =>
    obtain ⟨pre, hp⟩ := consN_head c p
    show consN c (p :: sN (q :: r) b) = _
    rw [hp, hp, sN_pre]
theorem commK (c b : UInt8) (ps : List Pc) : consK c (sK ps b) = sK (consK c ps) b := by
  match ps with
  | [] => cases hc : (c == 10) <;> cases hb : (b == 10) <;> simp [consK, sK, hc, hb]
  | [(k, t)] =>
    cases hc : (c == 10) <;> cases hb : (b == 10) <;> by_cases h0 : k = 0
    all_goals first | (subst h0; simp [consK, sK, hc, hb]; done) | skip
    all_goals
      simp only [consK, sK, hc, hb, h0, if_true, if_false, Bool.false_eq_true]
      try (split <;> (try (rename_i h; simp at h; omega)) <;> (try (split <;> (try (rename_i h; simp at h; omega)))) <;> simp [sK, hb, h0])
  | p :: q :: r =>
    obtain ⟨pre, hp⟩ := consK_head c p
    show consK c (p :: sK (q :: r) b) = _
    rw [hp, hp, sK_pre]
theorem cutN_snoc (s : List UInt8) (b : UInt8) : cutN (s ++ [b]) = sN (cutN s) b := by
  induction s with
  | nil => cases hb : isB b <;> simp [cutN, consN, sN, hb]
  | cons c s ih => rw [List.cons_append, cutN_cons, ih, commN]; rfl
theorem cutK_snoc (s : List UInt8) (b : UInt8) : cutK (s ++ [b]) = sK (cutK s) b := by
  induction s with
  | nil => cases hb : (b == 10) <;> simp [cutK, consK, sK, hb]
  | cons c s ih => rw [List.cons_append, cutK_cons, ih, commK]; rfl
/-- is a text's last byte a blank? -/
def lastB : List UInt8 → Bool
  | [] => false
  | [c] => isB c
  | _ :: d :: r => lastB (d :: r)
theorem lastB_snoc (s : List UInt8) (b : UInt8) : lastB (s ++ [b]) = isB b := by
  induction s with
  | nil => rfl
  | cons c s ih =>
    cases s with
    | nil => rfl
    | cons d r => exact ih
theorem sq_ne (b : UInt8) (s : List UInt8) : squeeze (b :: s) ≠ [] := by
  rw [squeeze_cons]
  unfold sq
  split
  · split
    · rename_i h; rw [h]; simp
    · simp
  · simp
theorem sq_far (c : UInt8) (x z : List UInt8) (h : x ≠ []) : sq c (x ++ z) = sq c x ++ z := by
  cases x with
  | nil => exact absurd rfl h
  | cons y x =>
    unfold sq
    cases hc : isB c with
    | true =>
      by_cases hy : y = 32
      · subst hy; simp
      · simp only [if_true, List.cons_append]
        split
        · rename_i h; simp at h; exact absurd h.1 hy
        · split
          · rename_i h; simp at h; exact absurd h.1 hy
          · rfl
    | false => simp
theorem squeeze_snoc (s : List UInt8) (b : UInt8) : squeeze (s ++ [b]) = if isB b then (if lastB s then squeeze s else squeeze s ++ [32]) else squeeze s ++ [b] := by
  induction s with
  | nil => cases hb : isB b <;> simp [squeeze, sq, lastB, hb]
  | cons c s ih =>
    cases s with
    | nil =>
      cases hb : isB b <;> cases hc : isB c <;> simp [squeeze, sq, lastB, hb, hc]
      split
      · rename_i h
        simp at h
        rw [h.1] at hb
        exact absurd hb (by decide)
      · rfl
    | cons d r =>
      rw [List.cons_append, squeeze_cons, ih]
      have e : lastB (c :: d :: r) = lastB (d :: r) := rfl
      rw [e]
      cases hb : isB b with
      | true =>
        cases lastB (d :: r) with
        | true => rfl
        | false =>
          simp only [if_true, Bool.false_eq_true, if_false]
          rw [sq_far _ _ _ (sq_ne d r)]
          rfl
      | false =>
        simp only [Bool.false_eq_true, if_false]
        rw [sq_far _ _ _ (sq_ne d r)]
        rfl
theorem show_mem {ps : List Pc} {p : Pc} (h : p ∈ ps) : p.2.length ≤ (showP ps).length := by
  induction ps with
  | nil => cases h
  | cons q ps ih =>
    obtain ⟨k, t⟩ := q
    rw [show_cons, List.length_append, List.length_append]
    rcases List.mem_cons.1 h with rfl | h
    · show t.length ≤ _; omega
    · have := ih h; omega
theorem squeeze_len (s : List UInt8) : (squeeze s).length ≤ s.length := by
  induction s with
  | nil => simp [squeeze]
  | cons b s ih =>
    rw [squeeze_cons, List.length_cons]
    unfold sq
    split
    · split
      · omega
      · rw [List.length_cons]; omega
    · rw [List.length_cons]; omega
theorem shown_len (ws : Int) (s : List UInt8) : (shownP ws s).length ≤ s.length := by
  rw [shown_any]
  have := squeeze_len s
  split
  · exact this
  · split
    · omega
    · simp
theorem piece_len {ws : Int} {s : List UInt8} {p : Pc} (h : p ∈ cutP ws s) : p.2.length ≤ s.length := Nat.le_trans (show_mem h) (shown_len ws s)
theorem cutN_len (s : List UInt8) : (cutN s).length ≤ s.length := by
  induction s with
  | nil => simp [cutN]
  | cons b s ih =>
    rw [cutN_cons, List.length_cons]
    unfold consN
    split
    · split
      · omega
      · rw [List.length_cons]; omega
    · split
      · rename_i t r h
        rw [h] at ih
        simp only [List.length_cons] at ih ⊢
        omega
      · rw [List.length_cons]; omega
theorem cutK_len (s : List UInt8) : (cutK s).length ≤ s.length := by
  induction s with
  | nil => simp [cutK]
  | cons b s ih =>
    rw [cutK_cons, List.length_cons]
    unfold consK
    split
    · rw [List.length_cons]; omega
    · split
      · rename_i t r h
        rw [h] at ih
        simp only [List.length_cons] at ih ⊢
        omega
      · rw [List.length_cons]; omega
theorem cutP_len (ws : Int) (s : List UInt8) : (cutP ws s).length ≤ s.length := by
  unfold cutP
  split
  · exact cutN_len s
  · split
    · cases s <;> simp [cutS]
    · split
      · exact cutK_len s
      · simp
/-- the kinds of pieces -/
theorem cutN_kind {s : List UInt8} {p : Pc} (h : p ∈ cutN s) : p.1 = 0 ∨ p.1 = 1 := by
  have T := turns_N s
  generalize cutN s = l at T h
  induction T with
  | nil => cases h
  | word t ps _ _ _ _ ih =>
    rcases List.mem_cons.1 h with rfl | h
    · exact .inl rfl
    · exact ih h
  | blank ps _ _ ih =>
    rcases List.mem_cons.1 h with rfl | h
    · exact .inr rfl
    · exact ih h
theorem cutK_kind {s : List UInt8} {p : Pc} (h : p ∈ cutK s) : p.1 = 0 ∨ p.1 = 2 := by
  induction s generalizing p with
  | nil => cases h
  | cons b s ih =>
    rw [cutK_cons] at h
    unfold consK at h
    split at h
    · rcases List.mem_cons.1 h with rfl | h
      · exact .inr rfl
      · exact ih h
    · split at h
      · rename_i t r e
        rcases List.mem_cons.1 h with rfl | h
        · exact .inl rfl
        · exact ih (by rw [e]; exact List.mem_cons_of_mem _ h)
      · rcases List.mem_cons.1 h with rfl | h
        · exact .inl rfl
        · exact ih h
theorem cutS_ne {s : List UInt8} (h : s ≠ []) : cutS s = [] ++ [(0, squeeze s)] := by
  cases s with
  | nil => exact absurd rfl h
  | cons b s => rfl
/-- two texts, a word's byte ahead of a blank -/
theorem cutN_beside (s : List UInt8) (a b : UInt8) (t : List UInt8) (ha : isB a = false) (hb : isB b = true) : cutN (s ++ [a] ++ b :: t) = cutN (s ++ [a]) ++ cutN (b :: t) := by
  induction s with
  | nil =>
    obtain ⟨u, ps, h⟩ := (head_N (b :: t)).1 b t rfl
    rw [hb] at h
    show consN a (cutN (b :: t)) = consN a [] ++ cutN (b :: t)
    rw [h]
    simp [consN, ha]
  | cons c s ih =>
    rw [List.cons_append, List.cons_append, cutN_cons c, ih, cutN_cons c]
    cases hc : cutN (s ++ [a]) with
    | nil =>
      exfalso
      have := shown_N (s ++ [a])
      rw [hc, squeeze_snoc, ha] at this
      simp [showP] at this
    | cons p ps =>
      obtain ⟨pre, hp⟩ := consN_head c p
      rw [List.cons_append, hp, hp, List.append_assoc]
theorem cutK_beside (s : List UInt8) (a : UInt8) (t : List UInt8) (ha : (a == 10) = false) : cutK (s ++ [a] ++ 10 :: t) = cutK (s ++ [a]) ++ cutK (10 :: t) := by
  induction s with
  | nil =>
    show consK a (consK 10 (cutK t)) = consK a [] ++ consK 10 (cutK t)
    simp [consK, ha]
  | cons c s ih =>
    rw [List.cons_append, List.cons_append, cutK_cons c, ih, cutK_cons c]
    cases hc : cutK (s ++ [a]) with
    | nil =>
      exfalso
      have := shown_K (s ++ [a])
      rw [hc] at this
      simp [showP] at this
    | cons p ps =>
      obtain ⟨pre, hp⟩ := consK_head c p
      rw [List.cons_append, hp, hp, List.append_assoc]
end Go.Proofs.Ytgfiiohglgbdiaa
