/-
  That the order of the text serves for a region which draws its order, told by bits: for regions of so many operations that the kernel cannot reckon it otherwise. Nothing of the program.
-/
import Derived.Still
import Derived.KernelRfl
namespace Go.Proofs.Ytcipphmijdibjaa

def bitsOf (l : List Nat) : Nat := l.foldr (fun s m => Nat.lor (2 ^ s) m) 0
theorem bitsOf_iff (l : List Nat) (s : Nat) : (bitsOf l).testBit s = true ↔ s ∈ l := by
  induction l with
  | nil => simp [bitsOf]
  | cons t l ih =>
    have e : bitsOf (t :: l) = 2 ^ t ||| bitsOf l := rfl
    rw [e, Nat.testBit_or, Bool.or_eq_true, ih, Nat.testBit_two_pow, decide_eq_true_eq, List.mem_cons]
    constructor
    · rintro (h | h)
      · exact .inl h.symm
      · exact .inr h
    · rintro (h | h)
      · exact .inl h.symm
      · exact .inr h
theorem land_bit {e s : Nat} : Nat.land e (2 ^ s) = 0 ↔ e.testBit s = false := by
  have hb : ∀ i, (Nat.land e (2 ^ s)).testBit i = (e.testBit i && decide (s = i)) := fun i => by
    have h : Nat.land e (2 ^ s) = e &&& 2 ^ s := rfl
    rw [h, Nat.testBit_and, Nat.testBit_two_pow]
  constructor
  · intro h
    have := hb s
    rw [h, Nat.zero_testBit] at this
    simpa using this.symm
  · intro h
    apply Nat.eq_of_testBit_eq
    intro i
    rw [hb, Nat.zero_testBit]
    by_cases hi : s = i
    · subst hi; simp [h]
    · simp [hi]

def dstBit (o : Oper) : Nat := match o.dst with | some d => 2 ^ d | none => 0
def edgeBits (md : Region.Mode) (o : Oper) : Nat := bitsOf ((o.after.toList.filter (Region.binds md)).map (·.on))
def rowOf (md : Region.Mode) (ops : Array Oper) (o : Oper) : Nat × Nat × Nat := (dstBit o, bitsOf (o.looksAt ops), edgeBits md o)
def freeRow (d l b : Nat) : List (Nat × Nat × Nat) → Bool
  | [] => true
  | (d', l', e') :: r => (!(Nat.beq (Nat.land e' b) 0) || (Nat.beq (Nat.land l' d) 0 && Nat.beq (Nat.land d' d) 0 && Nat.beq (Nat.land l d') 0)) && freeRow d l b r
def allRows : Nat → List (Nat × Nat × Nat) → Bool
  | _, [] => true
  | k, (d, l, e) :: r => Nat.blt e (2 ^ k) && freeRow d l (2 ^ k) r && allRows (k + 1) r

theorem freeRow_mem {d l b : Nat} : ∀ {r : List (Nat × Nat × Nat)}, freeRow d l b r = true → ∀ x ∈ r, Nat.land x.2.2 b ≠ 0 ∨ (Nat.land x.2.1 d = 0 ∧ Nat.land x.1 d = 0 ∧ Nat.land l x.1 = 0)
  | [], _, x, hx => by cases hx
  | (d', l', e') :: r, h, x, hx => by
    simp only [freeRow, Bool.and_eq_true, Bool.or_eq_true, Bool.not_eq_true', Nat.beq_eq] at h
    rcases List.mem_cons.1 hx with rfl | hx
    · rcases h.1 with h1 | h1
      · left
        intro e
        exact Nat.ne_of_beq_eq_false h1 e
      · exact .inr ⟨h1.1.1, h1.1.2, h1.2⟩
    · exact freeRow_mem h.2 x hx

theorem apart_of {ops : Array Oper} {x y : Oper} (h1 : Nat.land (bitsOf (y.looksAt ops)) (dstBit x) = 0) (h2 : Nat.land (dstBit y) (dstBit x) = 0) (h3 : Nat.land (bitsOf (x.looksAt ops)) (dstBit y) = 0) : x.apart ops y = true := by
  have notIn : ∀ {l : List Nat} {s : Nat}, Nat.land (bitsOf l) (2 ^ s) = 0 → l.contains s = false := by
    intro l s h
    rw [land_bit] at h
    cases hc : l.contains s
    · rfl
    · have : s ∈ l := by simpa using hc
      rw [(bitsOf_iff l s).2 this] at h; cases h
  unfold Oper.apart
  cases hx : x.dst with
  | none =>
    cases hy : y.dst with
    | none => rfl
    | some e =>
      have e3 : dstBit y = 2 ^ e := by simp [dstBit, hy]
      rw [e3] at h3
      simp only [Bool.true_and, Bool.not_eq_true']
      exact notIn h3
  | some d =>
    have e1 : dstBit x = 2 ^ d := by simp [dstBit, hx]
    rw [e1] at h1 h2
    have a1 := notIn h1
    cases hy : y.dst with
    | none => simp only [Bool.and_true, a1, Bool.not_false, Bool.true_and]; rfl
    | some e =>
      have e3 : dstBit y = 2 ^ e := by simp [dstBit, hy]
      rw [e3] at h2 h3
      have a3 := notIn h3
      have hne : e ≠ d := by
        rintro rfl
        rw [land_bit, Nat.testBit_two_pow_self] at h2; cases h2
      simp only [a1, a3, Bool.not_false, Bool.true_and, Bool.and_true, bne_iff_ne, ne_eq, Option.some.injEq]
      exact hne

theorem lex_rows (md : Region.Mode) (ops : Array Oper) : ∀ (l : List Oper) (k : Nat) (listed : Array Bool), ops.toList.drop k = l → allRows k (l.map (rowOf md ops)) = true →
    (∀ j b, j < ops.size → listed.getD j b = decide (j < k)) → Region.lexFrom md ops l.length k listed = true
  | [], k, listed, hd, _, hl => by
    have hk : ops.size ≤ k := by have := congrArg List.length hd; simp at this; omega
    simp only [List.length_nil, Region.lexFrom, List.isEmpty_iff, Region.ready, List.filter_eq_nil_iff, List.mem_range]
    intro i hi
    rw [hl i true hi, decide_eq_true (by omega : i < k)]
    simp
  | o :: l, k, listed, hd, hr, hl => by
    have hk : k < ops.size := by have := congrArg List.length hd; simp at this; omega
    have ho : ops[k]? = some o := by
      have := congrArg (·[0]?) hd
      simpa using this
    have hd' : ops.toList.drop (k + 1) = l := by
      have := congrArg List.tail hd
      simpa using this
    simp only [List.map_cons, allRows, rowOf, Bool.and_eq_true] at hr
    obtain ⟨⟨he, hf⟩, hr'⟩ := hr
    simp only [List.length_cons, Region.lexFrom, Bool.and_eq_true]
    refine ⟨⟨?_, ?_⟩, lex_rows md ops l (k + 1) _ hd' hr' ?_⟩
    · simp only [Region.ready, List.contains_iff_mem, List.mem_filter, List.mem_range, Bool.and_eq_true, Bool.not_eq_true']
      refine ⟨hk, by rw [hl k true hk]; simp, ?_⟩
      rw [ho]
      simp only [Option.map_some, Option.getD_some]
      rw [Array.all_eq_true_iff_forall_mem]
      intro e hm
      cases hb : Region.binds md e
      · rfl
      · have hon : e.on < k := by
          have hmem : e.on ∈ (o.after.toList.filter (Region.binds md)).map (·.on) := List.mem_map.2 ⟨e, List.mem_filter.2 ⟨by simpa using hm, hb⟩, rfl⟩
          have h1 := Nat.ge_two_pow_of_testBit ((bitsOf_iff _ _).2 hmem)
          have h2 : edgeBits md o < 2 ^ k := by rw [Nat.blt_eq] at he; exact he
          unfold edgeBits at h2
          exact (Nat.pow_lt_pow_iff_right (by omega : 1 < 2)).1 (Nat.lt_of_le_of_lt h1 h2)
        rw [hl e.on false (by omega), decide_eq_true hon]
        rfl
    · simp only [Region.free, ho, List.all_eq_true, List.mem_range]
      intro j hj
      rcases Nat.lt_trichotomy j k with h | h | h
      · rw [hl j true hj, decide_eq_true h]; simp
      · subst h; simp
      · have hoj : ops[j]? = some ops[j] := Array.getElem?_eq_getElem hj
        have hin : ops[j] ∈ l := by
          rw [← hd', List.mem_drop_iff_getElem]
          exact ⟨j - (k + 1), by simp; omega, by simp only [Array.getElem_toList]; congr 1; omega⟩
        have hx := freeRow_mem hf _ (List.mem_map.2 ⟨_, hin, rfl⟩)
        rw [hoj]
        simp only [Bool.or_eq_true]
        right
        rcases hx with h1 | ⟨h1, h2, h3⟩
        · left
          have ht : (edgeBits md ops[j]).testBit k = true := by
            cases hc : (edgeBits md ops[j]).testBit k
            · exact absurd (land_bit.2 hc) h1
            · rfl
          have hm := (bitsOf_iff _ _).1 ht
          obtain ⟨e, he, hon⟩ := List.mem_map.1 hm
          obtain ⟨hm', hb⟩ := List.mem_filter.1 he
          rw [Array.any_eq_true']
          exact ⟨e, by simpa using hm', by simp [hb, hon]⟩
        · right
          exact apart_of h1 h2 h3
    · intro j b hj
      by_cases hjk : j = k
      · subst hjk
        have hs : j < listed.size := by
          rcases Nat.lt_or_ge j listed.size with h | h
          · exact h
          · have h1 := hl j true hj
            rw [Array.getD_eq_getD_getElem?, Array.getElem?_eq_none h] at h1
            simp at h1
        rw [Array.getD_eq_getD_getElem?, Array.getElem?_setIfInBounds_self_of_lt hs, decide_eq_true (by omega : j < j + 1)]; rfl
      · have := hl j b hj
        rw [Array.getD_eq_getD_getElem?] at this ⊢
        rw [Array.getElem?_setIfInBounds_ne (Ne.symm hjk), this]
        congr 1
        simp only [eq_iff_iff]; omega

/-- The fact that the law of a quiet region asks, from a table of bits that is written out. -/
theorem lexB_of (md : Region.Mode) (l : List Oper) (tbl : List (Nat × Nat × Nat)) (h0 : Region.noSelect l.toArray = true) (h1 : l.map (rowOf md l.toArray) = tbl) (h2 : allRows 0 tbl = true) : Region.lexB md l.toArray = true := by
  simp only [Region.lexB, Bool.and_eq_true]
  refine ⟨h0, ?_⟩
  have := lex_rows md l.toArray l 0 (Array.replicate l.length false) (by simp) (by rw [h1]; exact h2) (fun j b hj => by
    have hj' : j < l.length := by simpa using hj
    rw [Array.getD_eq_getD_getElem?]; simp [hj'])
  simpa using this
end Go.Proofs.Ytcipphmijdibjaa
