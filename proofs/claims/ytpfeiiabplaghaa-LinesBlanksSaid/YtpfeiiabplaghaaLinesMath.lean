/-
  Items in lines: how lines are filled, and what follows of it: mathematics of rows of kinds and widths.
-/
import Derived.Test.YtpfeiiabplaghaaProg
namespace Go.Proofs.Ytpfeiiabplaghaa

/-- an item: its kind, its width -/
abbrev It := Nat × Int
/-- a line: from, to, how wide -/
abbrev Ln := Nat × Nat × Int
def kd (l : List It) (i : Nat) : Nat := (l[i]?.getD (9, 0)).1
def wd (l : List It) (i : Nat) : Int := (l[i]?.getD (9, 0)).2
def pre (l : List It) (i : Nat) : Int := ((l.take i).map (·.2)).sum
def sumI (l : List It) (a b : Nat) : Int := pre l b - pre l a
def Solid (l : List It) (i : Nat) : Prop := kd l i = 0 ∨ kd l i = 3
def Good (l : List It) : Prop := ∀ i, i < l.length → kd l i ≤ 3

theorem kd_end {l : List It} {i : Nat} (h : l.length ≤ i) : kd l i = 9 := by
  unfold kd
  rw [List.getElem?_eq_none h]
  rfl
theorem wd_end {l : List It} {i : Nat} (h : l.length ≤ i) : wd l i = 0 := by
  unfold wd
  rw [List.getElem?_eq_none h]
  rfl
theorem kd_lt {l : List It} {i : Nat} (h : kd l i ≠ 9) : i < l.length := by
  refine Nat.lt_of_not_le (fun c => h (kd_end c))
theorem solid_lt {l : List It} {i : Nat} (h : Solid l i) : i < l.length := by
  apply kd_lt
  rcases h with h | h <;> rw [h] <;> decide
theorem kd_get {l : List It} {i : Nat} (h : i < l.length) : kd l i = l[i].1 := by
  unfold kd
  rw [List.getElem?_eq_getElem h]
  rfl
theorem wd_get {l : List It} {i : Nat} (h : i < l.length) : wd l i = l[i].2 := by
  unfold wd
  rw [List.getElem?_eq_getElem h]
  rfl
theorem pre_succ (l : List It) (i : Nat) : pre l (i + 1) = pre l i + wd l i := by
  unfold pre
  by_cases h : i < l.length
  · rw [List.take_add_one, List.getElem?_eq_getElem h, wd_get h, List.map_append, List.sum_append]
    simp only [Option.toList, List.map_cons, List.map_nil, List.sum_cons, List.sum_nil, Int.add_zero]
  · rw [wd_end (by omega), List.take_of_length_le (by omega), List.take_of_length_le (by omega)]
    simp
theorem pre_zero (l : List It) : pre l 0 = 0 := rfl
theorem sum_self (l : List It) (a : Nat) : sumI l a a = 0 := by unfold sumI; omega
theorem sum_succ (l : List It) (a b : Nat) : sumI l a (b + 1) = sumI l a b + wd l b := by
  unfold sumI
  rw [pre_succ]
  omega
theorem sum_add (l : List It) (a b c : Nat) : sumI l a b + sumI l b c = sumI l a c := by unfold sumI; omega

/-- the place behind blanks -/
def behind (l : List It) (i : Nat) : Nat := if _h : i < l.length ∧ kd l i = 1 then behind l (i + 1) else i
termination_by l.length - i
decreasing_by omega
/-- the place behind words side by side -/
def wordsT (l : List It) (i : Nat) : Nat := if _h : i < l.length ∧ kd l i = 0 then wordsT l (i + 1) else i
termination_by l.length - i
decreasing_by omega
def clusterT (l : List It) (i : Nat) : Nat := if i < l.length ∧ kd l i = 3 then i + 1 else wordsT l i

theorem behind_facts (l : List It) (i : Nat) : i ≤ behind l i ∧ (∀ j, i ≤ j → j < behind l i → kd l j = 1) ∧ kd l (behind l i) ≠ 1 := by
  by_cases h : i < l.length ∧ kd l i = 1
  · rw [behind, dif_pos h]
    obtain ⟨h1, h2, h3⟩ := behind_facts l (i + 1)
    refine ⟨by omega, fun j hj hk => ?_, h3⟩
    by_cases e : j = i
    · rw [e]; exact h.2
    · exact h2 j (by omega) hk
  · rw [behind, dif_neg h]
    refine ⟨Nat.le_refl _, fun j hj hk => by omega, fun c => h ⟨kd_lt (by omega), c⟩⟩
termination_by l.length - i
decreasing_by omega
theorem words_facts (l : List It) (i : Nat) : i ≤ wordsT l i ∧ (∀ j, i ≤ j → j < wordsT l i → kd l j = 0) ∧ kd l (wordsT l i) ≠ 0 := by
  by_cases h : i < l.length ∧ kd l i = 0
  · rw [wordsT, dif_pos h]
    obtain ⟨h1, h2, h3⟩ := words_facts l (i + 1)
    refine ⟨by omega, fun j hj hk => ?_, h3⟩
    by_cases e : j = i
    · rw [e]; exact h.2
    · exact h2 j (by omega) hk
  · rw [wordsT, dif_neg h]
    refine ⟨Nat.le_refl _, fun j hj hk => by omega, fun c => h ⟨kd_lt (by omega), c⟩⟩
termination_by l.length - i
decreasing_by omega
theorem behind_of {l : List It} {i j : Nat} (h1 : i ≤ j) (h2 : ∀ k, i ≤ k → k < j → kd l k = 1) (h3 : kd l j ≠ 1) : behind l i = j := by
  obtain ⟨f1, f2, f3⟩ := behind_facts l i
  rcases Nat.lt_trichotomy (behind l i) j with h | h | h
  · exact absurd (h2 _ f1 h) f3
  · exact h
  · exact absurd (f2 _ h1 h) h3
theorem words_of {l : List It} {i j : Nat} (h1 : i ≤ j) (h2 : ∀ k, i ≤ k → k < j → kd l k = 0) (h3 : kd l j ≠ 0) : wordsT l i = j := by
  obtain ⟨f1, f2, f3⟩ := words_facts l i
  rcases Nat.lt_trichotomy (wordsT l i) j with h | h | h
  · exact absurd (h2 _ f1 h) f3
  · exact h
  · exact absurd (f2 _ h1 h) h3
theorem behind_le (l : List It) {i j : Nat} (h : i ≤ j) (hj : kd l j ≠ 1) : behind l i ≤ j := by
  refine Nat.le_of_not_lt (fun c => hj ((behind_facts l i).2.1 j h c))
theorem behind_len (l : List It) {i : Nat} (h : i ≤ l.length) : behind l i ≤ l.length :=
  behind_le l h (by rw [kd_end (Nat.le_refl _)]; decide)
theorem behind_self {l : List It} {i : Nat} (h : kd l i ≠ 1) : behind l i = i := behind_of (Nat.le_refl _) (fun k _ _ => by omega) h
/-- a place behind blanks is a word, a box, a line's end, or the end -/
theorem behind_kd {l : List It} (hg : Good l) (i : Nat) : Solid l (behind l i) ∨ (kd l (behind l i) = 2 ∧ behind l i < l.length) ∨ l.length ≤ behind l i := by
  have h3 := (behind_facts l i).2.2
  by_cases h : behind l i < l.length
  · have := hg _ h
    unfold Solid
    omega
  · exact .inr (.inr (by omega))

theorem cluster_no {l : List It} {i : Nat} (h : ¬ Solid l i) : clusterT l i = i := by
  unfold Solid at h
  unfold clusterT
  rw [if_neg (by omega)]
  exact words_of (Nat.le_refl _) (fun k _ _ => by omega) (by omega)
theorem cluster_facts {l : List It} {i : Nat} (h : Solid l i) : i < clusterT l i ∧ clusterT l i ≤ l.length ∧ (∀ j, i ≤ j → j < clusterT l i → Solid l j) ∧ (kd l (clusterT l i - 1) = 0 → kd l (clusterT l i) ≠ 0) ∧ (∀ j, i < j → j < clusterT l i → kd l (j - 1) = 0 ∧ kd l j = 0) := by
  have hl := solid_lt h
  unfold clusterT
  by_cases h3 : kd l i = 3
  · rw [if_pos ⟨hl, h3⟩]
    refine ⟨by omega, by omega, fun j hj hk => ?_, fun c => ?_, fun j hj hk => by omega⟩
    · obtain rfl : j = i := by omega
      exact h
    · rw [Nat.add_sub_cancel, h3] at c
      exact absurd c (by decide)
  · rw [if_neg (by omega)]
    have h0 : kd l i = 0 := by unfold Solid at h; omega
    obtain ⟨f1, f2, f3⟩ := words_facts l i
    have hlt : i < wordsT l i := by
      refine Nat.lt_of_le_of_ne f1 (fun e => ?_)
      rw [← e] at f3
      exact f3 h0
    refine ⟨hlt, ?_, fun j hj hk => .inl (f2 j hj hk), fun _ => f3, fun j hj hk => ⟨f2 _ (by omega) (by omega), f2 _ (by omega) hk⟩⟩
    have := kd_lt (l := l) (i := wordsT l i - 1) (by rw [f2 _ (by omega) (by omega)]; decide)
    omega
theorem cluster_ne {l : List It} {i : Nat} (h : clusterT l i ≠ i) : Solid l i := by
  refine Classical.byContradiction (fun c => h (cluster_no c))
/-- a cluster that begins ahead of a cluster's end doesn't go beyond it -/
theorem cluster_le {l : List It} {i t : Nat} (hi : i < t) (ht : kd l (t - 1) = 0 → kd l t ≠ 0) (hs : Solid l i) : clusterT l i ≤ t := by
  refine Nat.le_of_not_lt (fun c => ?_)
  have := (cluster_facts hs).2.2.2.2 t hi c
  exact ht this.1 this.2

/-- as many clusters as there is room for -/
def extT (l : List It) (w : Int) (a t : Nat) : Nat :=
  if _h : clusterT l (behind l t) ≠ behind l t ∧ sumI l a (clusterT l (behind l t)) ≤ w then extT l w a (clusterT l (behind l t)) else t
termination_by l.length - t
decreasing_by
  have h1 := cluster_facts (cluster_ne _h.1)
  have h2 := (behind_facts l t).1
  have h3 := solid_lt (cluster_ne _h.1)
  omega
def toT (l : List It) (w : Int) (a : Nat) : Nat := if kd l a = 2 then a else extT l w a (clusterT l a)
def lineT (l : List It) (w : Int) (a : Nat) : Ln := (a, toT l w a, sumI l a (toT l w a))
def nextT (l : List It) (t : Nat) : Nat := if kd l (behind l t) = 2 then behind l (behind l t + 1) else behind l t
def fillT (l : List It) (w : Int) (a : Nat) : List Ln :=
  if _h : a < l.length ∧ a < nextT l (toT l w a) then lineT l w a :: fillT l w (nextT l (toT l w a)) else []
termination_by l.length - a
decreasing_by omega
/-- the lines of items -/
def linesT (l : List It) (w : Int) : List Ln := fillT l w (behind l 0)

/-- what holds of the end of a line holds on, and there the next cluster has no room -/
theorem ext_ind {l : List It} {w : Int} {a : Nat} (P : Nat → Prop) (hs : ∀ t, P t → Solid l (behind l t) → sumI l a (clusterT l (behind l t)) ≤ w → P (clusterT l (behind l t)))
    (t : Nat) (h : P t) : P (extT l w a t) ∧ (Solid l (behind l (extT l w a t)) → w < sumI l a (clusterT l (behind l (extT l w a t)))) := by
  by_cases c : clusterT l (behind l t) ≠ behind l t ∧ sumI l a (clusterT l (behind l t)) ≤ w
  · rw [extT, dif_pos c]
    exact ext_ind P hs _ (hs t h (cluster_ne c.1) c.2)
  · rw [extT, dif_neg c]
    refine ⟨h, fun s => ?_⟩
    refine Int.not_le.1 (fun d => c ⟨?_, d⟩)
    have := (cluster_facts s).1
    omega
termination_by l.length - t
decreasing_by
  have h1 := cluster_facts (cluster_ne c.1)
  have h2 := (behind_facts l t).1
  have h3 := solid_lt (cluster_ne c.1)
  omega

/-- where a line may begin -/
structure St (l : List It) (a : Nat) : Prop where
  no : kd l a ≠ 1
  bd : a = 0 ∨ kd l (a - 1) ≠ 0 ∨ kd l a ≠ 0
/-- where a line ends that begins there -/
structure Ends (l : List It) (w : Int) (a t : Nat) : Prop where
  lo : a ≤ t
  hi : t ≤ l.length
  none : t = a → kd l a = 2
  some : a < t → Solid l a ∧ Solid l (t - 1) ∧ (kd l (t - 1) = 0 → kd l t ≠ 0)
  hard : ∀ j, a ≤ j → j < t → kd l j ≠ 2
  far : a < t → t = clusterT l a ∨ sumI l a t ≤ w
  least : a < t → clusterT l a ≤ t
  stop : a < t → Solid l (behind l t) → w < sumI l a (clusterT l (behind l t))

theorem ends_T {l : List It} (hg : Good l) (w : Int) {a : Nat} (hs : kd l a ≠ 1) (ha : a < l.length) : Ends l w a (toT l w a) := by
  unfold toT
  by_cases h2 : kd l a = 2
  · rw [if_pos h2]
    exact ⟨Nat.le_refl _, by omega, fun _ => h2, fun h => by omega, fun j _ _ => by omega, fun h => by omega, fun h => by omega, fun h => by omega⟩
  · rw [if_neg h2]
    have s : Solid l a := by
      have := hg a ha
      unfold Solid
      omega
    have F := cluster_facts s
    have I := ext_ind (l := l) (w := w) (a := a) (fun t => a < t ∧ t ≤ l.length ∧ Solid l (t - 1) ∧ (kd l (t - 1) = 0 → kd l t ≠ 0) ∧ (∀ j, a ≤ j → j < t → kd l j ≠ 2) ∧ (t = clusterT l a ∨ sumI l a t ≤ w) ∧ clusterT l a ≤ t) (by
      rintro t ⟨h1, h3, h4, h5, h6, h7, h8⟩ s2 hw
      have B := behind_facts l t
      have F2 := cluster_facts s2
      refine ⟨by omega, F2.2.1, F2.2.2.1 _ (by omega) (by omega), F2.2.2.2.1, fun j hj hk => ?_, .inr hw, by omega⟩
      by_cases c1 : j < t
      · exact h6 j hj c1
      · by_cases c2 : j < behind l t
        · rw [B.2.1 j (by omega) c2]; decide
        · have := F2.2.2.1 j (by omega) hk
          unfold Solid at this
          omega) (clusterT l a) ⟨F.1, F.2.1, F.2.2.1 _ (by omega) (by omega), F.2.2.2.1, fun j hj hk => by
          have := F.2.2.1 j hj hk
          unfold Solid at this
          omega, .inl rfl, Nat.le_refl _⟩
    obtain ⟨⟨h1, h3, h4, h5, h6, h7, h8⟩, h9⟩ := I
    exact ⟨by omega, h3, fun e => by omega, fun _ => ⟨s, h4, h5⟩, h6, fun _ => h7, fun _ => h8, fun _ => h9⟩

theorem next_facts {l : List It} {w : Int} {a t : Nat} (E : Ends l w a t) : a < nextT l t ∧ t ≤ nextT l t ∧ nextT l t ≤ l.length ∧ St l (nextT l t) ∧ (∀ j, t ≤ j → j < nextT l t → ¬ Solid l j) := by
  have B := behind_facts l t
  have L := behind_len l E.hi
  unfold nextT
  by_cases h2 : kd l (behind l t) = 2
  · rw [if_pos h2]
    have hb : behind l t < l.length := kd_lt (by omega)
    have B2 := behind_facts l (behind l t + 1)
    have L2 := behind_len l (i := behind l t + 1) (by omega)
    have lo := E.lo
    refine ⟨by omega, by omega, L2, ⟨B2.2.2, .inr (.inl ?_)⟩, fun j hj hk => ?_⟩
    · by_cases e : behind l (behind l t + 1) - 1 = behind l t
      · rw [e, h2]; decide
      · rw [B2.2.1 _ (by omega) (by omega)]; decide
    · unfold Solid
      by_cases c1 : j < behind l t
      · rw [B.2.1 j hj c1]; decide
      · by_cases c2 : j = behind l t
        · rw [c2, h2]; decide
        · rw [B2.2.1 j (by omega) hk]; decide
  · rw [if_neg h2]
    have lo := E.lo
    have hat : a < t := by
      refine Nat.lt_of_le_of_ne lo (fun e => h2 ?_)
      have := E.none e.symm
      rw [← e, behind_self (by rw [this]; decide)]
      exact this
    refine ⟨by omega, B.1, L, ⟨B.2.2, ?_⟩, fun j hj hk => ?_⟩
    · have S := E.some hat
      by_cases e : behind l t = t
      · rw [e]
        by_cases c : kd l (t - 1) = 0
        · exact .inr (.inr (S.2.2 c))
        · exact .inr (.inl c)
      · refine .inr (.inl ?_)
        rw [B.2.1 _ (by omega) (by omega)]
        decide
    · unfold Solid
      rw [B.2.1 j hj hk]
      decide
theorem fill_end {l : List It} {w : Int} {a : Nat} (h : l.length ≤ a) : fillT l w a = [] := by
  rw [fillT, dif_neg (by omega)]
theorem fill_cons {l : List It} (hg : Good l) (w : Int) {a : Nat} (hs : kd l a ≠ 1) (ha : a < l.length) : fillT l w a = lineT l w a :: fillT l w (nextT l (toT l w a)) := by
  rw [fillT, dif_pos ⟨ha, (next_facts (ends_T hg w hs ha)).1⟩]
theorem st_first (l : List It) : St l (behind l 0) := by
  have B := behind_facts l 0
  refine ⟨B.2.2, ?_⟩
  by_cases e : behind l 0 = 0
  · exact .inl e
  · refine .inr (.inl ?_)
    rw [B.2.1 _ (by omega) (by omega)]
    decide

/-- a fact of every line -/
theorem fill_all {l : List It} (hg : Good l) {w : Int} (a : Nat) (hs : St l a) : ∀ x ∈ fillT l w a, x.1 < l.length ∧ a ≤ x.1 ∧ St l x.1 ∧ Ends l w x.1 x.2.1 ∧ x.2.2 = sumI l x.1 x.2.1 := by
  intro x hx
  by_cases ha : a < l.length
  · have E := ends_T hg w hs.no ha
    have N := next_facts E
    rw [fill_cons hg w hs.no ha] at hx
    rcases List.mem_cons.1 hx with rfl | hx
    · exact ⟨ha, Nat.le_refl _, hs, E, rfl⟩
    · have := fill_all hg _ N.2.2.2.1 x hx
      exact ⟨this.1, by omega, this.2.2⟩
  · rw [fill_end (by omega)] at hx
    exact absurd hx (by simp)
termination_by l.length - a
decreasing_by omega

/-- each word and box is in just one line, in order -/
inductive AllIn (l : List It) : Nat → List Ln → Prop
  | nil {a : Nat} : (∀ j, a ≤ j → ¬ Solid l j) → AllIn l a []
  | cons {a : Nat} {x : Ln} {r : List Ln} : a ≤ x.1 → (∀ j, a ≤ j → j < x.1 → ¬ Solid l j) → AllIn l x.2.1 r → AllIn l a (x :: r)
theorem all_in {l : List It} (hg : Good l) (w : Int) (a b : Nat) (hs : St l a) (hb : b ≤ a) (hn : ∀ j, b ≤ j → j < a → ¬ Solid l j) : AllIn l b (fillT l w a) := by
  by_cases ha : a < l.length
  · have E := ends_T hg w hs.no ha
    have N := next_facts E
    rw [fill_cons hg w hs.no ha]
    exact .cons hb hn (all_in hg w _ _ N.2.2.2.1 N.2.1 N.2.2.2.2)
  · rw [fill_end (by omega)]
    refine .nil (fun j hj s => ?_)
    have := solid_lt s
    exact hn j hj (by omega) s
termination_by l.length - a
decreasing_by omega
theorem all_lines {l : List It} (hg : Good l) (w : Int) : AllIn l 0 (linesT l w) :=
  all_in hg w _ _ (st_first l) (Nat.zero_le _) (fun j hj hk => by
    unfold Solid
    rw [(behind_facts l 0).2.1 j hj hk]
    decide)
/-- the line that a word or a box is in -/
theorem in_one {l : List It} {a : Nat} {r : List Ln} (h : AllIn l a r) {j : Nat} (hj : a ≤ j) (s : Solid l j) : ∃ x ∈ r, x.1 ≤ j ∧ j < x.2.1 := by
  induction h with
  | nil h => exact absurd s (h j hj)
  | @cons a x r h1 h2 _ ih =>
    by_cases c : j < x.1
    · exact absurd s (h2 j hj c)
    · by_cases d : j < x.2.1
      · exact ⟨x, List.mem_cons_self .., by omega, d⟩
      · obtain ⟨y, hy, k⟩ := ih (by omega)
        exact ⟨y, List.mem_cons_of_mem _ hy, k⟩

end Go.Proofs.Ytpfeiiabplaghaa
