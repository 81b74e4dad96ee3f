/-
  Items in lines: a greater width, items put side by side, blanks around them: mathematics of rows of kinds and widths.
-/
import Derived.Test.YtpfeiiabplaghaaLinesMath
namespace Go.Proofs.Ytpfeiiabplaghaa

/-- no width is below 0 -/
def NonNeg (l : List It) : Prop := ∀ i, 0 ≤ wd l i
theorem pre_mono {l : List It} (hn : NonNeg l) {a b : Nat} (h : a ≤ b) : pre l a ≤ pre l b := by
  induction b with
  | zero =>
    obtain rfl : a = 0 := by omega
    exact Int.le_refl _
  | succ b ih =>
    by_cases e : a = b + 1
    · rw [e]; exact Int.le_refl _
    · have := ih (by omega)
      rw [pre_succ]
      have := hn b
      omega
theorem to_mono {l : List It} (hg : Good l) (hn : NonNeg l) {w v : Int} (hw : w ≤ v) {s r : Nat} (hs : St l s) (hr : St l r) (h : s ≤ r) (hl : r < l.length) : toT l w s ≤ toT l v r := by
  have E := ends_T hg w hs.no (by omega)
  have F := ends_T hg v hr.no hl
  generalize toT l w s = t at E
  generalize toT l v r = u at F
  refine Nat.le_of_not_lt (fun c => ?_)
  have f1 := F.lo
  have hst : s < t := by omega
  have h2 : kd l r ≠ 2 := E.hard r h (by omega)
  have hru : r < u := by
    refine Nat.lt_of_le_of_ne f1 (fun e => h2 (F.none e.symm))
  obtain ⟨s1, s2, s3⟩ := E.some hst
  have B := behind_facts l u
  have hp : behind l u ≤ t - 1 := behind_le l (by omega) (by unfold Solid at s2; omega)
  have hsol : Solid l (behind l u) := by
    rcases behind_kd hg u with k | k | k
    · exact k
    · exact absurd k.1 (E.hard _ (by omega) (by omega))
    · have := solid_lt s2
      omega
  have hstop := F.stop hru hsol
  have hc : clusterT l (behind l u) ≤ t := cluster_le (by omega) s3 hsol
  have m1 := pre_mono hn hc
  have m2 := pre_mono hn h
  rcases E.far hst with e | e
  · by_cases hsr : s = r
    · have := F.least hru
      rw [← hsr, ← e] at this
      omega
    · have := (cluster_facts s1).2.2.2.2 r (by omega) (by omega)
      rcases hr.bd with b | b | b
      · omega
      · exact b this.1
      · exact b this.2
  · unfold sumI at hstop e
    omega
theorem next_mono {l : List It} {w : Int} {r t u : Nat} (F : Ends l w r u) (h : t ≤ u) : nextT l t ≤ nextT l u := by
  by_cases e : t = u
  · rw [e]; exact Nat.le_refl _
  · have B := behind_facts l t
    have C := behind_facts l u
    have D := behind_facts l (behind l u + 1)
    have hu : u ≤ nextT l u := by
      unfold nextT
      split <;> omega
    by_cases hru : r < u
    · have s2 := (F.some hru).2.1
      have hp : behind l t ≤ u - 1 := behind_le l (by omega) (by unfold Solid at s2; omega)
      refine Nat.le_trans ?_ hu
      unfold nextT
      by_cases h2 : kd l (behind l t) = 2
      · rw [if_pos h2]
        have : behind l t ≠ u - 1 := by
          intro k
          rw [k] at h2
          unfold Solid at s2
          omega
        have := behind_le l (i := behind l t + 1) (j := u - 1) (by omega) (by unfold Solid at s2; omega)
        omega
      · rw [if_neg h2]
        omega
    · have lo := F.lo
      have hu2 : kd l u = 2 := by
        have := F.none (by omega)
        rwa [show u = r by omega]
      have hp : behind l t ≤ u := behind_le l h (by omega)
      by_cases k : behind l t = u
      · have : behind l u = u := behind_self (by omega)
        unfold nextT
        rw [k, this]
        exact Nat.le_refl _
      · refine Nat.le_trans ?_ hu
        unfold nextT
        by_cases h2 : kd l (behind l t) = 2
        · rw [if_pos h2]
          exact behind_le l (by omega) (by omega)
        · rw [if_neg h2]
          exact hp
/-- a greater width never needs more lines, nor ends a line sooner -/
theorem fill_mono {l : List It} (hg : Good l) (hn : NonNeg l) {w v : Int} (hw : w ≤ v) (s r : Nat) (hs : St l s) (hr : St l r) (h : s ≤ r) :
    (fillT l v r).length ≤ (fillT l w s).length ∧ ∀ i (hi : i < (fillT l v r).length) (hj : i < (fillT l w s).length), ((fillT l w s)[i]).2.1 ≤ ((fillT l v r)[i]).2.1 := by
  by_cases hl : r < l.length
  · have E := ends_T hg w hs.no (by omega)
    have F := ends_T hg v hr.no hl
    have M := to_mono hg hn hw hs hr h hl
    have N := next_facts E
    have O := next_facts F
    have I := fill_mono hg hn hw (nextT l (toT l w s)) (nextT l (toT l v r)) N.2.2.2.1 O.2.2.2.1 (next_mono F M)
    rw [fill_cons hg w hs.no (by omega), fill_cons hg v hr.no hl]
    refine ⟨by simp only [List.length_cons]; omega, fun i hi hj => ?_⟩
    cases i with
    | zero => exact M
    | succ i => exact I.2 i (by simpa using hi) (by simpa using hj)
  · rw [fill_end (by omega) (w := v)]
    exact ⟨Nat.zero_le _, fun i hi => absurd hi (by simp)⟩
termination_by l.length - r
decreasing_by omega
theorem wider_T {l : List It} (hg : Good l) (hn : NonNeg l) {w v : Int} (hw : w ≤ v) :
    (linesT l v).length ≤ (linesT l w).length ∧ ∀ i (hi : i < (linesT l v).length) (hj : i < (linesT l w).length), ((linesT l w)[i]).2.1 ≤ ((linesT l v)[i]).2.1 :=
  fill_mono hg hn hw _ _ (st_first l) (st_first l) (Nat.le_refl _)

/-- the lines' ends from a place on -/
def hardsN (l : List It) (a : Nat) : Nat := ((l.drop a).filter (fun x => x.1 == 2)).length
theorem hards_le (l : List It) {a b : Nat} (h : a ≤ b) : hardsN l b ≤ hardsN l a := by
  unfold hardsN
  obtain ⟨k, rfl⟩ := Nat.exists_eq_add_of_le h
  rw [← List.drop_drop]
  exact (List.Sublist.filter _ (List.drop_sublist k _)).length_le
theorem hards_one {l : List It} {a b : Nat} (h : a ≤ b) (h2 : kd l b = 2) : hardsN l (b + 1) + 1 ≤ hardsN l a := by
  refine Nat.le_trans ?_ (hards_le l h)
  have hb : b < l.length := kd_lt (by omega)
  unfold hardsN
  rw [List.drop_eq_getElem_cons hb, List.filter_cons_of_pos (by rw [← kd_get hb, h2]; rfl)]
  exact Nat.le_refl _
/-- all items fit -/
def Roomy (l : List It) (v : Int) : Prop := ∀ a b, sumI l a b ≤ v
theorem room_stop {l : List It} (hg : Good l) {v : Int} (hr : Roomy l v) {a t : Nat} (E : Ends l v a t) : kd l (behind l t) = 2 ∨ l.length ≤ behind l t := by
  by_cases hat : a < t
  · rcases behind_kd hg t with k | k | k
    · have h1 := E.stop hat k
      have h2 := hr a (clusterT l (behind l t))
      omega
    · exact .inl k.1
    · exact .inr k
  · have lo := E.lo
    have e : t = a := by omega
    have := E.none e
    rw [e, behind_self (by rw [this]; decide)]
    exact .inl this
theorem fill_few {l : List It} (hg : Good l) {v : Int} (hr : Roomy l v) (a : Nat) (hs : St l a) : (fillT l v a).length ≤ hardsN l a + 1 := by
  by_cases ha : a < l.length
  · have E := ends_T hg v hs.no ha
    have N := next_facts E
    rw [fill_cons hg v hs.no ha, List.length_cons]
    have B := (behind_facts l (toT l v a)).1
    have lo := E.lo
    rcases room_stop hg hr E with k | k
    · have I := fill_few hg hr _ N.2.2.2.1
      have e : nextT l (toT l v a) = behind l (behind l (toT l v a) + 1) := by
        unfold nextT
        rw [if_pos k]
      have h1 := hards_one (l := l) (a := a) (b := behind l (toT l v a)) (by omega) k
      have h2 := hards_le l (behind_facts l (behind l (toT l v a) + 1)).1
      rw [e] at I
      rw [e]
      omega
    · have e : nextT l (toT l v a) = behind l (toT l v a) := by
        unfold nextT
        rw [if_neg (by rw [kd_end k]; decide)]
      rw [e, fill_end k]
      simp
  · rw [fill_end (by omega)]
    simp
termination_by l.length - a
decreasing_by
  have := N.1
  omega

/-- the greatest width of lines -/
def widestT (r : List Ln) : Int := r.foldl (fun n x => if n < x.2.2 then x.2.2 else n) 0
theorem widest_at (r : List Ln) (n : Int) : n ≤ r.foldl (fun n (x : Ln) => if n < x.2.2 then x.2.2 else n) n ∧ ∀ x ∈ r, x.2.2 ≤ r.foldl (fun n (x : Ln) => if n < x.2.2 then x.2.2 else n) n := by
  induction r generalizing n with
  | nil => exact ⟨Int.le_refl _, fun x h => absurd h (by simp)⟩
  | cons y r ih =>
    rw [List.foldl_cons]
    obtain ⟨h1, h2⟩ := ih (if n < y.2.2 then y.2.2 else n)
    have h3 : n ≤ (if n < y.2.2 then y.2.2 else n) ∧ y.2.2 ≤ (if n < y.2.2 then y.2.2 else n) := by split <;> omega
    refine ⟨Int.le_trans h3.1 h1, fun x hx => ?_⟩
    rcases List.mem_cons.1 hx with rfl | hx
    · exact Int.le_trans h3.2 h1
    · exact h2 x hx
theorem widest_le {r : List Ln} {m : Int} (n : Int) (hn : n ≤ m) (h : ∀ x ∈ r, x.2.2 ≤ m) : r.foldl (fun n (x : Ln) => if n < x.2.2 then x.2.2 else n) n ≤ m := by
  induction r generalizing n with
  | nil => exact hn
  | cons y r ih =>
    rw [List.foldl_cons]
    refine ih _ ?_ (fun x hx => h x (List.mem_cons_of_mem _ hx))
    have := h y (List.mem_cons_self ..)
    split <;> omega
theorem widest_nonneg (r : List Ln) : 0 ≤ widestT r := (widest_at r 0).1
theorem widest_same {r q : List Ln} (h : r.map (·.2.2) = q.map (·.2.2)) : widestT r = widestT q := by
  have : ∀ (r : List Ln) (n : Int), r.foldl (fun n (x : Ln) => if n < x.2.2 then x.2.2 else n) n = (r.map (·.2.2)).foldl (fun n x => if n < x then x else n) n := by
    intro r
    induction r with
    | nil => intro n; rfl
    | cons y r ih => intro n; exact ih _
  unfold widestT
  rw [this, this, h]
theorem widest_wider {l : List It} (hg : Good l) (hn : NonNeg l) {w v : Int} (hr : Roomy l v) : widestT (linesT l w) ≤ widestT (linesT l v) := by
  refine widest_le 0 (widest_nonneg _) (fun x hx => ?_)
  obtain ⟨x1, x2, x3, E, x5⟩ := fill_all hg _ (st_first l) x hx
  by_cases hat : x.1 < x.2.1
  · obtain ⟨s1, s2, s3⟩ := E.some hat
    obtain ⟨y, hy, y1, y2⟩ := in_one (all_lines hg v) (Nat.zero_le _) s1
    obtain ⟨z1, z2, z3, F, z5⟩ := fill_all hg _ (st_first l) y hy
    have hle : x.2.1 ≤ y.2.1 := by
      refine Nat.le_of_not_lt (fun c => ?_)
      have hp : behind l y.2.1 ≤ x.2.1 - 1 := behind_le l (by omega) (by unfold Solid at s2; omega)
      have B := behind_facts l y.2.1
      have hh := E.hi
      rcases room_stop hg hr F with k | k
      · exact E.hard _ (by omega) (by omega) k
      · omega
    refine Int.le_trans ?_ ((widest_at (linesT l v) 0).2 y hy)
    rw [x5, z5]
    have m1 := pre_mono hn y1
    have m2 := pre_mono hn hle
    unfold sumI
    omega
  · have lo := E.lo
    rw [x5, show x.2.1 = x.1 by omega, sum_self]
    exact widest_nonneg _

/-- what a place shows of items that stand behind others -/
theorem kd_shift (p l : List It) (i : Nat) : kd (p ++ l) (p.length + i) = kd l i := by
  unfold kd
  rw [List.getElem?_append_right (by omega), Nat.add_sub_cancel_left]
theorem wd_shift (p l : List It) (i : Nat) : wd (p ++ l) (p.length + i) = wd l i := by
  unfold wd
  rw [List.getElem?_append_right (by omega), Nat.add_sub_cancel_left]
theorem kd_left {p l : List It} {i : Nat} (h : i < p.length) : kd (p ++ l) i = kd p i := by
  unfold kd
  rw [List.getElem?_append_left h]
theorem wd_left {p l : List It} {i : Nat} (h : i < p.length) : wd (p ++ l) i = wd p i := by
  unfold wd
  rw [List.getElem?_append_left h]
theorem good_append {p l : List It} (hp : Good p) (hl : Good l) : Good (p ++ l) := by
  intro i hi
  rw [List.length_append] at hi
  by_cases c : i < p.length
  · rw [kd_left c]; exact hp i c
  · obtain ⟨k, rfl⟩ := Nat.exists_eq_add_of_le (Nat.le_of_not_lt c)
    rw [kd_shift]
    exact hl k (by omega)
theorem pre_shift (p l : List It) (i : Nat) : pre (p ++ l) (p.length + i) = pre (p ++ l) p.length + pre l i := by
  induction i with
  | zero => rw [pre_zero]; simp
  | succ i ih =>
    rw [← Nat.add_assoc, pre_succ, pre_succ, ih, wd_shift]
    omega
theorem pre_left {p l : List It} {i : Nat} (h : i ≤ p.length) : pre (p ++ l) i = pre p i := by
  induction i with
  | zero => rfl
  | succ i ih => rw [pre_succ, pre_succ, ih (by omega), wd_left (by omega)]
theorem sum_shift (p l : List It) (a b : Nat) : sumI (p ++ l) (p.length + a) (p.length + b) = sumI l a b := by
  unfold sumI
  rw [pre_shift, pre_shift]
  omega
theorem sum_left {p l : List It} {a b : Nat} (ha : a ≤ p.length) (hb : b ≤ p.length) : sumI (p ++ l) a b = sumI p a b := by
  unfold sumI
  rw [pre_left ha, pre_left hb]
theorem behind_shift (p l : List It) (i : Nat) : behind (p ++ l) (p.length + i) = p.length + behind l i := by
  obtain ⟨h1, h2, h3⟩ := behind_facts l i
  refine behind_of (by omega) (fun k hk hl => ?_) (by rw [kd_shift]; exact h3)
  obtain ⟨j, rfl⟩ := Nat.exists_eq_add_of_le (show p.length ≤ k by omega)
  rw [kd_shift]
  exact h2 j (by omega) (by omega)
theorem words_shift (p l : List It) (i : Nat) : wordsT (p ++ l) (p.length + i) = p.length + wordsT l i := by
  obtain ⟨h1, h2, h3⟩ := words_facts l i
  refine words_of (by omega) (fun k hk hl => ?_) (by rw [kd_shift]; exact h3)
  obtain ⟨j, rfl⟩ := Nat.exists_eq_add_of_le (show p.length ≤ k by omega)
  rw [kd_shift]
  exact h2 j (by omega) (by omega)
theorem cluster_shift (p l : List It) (i : Nat) : clusterT (p ++ l) (p.length + i) = p.length + clusterT l i := by
  unfold clusterT
  rw [kd_shift, List.length_append]
  by_cases h : i < l.length ∧ kd l i = 3
  · rw [if_pos h, if_pos ⟨by omega, h.2⟩]
    omega
  · rw [if_neg h, if_neg (by omega), words_shift]
theorem ext_go {l : List It} {w : Int} {a t : Nat} (c : clusterT l (behind l t) ≠ behind l t ∧ sumI l a (clusterT l (behind l t)) ≤ w) : extT l w a t = extT l w a (clusterT l (behind l t)) := by
  rw [extT, dif_pos c]
theorem ext_no {l : List It} {w : Int} {a t : Nat} (c : ¬ (clusterT l (behind l t) ≠ behind l t ∧ sumI l a (clusterT l (behind l t)) ≤ w)) : extT l w a t = t := by
  rw [extT, dif_neg c]
theorem fill_go {l : List It} {w : Int} {a : Nat} (h : a < l.length ∧ a < nextT l (toT l w a)) : fillT l w a = lineT l w a :: fillT l w (nextT l (toT l w a)) := by
  rw [fillT, dif_pos h]
theorem fill_no {l : List It} {w : Int} {a : Nat} (h : ¬ (a < l.length ∧ a < nextT l (toT l w a))) : fillT l w a = [] := by
  rw [fillT, dif_neg h]
theorem ext_shift (p l : List It) (w : Int) (a t : Nat) : extT (p ++ l) w (p.length + a) (p.length + t) = p.length + extT l w a t := by
  by_cases c : clusterT l (behind l t) ≠ behind l t ∧ sumI l a (clusterT l (behind l t)) ≤ w
  · rw [ext_go c, ext_go (l := p ++ l) (by rw [behind_shift, cluster_shift, sum_shift]; exact ⟨by omega, c.2⟩), behind_shift, cluster_shift]
    exact ext_shift p l w a _
  · rw [ext_no c, ext_no (l := p ++ l) (by rw [behind_shift, cluster_shift, sum_shift]; exact fun k => c ⟨by omega, k.2⟩)]
termination_by l.length - t
decreasing_by
  have h1 := cluster_facts (cluster_ne c.1)
  have h2 := (behind_facts l t).1
  have h3 := solid_lt (cluster_ne c.1)
  omega
theorem to_shift (p l : List It) (w : Int) (a : Nat) : toT (p ++ l) w (p.length + a) = p.length + toT l w a := by
  unfold toT
  rw [kd_shift, cluster_shift, ext_shift]
  split <;> rfl
theorem next_shift (p l : List It) (t : Nat) : nextT (p ++ l) (p.length + t) = p.length + nextT l t := by
  unfold nextT
  rw [behind_shift, kd_shift, Nat.add_assoc, behind_shift]
  split <;> rfl
/-- a line so many places on -/
def lineS (n : Nat) (x : Ln) : Ln := (n + x.1, n + x.2.1, x.2.2)
theorem fill_shift (p l : List It) (w : Int) (a : Nat) : fillT (p ++ l) w (p.length + a) = (fillT l w a).map (lineS p.length) := by
  by_cases h : a < l.length ∧ a < nextT l (toT l w a)
  · rw [fill_go h, fill_go (l := p ++ l) (by rw [to_shift, next_shift, List.length_append]; omega), to_shift, next_shift, List.map_cons]
    have e : lineT (p ++ l) w (p.length + a) = lineS p.length (lineT l w a) := by
      unfold lineT lineS
      rw [to_shift, sum_shift]
    rw [e, fill_shift p l w _]
  · rw [fill_no h, fill_no (l := p ++ l) (by rw [to_shift, next_shift, List.length_append]; omega)]
    rfl
termination_by l.length - a
decreasing_by omega
theorem lineS_zero (r : List Ln) : r.map (lineS 0) = r := by
  induction r with
  | nil => rfl
  | cons x r ih => rw [List.map_cons, ih]; unfold lineS; simp

/-- what stands behind stops what stands ahead: blanks alone, or blanks and a line's end -/
def Halts (c : List It) : Prop := kd c (behind c 0) = 2 ∨ kd c (behind c 0) = 9
theorem halts_no {c : List It} (h : Halts c) : ¬ Solid c (behind c 0) := by
  unfold Solid
  unfold Halts at h
  omega
theorem halts_zero {c : List It} (h : Halts c) : kd c 0 ≠ 0 := by
  intro k
  rw [Halts, behind_self (by omega)] at h
  omega
theorem behind_left {p c : List It} {i : Nat} (h : behind p i < p.length) : behind (p ++ c) i = behind p i := by
  obtain ⟨h1, h2, h3⟩ := behind_facts p i
  exact behind_of h1 (fun k hk hl => by rw [kd_left (by omega)]; exact h2 k hk hl) (by rw [kd_left h]; exact h3)
theorem behind_past {p : List It} (c : List It) {i : Nat} (hi : i ≤ p.length) (h : p.length ≤ behind p i) : behind (p ++ c) i = p.length + behind c 0 := by
  obtain ⟨h1, h2, h3⟩ := behind_facts p i
  obtain ⟨g1, g2, g3⟩ := behind_facts c 0
  refine behind_of (by omega) (fun k hk hl => ?_) (by rw [kd_shift]; exact g3)
  by_cases q : k < p.length
  · rw [kd_left q]; exact h2 k hk (by omega)
  · obtain ⟨j, rfl⟩ := Nat.exists_eq_add_of_le (Nat.le_of_not_lt q)
    rw [kd_shift]
    exact g2 j (Nat.zero_le _) (by omega)
theorem cluster_left {p c : List It} (hc : kd c 0 ≠ 0) {i : Nat} (h : i < p.length) : clusterT (p ++ c) i = clusterT p i := by
  unfold clusterT
  rw [kd_left h, List.length_append]
  by_cases k : kd p i = 3
  · rw [if_pos ⟨by omega, k⟩, if_pos ⟨h, k⟩]
  · rw [if_neg (by omega), if_neg (by omega)]
    obtain ⟨h1, h2, h3⟩ := words_facts p i
    have hle : wordsT p i ≤ p.length := by
      refine Nat.le_of_not_lt (fun d => ?_)
      have := h2 p.length (by omega) d
      rw [kd_end (Nat.le_refl _)] at this
      exact absurd this (by decide)
    refine words_of h1 (fun k hk hl => by rw [kd_left (by omega)]; exact h2 k hk hl) ?_
    by_cases e : wordsT p i < p.length
    · rw [kd_left e]; exact h3
    · rw [show wordsT p i = p.length + 0 by omega, kd_shift]
      exact hc
theorem ext_left {p c : List It} (hc : Halts c) (w : Int) {a : Nat} (ha : a ≤ p.length) (t : Nat) (ht : t ≤ p.length) : extT (p ++ c) w a t = extT p w a t := by
  by_cases hb : behind p t < p.length
  · have e1 := behind_left (c := c) hb
    have e2 := cluster_left (halts_zero hc) hb
    have hle : clusterT p (behind p t) ≤ p.length := by
      by_cases s : Solid p (behind p t)
      · exact (cluster_facts s).2.1
      · rw [cluster_no s]; omega
    have e3 := sum_left (l := c) ha hle
    by_cases k : clusterT p (behind p t) ≠ behind p t ∧ sumI p a (clusterT p (behind p t)) ≤ w
    · rw [ext_go k, ext_go (l := p ++ c) (by rw [e1, e2, e3]; exact k), e1, e2]
      exact ext_left hc w ha _ hle
    · rw [ext_no k, ext_no (l := p ++ c) (by rw [e1, e2, e3]; exact k)]
  · have n1 : clusterT p (behind p t) = behind p t := cluster_no (fun s => hb (solid_lt s))
    have e1 := behind_past c ht (by omega)
    have n2 : clusterT (p ++ c) (behind (p ++ c) t) = behind (p ++ c) t := by
      rw [e1, cluster_shift, cluster_no (halts_no hc)]
    rw [ext_no (fun k => k.1 n1), ext_no (l := p ++ c) (fun k => k.1 n2)]
termination_by p.length - t
decreasing_by
  have h1 := cluster_facts (cluster_ne k.1)
  have h2 := (behind_facts p t).1
  omega
theorem to_left {p c : List It} (hc : Halts c) (w : Int) {a : Nat} (ha : a < p.length) : toT (p ++ c) w a = toT p w a := by
  unfold toT
  rw [kd_left ha, cluster_left (halts_zero hc) ha]
  by_cases h2 : kd p a = 2
  · rw [if_pos h2, if_pos h2]
  · rw [if_neg h2, if_neg h2]
    refine ext_left hc w (by omega) _ ?_
    by_cases s : Solid p a
    · exact (cluster_facts s).2.1
    · rw [cluster_no s]; omega
theorem next_left {p c : List It} {t : Nat} (h : nextT p t < p.length) : nextT (p ++ c) t = nextT p t := by
  unfold nextT at h ⊢
  by_cases h2 : kd p (behind p t) = 2
  · rw [if_pos h2] at h ⊢
    have hb : behind p t < p.length := kd_lt (by omega)
    rw [behind_left hb, kd_left hb, if_pos h2, behind_left h]
  · rw [if_neg h2] at h ⊢
    rw [behind_left h, kd_left h, if_neg h2]
/-- lines of items with others behind them, that stop them -/
theorem fill_left {p c : List It} (hg : Good p) (hgc : Good (p ++ c)) (hc : Halts c) (w : Int) (rest : List Ln) (a : Nat) (hs : St p a) (ha : a < p.length)
    (hr : ∀ b t, b < p.length → Ends p w b t → p.length ≤ nextT p t → fillT (p ++ c) w (nextT (p ++ c) t) = rest) : fillT (p ++ c) w a = fillT p w a ++ rest := by
  have E := ends_T hg w hs.no ha
  have N := next_facts E
  rw [fill_cons hgc w (by rw [kd_left ha]; exact hs.no) (by rw [List.length_append]; omega), fill_cons hg w hs.no ha]
  have e : lineT (p ++ c) w a = lineT p w a := by
    unfold lineT
    rw [to_left hc w ha, sum_left (by omega) E.hi]
  rw [e, to_left hc w ha, List.cons_append]
  refine congrArg _ ?_
  by_cases k : nextT p (toT p w a) < p.length
  · rw [next_left k]
    exact fill_left hg hgc hc w rest _ N.2.2.2.1 k hr
  · rw [hr a _ ha E (by omega), fill_end (a := nextT p (toT p w a)) (by omega)]
    rfl
termination_by p.length - a
decreasing_by omega

/-- behind a word or a box and a line's end, lines are filled as if they began there -/
theorem apart_T {p b : List It} (hp : Good p) (hb : Good b) (w : Int) (x : It) (hx : x.1 = 2) (h0 : 0 < p.length) (hs : Solid p (p.length - 1)) :
    linesT (p ++ x :: b) w = linesT p w ++ (linesT b w).map (lineS (p.length + 1)) := by
  have k0 : kd (x :: b) 0 = 2 := hx
  have hc : Halts (x :: b) := by
    unfold Halts
    rw [behind_self (by omega)]
    exact .inl k0
  have hgc : Good (p ++ x :: b) := by
    refine good_append hp (fun i hi => ?_)
    cases i with
    | zero => omega
    | succ i =>
      have := hb i (by simpa using hi)
      exact this
  have hlast : kd p (p.length - 1) ≠ 1 := by unfold Solid at hs; omega
  have h1 : behind p 0 ≤ p.length - 1 := behind_le p (Nat.zero_le _) hlast
  unfold linesT
  rw [behind_left (by omega)]
  refine fill_left hp hgc hc w _ _ (st_first p) (by omega) (fun a t ha E hn => ?_)
  have ht : p.length ≤ behind p t := by
    refine Nat.le_of_not_lt (fun q => ?_)
    unfold nextT at hn
    by_cases h2 : kd p (behind p t) = 2
    · rw [if_pos h2] at hn
      have : behind p t ≠ p.length - 1 := by
        intro e
        rw [e] at h2
        unfold Solid at hs
        omega
      have := behind_le p (i := behind p t + 1) (j := p.length - 1) (by omega) hlast
      omega
    · rw [if_neg h2] at hn
      omega
  have e1 := behind_past (x :: b) E.hi ht
  rw [behind_self (l := x :: b) (i := 0) (by omega)] at e1
  have e2 : nextT (p ++ x :: b) t = (p ++ [x]).length + behind b 0 := by
    unfold nextT
    rw [e1, kd_shift, if_pos k0]
    have := behind_shift (p ++ [x]) b 0
    rw [List.append_assoc, List.length_append] at this
    simpa using this
  rw [e2, show p ++ x :: b = (p ++ [x]) ++ b by simp, fill_shift]
  simp
/-- blanks alone -/
def Blanks (c : List It) : Prop := ∀ i, i < c.length → kd c i = 1
theorem blanks_behind {c : List It} (h : Blanks c) {i : Nat} (hi : i ≤ c.length) : behind c i = c.length :=
  behind_of hi (fun k _ hl => h k hl) (by rw [kd_end (Nat.le_refl _)]; decide)
/-- blanks behind all items change nothing -/
theorem behind_T {l c : List It} (hl : Good l) (hc : Blanks c) (w : Int) : linesT (l ++ c) w = linesT l w := by
  have hb := blanks_behind hc (Nat.zero_le _)
  have hh : Halts c := by
    unfold Halts
    rw [hb, kd_end (Nat.le_refl _)]
    exact .inr rfl
  have hgc : Good (l ++ c) := good_append hl (fun i hi => by rw [hc i hi]; decide)
  unfold linesT
  by_cases h : behind l 0 < l.length
  · rw [behind_left h]
    refine (fill_left hl hgc hh w [] _ (st_first l) h (fun a t ha E hn => ?_)).trans (List.append_nil _)
    refine fill_end ?_
    rw [List.length_append]
    unfold nextT at hn ⊢
    by_cases h2 : kd l (behind l t) = 2
    · rw [if_pos h2] at hn
      have hlt : behind l t < l.length := kd_lt (by omega)
      rw [behind_left hlt, kd_left hlt, if_pos h2, behind_past c (by omega) hn, hb]
      exact Nat.le_refl _
    · rw [if_neg h2] at hn
      have e1 := behind_past c E.hi hn
      rw [e1, hb, if_neg (by rw [kd_shift, kd_end (Nat.le_refl _)]; decide)]
      exact Nat.le_refl _
  · rw [behind_past c (Nat.zero_le _) (by omega), hb, fill_end (by rw [List.length_append]; exact Nat.le_refl _), fill_end (by omega)]
/-- blanks ahead of all items change places -/
theorem ahead_T {l c : List It} (hc : Blanks c) (w : Int) : linesT (c ++ l) w = (linesT l w).map (lineS c.length) := by
  have e := behind_past l (Nat.zero_le _) (Nat.le_of_eq (blanks_behind hc (Nat.zero_le _)).symm)
  unfold linesT
  rw [e, fill_shift]

end Go.Proofs.Ytpfeiiabplaghaa
