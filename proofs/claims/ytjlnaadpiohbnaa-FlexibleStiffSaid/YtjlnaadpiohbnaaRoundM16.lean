/-
  A round of boxes that are settled: what is left, bounds; what of memory has turned.
-/
import Derived.Test.YtjlnaadpiohbnaaCells16
import Derived.Test.YtjlnaadpiohbnaaShare
namespace Go.Proofs.Ytjlnaadpiohbnaa
open Go.RowKit

theorem b_nx16 {w0 W W' : World} (h : Below w0.heap.size w0 W) (hb : Below W.heap.size W W') : Below w0.heap.size w0 W' := h.trans (hb.mono h.size)
/-- nothing but two blocks, and younger ones, has turned -/
structure But2 (B a b : Nat) (W W' : World) : Prop where
  below : Below B W W'
  rest : ∀ k, k < W.heap.size → k ≠ a → k ≠ b → W'.heap[k]? = W.heap[k]?
section
variable {B a b : Nat} {W W' W2 : World}
theorem But2.refl (B a b : Nat) (W : World) : But2 B a b W W := ⟨Below.refl _ _, fun _ _ _ _ => rfl⟩
theorem But2.trans (h : But2 B a b W W') (h' : But2 B a b W' W2) : But2 B a b W W2 := ⟨h.below.trans h'.below, fun k hk h1 h2 => (h'.rest k (Nat.lt_of_lt_of_le hk h.below.size) h1 h2).trans (h.rest k hk h1 h2)⟩
theorem But2.of (hB : B ≤ W.heap.size) (h : Below W.heap.size W W') : But2 B a b W W' := ⟨h.mono hB, fun k hk _ _ => h.block k hk⟩
theorem But2.next (h : But2 B a b W W') (hB : B ≤ W.heap.size) (h' : Below W'.heap.size W' W2) : But2 B a b W W2 := h.trans (.of (Nat.le_trans hB h.below.size) h')
theorem But2.cellA (h : But2 B a b W W') (hB : B ≤ a) (j : Nat) (u : Value) : But2 B a b W (W'.setCell ⟨a, j, none⟩ u) :=
  ⟨h.below.setCell hB _, fun k hk h1 h2 => by
    have := h.rest k hk h1 h2
    have hn : a ≠ k := fun e => h1 e.symm
    simpa [World.setCell, Array.getElem?_modify, hn] using this⟩
theorem But2.cellB (h : But2 B a b W W') (hB : B ≤ b) (j : Nat) (u : Value) : But2 B a b W (W'.setCell ⟨b, j, none⟩ u) :=
  ⟨h.below.setCell hB _, fun k hk h1 h2 => by
    have := h.rest k hk h1 h2
    have hn : b ≠ k := fun e => h2 e.symm
    simpa [World.setCell, Array.getElem?_modify, hn] using this⟩
theorem CellsB.but2 {g n : Nat} {F : Nat → Value} (h : CellsB W g n F) (hb : But2 B a b W W') (h1 : g ≠ a) (h2 : g ≠ b) : CellsB W' g n F := h.same (hb.rest g h.lt h1 h2) hb.below.size
end
theorem whole_ints {W : World} {g n : Nat} {T : TypeId} {f : Nat → Int} (h : Whole W g T (cellsOf .i64 n f)) : IntsB W g n f :=
  ⟨h.lt, fun i hi => by rw [h.cell]; exact cellsOf_get hi, fun i _ => h.frozen i⟩
/-- boxes that may be -/
structure GoodT (x : It16) : Prop where
  hbase : 0 ≤ x.base ∧ x.base ≤ 1099511627776
  hleast : 0 ≤ x.least ∧ x.least ≤ 1099511627776
  hmost : 0 ≤ x.most ∧ x.most ≤ 1099511627776
  hgrow : 0 ≤ x.grow ∧ x.grow ≤ 1000
  hshrink : 0 ≤ x.shrink ∧ x.shrink ≤ 1000
theorem GoodT.w {x : It16} (h : GoodT x) (g : Bool) : 0 ≤ wI g x ∧ wI g x ≤ 1125899906842624 := by
  have h1 := h.hbase; have h4 := h.hgrow; have h5 := h.hshrink
  unfold wI
  split
  · omega
  · have a : x.shrink * x.base ≤ 1000 * x.base := Int.mul_le_mul_of_nonneg_right h5.2 h1.1
    have b : 0 ≤ x.shrink * x.base := Int.mul_nonneg h5.1 h1.1
    omega
theorem GoodT.c {x : It16} (h : GoodT x) (y : Int) : 0 ≤ cI x y ∧ cI x y ≤ 1099511627776 := by
  have h2 := h.hleast; have h3 := h.hmost
  unfold cI
  omega
/-- what is left behind the first so many -/
def leftP (l : List It16) (R : Int) (out : Nat → Int) (S : Nat → Bool) (k : Nat) : Int := R - sumB (fun i => if S i = true then out i else (itA l i).base) k
theorem leftP_succ (l : List It16) (R : Int) (out : Nat → Int) (S : Nat → Bool) (k : Nat) : leftP l R out S (k + 1) = leftP l R out S k - (if S k = true then out k else (itA l k).base) := by
  unfold leftP
  rw [sumB]
  omega
theorem leftP_bd {l : List It16} {R : Int} {out : Nat → Int} {S : Nat → Bool} {k : Nat} (hk : k ≤ 2048) (hR : -9007199254740992 ≤ R ∧ R ≤ 9007199254740992) (hl : ∀ i, i < k → GoodT (itA l i)) (ho : ∀ i, i < k → S i = true → 0 ≤ out i ∧ out i ≤ 1099511627776) : -11258999068426240 ≤ leftP l R out S k ∧ leftP l R out S k ≤ 11258999068426240 := by
  have h := sumB_bd (f := fun i => if S i = true then out i else (itA l i).base) (c := 1099511627776) (n := k) (fun i hi => by
    have h1 := (hl i hi).hbase
    have h2 := ho i hi
    split
    · next e => have := h2 e; omega
    · omega)
  unfold leftP
  omega
def wP (l : List It16) (g : Bool) (S : Nat → Bool) (k i : Nat) : Int := if i < k then ((wsR l g S i : Nat) : Int) else 0
def outP (l : List It16) (out : Nat → Int) (S : Nat → Bool) (X : Nat → Int) (k i : Nat) : Int := if i < k then outR l out S X i else out i
def chP (l : List It16) (S : Nat → Bool) (X : Nat → Int) (k i : Nat) : Int := if i < k then chR l S X i else 0
def setP (l : List It16) (n : Nat) (S : Nat → Bool) (X : Nat → Int) (k i : Nat) : Bool := if i < k then setR l n S X i else S i
theorem wP_set (l : List It16) (g : Bool) (S : Nat → Bool) (k : Nat) {u : Int} (h : ((wsR l g S k : Nat) : Int) = u) (i : Nat) : (if i = k then Value.int .i64 u else .int .i64 (wP l g S k i)) = .int .i64 (wP l g S (k + 1) i) := by
  unfold wP
  by_cases e : i = k
  · subst e; rw [if_pos rfl, if_pos (Nat.lt_succ_self _), h]
  · rw [if_neg e]
    by_cases h' : i < k
    · rw [if_pos h', if_pos (by omega)]
    · rw [if_neg h', if_neg (by omega)]
theorem wP_same (l : List It16) (g : Bool) (S : Nat → Bool) (k : Nat) (h : wsR l g S k = 0) (i : Nat) : wP l g S k i = wP l g S (k + 1) i := by
  unfold wP
  by_cases e : i = k
  · subst e; rw [if_neg (Nat.lt_irrefl _), if_pos (Nat.lt_succ_self _), h]; rfl
  · by_cases h' : i < k
    · rw [if_pos h', if_pos (by omega)]
    · rw [if_neg h', if_neg (by omega)]
theorem outP_set (l : List It16) (out : Nat → Int) (S : Nat → Bool) (X : Nat → Int) (k : Nat) {u : Int} (h : outR l out S X k = u) (i : Nat) : (if i = k then Value.int .i64 u else .int .i64 (outP l out S X k i)) = .int .i64 (outP l out S X (k + 1) i) := by
  unfold outP
  by_cases e : i = k
  · subst e; rw [if_pos rfl, if_pos (Nat.lt_succ_self _), h]
  · rw [if_neg e]
    by_cases h' : i < k
    · rw [if_pos h', if_pos (by omega)]
    · rw [if_neg h', if_neg (by omega)]
theorem outP_same (l : List It16) (out : Nat → Int) (S : Nat → Bool) (X : Nat → Int) (k : Nat) (h : outR l out S X k = out k) (i : Nat) : outP l out S X k i = outP l out S X (k + 1) i := by
  unfold outP
  by_cases e : i = k
  · subst e; rw [if_neg (Nat.lt_irrefl _), if_pos (Nat.lt_succ_self _), h]
  · by_cases h' : i < k
    · rw [if_pos h', if_pos (by omega)]
    · rw [if_neg h', if_neg (by omega)]
theorem chP_set (l : List It16) (S : Nat → Bool) (X : Nat → Int) (k : Nat) {u : Int} (h : chR l S X k = u) (i : Nat) : (if i = k then Value.int .i64 u else .int .i64 (chP l S X k i)) = .int .i64 (chP l S X (k + 1) i) := by
  unfold chP
  by_cases e : i = k
  · subst e; rw [if_pos rfl, if_pos (Nat.lt_succ_self _), h]
  · rw [if_neg e]
    by_cases h' : i < k
    · rw [if_pos h', if_pos (by omega)]
    · rw [if_neg h', if_neg (by omega)]
theorem chP_same (l : List It16) (S : Nat → Bool) (X : Nat → Int) (k : Nat) (h : chR l S X k = 0) (i : Nat) : chP l S X k i = chP l S X (k + 1) i := by
  unfold chP
  by_cases e : i = k
  · subst e; rw [if_neg (Nat.lt_irrefl _), if_pos (Nat.lt_succ_self _), h]
  · by_cases h' : i < k
    · rw [if_pos h', if_pos (by omega)]
    · rw [if_neg h', if_neg (by omega)]
theorem setP_set (l : List It16) (n : Nat) (S : Nat → Bool) (X : Nat → Int) (k : Nat) (h : setR l n S X k = true) (i : Nat) : (if i = k then Value.bool true else .bool (setP l n S X k i)) = .bool (setP l n S X (k + 1) i) := by
  unfold setP
  by_cases e : i = k
  · subst e; rw [if_pos rfl, if_pos (Nat.lt_succ_self _), h]
  · rw [if_neg e]
    by_cases h' : i < k
    · rw [if_pos h', if_pos (by omega)]
    · rw [if_neg h', if_neg (by omega)]
theorem setP_same (l : List It16) (n : Nat) (S : Nat → Bool) (X : Nat → Int) (k : Nat) (h : setR l n S X k = S k) (i : Nat) : setP l n S X k i = setP l n S X (k + 1) i := by
  unfold setP
  by_cases e : i = k
  · subst e; rw [if_neg (Nat.lt_irrefl _), if_pos (Nat.lt_succ_self _), h]
  · by_cases h' : i < k
    · rw [if_pos h', if_pos (by omega)]
    · rw [if_neg h', if_neg (by omega)]
/-- what a round leaves -/
def Rounded (l : List It16) (n : Nat) (g : Bool) (left : Int) (out : Nat → Int) (S : Nat → Bool) (gO gS : Nat) (w' : World) : Prop :=
  ∃ X, ShareOf (leftG g left) (wsR l g S) n X ∧ IntsB w' gO n (outR l out S X) ∧ BoolsB w' gS n (setR l n S X)

theorem share_bd16 {t : Int} {v : Nat → Nat} {n : Nat} {X : Nat → Int} (h : ShareOf t v n X) (ht : Fit t) (hn : n ≤ 2048) : ∀ i, i < n → -1099511629824 ≤ X i ∧ X i ≤ 1099511629824 := by
  intro i hi
  unfold Fit at ht
  obtain ⟨Y, hG, hX⟩ := h
  have h1 := hG.bd (by omega) hn i hi
  rw [hX i hi]
  split <;> omega
theorem ch_bd16 {l : List It16} {S : Nat → Bool} {X : Nat → Int} {n : Nat} (hn : n ≤ 2048) (hl : ∀ i, i < n → GoodT (itA l i)) (hX : ∀ i, i < n → -1099511629824 ≤ X i ∧ X i ≤ 1099511629824) : -9007199254740992 ≤ sumB (chR l S X) n ∧ sumB (chR l S X) n ≤ 9007199254740992 := by
  have h := sumB_bd (f := chR l S X) (c := 4398046511104) (n := n) (fun i hi => by
    have h1 := (hl i hi).hbase
    have h2 := (hl i hi).c ((itA l i).base + X i)
    have h3 := hX i hi
    unfold chR
    split <;> omega)
  omega
theorem askT_ok {l : List It16} {gap room : Int} (h : askT l gap room = 0) : l.length ≤ 2048 ∧ (0 ≤ gap ∧ gap ≤ 1099511627776) ∧ (-1 ≤ room ∧ room ≤ 1099511627776) ∧ ∀ i, i < l.length → GoodT (itA l i) ∧ (-1099511627776 ≤ (itA l i).outer ∧ (itA l i).outer ≤ 1099511627776) := by
  unfold askT at h
  split at h
  · cases h
  · next h1 =>
    split at h
    · cases h
    · next h2 =>
      split at h
      · cases h
      · next h3 =>
        have fg : Fit gap := by
          by_cases c : Fit gap
          · exact c
          · exact absurd (.inl (.inl c)) h3
        have fr : Fit room := by
          by_cases c : Fit room
          · exact c
          · exact absurd (.inl (.inr c)) h3
        unfold Fit at fg fr
        refine ⟨by omega, by omega, by omega, fun i hi => ?_⟩
        have hm : itA l i ∈ l := by rw [itA_get hi]; exact List.getElem_mem hi
        have nb : ¬ BadT (itA l i) := fun c => h2 ⟨_, hm, c⟩
        have ft : FitT (itA l i) := by
          by_cases c : FitT (itA l i)
          · exact c
          · exact absurd (.inr ⟨_, hm, c⟩) h3
        unfold BadT at nb
        unfold FitT Fit at ft
        refine ⟨⟨by omega, by omega, by omega, by omega, by omega⟩, by omega⟩
theorem around_succ (l : List It16) (gap : Int) (k : Nat) : aroundI l gap (k + 1) = aroundI l gap k + (itA l k).outer + (if 0 < k then gap else 0) := by
  unfold aroundI
  rw [sumB]
  by_cases h : k = 0
  · subst h; simp
  · have e : gap * (((k + 1 : Nat) : Int) - 1) = gap * ((k : Int) - 1) + gap := by
      rw [show ((k + 1 : Nat) : Int) - 1 = ((k : Int) - 1) + 1 by omega, Int.mul_add]; omega
    rw [if_neg (by omega), if_neg h, if_pos (by omega), e]
    omega
theorem around_bd2 {l : List It16} {gap : Int} {k : Nat} (hk : k ≤ 2048) (hg : 0 ≤ gap ∧ gap ≤ 1099511627776) (ho : ∀ i, i < k → -1099511627776 ≤ (itA l i).outer ∧ (itA l i).outer ≤ 1099511627776) : -4503599627370496 ≤ aroundI l gap k ∧ aroundI l gap k ≤ 4503599627370496 := by
  have h1 := sumB_bd (f := fun i => (itA l i).outer) (c := 1099511627776) (n := k) ho
  have h2 : 0 ≤ (if k = 0 then (0 : Int) else gap * ((k : Int) - 1)) ∧ (if k = 0 then (0 : Int) else gap * ((k : Int) - 1)) ≤ 2251799813685248 := by
    split
    · omega
    · have a : gap * ((k : Int) - 1) ≤ 1099511627776 * ((k : Int) - 1) := Int.mul_le_mul_of_nonneg_right hg.2 (by omega)
      have b : 0 ≤ gap * ((k : Int) - 1) := Int.mul_nonneg hg.1 (by omega)
      omega
  unfold aroundI
  omega
theorem all_bd2 {l : List It16} {k : Nat} (hk : k ≤ 2048) (hl : ∀ i, i < k → GoodT (itA l i)) : 0 ≤ allI l k ∧ allI l k ≤ 2251799813685248 := by
  have h1 := sumB_bd (f := fun i => firstI (itA l i)) (c := 1099511627776) (n := k) (fun i hi => by have := (hl i hi).c (itA l i).base; unfold firstI; omega)
  have h2 : 0 ≤ sumB (fun i => firstI (itA l i)) k := sumB_nn (fun i hi => ((hl i hi).c (itA l i).base).1)
  unfold allI
  omega
end Go.Proofs.Ytjlnaadpiohbnaa
