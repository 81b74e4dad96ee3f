/-
  A node's tree taken away, by depths: what is left, with that tree put back, is what it was: plain mathematics.
-/
import Derived.Test.YtmodegkpfdlccaaPutMath
namespace Go.Proofs.Ytmodegkpfdlccaa

/-- without so many depths from a place on -/
def cutD (dp : Nat → Int) (a k : Nat) (j : Nat) : Int := if j < a then dp j else dp (j + k)
section
variable {dp : Nat → Int} {n a k : Nat}
theorem put_cut (dp : Nat → Int) (a k : Nat) : putD (cutD dp a k) a k (fun i => dp (a + i)) = dp := by
  funext j
  unfold putD cutD
  split
  · rfl
  · split
    · show dp (a + (j - a)) = dp j
      rw [show a + (j - a) = j by omega]
    · rw [if_neg (by omega), show j - k + k = j by omega]
theorem cut_put (dp q : Nat → Int) (p k : Nat) : cutD (putD dp p k q) p k = dp := by
  funext j
  unfold cutD
  split
  · rename_i h; rw [put_lt h]
  · rename_i h; rw [put_ge (by omega)]
theorem cut_lt {j : Nat} (h : j < a) : cutD dp a k j = dp j := by unfold cutD; rw [if_pos h]
theorem cut_ge {j : Nat} (h : a ≤ j) : cutD dp a k j = dp (j + k) := by unfold cutD; rw [if_neg (by omega)]
/-- what is left of a tree without a node's tree, and that one: as it was put -/
theorem cut_at (hs : Steps dp n) (h0 : 0 < a) (ha : a < n) :
    ∃ u : Nat, parOf dp a = u ∧ PutAt (cutD dp a (endOf dp n a - a)) (n - (endOf dp n a - a)) u a (endOf dp n a - a) (fun i => dp (a + i)) := by
  obtain ⟨u, e, h1, h2, h3⟩ := parent_told hs h0 ha
  have bt := between_ge hs ha h3
  have g := endOf_gt dp ha
  have st := endOf_stop dp ha
  refine ⟨u, e, ?_⟩
  obtain ⟨s, hE⟩ : ∃ s, endOf dp n a = a + s := ⟨endOf dp n a - a, by omega⟩
  have dd : ∀ i, 0 < i → i < s → dp a < dp (a + i) := fun i hi1 hi2 => endOf_deep dp ha (by omega) (by omega)
  rw [hE] at g st ⊢
  rw [show a + s - a = s by omega]
  refine ⟨⟨by rw [cut_lt h0]; exact hs.1, fun i hi1 hi2 => ?_⟩, h1, by omega, by omega, fun j hj1 hj2 => ?_, ?_, ?_, fun i hi1 hi2 => ?_, fun i hi1 hi2 => ?_⟩
  · rcases Nat.lt_or_ge i a with c | c
    · rw [cut_lt c, cut_lt (by omega)]; exact hs.2 i hi1 (by omega)
    · rw [cut_ge c]
      have t := hs.2 (i + s) (by omega) (by omega)
      refine ⟨t.1, ?_⟩
      rcases Nat.lt_or_ge a i with c2 | c2
      · rw [cut_ge (by omega), show i - 1 + s = i + s - 1 by omega]; exact t.2
      · obtain rfl : i = a := by omega
        rw [cut_lt (by omega)]
        have t2 := hs.2 i hi1 (by omega)
        rcases st with c3 | c3
        · omega
        · omega
  · rw [cut_lt h1, cut_lt hj2]
    have := bt j hj1 hj2
    omega
  · rw [cut_lt h1, cut_ge (Nat.le_refl _)]
    rcases st with c | c
    · exact .inl (by omega)
    · exact .inr (by omega)
  · rw [cut_lt h1]
    show dp (a + 0) = _
    rw [Nat.add_zero]; omega
  · show dp (a + 0) < dp (a + i)
    rw [Nat.add_zero]; exact dd i hi1 hi2
  · show dp (a + i) ≤ dp (a + (i - 1)) + 1
    have t := (hs.2 (a + i) (by omega) (by omega)).2
    rw [show a + (i - 1) = a + i - 1 by omega]; exact t
/-- the number that a node has among its parent's kids -/
theorem PutAt.gap {dp q : Nat → Int} {n u p k : Nat} (h : PutAt dp n u p k q) (hp : p < endOf dp n u → dp p = dp u + 1) : GapAt dp n u (kidsAhead dp u p).length p := by
  have it := h.in_tree
  rcases Nat.lt_or_ge p (endOf dp n u) with c | c
  · left
    obtain ⟨s, hs⟩ : ∃ s, endOf dp n u - p = s + 1 := ⟨endOf dp n u - p - 1, by omega⟩
    rw [h.kids_old, List.getElem?_append_right (Nat.le_refl _), Nat.sub_self]
    unfold kidsBehind
    rw [hs, List.range'_succ, List.filter_cons_of_pos (by simp [hp c])]
    rfl
  · right
    obtain rfl : p = endOf dp n u := by omega
    have : kidsBehind dp n u (endOf dp n u) = [] := by unfold kidsBehind; simp
    refine ⟨?_, rfl⟩
    rw [h.kids_old, this, List.append_nil]
end
end Go.Proofs.Ytmodegkpfdlccaa
