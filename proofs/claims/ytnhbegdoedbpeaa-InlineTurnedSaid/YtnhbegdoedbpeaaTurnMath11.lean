/-
  Spots turned: from which one on they stand changes neither the line's base, its height, nor how wide they are together.
-/
import Derived.Test.YtnhbegdoedbpeaaNearMath11
namespace Go.Proofs.Ytnhbegdoedbpeaa
open Go.RowKit

/-- where the k-th of the turned spots stood -/
def atR (n f k : Nat) : Nat := (f + k) % n
/-- so many of the spots, from the f-th one on, the first ones behind the last one -/
def rot (l : List Sp) (f k : Nat) : List Sp := (List.range k).map (fun j => sp l (atR l.length f j))
theorem rot_len (l : List Sp) (f k : Nat) : (rot l f k).length = k := by simp [rot]
theorem rot_succ (l : List Sp) (f k : Nat) : rot l f (k + 1) = rot l f k ++ [sp l (atR l.length f k)] := by simp [rot, List.range_succ]
theorem rot_sp (l : List Sp) (f k : Nat) {j : Nat} (h : j < k) : sp (rot l f k) j = sp l (atR l.length f j) := by
  rw [sp_get (by rw [rot_len]; exact h)]
  simp [rot]
theorem atR_lt {n f k : Nat} (h : 0 < n) : atR n f k < n := Nat.mod_lt _ h
theorem atR_is {n f k : Nat} (hf : f < n) (hk : k < n) : atR n f k = if f + k < n then f + k else f + k - n := by
  unfold atR
  split
  · next h => exact Nat.mod_eq_of_lt h
  · next h => rw [Nat.mod_eq_sub_mod (by omega), Nat.mod_eq_of_lt (by omega)]
theorem atR_back {n f i : Nat} (hf : f < n) (hi : i < n) : ∃ k, k < n ∧ atR n f k = i := by
  by_cases h : f ≤ i
  · exact ⟨i - f, by omega, by rw [atR_is hf (by omega), if_pos (by omega)]; omega⟩
  · exact ⟨i + n - f, by omega, by rw [atR_is hf (by omega), if_neg (by omega)]; omega⟩
/-- two rows of as many spots, each one's in the other one -/
structure Both (l m : List Sp) : Prop where
  len : m.length = l.length
  to : ∀ i, i < l.length → ∃ j, j < l.length ∧ sp m j = sp l i
  of : ∀ j, j < l.length → ∃ i, i < l.length ∧ sp m j = sp l i
theorem rot_both (l : List Sp) (f : Nat) (hf : f < l.length) : Both l (rot l f l.length) := by
  refine ⟨rot_len _ _ _, fun i hi => ?_, fun j hj => ⟨_, atR_lt (by omega), rot_sp l f _ hj⟩⟩
  obtain ⟨k, hk, e⟩ := atR_back hf hi
  exact ⟨k, hk, by rw [rot_sp l f _ hk, e]⟩
theorem both_base {l m : List Sp} (h : Both l m) (u : Int) : baseT m u = baseT l u := by
  unfold baseT
  rw [h.len]
  have a1 := upS_ge l u l.length
  have b1 := upS_ge m u l.length
  apply Int.le_antisymm
  · rcases upS_at m u l.length with e | ⟨j, hj, h1, h2⟩
    · rw [e]; exact a1.1
    · obtain ⟨i, hi, e⟩ := h.of j hj
      rw [← h2]
      have := a1.2 i hi (by unfold sa at h1 ⊢; rw [← e]; exact h1)
      unfold su at this ⊢
      rw [e]
      exact this
  · rcases upS_at l u l.length with e | ⟨j, hj, h1, h2⟩
    · rw [e]; exact b1.1
    · obtain ⟨i, hi, e⟩ := h.to j hj
      rw [← h2]
      have := b1.2 i hi (by unfold sa at h1 ⊢; rw [e]; exact h1)
      unfold su at this ⊢
      rw [← e]
      exact this
theorem both_down {l m : List Sp} (h : Both l m) (u : Int) : dnS m u l.length = dnS l u l.length := by
  have a1 := dnS_ge l u l.length
  have b1 := dnS_ge m u l.length
  apply Int.le_antisymm
  · rcases dnS_at m u l.length with e | ⟨j, hj, h1, h2⟩
    · rw [e]; exact a1.1
    · obtain ⟨i, hi, e⟩ := h.of j hj
      rw [← h2]
      have := a1.2 i hi (by unfold sa at h1 ⊢; rw [← e]; exact h1)
      unfold sd at this ⊢
      rw [e]
      exact this
  · rcases dnS_at l u l.length with e | ⟨j, hj, h1, h2⟩
    · rw [e]; exact b1.1
    · obtain ⟨i, hi, e⟩ := h.to j hj
      rw [← h2]
      have := b1.2 i hi (by unfold sa at h1 ⊢; rw [e]; exact h1)
      unfold sd at this ⊢
      rw [← e]
      exact this
theorem both_height {l m : List Sp} (h : Both l m) (u d : Int) : heightT m u d = heightT l u d := by
  have hb := both_base h u
  unfold baseT at hb
  unfold heightT
  rw [hb, h.len, both_down h]
  generalize upS l u l.length + dnS l d l.length = t
  have a1 := hS_ge l t l.length
  have b1 := hS_ge m t l.length
  apply Int.le_antisymm
  · rcases hS_at m t l.length with e | ⟨j, hj, h1, h2⟩
    · rw [e]; exact a1.1
    · obtain ⟨i, hi, e⟩ := h.of j hj
      rw [← h2]
      have := a1.2 i hi (by unfold sa at h1 ⊢; rw [← e]; exact h1)
      unfold su sd at this ⊢
      rw [e]
      exact this
  · rcases hS_at l t l.length with e | ⟨j, hj, h1, h2⟩
    · rw [e]; exact b1.1
    · obtain ⟨i, hi, e⟩ := h.to j hj
      rw [← h2]
      have := b1.2 i hi (by unfold sa at h1 ⊢; rw [e]; exact h1)
      unfold su sd at this ⊢
      rw [← e]
      exact this
theorem both_near {l m : List Sp} {u d x : Int} {g : Nat} (h : Both l m) (hn : NearL l u d x g) : NearL m u d x g := by
  refine ⟨by rw [h.len]; exact hn.len, hn.lines, hn.u, hn.d, hn.width, ?_, ?_, ?_, ?_⟩
  all_goals (intro j hj; rw [h.len] at hj; obtain ⟨i, hi, e⟩ := h.of j hj)
  · unfold sa; rw [e]; exact hn.al i hi
  · unfold sw; rw [e]; exact hn.w i hi
  · unfold su; rw [e]; exact hn.up i hi
  · unfold sd; rw [e]; exact hn.dn i hi
theorem rot_sum (l : List Sp) (f : Nat) (hf : f < l.length) (k : Nat) (hk : k ≤ l.length) : sumS (rot l f l.length) k = if f + k ≤ l.length then sumS l (f + k) - sumS l f else sumS l l.length - sumS l f + sumS l (f + k - l.length) := by
  induction k with
  | zero => rw [if_pos (by omega), sumS_zero, Nat.add_zero, Int.sub_self]
  | succ k ih =>
    rw [sumS_succ (by rw [rot_len]; omega), ih (by omega)]
    have e : sw (rot l f l.length) k = sw l (atR l.length f k) := by
      unfold sw
      rw [rot_sp l f _ (by omega)]
    rw [e, atR_is hf (by omega)]
    by_cases h1 : f + k < l.length
    · rw [if_pos (by omega), if_pos h1, if_pos (by omega), show f + (k + 1) = f + k + 1 by omega, sumS_succ h1]
      omega
    · rw [if_neg h1, if_neg (show ¬ f + (k + 1) ≤ l.length by omega), show f + (k + 1) - l.length = f + k - l.length + 1 by omega, sumS_succ (by omega)]
      by_cases h2 : f + k ≤ l.length
      · have h3 : f + k = l.length := by omega
        rw [if_pos h2, h3, Nat.sub_self, sumS_zero]
        omega
      · rw [if_neg h2]
        omega
theorem rot_lead (l : List Sp) (f : Nat) (hf : f < l.length) (x : Int) (g : Nat) : leadT (rot l f l.length) x g = leadT l x g := by
  have h := rot_sum l f hf l.length (Nat.le_refl _)
  have e : sumS (rot l f l.length) l.length = sumS l l.length := by
    rw [h]
    by_cases h0 : f = 0
    · subst h0
      rw [if_pos (by omega), sumS_zero, Nat.zero_add]
      omega
    · rw [if_neg (by omega), show f + l.length - l.length = f by omega]
      omega
  unfold leadT restT
  rw [rot_len, e]
end Go.Proofs.Ytnhbegdoedbpeaa
