/-
  Numbers' words as lists of bytes: plain mathematics; nothing of the program. 'word n' is the number's word; 'digs n' its digits, the least one first, and of each whether more follow; 'Got l r': r tells the number whose word the list l begins with, and how many bytes it has.
-/
import Derived.Lib.Hide
namespace Go.Proofs.Ytkjndgnjilfobaa

def word (n : Nat) : List Nat := if n < 128 then [n] else (n % 128 + 128) :: word (n / 128)
termination_by n
decreasing_by omega

def digs (n : Nat) : List (Fin 128 × Bool) := if h : n < 128 then [(⟨n, h⟩, false)] else (⟨n % 128, Nat.mod_lt _ (by omega)⟩, true) :: digs (n / 128)
termination_by n
decreasing_by omega

def byteOf (p : Fin 128 × Bool) : Nat := p.1.val + if p.2 then 128 else 0
theorem byteOf_lt (p : Fin 128 × Bool) : byteOf p < 256 := by
  unfold byteOf; have := p.1.isLt; split <;> omega

theorem word_small {n : Nat} (h : n < 128) : word n = [n] := by rw [word, if_pos h]
theorem word_big {n : Nat} (h : ¬ n < 128) : word n = (n % 128 + 128) :: word (n / 128) := by rw [word, if_neg h]
theorem digs_small {n : Nat} (h : n < 128) : digs n = [(⟨n, h⟩, false)] := by rw [digs, dif_pos h]
theorem digs_big {n : Nat} (h : ¬ n < 128) : digs n = (⟨n % 128, Nat.mod_lt _ (by omega)⟩, true) :: digs (n / 128) := by rw [digs, dif_neg h]

theorem digs_word (n : Nat) : (digs n).map byteOf = word n := by
  induction n using Nat.strongRecOn with
  | _ n ih =>
    by_cases h : n < 128
    · rw [digs_small h, word_small h]; rfl
    · rw [digs_big h, word_big h, List.map_cons, ih (n / 128) (by omega)]; rfl

theorem word_pos (n : Nat) : 0 < (word n).length := by
  by_cases h : n < 128
  · rw [word_small h]; simp
  · rw [word_big h]; simp

theorem word_len (n k : Nat) (h : n < 128 ^ (k + 1)) : (word n).length ≤ k + 1 := by
  induction k generalizing n with
  | zero => rw [word_small (by simpa using h)]; simp
  | succ k ih =>
    by_cases hs : n < 128
    · rw [word_small hs]; simp
    · rw [word_big hs, List.length_cons]
      have := ih (n / 128) (by rw [Nat.pow_succ] at h; omega)
      omega
theorem word_ten {n : Nat} (h : n < 18446744073709551616) : (word n).length ≤ 10 := word_len n 9 (by omega)
theorem digs_len (n : Nat) : (digs n).length = (word n).length := by rw [← digs_word, List.length_map]

theorem word_mono {n m : Nat} (h : n ≤ m) : (word n).length ≤ (word m).length := by
  induction m using Nat.strongRecOn generalizing n with
  | _ m ih =>
    by_cases hs : n < 128
    · rw [word_small hs]; exact word_pos m
    · rw [word_big hs, word_big (by omega : ¬ m < 128), List.length_cons, List.length_cons]
      have := ih (m / 128) (by omega) (n := n / 128) (by omega)
      omega

theorem word_byte (n : Nat) : ∀ x ∈ word n, x < 256 := by
  rw [← digs_word]
  intro x hx
  obtain ⟨p, _, rfl⟩ := List.mem_map.1 hx
  exact byteOf_lt p

/-- Two words that begin alike are one. -/
theorem word_inj {n m : Nat} {r s : List Nat} (h : word n ++ r = word m ++ s) : n = m := by
  induction n using Nat.strongRecOn generalizing m with
  | _ n ih =>
    by_cases hn : n < 128 <;> by_cases hm : m < 128
    · rw [word_small hn, word_small hm] at h; simp at h; exact h.1
    · rw [word_small hn, word_big hm] at h; simp at h; omega
    · rw [word_big hn, word_small hm] at h; simp at h; omega
    · rw [word_big hn, word_big hm] at h
      simp only [List.cons_append, List.cons.injEq] at h
      have := ih (n / 128) (by omega) h.2
      omega

/-- What the list l begins with. -/
def Got (l : List Nat) : Option (Nat × Nat) → Prop
  | some (n, k) => n < 18446744073709551616 ∧ k = (word n).length ∧ ∃ r, l = word n ++ r
  | none => ∀ n r, n < 18446744073709551616 → l ≠ word n ++ r

theorem Got.uniq {l : List Nat} : ∀ {r s : Option (Nat × Nat)}, Got l r → Got l s → r = s
  | none, none, _, _ => rfl
  | some (n, k), none, ⟨hn, _, r, h⟩, g => absurd h (g n r hn)
  | none, some (n, k), g, ⟨hn, _, r, h⟩ => absurd h (g n r hn)
  | some (n, k), some (m, j), ⟨_, hk, r, h⟩, ⟨_, hj, s, h'⟩ => by
    have : n = m := word_inj (h.symm.trans h')
    subst this; rw [hk, hj]
theorem Got.word (n : Nat) (r : List Nat) (h : n < 18446744073709551616) : Got (word n ++ r) (some (n, (Go.Proofs.Ytkjndgnjilfobaa.word n).length)) := ⟨h, rfl, r, rfl⟩

/-- The number of which these are the digits (of bytes, the last 7 bits of each). -/
def val : List Nat → Nat
  | [] => 0
  | c :: l => c % 128 + 128 * val l
theorem val_append (a b : List Nat) : val (a ++ b) = val a + 128 ^ a.length * val b := by
  induction a with
  | nil => simp [val]
  | cons c a ih =>
    simp only [List.cons_append, val, ih, List.length_cons, Nat.pow_succ]
    rw [Nat.mul_add, Nat.mul_assoc (128 ^ a.length) 128 (val b), Nat.mul_left_comm, ← Nat.mul_assoc]
    omega
theorem val_word (n : Nat) : val (word n) = n := by
  induction n using Nat.strongRecOn with
  | _ n ih =>
    by_cases h : n < 128
    · rw [word_small h]; simp [val]; omega
    · rw [word_big h]; simp only [val]; rw [ih (n / 128) (by omega)]; omega
theorem val_lt (l : List Nat) : val l < 128 ^ l.length := by
  induction l with
  | nil => simp [val]
  | cons c l ih => simp only [val, List.length_cons, Nat.pow_succ]; omega

/-- Bytes from 128 on, and one below 128 that is no idle nought, are a word. -/
theorem word_val (a : List Nat) (c : Nat) (ha : ∀ x ∈ a, 128 ≤ x ∧ x < 256) (hc : c < 128) (h0 : c ≠ 0 ∨ a = []) : word (val (a ++ [c])) = a ++ [c] := by
  induction a with
  | nil => simp only [List.nil_append, val]; rw [word_small (by omega)]; congr 1; omega
  | cons x a ih =>
    have hx := ha x (by simp)
    have hpos : 0 < val (a ++ [c]) := by
      rw [val_append]; simp only [val]
      rcases h0 with h0 | h0
      · have : 0 < 128 ^ a.length := Nat.pow_pos (by omega)
        have := Nat.mul_pos this (by omega : 0 < c % 128 + 128 * 0)
        omega
      · cases h0
    have hc' : c ≠ 0 := by rcases h0 with h0 | h0; exact h0; cases h0
    simp only [List.cons_append, val]
    rw [word_big (by omega)]
    rw [show (x % 128 + 128 * val (a ++ [c])) / 128 = val (a ++ [c]) by omega, ih (fun y hy => ha y (by simp [hy])) (.inl hc')]
    congr 1; omega

theorem word_last (n : Nat) : ∃ a c, word n = a ++ [c] ∧ (∀ x ∈ a, 128 ≤ x ∧ x < 256) ∧ c < 128 ∧ (c ≠ 0 ∨ a = []) := by
  induction n using Nat.strongRecOn with
  | _ n ih =>
    by_cases h : n < 128
    · exact ⟨[], n, by rw [word_small h]; rfl, by simp, h, .inr rfl⟩
    · obtain ⟨a, c, e, ha, hc, h0⟩ := ih (n / 128) (by omega)
      refine ⟨(n % 128 + 128) :: a, c, by rw [word_big h, e]; rfl, ?_, hc, .inl ?_⟩
      · intro x hx
        rcases List.mem_cons.1 hx with rfl | hx
        · omega
        · exact ha x hx
      · rcases h0 with h0 | h0
        · exact h0
        · subst h0
          intro h1; subst h1
          have := val_word (n / 128)
          rw [e] at this; simp [val] at this; omega

/-- The bytes ahead of the first one below 128 tell where a word ends. -/
theorem split_uniq {a b r s : List Nat} {c d : Nat} (ha : ∀ x ∈ a, 128 ≤ x) (hb : ∀ x ∈ b, 128 ≤ x) (hc : c < 128) (hd : d < 128) (h : a ++ c :: r = b ++ d :: s) : a = b ∧ c = d ∧ r = s := by
  induction a generalizing b with
  | nil =>
    cases b with
    | nil => simp at h; exact ⟨rfl, h.1, h.2⟩
    | cons y b => simp at h; have := hb y (by simp); omega
  | cons x a ih =>
    cases b with
    | nil => simp at h; have := ha x (by simp); omega
    | cons y b =>
      simp only [List.cons_append, List.cons.injEq] at h
      obtain ⟨h1, h2, h3⟩ := ih (fun z hz => ha z (by simp [hz])) (fun z hz => hb z (by simp [hz])) h.2
      exact ⟨by rw [h.1, h1], h2, h3⟩

theorem got_yes {a r : List Nat} {c : Nat} (ha : ∀ x ∈ a, 128 ≤ x ∧ x < 256) (hc : c < 128) (h0 : c ≠ 0 ∨ a = []) (hv : val (a ++ [c]) < 18446744073709551616) : Got (a ++ c :: r) (some (val (a ++ [c]), a.length + 1)) := by
  have e := word_val a c ha hc h0
  refine ⟨hv, by rw [e]; simp, r, by rw [e]; simp⟩
theorem got_no_nought {a r : List Nat} (ha : ∀ x ∈ a, 128 ≤ x ∧ x < 256) (h : a ≠ []) : Got (a ++ 0 :: r) none := by
  intro n s hn e
  obtain ⟨b, d, hw, hb, hd, h0⟩ := word_last n
  rw [hw, List.append_assoc] at e
  obtain ⟨h1, h2, -⟩ := split_uniq (fun x hx => (ha x hx).1) (fun x hx => (hb x hx).1) (by omega) hd e
  rcases h0 with h0 | h0
  · exact h0 h2.symm
  · exact h (h1.trans h0)
theorem got_no_great {a r : List Nat} {c : Nat} (ha : ∀ x ∈ a, 128 ≤ x ∧ x < 256) (hc : c < 128) (hv : 18446744073709551616 ≤ val (a ++ [c])) : Got (a ++ c :: r) none := by
  intro n s hn e
  obtain ⟨b, d, hw, hb, hd, h0⟩ := word_last n
  have hw' := hw
  rw [hw, List.append_assoc] at e
  obtain ⟨h1, h2, -⟩ := split_uniq (fun x hx => (ha x hx).1) (fun x hx => (hb x hx).1) hc hd e
  subst h1; subst h2
  have := val_word n
  rw [hw'] at this; omega
/-- Digits of which those seen are too many already. -/
theorem got_no_long {a r : List Nat} (ha : ∀ x ∈ a, 128 ≤ x) (h : 10 ≤ a.length) : Got (a ++ r) none := by
  intro n s hn e
  obtain ⟨b, d, hw, hb, hd, h0⟩ := word_last n
  have hlen := word_ten hn
  rw [hw] at hlen; simp at hlen
  rw [hw, List.append_assoc] at e
  have hi : (a ++ r)[b.length]? = some d := by rw [e]; simp
  rw [List.getElem?_append_left (by omega)] at hi
  have := ha d (List.mem_of_getElem? hi)
  omega
theorem got_no_short {a : List Nat} (ha : ∀ x ∈ a, 128 ≤ x) : Got a none := by
  intro n s hn e
  obtain ⟨b, d, hw, hb, hd, h0⟩ := word_last n
  rw [hw] at e
  have := ha d (by rw [e]; simp)
  omega
/-- Ten digits, of which the tenth is 2 at least, say 2^64 or more. -/
theorem got_no_tenth {a r : List Nat} {c : Nat} (ha : ∀ x ∈ a, 128 ≤ x ∧ x < 256) (h : a.length = 9) (hc : 2 ≤ c % 128) : Got (a ++ c :: r) none := by
  by_cases hs : c < 128
  · refine got_no_great ha hs ?_
    rw [val_append, h]; simp only [val]; omega
  · have : Got ((a ++ [c]) ++ r) none := got_no_long (fun x hx => by
      rcases List.mem_append.1 hx with hx | hx
      · exact (ha x hx).1
      · simp at hx; omega) (by simp [h])
    simpa using this

/-- The bytes are the words of these numbers, one behind the other. -/
def Parsed (l : List Nat) : Option (List Nat) → Prop
  | some ns => (∀ n ∈ ns, n < 18446744073709551616) ∧ l = ns.flatMap word
  | none => ∀ ns : List Nat, (∀ n ∈ ns, n < 18446744073709551616) → l ≠ ns.flatMap word

theorem flat_inj : ∀ {ns ms : List Nat}, ns.flatMap word = ms.flatMap word → ns = ms
  | [], [], _ => rfl
  | [], m :: ms, h => by have := word_pos m; have := congrArg List.length h; simp at this; omega
  | n :: ns, [], h => by have := word_pos n; have := congrArg List.length h; simp only [List.flatMap_nil, List.flatMap_cons, List.length_append, List.length_nil] at this; omega
  | n :: ns, m :: ms, h => by
    simp only [List.flatMap_cons] at h
    obtain rfl := word_inj h
    rw [flat_inj (List.append_cancel_left h)]
theorem Parsed.uniq {l : List Nat} : ∀ {r s : Option (List Nat)}, Parsed l r → Parsed l s → r = s
  | none, none, _, _ => rfl
  | some ns, none, ⟨h, e⟩, g => absurd e (g ns h)
  | none, some ns, g, ⟨h, e⟩ => absurd e (g ns h)
  | some ns, some ms, ⟨_, e⟩, ⟨_, e'⟩ => by rw [flat_inj (e.symm.trans e')]
theorem parsed_no {ns : List Nat} {l : List Nat} (hl : l ≠ []) (h : Got l none) : Parsed (ns.flatMap word ++ l) none := by
  intro ms hms e
  induction ns generalizing ms with
  | nil =>
    cases ms with
    | nil => simp at e; exact hl e
    | cons m ms => simp only [List.flatMap_nil, List.nil_append, List.flatMap_cons] at e; exact h m _ (hms m (by simp)) e
  | cons n ns ih =>
    cases ms with
    | nil => have := word_pos n; have := congrArg List.length e; simp only [List.flatMap_nil, List.flatMap_cons, List.length_append, List.length_nil] at this; omega
    | cons m ms =>
      simp only [List.flatMap_cons, List.append_assoc] at e
      obtain rfl := word_inj e
      exact ih ms (fun x hx => hms x (List.mem_cons_of_mem _ hx)) (List.append_cancel_left e)

theorem flat_snoc (ns : List Nat) (n : Nat) : (ns ++ [n]).flatMap word = ns.flatMap word ++ word n := by simp
theorem flat_len (ns : List Nat) (h : ∀ n ∈ ns, n < 18446744073709551616) : ns.length ≤ (ns.flatMap word).length ∧ (ns.flatMap word).length ≤ 10 * ns.length := by
  induction ns with
  | nil => simp
  | cons n ns ih =>
    have h1 := word_pos n
    have h2 := word_ten (h n (by simp))
    have := ih (fun x hx => h x (by simp [hx]))
    simp only [List.flatMap_cons, List.length_append, List.length_cons]
    omega
theorem flat_byte (ns : List Nat) : ∀ x ∈ ns.flatMap word, x < 256 := by
  intro x hx
  obtain ⟨n, _, h⟩ := List.mem_flatMap.1 hx
  exact word_byte n x h
end Go.Proofs.Ytkjndgnjilfobaa
