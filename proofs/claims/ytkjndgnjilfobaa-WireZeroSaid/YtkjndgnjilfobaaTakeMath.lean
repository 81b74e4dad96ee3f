/-
  What bytes begin with, by the letters b and l: plain mathematics.
-/
import Derived.Test.YtkjndgnjilfobaaRefTake
namespace Go.Proofs.Ytkjndgnjilfobaa

theorem form_l (v : WV) : form 108 v = word v.l.length ++ v.l.flatMap word := by unfold form; simp
theorem none_b {bl : List Nat} (h : ∀ n r, n < 18446744073709551616 → bl ≠ word n ++ r) : ∀ v r, Fits 98 v → Short v → Real v → form 98 v ++ r ≠ bl := fun v r _ _ hv e => by
  rw [form_b, List.append_assoc] at e
  exact h _ _ hv.2.2.2.2.1 e.symm
theorem none_l {bl : List Nat} (h : ∀ n r, n < 18446744073709551616 → bl ≠ word n ++ r) : ∀ v r, Fits 108 v → Short v → Real v → form 108 v ++ r ≠ bl := fun v r _ _ hv e => by
  rw [form_l, List.append_assoc] at e
  exact h _ _ hv.2.2.2.2.2 e.symm
theorem great_b {x : Nat} {bl t : List Nat} (h : bl = word x ++ t) (hx : 262144 < x) : ∀ v r, Fits 98 v → Short v → Real v → form 98 v ++ r ≠ bl := fun v r _ hs _ e => by
  rw [form_b, h, List.append_assoc] at e
  have := word_inj e
  have := hs.1
  omega
theorem great_l {x : Nat} {bl t : List Nat} (h : bl = word x ++ t) (hx : 4096 < x) : ∀ v r, Fits 108 v → Short v → Real v → form 108 v ++ r ≠ bl := fun v r _ hs _ e => by
  rw [form_l, h, List.append_assoc] at e
  have := word_inj e
  have := hs.2
  omega
theorem short_b {x : Nat} {bl t : List Nat} (h : bl = word x ++ t) (hl : bl.length < (word x).length + x) : ∀ v r, Fits 98 v → Short v → Real v → form 98 v ++ r ≠ bl := fun v r _ hs _ e => by
  have el := congrArg List.length e
  rw [form_b, h, List.append_assoc] at e
  have e2 := word_inj e
  rw [form_b, List.length_append, List.length_append, e2] at el
  omega
/-- behind x and j numbers, j less than x, no further number begins: there is no value -/
theorem row_none {x : Nat} {l bl rest : List Nat} (hlt : l.length < x) (hb : bl = word x ++ (l.flatMap word ++ rest)) (hg : ∀ n r, n < 18446744073709551616 → rest ≠ word n ++ r) : ∀ v r, Fits 108 v → Short v → Real v → form 108 v ++ r ≠ bl := fun v r _ _ hv e => by
  rw [form_l, hb, List.append_assoc] at e
  have e2 := word_inj e
  rw [e2] at e
  have e3 := List.append_cancel_left e
  have hs : v.l = v.l.take l.length ++ v.l.drop l.length := (List.take_append_drop _ _).symm
  rw [hs, List.flatMap_append, List.append_assoc] at e3
  obtain ⟨_, e4⟩ := flat_take (by rw [List.length_take]; omega) e3
  cases hd : v.l.drop l.length with
  | nil =>
    have := congrArg List.length hd
    rw [List.length_drop] at this
    simp at this
    omega
  | cons y ys =>
    rw [hd, List.flatMap_cons, List.append_assoc] at e4
    have hy : y ∈ v.l := List.mem_of_mem_drop (by rw [hd]; simp)
    exact hg y _ (hv.2.2.2.1 y hy) e4.symm
def rowRV (A : Option Addr) (c : Nat) (l : List Nat) : RV := ⟨0, 0, false, none, 0, 0, fun _ => 0, A, l.length, c, pick l⟩
theorem row_some {x : Nat} (A : Option Addr) (c : Nat) {l bl rest : List Nat} (hl : l.length = x) (hx : x ≤ 4096) (hb : bl = word x ++ (l.flatMap word ++ rest)) :
    Fits 108 (rowRV A c l).mean ∧ Short (rowRV A c l).mean ∧ form 108 (rowRV A c l).mean ++ rest = bl ∧ (form 108 (rowRV A c l).mean).length = (word x).length + (l.flatMap word).length := by
  have e : (rowRV A c l).mean = ⟨0, 0, false, [], l⟩ := by
    show (⟨0, 0, false, _, seg (pick l) 0 l.length⟩ : WV) = _
    rw [pick_seg]; rfl
  rw [e, form_l]
  refine ⟨by simp [Fits], ⟨by simp, by dsimp only; omega⟩, ?_, ?_⟩
  · dsimp only; rw [hl, hb, List.append_assoc]
  · dsimp only; rw [hl, List.length_append]
def bytesRV (A : Option Addr) (c : Nat) (l : List Nat) : RV := ⟨0, 0, false, A, l.length, c, pick l, none, 0, 0, fun _ => 0⟩
theorem bytes_some {x : Nat} (A : Option Addr) (c : Nat) {l bl rest : List Nat} (hl : l.length = x) (hx : x ≤ 262144) (hb : bl = word x ++ (l ++ rest)) :
    Fits 98 (bytesRV A c l).mean ∧ Short (bytesRV A c l).mean ∧ form 98 (bytesRV A c l).mean ++ rest = bl ∧ (form 98 (bytesRV A c l).mean).length = (word x).length + x := by
  have e : (bytesRV A c l).mean = ⟨0, 0, false, l, []⟩ := by
    show (⟨0, 0, false, seg (pick l) 0 l.length, _⟩ : WV) = _
    rw [pick_seg]; rfl
  rw [e, form_b]
  refine ⟨by simp [Fits], ⟨by dsimp only; omega, by simp⟩, ?_, ?_⟩
  · dsimp only; rw [hl, hb, List.append_assoc]
  · dsimp only; rw [List.length_append, hl]
/-- one number more -/
theorem row_next {f : Nat → Nat} {n p y u : Nat} {L l : List Nat} (hp : p ≤ n) (h : seg f 0 p = L ++ l.flatMap word) (hg : Got (seg f p (n - p)) (some (y, u))) : p + u ≤ n ∧ 0 < u ∧ seg f 0 (p + u) = L ++ (l ++ [y]).flatMap word ∧ y < 18446744073709551616 := by
  obtain ⟨hy, hu, r, hr⟩ := hg
  have hl := congrArg List.length hr
  rw [seg_len, List.length_append] at hl
  have h0 := word_pos y
  refine ⟨by omega, by omega, ?_, hy⟩
  obtain ⟨m, hm⟩ : ∃ m, n - p = u + m := ⟨n - p - u, by omega⟩
  rw [hm, seg_add] at hr
  have e := (List.append_inj hr (by rw [seg_len]; exact hu)).1
  rw [seg_add, h, Nat.zero_add, e, List.flatMap_append, List.append_assoc]
  simp
end Go.Proofs.Ytkjndgnjilfobaa
