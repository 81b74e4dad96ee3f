/-
  The laws FlexlineOrders, FlexlineStable: of any Order that answers as is asked.
-/
import Derived.Test.YtpjhhndjbpegcaaRefOrder15
import Derived.Test.YtpjhhndjbpegcaaSame
namespace Go.Proofs.Ytpjhhndjbpegcaa
open Go.RowKit

def firstF (f : Nat → Int) (n : Nat) : List Int := (List.range n).map f
theorem firstF_len (f : Nat → Int) (n : Nat) : (firstF f n).length = n := by simp [firstF]
theorem firstQ_F (q : Nat → Nat) (n : Nat) : firstQ q n = firstF (fun i => (q i : Int)) n := rfl
theorem own_ints15 {W : World} {B c : Nat} {A : Option Addr} {n : Nat} {f : Nat → Int} (h : ownsI15 W B (.slice A n c) (firstF f n)) (hb : ∀ i, i < n → -9223372036854775808 ≤ f i ∧ f i ≤ 9223372036854775807) : Ints W A n f := by
  unfold ownsI15 at h
  rw [firstF_len] at h
  exact Ints.of_own h (fun i hi => by simp [firstF, hi]) hb
theorem wpList_append_is15 {w : World} {ops : Array Oper} {rest : List Oper} {o : Oper} {a : Act} {Q : Exit → Act → World → Prop} (hgd : o.guard = none) (s x : Operand)
    (ho : o.op = .call { callee := .builtin .append, args := #[s, x], argTypes := #[22, 22] })
    (base : Nat) (v : Value) (l : List Int) (hs : a.eval s = v) (hown : ownsI15 w base v l) (m : List Int) (A : Option Addr) (c : Nat) (hx : a.eval x = .slice A m.length c)
    (hm : ∀ p, A = some p → ∀ (j : Nat) (u : Value), (m.map (Value.int .i64))[j]? = some u → w.cell? (p.add j) = some u) (hA : A = none → m = [] ∧ c = 0)
    (hb : l.length + m.length ≤ 100000) (hbase : base ≤ w.heap.size)
    (h : ∀ v' w', ownsI15 w' base v' (l ++ m) → Below base w w' → wpList Try.prog ops Q rest (a.put o.dst v') w') :
    wpList Try.prog ops Q (o :: rest) a w := by
  obtain ⟨i0, hi, hz0, hz1, hz2⟩ := info_parts10 Try.infoI15
  cases A with
  | none =>
    obtain ⟨rfl, rfl⟩ := hA rfl
    refine wpList_append_own_none hgd s x 22 ho base 3 i0 1 Try.underlying22 hi v l.length _ hs hown hx ?_
    exact h v w (by rw [List.append_nil]; exact hown) (Below.refl _ _)
  | some ad =>
    refine wpList_append_own _ hgd s x 22 ho base 3 i0 (.int .i64 0) 1 8 Try.underlying22 hi hz0 hz1 hz2 rfl (by decide) v l.length _ hs hown ad m.length c (m.map (Value.int .i64)) hx (by simp) (hm ad rfl) (fun u hu => by
      obtain ⟨y, -, rfl⟩ := List.mem_map.1 hu
      rfl) (by unfold maxLen; omega) (by omega) hbase ?_
    intro v' w' hown' hgrow _
    refine h v' w' ?_ ((Below.refl base _).grown hgrow hbase (fun k e => by
      rcases hown.2 with ⟨rfl, _⟩ | ⟨g, cap, cur, rfl, hbg, _⟩
      · cases e
      · cases e; exact hbg))
    unfold ownsI15
    rw [List.map_append, List.length_append]
    exact hown'
set_option maxRecDepth 100000 in
set_option maxHeartbeats 4000000 in
theorem copy15 (A : Option Addr) (n c : Nat) (f : Nat → Int) (w : World) (h : Ints w A n f) (hn : n ≤ 80000) (hA : A = none → n = 0 ∧ c = 0) :
    Calls Try.prog 10 #[.slice A n c] w fun e w' => ∃ A' c', e = .returned (.slice A' n c') ∧ ownsI15 w' w.heap.size (.slice A' n c') (firstF f n) ∧ Below w.heap.size w w' := by
  have HC : Hid (∀ p, A = some p → ∀ (j : Nat) (u : Value), ((firstF f n).map (Value.int .i64))[j]? = some u → w.cell? (p.add j) = some u) := Lib.hid (fun p e j u hj => by
    have hlt : j < n := by
      have := (List.getElem?_eq_some_iff.1 hj).1
      simpa [firstF] using this
    obtain ⟨b, off, e', _, hc⟩ := h.at_ hlt
    rw [e] at e'
    injection e' with e'
    subst e'
    simp [firstF, hlt] at hj
    subst hj
    rw [Go.WideShapes.add_plain]
    exact hc)
  have HA : Hid (A = none → firstF f n = [] ∧ c = 0) := Lib.hid (fun e => by
    obtain ⟨h1, h2⟩ := hA e
    subst h1
    exact ⟨rfl, h2⟩)
  have HL := Lib.hid (firstF_len f n)
  clear h hA
  go_enter Try.func10, Try.ntmps10
  go_wp2_with ((at_builtin; refine wpList_append_is15 rfl _ _ rfl w.heap.size (.slice none 0 0) [] rfl (ownsI15.nil _ _) (firstF f n) A c (by rw [HL.out]; rfl) HC.out HA.out (by rw [HL.out]; simp only [List.length_nil]; omega) (Nat.le_refl _) ?_; intro v2 w2 hO hB; rw [List.nil_append] at hO; have O2 := Lib.hid hO; have B2 := Lib.hid hB; clear hO hB))
  go_ret
  obtain ⟨A', c', e, -, -, -⟩ := own_form O2.out
  rw [HL.out] at e
  subst e
  exact ⟨A', c', rfl, O2.out, B2.out⟩
end Go.Proofs.Ytpjhhndjbpegcaa
