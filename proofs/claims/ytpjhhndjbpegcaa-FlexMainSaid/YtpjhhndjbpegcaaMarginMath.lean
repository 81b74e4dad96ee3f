/-
  Margins that meet: mathematics.
-/
import Derived.WalkKit
import Derived.ProofKit
namespace Go.Proofs.Ytpjhhndjbpegcaa

/-- a margin: the greatest of the lengths above 0, the least of those below -/
abbrev Mg := Int × Int
def mgZ : Mg := (0, 0)
def mgAt (l : List Mg) (i : Nat) : Mg := l[i]?.getD mgZ
def mu (l : List Mg) (i : Nat) : Int := (mgAt l i).1
def md (l : List Mg) (i : Nat) : Int := (mgAt l i).2
theorem mgAt_get {l : List Mg} {i : Nat} (h : i < l.length) : mgAt l i = l[i] := by
  unfold mgAt
  rw [List.getElem?_eq_getElem h]
  rfl
/-- two that meet -/
def mjoin (a b : Mg) : Mg := (if b.1 > a.1 then b.1 else a.1, if b.2 < a.2 then b.2 else a.2)
/-- all that meet -/
def joinM : List Mg → Mg
  | [] => mgZ
  | x :: l => l.foldl mjoin x
def oneM (n : Int) : Mg := if n > 0 then (n, 0) else (0, n)
def MayM (m : Mg) : Prop := (0 ≤ m.1 ∧ m.1 ≤ 1099511627776) ∧ (m.2 ≤ 0 ∧ -1099511627776 ≤ m.2)
instance (m : Mg) : Decidable (MayM m) := by unfold MayM; infer_instance
def valueM (m : Mg) : Int := IntKind.i64.wrap (m.1 + m.2)

theorem mjoin_comm (a b : Mg) : mjoin a b = mjoin b a := by
  unfold mjoin
  ext
  · dsimp only; split <;> split <;> omega
  · dsimp only; split <;> split <;> omega
theorem mjoin_assoc (a b c : Mg) : mjoin (mjoin a b) c = mjoin a (mjoin b c) := by
  unfold mjoin
  ext
  · dsimp only; repeat' split <;> omega
  · dsimp only; repeat' split <;> omega
theorem mjoin_self (a : Mg) : mjoin a a = a := by
  unfold mjoin
  ext
  · dsimp only; split <;> omega
  · dsimp only; split <;> omega
theorem mjoin_zero {a : Mg} (h : MayM a) : mjoin mgZ a = a := by
  obtain ⟨⟨h1, h2⟩, h3, h4⟩ := h
  unfold mjoin mgZ
  ext
  · dsimp only; split <;> omega
  · dsimp only; split <;> omega
theorem mjoin_may {a b : Mg} (ha : MayM a) (hb : MayM b) : MayM (mjoin a b) := by
  unfold MayM mjoin at *
  obtain ⟨⟨h1, h2⟩, h3, h4⟩ := ha
  obtain ⟨⟨g1, g2⟩, g3, g4⟩ := hb
  dsimp only
  refine ⟨⟨?_, ?_⟩, ?_, ?_⟩ <;> split <;> omega
theorem mgZ_may : MayM mgZ := by unfold MayM mgZ; omega
theorem oneM_may {n : Int} (h : -1099511627776 ≤ n ∧ n ≤ 1099511627776) : MayM (oneM n) := by
  unfold MayM oneM
  split <;> dsimp only <;> omega
/-- all that meet, behind one of no length -/
def joinZ (l : List Mg) : Mg := l.foldl mjoin mgZ
theorem foldl_mjoin (l : List Mg) (a : Mg) (ha : MayM a) (hl : ∀ x ∈ l, MayM x) : l.foldl mjoin a = mjoin a (joinZ l) ∧ MayM (l.foldl mjoin a) := by
  induction l generalizing a with
  | nil => exact ⟨by unfold joinZ; rw [List.foldl_nil, List.foldl_nil, mjoin_comm, mjoin_zero ha], ha⟩
  | cons x l ih =>
    have hx := hl x List.mem_cons_self
    have hr := fun y hy => hl y (List.mem_cons_of_mem _ hy)
    unfold joinZ
    rw [List.foldl_cons, List.foldl_cons, mjoin_zero hx]
    refine ⟨?_, (ih _ (mjoin_may ha hx) hr).2⟩
    rw [(ih _ (mjoin_may ha hx) hr).1, (ih _ hx hr).1, mjoin_assoc]
theorem joinZ_may {l : List Mg} (hl : ∀ x ∈ l, MayM x) : MayM (joinZ l) := (foldl_mjoin l mgZ mgZ_may hl).2
theorem joinM_Z {l : List Mg} (hl : ∀ x ∈ l, MayM x) : joinM l = joinZ l := by
  cases l with
  | nil => rfl
  | cons x l =>
    unfold joinM joinZ
    rw [List.foldl_cons, mjoin_zero (hl x List.mem_cons_self)]
theorem joinM_may {l : List Mg} (hl : ∀ x ∈ l, MayM x) : MayM (joinM l) := by rw [joinM_Z hl]; exact joinZ_may hl
theorem joinM_append {a b : List Mg} (ha : ∀ x ∈ a, MayM x) (hb : ∀ x ∈ b, MayM x) : joinM (a ++ b) = mjoin (joinM a) (joinM b) := by
  have hab : ∀ x ∈ a ++ b, MayM x := fun x hx => (List.mem_append.1 hx).elim (ha x) (hb x)
  rw [joinM_Z hab, joinM_Z ha, joinM_Z hb]
  show (a ++ b).foldl mjoin mgZ = _
  rw [List.foldl_append]
  exact (foldl_mjoin b _ (joinZ_may ha) hb).1
theorem joinM_two {a b : Mg} : joinM [a, b] = mjoin a b := rfl
theorem joinM_one {a : Mg} : joinM [a] = a := rfl
theorem joinM_mem {l : List Mg} (hl : ∀ x ∈ l, MayM x) {x : Mg} (hx : x ∈ l) : mjoin (joinM l) x = joinM l := by
  obtain ⟨s, t, rfl⟩ := List.append_of_mem hx
  have hs : ∀ y ∈ s, MayM y := fun y hy => hl y (List.mem_append_left _ hy)
  have ht : ∀ y ∈ x :: t, MayM y := fun y hy => hl y (List.mem_append_right _ hy)
  have ht2 : ∀ y ∈ t, MayM y := fun y hy => ht y (List.mem_cons_of_mem _ hy)
  have h1 : joinM (x :: t) = mjoin x (joinM t) := joinM_append (a := [x]) (fun y hy => ht y (by simp at hy; rw [hy]; exact List.mem_cons_self)) ht2
  rw [joinM_append hs ht, h1, mjoin_assoc, mjoin_assoc, mjoin_comm (joinM t) x, ← mjoin_assoc x x, mjoin_self]
/-- turned: from one on, round -/
theorem joinM_turned {l : List Mg} (hl : ∀ x ∈ l, MayM x) (f : Nat) : joinM (l.drop f ++ l.take f) = joinM l := by
  have h1 : ∀ x ∈ l.drop f, MayM x := fun x hx => hl x (List.mem_of_mem_drop hx)
  have h2 : ∀ x ∈ l.take f, MayM x := fun x hx => hl x (List.mem_of_mem_take hx)
  rw [joinM_append h1 h2, mjoin_comm, ← joinM_append h2 h1, List.take_append_drop]
theorem joinM_cut {l : List Mg} (hl : ∀ x ∈ l, MayM x) (k : Nat) : mjoin (joinM (l.take k)) (joinM (l.drop k)) = joinM l := by
  have h1 : ∀ x ∈ l.drop k, MayM x := fun x hx => hl x (List.mem_of_mem_drop hx)
  have h2 : ∀ x ∈ l.take k, MayM x := fun x hx => hl x (List.mem_of_mem_take hx)
  rw [← joinM_append h2 h1, List.take_append_drop]
/-- of lengths -/
def greatZ (l : List Int) : Int := l.foldl (fun a x => if x > a then x else a) 0
def smallZ (l : List Int) : Int := l.foldl (fun a x => if x < a then x else a) 0
theorem foldl_ones (l : List Int) (g s : Int) (hg : 0 ≤ g) (hs : s ≤ 0) : (l.map oneM).foldl mjoin (g, s) = (l.foldl (fun a x => if x > a then x else a) g, l.foldl (fun a x => if x < a then x else a) s) := by
  induction l generalizing g s with
  | nil => rfl
  | cons x l ih =>
    rw [List.map_cons, List.foldl_cons, List.foldl_cons, List.foldl_cons]
    have e : mjoin (g, s) (oneM x) = (if x > g then x else g, if x < s then x else s) := by
      unfold mjoin oneM
      ext
      · dsimp only; repeat' split <;> simp_all <;> omega
      · dsimp only; repeat' split <;> simp_all <;> omega
    rw [e]
    exact ih _ _ (by split <;> omega) (by split <;> omega)
theorem join_ones {l : List Int} (hl : ∀ x ∈ l, -1099511627776 ≤ x ∧ x ≤ 1099511627776) : joinM (l.map oneM) = (greatZ l, smallZ l) := by
  rw [joinM_Z (fun x hx => by
    obtain ⟨n, hn, rfl⟩ := List.mem_map.1 hx
    exact oneM_may (hl n hn))]
  exact foldl_ones l 0 0 (by omega) (by omega)
theorem great_neg (l : List Int) (g s : Int) (h : g = -s) : (l.map (fun x => -x)).foldl (fun a x => if x > a then x else a) g = -(l.foldl (fun a x => if x < a then x else a) s) := by
  induction l generalizing g s with
  | nil => exact h
  | cons x l ih =>
    rw [List.map_cons, List.foldl_cons, List.foldl_cons]
    exact ih _ _ (by split <;> split <;> omega)
theorem small_neg (l : List Int) (g s : Int) (h : g = -s) : (l.map (fun x => -x)).foldl (fun a x => if x < a then x else a) g = -(l.foldl (fun a x => if x > a then x else a) s) := by
  induction l generalizing g s with
  | nil => exact h
  | cons x l ih =>
    rw [List.map_cons, List.foldl_cons, List.foldl_cons]
    exact ih _ _ (by split <;> split <;> omega)
/-- opposite lengths -/
theorem joins_neg (l : List Int) : greatZ (l.map (fun x => -x)) = -(smallZ l) ∧ smallZ (l.map (fun x => -x)) = -(greatZ l) := ⟨great_neg l 0 0 (by omega), small_neg l 0 0 (by omega)⟩
end Go.Proofs.Ytpjhhndjbpegcaa
