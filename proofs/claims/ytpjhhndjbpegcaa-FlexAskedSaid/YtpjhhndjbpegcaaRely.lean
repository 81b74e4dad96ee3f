/-
  A region that draws its order, by what each of its operations relies on and gives: each operation is looked at once, in whatever world its operands leave, whatever order is drawn.
-/
import Derived.Test.YtpjhhndjbpegcaaProg
import Derived.WalkKit
import Derived.ProofKit
import Derived.Below
import Derived.Deep.RegionHeld3
namespace Go.Proofs.Ytpjhhndjbpegcaa
open Go.RowKit

/-- what is told of an operation: what holds of the world till it comes up (N), of its value and the world behind it (R), what it does to the world (G) -/
structure OpT where
  N : World → Prop
  R : Value → World → Prop
  G : World → World → Prop
def dstAt (ops : Array Oper) (j : Nat) : Option Tmp := (ops[j]?).bind (·.dst)
def fillF (ops : Array Oper) (vs : Nat → Value) : List Nat → Array Value → Array Value
  | [], t => t
  | j :: js, t => fillF ops vs js (match dstAt ops j with | some d => t.setIfInBounds d (vs j) | none => t)
def AllL (p : Nat → Prop) : List Nat → Prop
  | [] => True
  | j :: js => p j ∧ AllL p js
theorem AllL.of {p : Nat → Prop} : ∀ {l : List Nat}, (∀ j ∈ l, p j) → AllL p l
  | [], _ => trivial
  | _ :: _, h => ⟨h _ (by simp), AllL.of fun j hj => h j (by simp [hj])⟩
def boundTo (oi : Oper) (j : Nat) : Bool := oi.after.any fun e => Region.binds .any e && e.on == j
/-- the operations that one waits for -/
def depsOf (ops : Array Oper) (o : Oper) : List Nat := (List.range ops.size).filter (boundTo o)
def relyAt (ops : Array Oper) (n i : Nat) (oi : Oper) : Bool :=
  oi.after.all (fun e => !Region.binds .any e || decide (e.on < i)) &&
  (match oi.dst with | some d => decide (d < n) && (List.range ops.size).all (fun j => j == i || dstAt ops j != some d) | none => true) &&
  (oi.looksAt ops).all fun t => (List.range ops.size).all fun j => j == i || dstAt ops j != some t || boundTo oi j || (match ops[j]? with | some oj => boundTo oj i | none => true)
def relyChk (ops : Array Oper) (n : Nat) : Bool :=
  Region.noSelect ops && (List.range ops.size).all fun i => match ops[i]? with | none => true | some oi => relyAt ops n i oi
section
variable {P : Program} {ops : Array Oper} {Q : Exit → Act → World → Prop} {S : World → Prop} {Tf : Nat → OpT} {D : Nat → Nat → Value → Value → Prop} {a0 : Act}

theorem fill_size (vs : Nat → Value) : ∀ (js : List Nat) (t : Array Value), (fillF ops vs js t).size = t.size
  | [], _ => rfl
  | j :: js, t => by
    unfold fillF
    rw [fill_size vs js]
    cases dstAt ops j <;> simp
theorem fill_other {vs : Nat → Value} {d : Tmp} : ∀ (js : List Nat) (t : Array Value), (∀ j ∈ js, dstAt ops j ≠ some d) → (fillF ops vs js t)[d]? = t[d]?
  | [], _, _ => rfl
  | j :: js, t, h => by
    unfold fillF
    rw [fill_other js _ (fun k hk => h k (by simp [hk]))]
    have hj := h j (by simp)
    cases e : dstAt ops j with
    | none => rfl
    | some c =>
      have : c ≠ d := fun x => hj (by rw [e, x])
      exact Array.getElem?_setIfInBounds_ne this
theorem fill_at {vs : Nat → Value} {d : Tmp} {j : Nat} (hj : dstAt ops j = some d) (hu : ∀ k, dstAt ops k = some d → k = j) : ∀ (js : List Nat) (t : Array Value), j ∈ js → d < t.size → (fillF ops vs js t)[d]? = some (vs j)
  | [], _, h, _ => by cases h
  | k :: ks, t, h, hd => by
    unfold fillF
    by_cases hk : j ∈ ks
    · exact fill_at hj hu ks _ hk (by cases dstAt ops k <;> simpa using hd)
    · obtain rfl : j = k := by rcases List.mem_cons.1 h with h | h; exact h; exact absurd h hk
      rw [fill_other ks _ (fun m hm hd' => hk (hu m hd' ▸ hm)), hj]
      simp [hd]

theorem boundTo_iff {oi : Oper} {j : Nat} : boundTo oi j = true ↔ ∃ e ∈ oi.after, Region.binds .any e = true ∧ e.on = j := by
  unfold boundTo
  rw [Array.any_eq_true']
  simp only [Bool.and_eq_true, beq_iff_eq]
theorem mem_deps {oi : Oper} {j : Nat} : j ∈ depsOf ops oi ↔ j < ops.size ∧ boundTo oi j = true := by
  unfold depsOf
  rw [List.mem_filter, List.mem_range]

structure RelyInv (ops : Array Oper) (S : World → Prop) (Tf : Nat → OpT) (D : Nat → Nat → Value → Value → Prop) (a0 : Act) (listed : Array Bool) (a : Act) (w : World) : Prop where
  S : S w
  size : listed.size = ops.size
  defers : a.defers = a0.defers
  tsize : a.tmps.size = a0.tmps.size
  old : ∀ t, (∀ j, listed.getD j false = true → dstAt ops j ≠ some t) → a.tmps[t]? = a0.tmps[t]?
  done : ∀ j, j < ops.size → listed.getD j false = true → ∃ v, (∀ d, dstAt ops j = some d → a.tmps[d]? = some v) ∧ (Tf j).R v w
  wait : ∀ j, j < ops.size → listed.getD j false = false → (Tf j).N w
  closed : ∀ j oj e, ops[j]? = some oj → listed.getD j false = true → e ∈ oj.after → Region.binds .any e = true → listed.getD e.on false = true
  pair : ∀ j k dj dk, j ≠ k → listed.getD j false = true → listed.getD k false = true → dstAt ops j = some dj → dstAt ops k = some dk → D j k (a.tmps.getD dj undef) (a.tmps.getD dk undef)

/-- what is asked behind an operation -/
def PostR (ops : Array Oper) (vs : Nat → Value) (S : World → Prop) (Tf : Nat → OpT) (D : Nat → Nat → Value → Value → Prop) (i : Nat) (o : Oper) (Df : List Deferred) (dst : Option Tmp) (w0 : World) (e : Exit) (a : Act) (w : World) : Prop :=
  match e with
  | .normal => (Tf i).R (match dst with | some d => a.tmps.getD d undef | none => undef) w ∧ (Tf i).G w0 w ∧ S w ∧ a.defers = Df ∧ ∀ d, dst = some d → ∀ j u, j ≠ i → (∀ oj, ops[j]? = some oj → boundTo oj i = false) → (j ∈ depsOf ops o → u = vs j) → (Tf j).R u w0 → D j i u (a.tmps.getD d undef)
  | _ => False
def RelyStep (P : Program) (ops : Array Oper) (S : World → Prop) (Tf : Nat → OpT) (D : Nat → Nat → Value → Value → Prop) (a0 : Act) (i : Nat) (o : Oper) : Prop :=
  ∀ (vs : Nat → Value) (w : World), S w → (Tf i).N w → AllL (fun j => (Tf j).R (vs j) w) (depsOf ops o) → wpList P ops (PostR ops vs S Tf D i o a0.defers o.dst w) [o] ⟨fillF ops vs (depsOf ops o) a0.tmps, a0.defers⟩ w
def RelySteps (P : Program) (ops : Array Oper) (S : World → Prop) (Tf : Nat → OpT) (D : Nat → Nat → Value → Value → Prop) (a0 : Act) : Nat → List Oper → Prop
  | _, [] => True
  | i, o :: os => RelyStep P ops S Tf D a0 i o ∧ RelySteps P ops S Tf D a0 (i + 1) os
theorem RelySteps.at : ∀ {l : List Oper} {k : Nat}, RelySteps P ops S Tf D a0 k l → ∀ {i : Nat} {o : Oper}, l[i]? = some o → RelyStep P ops S Tf D a0 (k + i) o
  | [], _, _, i, _, h => by simp at h
  | p :: l, k, h, i, o, hi => by
    cases i with
    | zero =>
      simp at hi
      subst hi
      exact h.1
    | succ i =>
      have := RelySteps.at h.2 (i := i) (o := o) (by simpa using hi)
      rwa [show k + 1 + i = k + (i + 1) by omega] at this

theorem chk_at {n : Nat} (h : relyChk ops n = true) {i : Nat} {oi : Oper} (hi : ops[i]? = some oi) : relyAt ops n i oi = true := by
  unfold relyChk at h
  simp only [Bool.and_eq_true, List.all_eq_true, List.mem_range] at h
  have := h.2 i (Array.getElem?_eq_some_iff.1 hi).1
  rwa [hi] at this
theorem chk_sel {n : Nat} (h : relyChk ops n = true) : Region.noSelect ops = true := by
  unfold relyChk at h
  simp only [Bool.and_eq_true] at h
  exact h.1
theorem at_edge {n i : Nat} {oi : Oper} (h : relyAt ops n i oi = true) : ∀ e ∈ oi.after, Region.binds .any e = true → e.on < i := by
  unfold relyAt at h
  simp only [Bool.and_eq_true] at h
  intro e he hb
  have := Array.all_eq_true_iff_forall_mem.1 h.1.1 e he
  simpa [hb] using this
theorem at_dst {n i : Nat} {oi : Oper} (h : relyAt ops n i oi = true) {d : Tmp} (hd : oi.dst = some d) : d < n ∧ ∀ j, dstAt ops j = some d → j = i := by
  unfold relyAt at h
  simp only [Bool.and_eq_true, hd, List.all_eq_true, List.mem_range, decide_eq_true_eq] at h
  refine ⟨h.1.2.1, fun j hj => ?_⟩
  have hl : j < ops.size := by
    unfold dstAt at hj
    cases ho : ops[j]? with
    | none => rw [ho] at hj; cases hj
    | some o => exact (Array.getElem?_eq_some_iff.1 ho).1
  have := h.1.2.2 j hl
  simp [hj] at this
  exact this
theorem at_look {n i : Nat} {oi : Oper} (h : relyAt ops n i oi = true) {t : Tmp} (ht : t ∈ oi.looksAt ops) {j : Nat} (hj : dstAt ops j = some t) : j = i ∨ boundTo oi j = true ∨ ∃ oj, ops[j]? = some oj ∧ boundTo oj i = true := by
  unfold relyAt at h
  simp only [Bool.and_eq_true, List.all_eq_true, List.mem_range] at h
  have hl : ∃ oj, ops[j]? = some oj := by
    unfold dstAt at hj
    cases ho : ops[j]? with
    | none => rw [ho] at hj; cases hj
    | some o => exact ⟨o, rfl⟩
  obtain ⟨oj, hoj⟩ := hl
  have := h.2 t ht j (Array.getElem?_eq_some_iff.1 hoj).1
  simp [hj, hoj] at this
  rcases this with (h1 | h1) | h1
  · exact .inl h1
  · exact .inr (.inl h1)
  · exact .inr (.inr ⟨oj, hoj, h1⟩)

theorem getD_false_of {listed : Array Bool} {i : Nat} (h : listed.getD i true = false) : listed.getD i false = false ∧ i < listed.size := by
  rcases Nat.lt_or_ge i listed.size with h' | h'
  · simp [h'] at h ⊢
    exact h
  · simp [Array.getElem?_eq_none h'] at h
theorem getD_set {listed : Array Bool} {i j : Nat} (hi : i < listed.size) : (listed.setIfInBounds i true).getD j false = if i = j then true else listed.getD j false := by
  by_cases h : i = j
  · subst h; simp [hi]
  · rw [if_neg h, getD_set_ne false h]

theorem rely_step {listed : Array Bool} {a : Act} {w : World} {i : Nat} (chk : relyChk ops a0.tmps.size = true) (sym : ∀ j k u v, D j k u v → D k j v u)
    (stab : ∀ j k, j ≠ k → j < ops.size → k < ops.size → ∀ w w', (Tf k).G w w' → ((Tf j).N w → (Tf j).N w') ∧ ∀ v, (Tf j).R v w → (Tf j).R v w')
    (I : RelyInv ops S Tf D a0 listed a w) (hi : i ∈ Region.ready .any ops listed) (step : ∀ oi, ops[i]? = some oi → RelyStep P ops S Tf D a0 i oi) :
    wpOp P ops Q i (fun a' w' => RelyInv ops S Tf D a0 (listed.setIfInBounds i true) a' w') a w := by
  obtain ⟨hun, oi, hoi, hall⟩ := mem_ready.1 hi
  obtain ⟨hun', hil⟩ := getD_false_of hun
  have hin : i < ops.size := (Array.getElem?_eq_some_iff.1 hoi).1
  have CI := chk_at chk hoi
  -- what lies in the slots
  have hv : ∀ j, ∃ v, j < ops.size → listed.getD j false = true → (∀ d, dstAt ops j = some d → a.tmps[d]? = some v) ∧ (Tf j).R v w := fun j => by
    by_cases h : j < ops.size ∧ listed.getD j false = true
    · obtain ⟨v, h1⟩ := I.done j h.1 h.2
      exact ⟨v, fun _ _ => h1⟩
    · exact ⟨undef, fun h1 h2 => absurd ⟨h1, h2⟩ h⟩
  have hvs : ∃ vs : Nat → Value, ∀ j, j < ops.size → listed.getD j false = true → (∀ d, dstAt ops j = some d → a.tmps[d]? = some (vs j)) ∧ (Tf j).R (vs j) w := ⟨fun j => Classical.choose (hv j), fun j => Classical.choose_spec (hv j)⟩
  obtain ⟨vs, hvs⟩ := hvs
  have hdl : ∀ j ∈ depsOf ops oi, j < ops.size ∧ listed.getD j false = true := fun j hj => by
    obtain ⟨h1, h2⟩ := mem_deps.1 hj
    obtain ⟨e, he, hb, rfl⟩ := boundTo_iff.1 h2
    exact ⟨h1, hall e he hb⟩
  have H := (step oi hoi) vs w I.S (I.wait i hin hun') (AllL.of fun j hj => (hvs j (hdl j hj).1 (hdl j hj).2).2)
  -- the slots that it looks at
  have same : ∀ t ∈ oi.looksAt ops, (fillF ops vs (depsOf ops oi) a0.tmps)[t]? = a.tmps[t]? := fun t ht => by
    by_cases h : ∃ j ∈ depsOf ops oi, dstAt ops j = some t
    · obtain ⟨j, hj, hd⟩ := h
      have hoj : ∃ oj, ops[j]? = some oj ∧ oj.dst = some t := by
        unfold dstAt at hd
        cases ho : ops[j]? with
        | none => rw [ho] at hd; cases hd
        | some o => rw [ho] at hd; exact ⟨o, rfl, hd⟩
      obtain ⟨oj, hoj, hdj⟩ := hoj
      have CJ := at_dst (chk_at chk hoj) hdj
      rw [fill_at hd CJ.2 _ _ hj CJ.1]
      exact ((hvs j (hdl j hj).1 (hdl j hj).2).1 t hd).symm
    · rw [fill_other _ _ (fun j hj hd => h ⟨j, hj, hd⟩)]
      refine (I.old t fun j hj hd => ?_).symm
      rcases at_look CI ht hd with h1 | h1 | ⟨oj, hoj, h1⟩
      · subst h1; rw [hun'] at hj; cases hj
      · have hl : j < ops.size := by
          unfold dstAt at hd
          cases ho : ops[j]? with
          | none => rw [ho] at hd; cases hd
          | some o => exact (Array.getElem?_eq_some_iff.1 ho).1
        exact h ⟨j, mem_deps.2 ⟨hl, h1⟩, hd⟩
      · obtain ⟨e, he, hb, he2⟩ := boundTo_iff.1 h1
        have := I.closed j oj e hoj hj he hb
        rw [he2, hun'] at this
        cases this
  have hev : execOp (⟨fillF ops vs (depsOf ops oi) a0.tmps, a0.defers⟩ : Act).eval oi = execOp a.eval oi := execOp_congr oi (fun cs b => Region.noSelect_spec (chk_sel chk) i oi cs b hoi) fun x hx => by
    cases x with
    | tmp t =>
      have := same t (List.mem_append_left _ (List.mem_filterMap.2 ⟨.tmp t, by simpa using hx, rfl⟩))
      simp only [Act.eval, Array.getD_eq_getD_getElem?, this]
    | _ => rfl
  have hw : Region.wanted oi (yielded ops (fillF ops vs (depsOf ops oi) a0.tmps)) = Region.wanted oi (yielded ops a.tmps) := by
    unfold Region.wanted
    cases hg : oi.guard with
    | none => rfl
    | some gw =>
      obtain ⟨g, want⟩ := gw
      have : yielded ops (fillF ops vs (depsOf ops oi) a0.tmps) g = yielded ops a.tmps g := by
        unfold yielded
        cases ht : (ops[g]?).bind (·.dst) with
        | none => rfl
        | some t =>
          have := same t (by simp [Oper.looksAt, hg, ht])
          simp only [Option.bind_some, this]
      simp only [this]
  -- what stands behind it
  have next : ∀ u w', PostR ops vs S Tf D i oi a0.defers oi.dst w .normal ((⟨fillF ops vs (depsOf ops oi) a0.tmps, a0.defers⟩ : Act).put oi.dst u) w' → RelyInv ops S Tf D a0 (listed.setIfInBounds i true) (a.put oi.dst u) w' := fun u w' h => by
    obtain ⟨hR, hG, hS', -, hP⟩ := h
    have hP : ∀ d, oi.dst = some d → ∀ j v, j ≠ i → (∀ oj, ops[j]? = some oj → boundTo oj i = false) → (j ∈ depsOf ops oi → v = vs j) → (Tf j).R v w → D j i v u := fun d hd j v hji hb hc hv => by
      have h1 := hP d hd j v hji hb hc hv
      have e2 : (((⟨fillF ops vs (depsOf ops oi) a0.tmps, a0.defers⟩ : Act).put oi.dst u).tmps.getD d undef) = u := by
        rw [hd]
        simp only [Act.put, Array.getD_eq_getD_getElem?]
        rw [Array.getElem?_setIfInBounds_self_of_lt (by rw [fill_size]; exact (at_dst CI hd).1)]
        rfl
      rwa [e2] at h1
    have hR' : ∃ v, (∀ d, dstAt ops i = some d → (a.put oi.dst u).tmps[d]? = some v) ∧ (Tf i).R v w' := by
      have e1 : dstAt ops i = oi.dst := by unfold dstAt; rw [hoi]; rfl
      rw [e1]
      cases hd : oi.dst with
      | none =>
        rw [hd] at hR
        exact ⟨undef, (fun d hd => by cases hd), hR⟩
      | some d =>
        rw [hd] at hR
        have CJ := at_dst CI hd
        have e2 : (((⟨fillF ops vs (depsOf ops oi) a0.tmps, a0.defers⟩ : Act).put (some d) u).tmps.getD d undef) = u := by
          simp only [Act.put, Array.getD_eq_getD_getElem?]
          rw [Array.getElem?_setIfInBounds_self_of_lt (by rw [fill_size]; exact CJ.1)]
          rfl
        refine ⟨u, fun c hc => ?_, ?_⟩
        · cases hc
          simp only [Act.put]
          exact Array.getElem?_setIfInBounds_self_of_lt (by rw [I.tsize]; exact CJ.1)
        · have hR2 : (Tf i).R (((⟨fillF ops vs (depsOf ops oi) a0.tmps, a0.defers⟩ : Act).put (some d) u).tmps.getD d undef) w' := hR
          rw [e2] at hR2
          exact hR2
    refine ⟨hS', by rw [Array.size_setIfInBounds]; exact I.size, ?_, ?_, ?_, ?_, ?_, ?_, ?_⟩
    · rw [← I.defers]; cases oi.dst <;> rfl
    · rw [← I.tsize]; cases oi.dst <;> simp [Act.put]
    · intro t ht
      have h1 : ∀ j, listed.getD j false = true → dstAt ops j ≠ some t := fun j hj => ht j (getD_set_true hj)
      rw [← I.old t h1]
      have h2 := ht i (by rw [getD_set hil, if_pos rfl])
      have e1 : dstAt ops i = oi.dst := by unfold dstAt; rw [hoi]; rfl
      rw [e1] at h2
      cases hd : oi.dst with
      | none => rfl
      | some d =>
        have : d ≠ t := fun e => h2 (by rw [hd, e])
        simp only [Act.put]
        exact Array.getElem?_setIfInBounds_ne this
    · intro j hj hl
      rw [getD_set hil] at hl
      by_cases hji : i = j
      · subst hji; exact hR'
      · rw [if_neg hji] at hl
        obtain ⟨v, h1, h2⟩ := I.done j hj hl
        refine ⟨v, fun d hd => ?_, (stab j i (Ne.symm hji) hj hin w w' hG).2 v h2⟩
        rw [← h1 d hd]
        cases hd2 : oi.dst with
        | none => rfl
        | some c =>
          have : c ≠ d := fun e => hji ((at_dst CI hd2).2 j (by rw [hd, e])).symm
          simp only [Act.put]
          exact Array.getElem?_setIfInBounds_ne this
    · intro j hj hl
      rw [getD_set hil] at hl
      by_cases hji : i = j
      · rw [if_pos hji] at hl; cases hl
      · rw [if_neg hji] at hl
        exact (stab j i (Ne.symm hji) hj hin w w' hG).1 (I.wait j hj hl)
    · intro j oj e hoj hl he hb
      rw [getD_set hil] at hl
      by_cases hji : i = j
      · subst hji
        rw [hoi] at hoj
        cases hoj
        exact getD_set_true (hall e he hb)
      · rw [if_neg hji] at hl
        exact getD_set_true (I.closed j oj e hoj hl he hb)
    · intro j k dj dk hjk hlj hlk hdj hdk
      have e1 : dstAt ops i = oi.dst := by unfold dstAt; rw [hoi]; rfl
      have self : ∀ d, dstAt ops i = some d → (a.put oi.dst u).tmps.getD d undef = u := fun d hd => by
        rw [e1] at hd
        rw [hd]
        simp only [Act.put, Array.getD_eq_getD_getElem?]
        rw [Array.getElem?_setIfInBounds_self_of_lt (by rw [I.tsize]; exact (at_dst CI hd).1)]
        rfl
      have other : ∀ m d, i ≠ m → dstAt ops m = some d → (a.put oi.dst u).tmps.getD d undef = a.tmps.getD d undef := fun m d hm hd => by
        cases hd2 : oi.dst with
        | none => rfl
        | some c =>
          have : c ≠ d := fun e => hm ((at_dst CI hd2).2 m (by rw [hd, e])).symm
          simp only [Act.put, Array.getD_eq_getD_getElem?, Array.getElem?_setIfInBounds_ne this]
      have one : ∀ m d di, i ≠ m → listed.getD m false = true → dstAt ops m = some d → dstAt ops i = some di → D m i (a.tmps.getD d undef) u := fun m d di hm hlm hd hdi => by
        have hml : m < ops.size := by
          unfold dstAt at hd
          cases ho : ops[m]? with
          | none => rw [ho] at hd; cases hd
          | some o => exact (Array.getElem?_eq_some_iff.1 ho).1
        obtain ⟨h1, h2⟩ := hvs m hml hlm
        have e3 : a.tmps.getD d undef = vs m := by rw [Array.getD_eq_getD_getElem?, h1 d hd]; rfl
        rw [e3]
        refine hP di (by rw [← e1]; exact hdi) m (vs m) (Ne.symm hm) (fun om hom => ?_) (fun _ => rfl) h2
        cases hb : boundTo om i with
        | false => rfl
        | true =>
          obtain ⟨e, he, hbe, he2⟩ := boundTo_iff.1 hb
          have := I.closed m om e hom hlm he hbe
          rw [he2, hun'] at this
          cases this
      rw [getD_set hil] at hlj hlk
      by_cases hji : i = j
      · subst hji
        rw [if_neg hjk] at hlk
        rw [self dj hdj, other k dk hjk hdk]
        exact sym _ _ _ _ (one k dk dj hjk hlk hdk hdj)
      · rw [if_neg hji] at hlj
        by_cases hki : i = k
        · subst hki
          rw [self dk hdk, other j dj hji hdj]
          exact one j dj dk hji hlj hdj hdk
        · rw [if_neg hki] at hlk
          rw [other j dj hji hdj, other k dk hki hdk]
          exact I.pair j k dj dk hjk hlj hlk hdj hdk
  unfold wpOp
  simp only [hoi]
  unfold wpList at H
  rw [hw] at H
  split
  · next hc =>
    rw [if_pos hc] at H
    rcases H with H | ⟨-, ⟨_, _, h⟩⟩
    · refine .inl ?_
      unfold Oper.wp at *
      rw [hev] at H
      generalize (execOp a.eval oi).run P w = r at *
      cases r with
      | ok n w' =>
        cases n <;> simp only [Oper.upon] at H ⊢
        case value u => exact next u w' H
        case skip => exact next undef w' H
        case defer d =>
          exfalso
          have h3 := H
          simp only [wpList, PostR] at h3
          have h4 := h3.2.2.2.1
          have h5 := congrArg List.length h4
          cases hd : oi.dst <;> simp [hd, Act.put] at h5
        case enter f args =>
          refine Calls.mono H fun e w'' he => ?_
          cases e with
          | returned u => exact next u w'' he
          | panicked c => exact he.elim
          | outgrown =>
            obtain ⟨_, _, h⟩ := he
            exact h.elim
        case row row args => exact Rows.mono H fun u w'' he => next u w'' he
      | halt x w' =>
        cases x <;> simp only [Oper.upon] at H ⊢
        case panic u => exact H.elim
    · exact h.elim
  · next hc =>
    rw [if_neg hc] at H
    exact next undef w H

theorem ready_all {listed : Array Bool} (chk : relyChk ops a0.tmps.size = true) (hr : Region.ready .any ops listed = []) (hs : listed.size = ops.size) : ∀ j, j < ops.size → listed.getD j false = true := by
  intro j
  induction j using Nat.strongRecOn with
  | _ j ih =>
    intro hj
    cases hl : listed.getD j false with
    | true => rfl
    | false =>
      exfalso
      have hoj : ops[j]? = some ops[j] := Array.getElem?_eq_getElem hj
      have : j ∈ Region.ready .any ops listed := mem_ready.2 ⟨by
        have h' : j < listed.size := by omega
        simp [h'] at hl ⊢
        exact hl, _, hoj, fun e he hb => by
        have := at_edge (chk_at chk hoj) e he hb
        exact ih e.on this (by omega)⟩
      rw [hr] at this
      cases this

theorem rely_all (chk : relyChk ops a0.tmps.size = true) (sym : ∀ j k u v, D j k u v → D k j v u)
    (stab : ∀ j k, j ≠ k → j < ops.size → k < ops.size → ∀ w w', (Tf k).G w w' → ((Tf j).N w → (Tf j).N w') ∧ ∀ v, (Tf j).R v w → (Tf j).R v w')
    (steps : RelySteps P ops S Tf D a0 0 ops.toList)
    (fin : ∀ (vs : Nat → Value) (w : World), S w → AllL (fun j => (Tf j).R (vs j) w) (List.range ops.size) → (∀ j k dj dk, j ≠ k → dstAt ops j = some dj → dstAt ops k = some dk → D j k (vs j) (vs k)) → Q .normal ⟨fillF ops vs (List.range ops.size) a0.tmps, a0.defers⟩ w) :
    ∀ (fuel : Nat) (listed : Array Bool) (a : Act) (w : World), RelyInv ops S Tf D a0 listed a w → listed.toList.count false ≤ fuel → wpAny P .any ops Q fuel listed a w := by
  have ends : ∀ (listed : Array Bool) (a : Act) (w : World), RelyInv ops S Tf D a0 listed a w → (∀ j, j < ops.size → listed.getD j false = true) → Q .normal a w := fun listed a w I hl => by
    have hvs : ∃ vs : Nat → Value, ∀ j, j < ops.size → (∀ d, dstAt ops j = some d → a.tmps[d]? = some (vs j)) ∧ (Tf j).R (vs j) w := by
      have hv : ∀ j, ∃ v, j < ops.size → (∀ d, dstAt ops j = some d → a.tmps[d]? = some v) ∧ (Tf j).R v w := fun j => by
        by_cases h : j < ops.size
        · obtain ⟨v, h1⟩ := I.done j h (hl j h)
          exact ⟨v, fun _ => h1⟩
        · exact ⟨undef, fun h1 => absurd h1 h⟩
      exact ⟨fun j => Classical.choose (hv j), fun j => Classical.choose_spec (hv j)⟩
    obtain ⟨vs, hvs⟩ := hvs
    have h := fin vs w I.S (AllL.of fun j hj => (hvs j (List.mem_range.1 hj)).2) (fun j k dj dk hjk hdj hdk => by
      have hl1 : ∀ m d, dstAt ops m = some d → m < ops.size := fun m d hd => by
        unfold dstAt at hd
        cases ho : ops[m]? with
        | none => rw [ho] at hd; cases hd
        | some o => exact (Array.getElem?_eq_some_iff.1 ho).1
      have h1 := I.pair j k dj dk hjk (hl j (hl1 j dj hdj)) (hl k (hl1 k dk hdk)) hdj hdk
      have e1 : a.tmps.getD dj undef = vs j := by rw [Array.getD_eq_getD_getElem?, (hvs j (hl1 j dj hdj)).1 dj hdj]; rfl
      have e2 : a.tmps.getD dk undef = vs k := by rw [Array.getD_eq_getD_getElem?, (hvs k (hl1 k dk hdk)).1 dk hdk]; rfl
      rwa [e1, e2] at h1)
    have e : fillF ops vs (List.range ops.size) a0.tmps = a.tmps := by
      refine Array.ext_getElem? fun t => ?_
      by_cases h : ∃ j, j < ops.size ∧ dstAt ops j = some t
      · obtain ⟨j, hj, hd⟩ := h
        have hoj : ops[j]? = some ops[j] := Array.getElem?_eq_getElem hj
        have hdj : ops[j].dst = some t := by unfold dstAt at hd; rw [hoj] at hd; exact hd
        have CJ := at_dst (chk_at chk hoj) hdj
        rw [fill_at hd CJ.2 _ _ (List.mem_range.2 hj) CJ.1]
        exact ((hvs j hj).1 t hd).symm
      · rw [fill_other _ _ (fun j hj hd => h ⟨j, List.mem_range.1 hj, hd⟩)]
        refine (I.old t fun j hj hd => h ⟨j, ?_, hd⟩).symm
        unfold dstAt at hd
        cases ho : ops[j]? with
        | none => rw [ho] at hd; cases hd
        | some o => exact (Array.getElem?_eq_some_iff.1 ho).1
    rw [e] at h
    obtain ⟨t, d⟩ := a
    have hd := I.defers
    dsimp only at hd h
    rw [← hd] at h
    exact h
  intro fuel
  induction fuel with
  | zero =>
    intro listed a w I hc
    have h0 : listed.toList.count false = 0 := by omega
    have hall : ∀ j, j < ops.size → listed.getD j false = true := fun j hj => by
      have hj' : j < listed.size := by rw [I.size]; exact hj
      cases h : listed[j] with
      | true => simp [hj', h]
      | false =>
        exact absurd (h ▸ Array.getElem_mem_toList hj') (List.count_eq_zero.1 h0)
    refine ⟨?_, ends listed a w I hall⟩
    cases hr : Region.ready .any ops listed with
    | nil => rfl
    | cons i rs =>
      have hi : i ∈ Region.ready .any ops listed := by rw [hr]; simp
      obtain ⟨hun, oi, hoi, -⟩ := mem_ready.1 hi
      have := hall i (Array.getElem?_eq_some_iff.1 hoi).1
      rw [(getD_false_of hun).1] at this
      cases this
  | succ fuel ih =>
    intro listed a w I hc
    refine ⟨fun hr => ends listed a w I (ready_all chk hr I.size), fun i hi => ?_⟩
    refine wpOp_mono (fun a' w' I' => ih _ a' w' I' ?_) (rely_step chk sym stab I hi (fun oi hoi => by have := RelySteps.at steps (i := i) (o := oi) (by simpa using hoi); rwa [Nat.zero_add] at this))
    obtain ⟨hun, -⟩ := mem_ready.1 hi
    obtain ⟨h1, h2⟩ := getD_false_of hun
    rw [Array.toList_setIfInBounds, List.count_set (by simpa using h2)]
    have h3 : listed.toList[i]'(by simpa using h2) = false := by simpa [h2] using h1
    rw [h3]
    have h4 : 0 < listed.toList.count false := List.count_pos_iff.2 (h3 ▸ List.getElem_mem _)
    simp
    simp only [Array.count_toList] at hc h4 ⊢
    omega

/-- all but one, which waits for all others, and is carried out as ever -/
def butOne (n m : Nat) : List Nat := (List.range n).filter (fun j => j != m)
theorem rely_last (chk : relyChk ops a0.tmps.size = true) (sym : ∀ j k u v, D j k u v → D k j v u) {m : Nat} {om : Oper} (hom : ops[m]? = some om) (hall : ∀ j, j < ops.size → j ≠ m → boundTo om j = true)
    (stab : ∀ j k, j ≠ k → j < ops.size → k < ops.size → ∀ w w', (Tf k).G w w' → ((Tf j).N w → (Tf j).N w') ∧ ∀ v, (Tf j).R v w → (Tf j).R v w')
    (steps : ∀ i oi, ops[i]? = some oi → i ≠ m → RelyStep P ops S Tf D a0 i oi)
    (fin : ∀ (vs : Nat → Value) (w : World), S w → AllL (fun j => (Tf j).R (vs j) w) (butOne ops.size m) → wpList P ops Q [om] ⟨fillF ops vs (butOne ops.size m) a0.tmps, a0.defers⟩ w) :
    ∀ (fuel : Nat) (listed : Array Bool) (a : Act) (w : World), RelyInv ops S Tf D a0 listed a w → listed.getD m false = false → listed.toList.count false ≤ fuel → wpAny P .any ops Q fuel listed a w := by
  have hml : m < ops.size := (Array.getElem?_eq_some_iff.1 hom).1
  intro fuel
  induction fuel with
  | zero =>
    intro listed a w I hm hc
    exfalso
    have hj' : m < listed.size := by rw [I.size]; exact hml
    have h0 : listed.toList.count false = 0 := by omega
    have h1 : listed[m] = false := by simpa [hj'] using hm
    exact absurd (h1 ▸ Array.getElem_mem_toList hj') (List.count_eq_zero.1 h0)
  | succ fuel ih =>
    intro listed a w I hm hc
    refine ⟨fun hr => ?_, fun i hi => ?_⟩
    · have := ready_all chk hr I.size m hml
      rw [hm] at this
      cases this
    · by_cases him : i = m
      · subst him
        obtain ⟨hun, oi, hoi, hdep⟩ := mem_ready.1 hi
        rw [hom] at hoi
        cases hoi
        have hother : ∀ j, j < ops.size → j ≠ i → listed.getD j false = true := fun j hj hji => by
          obtain ⟨e, he, hb, rfl⟩ := boundTo_iff.1 (hall j hj hji)
          exact hdep e he hb
        have hvs : ∃ vs : Nat → Value, ∀ j, j < ops.size → j ≠ i → (∀ d, dstAt ops j = some d → a.tmps[d]? = some (vs j)) ∧ (Tf j).R (vs j) w := by
          have hv : ∀ j, ∃ v, j < ops.size → j ≠ i → (∀ d, dstAt ops j = some d → a.tmps[d]? = some v) ∧ (Tf j).R v w := fun j => by
            by_cases h : j < ops.size ∧ j ≠ i
            · obtain ⟨v, h1⟩ := I.done j h.1 (hother j h.1 h.2)
              exact ⟨v, fun _ _ => h1⟩
            · exact ⟨undef, fun h1 h2 => absurd ⟨h1, h2⟩ h⟩
          exact ⟨fun j => Classical.choose (hv j), fun j => Classical.choose_spec (hv j)⟩
        obtain ⟨vs, hvs⟩ := hvs
        have hb : ∀ j ∈ butOne ops.size i, j < ops.size ∧ j ≠ i := fun j hj => by
          unfold butOne at hj
          rw [List.mem_filter, List.mem_range] at hj
          exact ⟨hj.1, by simpa using hj.2⟩
        have H := fin vs w I.S (AllL.of fun j hj => (hvs j (hb j hj).1 (hb j hj).2).2)
        have e : fillF ops vs (butOne ops.size i) a0.tmps = a.tmps := by
          refine Array.ext_getElem? fun t => ?_
          by_cases h : ∃ j, j < ops.size ∧ j ≠ i ∧ dstAt ops j = some t
          · obtain ⟨j, hj, hji, hd⟩ := h
            have hoj : ops[j]? = some ops[j] := Array.getElem?_eq_getElem hj
            have hdj : ops[j].dst = some t := by unfold dstAt at hd; rw [hoj] at hd; exact hd
            have CJ := at_dst (chk_at chk hoj) hdj
            rw [fill_at hd CJ.2 _ _ (by unfold butOne; rw [List.mem_filter, List.mem_range]; exact ⟨hj, by simpa using hji⟩) CJ.1]
            exact ((hvs j hj hji).1 t hd).symm
          · rw [fill_other _ _ (fun j hj hd => h ⟨j, (hb j hj).1, (hb j hj).2, hd⟩)]
            refine (I.old t fun j hj hd => h ⟨j, ?_, fun e => ?_, hd⟩).symm
            · unfold dstAt at hd
              cases ho : ops[j]? with
              | none => rw [ho] at hd; cases hd
              | some o => exact (Array.getElem?_eq_some_iff.1 ho).1
            · subst e; rw [hm] at hj; cases hj
        rw [e] at H
        obtain ⟨t, d⟩ := a
        have hd := I.defers
        dsimp only at hd H
        rw [← hd] at H
        unfold wpOp
        simp only [hom]
        unfold wpList at H
        have hend : ∀ (a' : Act) (w' : World), wpList P ops Q [] a' w' → wpAny P .any ops Q fuel (listed.setIfInBounds i true) a' w' := fun a' w' h => by
          refine wpAny_done ?_ h fuel
          cases hr : Region.ready .any ops (listed.setIfInBounds i true) with
          | nil => rfl
          | cons j rs =>
            have hj : j ∈ Region.ready .any ops (listed.setIfInBounds i true) := by rw [hr]; simp
            obtain ⟨hun2, oj, hoj, -⟩ := mem_ready.1 hj
            have h1 := (getD_false_of hun2).1
            have hjl := (Array.getElem?_eq_some_iff.1 hoj).1
            rw [getD_set (by rw [I.size]; exact hml)] at h1
            by_cases hji : i = j
            · rw [if_pos hji] at h1; cases h1
            · rw [if_neg hji, hother j hjl (Ne.symm hji)] at h1; cases h1
        split
        · next c =>
          rw [if_pos c] at H
          exact H.imp (Oper.wp_mono hend) id
        · next c =>
          rw [if_neg c] at H
          exact hend _ _ H
      · refine wpOp_mono (fun a' w' I' => ih _ a' w' I' ?_ ?_) (rely_step chk sym stab I hi (fun oi hoi => steps i oi hoi him))
        · obtain ⟨hun, -⟩ := mem_ready.1 hi
          rw [getD_set (getD_false_of hun).2, if_neg him]
          exact hm
        · obtain ⟨hun, -⟩ := mem_ready.1 hi
          obtain ⟨h1, h2⟩ := getD_false_of hun
          rw [Array.toList_setIfInBounds, List.count_set (by simpa using h2)]
          have h3 : listed.toList[i]'(by simpa using h2) = false := by simpa [h2] using h1
          rw [h3]
          have h4 : 0 < listed.toList.count false := List.count_pos_iff.2 (h3 ▸ List.getElem_mem _)
          simp
          simp only [Array.count_toList] at hc h4 ⊢
          omega

/-- **A region that draws its order**: each operation once. -/
theorem wp_region_rely {id : Nat} {w0 : World} (S : World → Prop) (Tf : Nat → OpT) (D : Nat → Nat → Value → Value → Prop) (sym : ∀ j k u v, D j k u v → D k j v u) (hm : P.follows .mixedOrders = true) (chk : relyChk ops a0.tmps.size = true)
    (hS : S w0.drew) (hN : ∀ j, j < ops.size → (Tf j).N w0.drew)
    (stab : ∀ j k, j ≠ k → j < ops.size → k < ops.size → ∀ w w', (Tf k).G w w' → ((Tf j).N w → (Tf j).N w') ∧ ∀ v, (Tf j).R v w → (Tf j).R v w')
    (steps : RelySteps P ops S Tf D a0 0 ops.toList)
    (fin : ∀ (vs : Nat → Value) (w : World), S w → AllL (fun j => (Tf j).R (vs j) w) (List.range ops.size) → (∀ j k dj dk, j ≠ k → dstAt ops j = some dj → dstAt ops k = some dk → D j k (vs j) (vs k)) → Q .normal ⟨fillF ops vs (List.range ops.size) a0.tmps, a0.defers⟩ w) :
    (Code.region id ops true).wp P Q a0 w0 := by
  refine wp_region_any hm (rely_all chk sym stab steps fin _ _ _ _ ⟨hS, by simp, rfl, rfl, fun t _ => rfl, ?_, fun j hj _ => hN j hj, ?_, ?_⟩ ?_)
  · intro j hj hl
    simp [hj] at hl
  · intro j oj e hoj hl
    have hj := (Array.getElem?_eq_some_iff.1 hoj).1
    simp [hj] at hl
  · intro j k dj dk _ hl _ hdj
    have hj : j < ops.size := by
      unfold dstAt at hdj
      cases ho : ops[j]? with
      | none => rw [ho] at hdj; cases hdj
      | some o => exact (Array.getElem?_eq_some_iff.1 ho).1
    simp [hj] at hl
  · rw [Array.toList_replicate, List.count_replicate]
    simp
end

/-! ### where each operation leaves all blocks that were there as they were -/
/-- what is told of an operation's value, and of the world behind it: it stays, whatever is made besides -/
structure OpB where
  R : Value → World → Prop
  st : ∀ v w w', Below w.heap.size w w' → R v w → R v w'
/-- a value -/
def opV (v : Value) : OpB := ⟨fun x _ => x = v, fun _ _ _ _ h => h⟩
/-- whatever value -/
def opAny : OpB := ⟨fun _ _ => True, fun _ _ _ _ h => h⟩
def OpB.t (o : OpB) : OpT := ⟨fun _ => True, o.R, fun w w' => Below w.heap.size w w'⟩
/-- slots, and whose they are -/
def fillP (vs : Nat → Value) : List (Tmp × Nat) → Array Value → Array Value
  | [], t => t
  | (d, j) :: l, t => fillP vs l (t.setIfInBounds d (vs j))
def PostB (T : OpB) (D : List Deferred) (dst : Option Tmp) (w : World) (e : Exit) (a : Act) (w' : World) : Prop :=
  match e with
  | .normal => T.R (match dst with | some d => a.eval (.tmp d) | none => undef) w' ∧ Below w.heap.size w w' ∧ a.defers = D
  | _ => False
theorem postB_val {v : Value} {D : List Deferred} {d : Tmp} {w w' : World} {l : List Value} (he : l[d]? = some v) (hb : Below w.heap.size w w') : PostB (opV v) D (some d) w .normal ⟨l.toArray, D⟩ w' :=
  ⟨by show Array.getD _ _ _ = v; simp [he], hb, rfl⟩
theorem postB_R {T : OpB} {v : Value} {D : List Deferred} {d : Tmp} {w w' : World} {l : List Value} (he : l[d]? = some v) (hR : T.R v w') (hb : Below w.heap.size w w') : PostB T D (some d) w .normal ⟨l.toArray, D⟩ w' :=
  ⟨by have e : (Act.mk l.toArray D).eval (.tmp d) = v := by (show Array.getD _ _ _ = v; simp [he])
      show T.R (Act.eval _ _) w'
      rw [e]
      exact hR, hb, rfl⟩
def BStep (P : Program) (ops : Array Oper) (w0 : World) (L : List OpB) (a0 : Act) (i : Nat) (o : Oper) : Prop :=
  ∀ (vs : Nat → Value) (w : World), Below w0.heap.size w0 w → AllL (fun j => (L.getD j opAny).R (vs j) w) (depsOf ops o) → wpList P ops (PostB (L.getD i opAny) a0.defers o.dst w) [o] ⟨fillF ops vs (depsOf ops o) a0.tmps, a0.defers⟩ w
def BSteps (P : Program) (ops : Array Oper) (w0 : World) (L : List OpB) (a0 : Act) : Nat → List Oper → Prop
  | _, [] => True
  | i, o :: os => BStep P ops w0 L a0 i o ∧ BSteps P ops w0 L a0 (i + 1) os
section
variable {P : Program} {ops : Array Oper} {Q : Exit → Act → World → Prop} {a0 : Act} {w0 : World} {L : List OpB}
theorem wpList_one_mono {o : Oper} {a : Act} {w : World} {Q Q' : Exit → Act → World → Prop} (hp : ∀ e, e ≠ .normal → ∀ a w, ¬ Q e a w) (hn : ∀ a' w', Q .normal a' w' → Q' .normal a' w') (h : wpList P ops Q [o] a w) : wpList P ops Q' [o] a w := by
  unfold wpList at *
  split
  · next c =>
    rw [if_pos c] at h
    rcases h with h | ⟨-, ⟨_, _, h⟩⟩
    · refine .inl ?_
      unfold Oper.wp at *
      generalize (execOp a.eval o).run P w = r at *
      cases r with
      | ok n w' =>
        cases n <;> simp only [Oper.upon] at h ⊢
        case value u => exact hn _ _ h
        case skip => exact hn _ _ h
        case defer d => exact hn _ _ h
        case enter f args =>
          refine Calls.mono h fun e w'' he => ?_
          cases e with
          | returned u => exact hn _ _ he
          | panicked c => exact absurd he (hp _ (by simp) _ _)
          | outgrown =>
            obtain ⟨_, _, h⟩ := he
            exact absurd h (hp _ (by simp) _ _)
        case row row args => exact Rows.mono h fun u w'' he => hn _ _ he
      | halt x w' =>
        cases x <;> simp only [Oper.upon] at h ⊢
        case panic u => exact absurd h (hp _ (by simp) _ _)
    · exact absurd h (hp _ (by simp) _ _)
  · next c =>
    rw [if_neg c] at h
    exact hn _ _ h
theorem eval_getD (a : Act) (d : Tmp) : a.eval (.tmp d) = a.tmps.getD d undef := rfl
theorem BSteps.rely : ∀ {l : List Oper} {i : Nat}, BSteps P ops w0 L a0 i l → RelySteps P ops (fun w => Below w0.heap.size w0 w) (fun j => (L.getD j opAny).t) (fun _ _ _ _ => True) a0 i l
  | [], _, _ => trivial
  | o :: l, i, h => ⟨fun vs w hS _ hA => wpList_one_mono (Q := PostB (L.getD i opAny) a0.defers o.dst w) (fun e he a w' hq => by
      cases e <;> first | exact absurd rfl he | exact hq) (fun a' w' hq => ⟨hq.1, hq.2.1, hS.trans (hq.2.1.mono hS.size), hq.2.2, fun _ _ _ _ _ _ _ _ => trivial⟩) (h.1 vs w hS hA), BSteps.rely h.2⟩
/-- **A region that draws its order, and lets all blocks be** -/
theorem wp_region_below {id : Nat} (L : List OpB) (hm : P.follows .mixedOrders = true) (chk : relyChk ops a0.tmps.size = true)
    (steps : BSteps P ops w0 L a0 0 ops.toList)
    (fin : ∀ (vs : Nat → Value) (w : World), Below w0.heap.size w0 w → AllL (fun j => (L.getD j opAny).R (vs j) w) (List.range ops.size) → Q .normal ⟨fillF ops vs (List.range ops.size) a0.tmps, a0.defers⟩ w) :
    (Code.region id ops true).wp P Q a0 w0 :=
  wp_region_rely (fun w => Below w0.heap.size w0 w) (fun j => (L.getD j opAny).t) (fun _ _ _ _ => True) (fun _ _ _ _ _ => trivial) hm chk (Below.refl _ w0).drew (fun _ _ => trivial)
    (fun j _ _ _ _ w w' hG => ⟨fun _ => trivial, fun v hR => (L.getD j opAny).st v w w' hG hR⟩) steps.rely (fun vs w hS hA _ => fin vs w hS hA)
/-- the last waits for all others -/
def lastChk (ops : Array Oper) (m : Nat) : Bool := match ops[m]? with | some o => (List.range ops.size).all (fun j => j == m || boundTo o j) | none => false
theorem BSteps.at : ∀ {l : List Oper} {k : Nat}, BSteps P ops w0 L a0 k l → ∀ {i : Nat} {o : Oper}, l[i]? = some o → BStep P ops w0 L a0 (k + i) o
  | [], _, _, i, _, h => by simp at h
  | p :: l, k, h, i, o, hi => by
    cases i with
    | zero =>
      simp at hi
      subst hi
      exact h.1
    | succ i =>
      have := BSteps.at h.2 (i := i) (o := o) (by simpa using hi)
      rwa [show k + 1 + i = k + (i + 1) by omega] at this
def lastT (L : List OpB) (m j : Nat) : OpT := if j = m then ⟨fun _ => True, (L.getD j opAny).R, fun _ _ => False⟩ else (L.getD j opAny).t
theorem lastT_R {m j : Nat} {v : Value} {w : World} : (lastT L m j).R v w ↔ (L.getD j opAny).R v w := by
  unfold lastT
  split <;> exact Iff.rfl
theorem lastT_all {m : Nat} {vs : Nat → Value} {w : World} : ∀ {l : List Nat}, AllL (fun j => (lastT L m j).R (vs j) w) l → AllL (fun j => (L.getD j opAny).R (vs j) w) l
  | [], _ => trivial
  | _ :: _, h => ⟨lastT_R.1 h.1, lastT_all h.2⟩
/-- **A region that draws its order, and lets all blocks be but for its last operation**, which is carried out behind all others, as ever -/
theorem wp_region_last {id : Nat} (L : List OpB) (m : Nat) (om : Oper) (hm : P.follows .mixedOrders = true) (chk : relyChk ops a0.tmps.size = true) (hom : ops[m]? = some om) (chk2 : lastChk ops m = true)
    (steps : BSteps P ops w0 L a0 0 (ops.toList.take m)) (hsz : ops.size = m + 1)
    (fin : ∀ (vs : Nat → Value) (w : World), Below w0.heap.size w0 w → AllL (fun j => (L.getD j opAny).R (vs j) w) (butOne ops.size m) → wpList P ops Q [om] ⟨fillF ops vs (butOne ops.size m) a0.tmps, a0.defers⟩ w) :
    (Code.region id ops true).wp P Q a0 w0 := by
  refine wp_region_any hm (rely_last (S := fun w => Below w0.heap.size w0 w) (Tf := lastT L m) (D := fun _ _ _ _ => True) chk (fun _ _ _ _ _ => trivial) hom (fun j hj hjm => ?_) (fun j k hjk _ _ w w' hG => ?_) (fun i oi hoi him => ?_) (fun vs w hS hA => fin vs w hS (lastT_all hA)) _ _ _ _ ⟨(Below.refl _ w0).drew, by simp, rfl, rfl, fun t _ => rfl, ?_, fun j hj _ => ?_, ?_, ?_⟩ ?_ ?_)
  · unfold lastChk at chk2
    rw [hom] at chk2
    have := List.all_eq_true.1 chk2 j (List.mem_range.2 hj)
    simp at this
    exact this.resolve_left hjm
  · unfold lastT at hG ⊢
    by_cases hk : k = m
    · rw [if_pos hk] at hG; exact hG.elim
    · rw [if_neg hk] at hG
      have hG' : Below w.heap.size w w' := hG
      by_cases hj : j = m
      · rw [if_pos hj]; exact ⟨fun _ => trivial, fun v hR => (L.getD j opAny).st v w w' hG' hR⟩
      · rw [if_neg hj]; exact ⟨fun _ => trivial, fun v hR => (L.getD j opAny).st v w w' hG' hR⟩
  · intro vs w hS _ hA
    have hil : i < m := by have := (Array.getElem?_eq_some_iff.1 hoi).1; omega
    have hst := BSteps.at steps (i := i) (o := oi) (by rw [List.getElem?_take_of_lt hil]; simpa using hoi)
    rw [Nat.zero_add] at hst
    have hA' := lastT_all hA
    refine wpList_one_mono (Q := PostB (L.getD i opAny) a0.defers oi.dst w) (fun e he a w' hq => by cases e <;> first | exact absurd rfl he | exact hq) (fun a' w' hq => ?_) (hst vs w hS hA')
    refine ⟨?_, ?_, hS.trans (hq.2.1.mono hS.size), hq.2.2, fun _ _ _ _ _ _ _ _ => trivial⟩
    · exact lastT_R.2 hq.1
    · unfold lastT; rw [if_neg him]; exact hq.2.1
  · intro j hj hl
    simp [hj] at hl
  · unfold lastT; split <;> trivial
  · intro j oj e hoj hl
    have hj := (Array.getElem?_eq_some_iff.1 hoj).1
    simp [hj] at hl
  · intro j k dj dk _ hl _ hdj
    have hj : j < ops.size := by
      unfold dstAt at hdj
      cases ho : ops[j]? with
      | none => rw [ho] at hdj; cases hdj
      | some o => exact (Array.getElem?_eq_some_iff.1 ho).1
    simp [hj] at hl
  · have hmm : m < ops.size := (Array.getElem?_eq_some_iff.1 hom).1
    simp [hmm]
  · rw [Array.toList_replicate, List.count_replicate]
    simp
theorem last_of {Q : Exit → Act → World → Prop} {m : Nat} {om : Oper} (D : List Nat) (S : List (Tmp × Nat)) (hD : butOne ops.size m = D) (hS : ∀ (vs : Nat → Value) (t : Array Value), fillF ops vs D t = fillP vs S t)
    (h : ∀ (vs : Nat → Value) (w : World), Below w0.heap.size w0 w → AllL (fun j => (L.getD j opAny).R (vs j) w) D → wpList P ops Q [om] ⟨fillP vs S a0.tmps, a0.defers⟩ w) :
    ∀ (vs : Nat → Value) (w : World), Below w0.heap.size w0 w → AllL (fun j => (L.getD j opAny).R (vs j) w) (butOne ops.size m) → wpList P ops Q [om] ⟨fillF ops vs (butOne ops.size m) a0.tmps, a0.defers⟩ w := by
  intro vs w hB hA
  rw [hD] at hA ⊢
  rw [hS]
  exact h vs w hB hA
/-- one operation, what it waits for told -/
theorem BStep.of {i : Nat} {o : Oper} (D : List Nat) (S : List (Tmp × Nat)) (T : OpB) (hD : depsOf ops o = D) (hS : ∀ (vs : Nat → Value) (t : Array Value), fillF ops vs D t = fillP vs S t) (hT : L.getD i opAny = T)
    (h : ∀ (vs : Nat → Value) (w : World), Below w0.heap.size w0 w → AllL (fun j => (L.getD j opAny).R (vs j) w) D → wpList P ops (PostB T a0.defers o.dst w) [o] ⟨fillP vs S a0.tmps, a0.defers⟩ w) : BStep P ops w0 L a0 i o := by
  intro vs w hB hA
  rw [hD] at hA ⊢
  rw [hS, hT]
  exact h vs w hB hA
theorem fin_of {Q : Exit → Act → World → Prop} (D : List Nat) (S : List (Tmp × Nat)) (hD : List.range ops.size = D) (hS : ∀ (vs : Nat → Value) (t : Array Value), fillF ops vs D t = fillP vs S t)
    (h : ∀ (vs : Nat → Value) (w : World), Below w0.heap.size w0 w → AllL (fun j => (L.getD j opAny).R (vs j) w) D → Q .normal ⟨fillP vs S a0.tmps, a0.defers⟩ w) :
    ∀ (vs : Nat → Value) (w : World), Below w0.heap.size w0 w → AllL (fun j => (L.getD j opAny).R (vs j) w) (List.range ops.size) → Q .normal ⟨fillF ops vs (List.range ops.size) a0.tmps, a0.defers⟩ w := by
  intro vs w hB hA
  rw [hD] at hA ⊢
  rw [hS]
  exact h vs w hB hA
end
end Go.Proofs.Ytpjhhndjbpegcaa
