/-
  A region that draws its order, its last operation behind all others, for some of which it waits by way of another one.
-/
import Derived.Test.YtjlnaadpiohbnaaRely
namespace Go.Proofs.Ytjlnaadpiohbnaa
open Go.RowKit

section
variable {P : Program} {ops : Array Oper} {Q : Exit → Act → World → Prop} {S : World → Prop} {Tf : Nat → OpT} {D : Nat → Nat → Value → Value → Prop} {a0 : Act}

def dueTo (ops : Array Oper) (o : Oper) (j : Nat) : Bool := boundTo o j || (List.range ops.size).any (fun k => boundTo o k && match ops[k]? with | some ok => boundTo ok j | none => false)
theorem dueTo_iff {o : Oper} {j : Nat} : dueTo ops o j = true ↔ boundTo o j = true ∨ ∃ k ok, boundTo o k = true ∧ ops[k]? = some ok ∧ boundTo ok j = true := by
  unfold dueTo
  rw [Bool.or_eq_true, List.any_eq_true]
  constructor
  · rintro (h | ⟨k, hk, h⟩)
    · exact .inl h
    · rw [Bool.and_eq_true] at h
      cases ho : ops[k]? with
      | none => rw [ho] at h; exact absurd h.2 (by simp)
      | some ok => rw [ho] at h; exact .inr ⟨k, ok, h.1, ho, h.2⟩
  · rintro (h | ⟨k, ok, h, ho, h2⟩)
    · exact .inl h
    · refine .inr ⟨k, List.mem_range.2 (Array.getElem?_eq_some_iff.1 ho).1, ?_⟩
      rw [Bool.and_eq_true, ho]
      exact ⟨h, h2⟩
theorem rely_lastD (chk : relyChk ops a0.tmps.size = true) (sym : ∀ j k u v, D j k u v → D k j v u) {m : Nat} {om : Oper} (hom : ops[m]? = some om) (hall : ∀ j, j < ops.size → j ≠ m → dueTo ops om j = true)
    (stab : ∀ j k, j ≠ k → j < ops.size → k < ops.size → ∀ w w', (Tf k).G w w' → ((Tf j).N w → (Tf j).N w') ∧ ∀ v, (Tf j).R v w → (Tf j).R v w')
    (steps : ∀ i oi, ops[i]? = some oi → i ≠ m → RelyStep P ops S Tf D a0 i oi)
    (fin : ∀ (vs : Nat → Value) (w : World), S w → AllL (fun j => (Tf j).R (vs j) w) (butOne ops.size m) → wpList P ops Q [om] ⟨fillF ops vs (butOne ops.size m) a0.tmps, a0.defers⟩ w) :
    ∀ (fuel : Nat) (listed : Array Bool) (a : Act) (w : World), RelyInv ops S Tf D a0 listed a w → listed.getD m false = false → listed.toList.count false ≤ fuel → wpAny P .any ops Q fuel listed a w := by
  have hml : m < ops.size := (Array.getElem?_eq_some_iff.1 hom).1
  intro fuel
  induction fuel with
  | zero =>
    intro listed a w I hm hc
    exfalso
    have hj' : m < listed.size := by rw [I.size]; exact hml
    have h0 : listed.toList.count false = 0 := by omega
    have h1 : listed[m] = false := by simpa [hj'] using hm
    exact absurd (h1 ▸ Array.getElem_mem_toList hj') (List.count_eq_zero.1 h0)
  | succ fuel ih =>
    intro listed a w I hm hc
    refine ⟨fun hr => ?_, fun i hi => ?_⟩
    · have := ready_all chk hr I.size m hml
      rw [hm] at this
      cases this
    · by_cases him : i = m
      · subst him
        obtain ⟨hun, oi, hoi, hdep⟩ := mem_ready.1 hi
        rw [hom] at hoi
        cases hoi
        have hother : ∀ j, j < ops.size → j ≠ i → listed.getD j false = true := fun j hj hji => by
          rcases dueTo_iff.1 (hall j hj hji) with h | ⟨k, ok, h, hk, h2⟩
          · obtain ⟨e, he, hb, rfl⟩ := boundTo_iff.1 h
            exact hdep e he hb
          · obtain ⟨e, he, hb, rfl⟩ := boundTo_iff.1 h
            obtain ⟨e2, he2, hb2, rfl⟩ := boundTo_iff.1 h2
            exact I.closed _ _ _ hk (hdep e he hb) he2 hb2
        have hvs : ∃ vs : Nat → Value, ∀ j, j < ops.size → j ≠ i → (∀ d, dstAt ops j = some d → a.tmps[d]? = some (vs j)) ∧ (Tf j).R (vs j) w := by
          have hv : ∀ j, ∃ v, j < ops.size → j ≠ i → (∀ d, dstAt ops j = some d → a.tmps[d]? = some v) ∧ (Tf j).R v w := fun j => by
            by_cases h : j < ops.size ∧ j ≠ i
            · obtain ⟨v, h1⟩ := I.done j h.1 (hother j h.1 h.2)
              exact ⟨v, fun _ _ => h1⟩
            · exact ⟨undef, fun h1 h2 => absurd ⟨h1, h2⟩ h⟩
          exact ⟨fun j => Classical.choose (hv j), fun j => Classical.choose_spec (hv j)⟩
        obtain ⟨vs, hvs⟩ := hvs
        have hb : ∀ j ∈ butOne ops.size i, j < ops.size ∧ j ≠ i := fun j hj => by
          unfold butOne at hj
          rw [List.mem_filter, List.mem_range] at hj
          exact ⟨hj.1, by simpa using hj.2⟩
        have H := fin vs w I.S (AllL.of fun j hj => (hvs j (hb j hj).1 (hb j hj).2).2)
        have e : fillF ops vs (butOne ops.size i) a0.tmps = a.tmps := by
          refine Array.ext_getElem? fun t => ?_
          by_cases h : ∃ j, j < ops.size ∧ j ≠ i ∧ dstAt ops j = some t
          · obtain ⟨j, hj, hji, hd⟩ := h
            have hoj : ops[j]? = some ops[j] := Array.getElem?_eq_getElem hj
            have hdj : ops[j].dst = some t := by unfold dstAt at hd; rw [hoj] at hd; exact hd
            have CJ := at_dst (chk_at chk hoj) hdj
            rw [fill_at hd CJ.2 _ _ (by unfold butOne; rw [List.mem_filter, List.mem_range]; exact ⟨hj, by simpa using hji⟩) CJ.1]
            exact ((hvs j hj hji).1 t hd).symm
          · rw [fill_other _ _ (fun j hj hd => h ⟨j, (hb j hj).1, (hb j hj).2, hd⟩)]
            refine (I.old t fun j hj hd => h ⟨j, ?_, fun e => ?_, hd⟩).symm
            · unfold dstAt at hd
              cases ho : ops[j]? with
              | none => rw [ho] at hd; cases hd
              | some o => exact (Array.getElem?_eq_some_iff.1 ho).1
            · subst e; rw [hm] at hj; cases hj
        rw [e] at H
        obtain ⟨t, d⟩ := a
        have hd := I.defers
        dsimp only at hd H
        rw [← hd] at H
        unfold wpOp
        simp only [hom]
        unfold wpList at H
        have hend : ∀ (a' : Act) (w' : World), wpList P ops Q [] a' w' → wpAny P .any ops Q fuel (listed.setIfInBounds i true) a' w' := fun a' w' h => by
          refine wpAny_done ?_ h fuel
          cases hr : Region.ready .any ops (listed.setIfInBounds i true) with
          | nil => rfl
          | cons j rs =>
            have hj : j ∈ Region.ready .any ops (listed.setIfInBounds i true) := by rw [hr]; simp
            obtain ⟨hun2, oj, hoj, -⟩ := mem_ready.1 hj
            have h1 := (getD_false_of hun2).1
            have hjl := (Array.getElem?_eq_some_iff.1 hoj).1
            rw [getD_set (by rw [I.size]; exact hml)] at h1
            by_cases hji : i = j
            · rw [if_pos hji] at h1; cases h1
            · rw [if_neg hji, hother j hjl (Ne.symm hji)] at h1; cases h1
        split
        · next c =>
          rw [if_pos c] at H
          exact H.imp (Oper.wp_mono hend) id
        · next c =>
          rw [if_neg c] at H
          exact hend _ _ H
      · refine wpOp_mono (fun a' w' I' => ih _ a' w' I' ?_ ?_) (rely_step chk sym stab I hi (fun oi hoi => steps i oi hoi him))
        · obtain ⟨hun, -⟩ := mem_ready.1 hi
          rw [getD_set (getD_false_of hun).2, if_neg him]
          exact hm
        · obtain ⟨hun, -⟩ := mem_ready.1 hi
          obtain ⟨h1, h2⟩ := getD_false_of hun
          rw [Array.toList_setIfInBounds, List.count_set (by simpa using h2)]
          have h3 : listed.toList[i]'(by simpa using h2) = false := by simpa [h2] using h1
          rw [h3]
          have h4 : 0 < listed.toList.count false := List.count_pos_iff.2 (h3 ▸ List.getElem_mem _)
          simp
          simp only [Array.count_toList] at hc h4 ⊢
          omega

end
section
variable {P : Program} {ops : Array Oper} {Q : Exit → Act → World → Prop} {a0 : Act} {w0 : World} {L : List OpB}
def lastChkD (ops : Array Oper) (m : Nat) : Bool := match ops[m]? with | some o => (List.range ops.size).all (fun j => j == m || dueTo ops o j) | none => false
/-- **A region that draws its order, and lets all blocks be but for its last operation**, which is carried out behind all others, as ever -/
theorem wp_region_lastD {id : Nat} (L : List OpB) (m : Nat) (om : Oper) (hm : P.follows .mixedOrders = true) (chk : relyChk ops a0.tmps.size = true) (hom : ops[m]? = some om) (chk2 : lastChkD ops m = true)
    (steps : BSteps P ops w0 L a0 0 (ops.toList.take m)) (hsz : ops.size = m + 1)
    (fin : ∀ (vs : Nat → Value) (w : World), Below w0.heap.size w0 w → AllL (fun j => (L.getD j opAny).R (vs j) w) (butOne ops.size m) → wpList P ops Q [om] ⟨fillF ops vs (butOne ops.size m) a0.tmps, a0.defers⟩ w) :
    (Code.region id ops true).wp P Q a0 w0 := by
  refine wp_region_any hm (rely_lastD (S := fun w => Below w0.heap.size w0 w) (Tf := lastT L m) (D := fun _ _ _ _ => True) chk (fun _ _ _ _ _ => trivial) hom (fun j hj hjm => ?_) (fun j k hjk _ _ w w' hG => ?_) (fun i oi hoi him => ?_) (fun vs w hS hA => fin vs w hS (lastT_all hA)) _ _ _ _ ⟨(Below.refl _ w0).drew, by simp, rfl, rfl, fun t _ => rfl, ?_, fun j hj _ => ?_, ?_, ?_⟩ ?_ ?_)
  · unfold lastChkD at chk2
    rw [hom] at chk2
    have := List.all_eq_true.1 chk2 j (List.mem_range.2 hj)
    simp at this
    exact this.resolve_left hjm
  · unfold lastT at hG ⊢
    by_cases hk : k = m
    · rw [if_pos hk] at hG; exact hG.elim
    · rw [if_neg hk] at hG
      have hG' : Below w.heap.size w w' := hG
      by_cases hj : j = m
      · rw [if_pos hj]; exact ⟨fun _ => trivial, fun v hR => (L.getD j opAny).st v w w' hG' hR⟩
      · rw [if_neg hj]; exact ⟨fun _ => trivial, fun v hR => (L.getD j opAny).st v w w' hG' hR⟩
  · intro vs w hS _ hA
    have hil : i < m := by have := (Array.getElem?_eq_some_iff.1 hoi).1; omega
    have hst := BSteps.at steps (i := i) (o := oi) (by rw [List.getElem?_take_of_lt hil]; simpa using hoi)
    rw [Nat.zero_add] at hst
    have hA' := lastT_all hA
    refine wpList_one_mono (Q := PostB (L.getD i opAny) a0.defers oi.dst w) (fun e he a w' hq => by cases e <;> first | exact absurd rfl he | exact hq) (fun a' w' hq => ?_) (hst vs w hS hA')
    refine ⟨?_, ?_, hS.trans (hq.2.1.mono hS.size), hq.2.2, fun _ _ _ _ _ _ _ _ => trivial⟩
    · exact lastT_R.2 hq.1
    · unfold lastT; rw [if_neg him]; exact hq.2.1
  · intro j hj hl
    simp [hj] at hl
  · unfold lastT; split <;> trivial
  · intro j oj e hoj hl
    have hj := (Array.getElem?_eq_some_iff.1 hoj).1
    simp [hj] at hl
  · intro j k dj dk _ hl _ hdj
    have hj : j < ops.size := by
      unfold dstAt at hdj
      cases ho : ops[j]? with
      | none => rw [ho] at hdj; cases hdj
      | some o => exact (Array.getElem?_eq_some_iff.1 ho).1
    simp [hj] at hl
  · have hmm : m < ops.size := (Array.getElem?_eq_some_iff.1 hom).1
    simp [hmm]
  · rw [Array.toList_replicate, List.count_replicate]
    simp
end
end Go.Proofs.Ytjlnaadpiohbnaa
