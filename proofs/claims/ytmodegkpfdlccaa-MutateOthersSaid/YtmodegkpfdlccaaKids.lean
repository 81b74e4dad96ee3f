/-
  tree.Kids of the landed code.
-/
import Derived.Test.YtmodegkpfdlccaaEnds
namespace Go.Proofs.Ytmodegkpfdlccaa
open Go.RowKit Go.Shelf
attribute [local go_sem] Oper.semAt_some

theorem Try.info27 : (Try.prog.info? 3).map (fun i => (i.zero, i.size, i.bytes)) = some (some (.int .i64 0), 1, 8) := by kernel_rfl

/-- the kids among these places -/
def kidsIn (N : Nat → RN) {len : Nat} (i : Nat) (pre : List (Fin len)) : List Nat := (pre.map (·.val)).filter fun j => decide (dps N i + 1 = dps N j)
theorem kidsIn_snoc {N : Nat → RN} {len i : Nat} (pre : List (Fin len)) (p : Fin len) : kidsIn N i (pre ++ [p]) = kidsIn N i pre ++ if (N i).depth + 1 = (N p.val).depth then [p.val] else [] := by
  unfold kidsIn
  rw [List.map_append, List.filter_append]
  congr 1
  simp only [List.map_cons, List.map_nil, dps]
  split
  · rename_i h; simp [h]
  · rename_i h; simp [h]
theorem kidsIn_le {N : Nat → RN} {len i : Nat} (pre : List (Fin len)) : (kidsIn N i pre).length ≤ pre.length := by
  unfold kidsIn
  exact Nat.le_trans (List.length_filter_le _ _) (by simp)
theorem kidsIn_all {N : Nat → RN} {len : Nat} {a : Int} {ys : List (Fin len)} (h : ys.map (·.val) = withinL N len a) : kidsIn N a.toNat ys = kidsAns N len a := by
  unfold kidsIn kidsAns
  rw [h]
  by_cases hin : 0 ≤ a ∧ a < len
  · rw [if_pos hin]
    obtain ⟨i, rfl⟩ := Int.eq_ofNat_of_zero_le hin.1
    have hi : i < len := by omega
    have hg := endOf_gt (dps N) hi
    rw [withinL_yes hi]
    unfold kidsOf
    rw [show ((i : Nat) : Int).toNat = i by omega]
    obtain ⟨m, hm⟩ : ∃ m, endOf (dps N) len i - i = 1 + m := ⟨endOf (dps N) len i - i - 1, by omega⟩
    rw [hm, ← List.range'_append_1, List.filter_append, show endOf (dps N) len i - (i + 1) = m by omega]
    simp
    omega
  · rw [if_neg hin, withinL_no hin]; rfl
theorem kidsIn_lt {N : Nat → RN} {len i : Nat} (pre : List (Fin len)) : ∀ x ∈ kidsIn N i pre, x < len := by
  unfold kidsIn
  intro x hx
  obtain ⟨p, -, rfl⟩ := List.mem_map.1 (List.mem_filter.1 hx).1
  exact p.isLt

/-- the variable that collects them -/
def KidsBox (N : Nat → RN) {len : Nat} (i : Nat) (B O : Nat) (pre : List (Fin len)) (W : World) : Prop := ∃ v, Boxed W O 43 v ∧ owns W B 3 .i64 v (kidsIn N i pre) ∧ True

theorem places_of_owns {W : World} {B : Nat} {v : Value} {l : List Nat} (h : owns W B 3 .i64 v l) (hl : ∀ x ∈ l, x < 9223372036854775808) : ∃ A c, v = .slice A l.length c ∧ Places W A c l ∧ (∀ b off, A = some ⟨b, off, none⟩ → B ≤ b) := by
  obtain ⟨A, c, rfl, h1, h2, h3⟩ := h.form
  refine ⟨A, c, rfl, ⟨hl, fun e => ?_, ⟨h1, by unfold maxLen at h2; omega⟩, fun hne => ?_⟩, fun b off e => World.ownsRow.lt h b (by rw [e]; rfl) |>.1⟩
  · have := h3 e
    exact ⟨List.eq_nil_of_length_eq_zero this.1, this.2⟩
  · have hn := h.nums (M := 9223372036854775808) hl
    have h0 : 0 < l.length := by
      rcases l with _ | ⟨y, r⟩
      · exact absurd rfl hne
      · simp
    obtain ⟨b, off, e, hb, hc⟩ := hn.2 h0
    refine ⟨b, off, e, hb, fun k p hk => ?_⟩
    have hkl : k < l.length := (List.getElem?_eq_some_iff.1 hk).1
    have := hc k hkl
    rw [pick_get hkl] at hk
    cases hk
    exact this

/-- behind an append to a row beyond B, held in a box below it -/
theorem appended_beyond {W w1 : World} {B O : Nat} {t e : TypeId} {size : Nat} {v v' : Value} {k m : Nat} {xs ys : List Value} {tmp : Obj}
    (hv : Boxed W O t v) (hrow : W.ownsRow B e size v k xs) (hB : B ≤ W.heap.size) (hO : O < B)
    (hown' : w1.ownsRow B e size v' m ys) (hgrow : (W.alloc tmp).grownBy w1 v.ownBlock) :
    Boxed w1 O t v ∧ Boxed (w1.setCell ⟨O, 0, none⟩ v') O t v' ∧ (w1.setCell ⟨O, 0, none⟩ v').ownsRow B e size v' m ys ∧ KeepsOthers W (w1.setCell ⟨O, 0, none⟩ v') ∧ KeepBut B O W (w1.setCell ⟨O, 0, none⟩ v') ∧ ∀ n₀, n₀ ≤ O → Below n₀ W (w1.setCell ⟨O, 0, none⟩ v') := by
  have ob : ∀ j, v.ownBlock = some j → B ≤ j := fun j ej => (hrow.lt j ej).1
  have hv1 : Boxed w1 O t v := (hv.alloc tmp).kept hgrow (fun e => by have := ob O e.symm; omega)
  have hbel : Below B W w1 := ((Below.refl B W).alloc hB tmp).grown hgrow (by simp; omega) (fun j ej => ob j ej)
  refine ⟨hv1, hv1.set v', ownsRow_setCell_below hown' (a := ⟨O, 0, none⟩) hO v', ?_, ?_, ?_⟩
  · refine ((KeepsOthers.alloc W tmp).trans (KeepsOthers.of_grownBy hgrow fun j o ej hj => ?_)).trans (KeepsOthers.setCell _ _ _)
    rcases (hrow.alloc tmp).2 with ⟨rfl, _⟩ | ⟨g, cap, cur, rfl, _, hgb, _⟩
    · simp [Value.ownBlock] at ej
    · obtain rfl : g = j := by simpa [Value.ownBlock] using ej
      rw [hgb] at hj; cases hj; rfl
  · exact (KeepBut.of_below hbel).setCell 0 v'
  · intro n₀ hn
    exact (hbel.mono (by omega)).setCell (p := ⟨O, 0, none⟩) hn v'

/-- the row of them is a new one -/
def KidsFresh : Prop := ∀ (A : Option Addr) (n c : Nat) (x : Int) (N : Nat → RN) (a : Int) (w : World), DocIn w A n c x N → -9223372036854775808 ≤ a → a ≤ 9223372036854775807 →
  Calls Try.prog 47 #[docV A n c x, .int .i64 a] w fun e w' => ∃ B d, e = .returned (.slice B (kidsAns N n a).length d) ∧ Places w' B d (kidsAns N n a) ∧ (∀ b off, B = some ⟨b, off, none⟩ → w.heap.size ≤ b) ∧ owns w' w.heap.size 3 .i64 (.slice B (kidsAns N n a).length d) (kidsAns N n a) ∧ Below w.heap.size w w'

theorem owns_lower {w : World} {B B' : Nat} {e : TypeId} {K : IntKind} {v : Value} {l : List Nat} (h : owns w B e K v l) (hb : B' ≤ B) : owns w B' e K v l := by
  refine ⟨h.1, ?_⟩
  rcases h.2 with hn | ⟨g, cap, cur, rfl, hg, rest⟩
  · exact .inl hn
  · exact .inr ⟨g, cap, cur, rfl, Nat.le_trans hb hg, rest⟩
set_option maxRecDepth 100000 in
set_option maxHeartbeats 4000000 in
theorem kids_fresh : KidsFresh := by
  intro A len c x N a w hD ha1 ha2
  have hlen : len ≤ 140737488351232 := by have := hD.1.2.2.2; omega
  have hlen8 : len * 360 ≤ 140737488351232 := hD.1.2.2.2
  obtain ⟨i0, hi0', hz0, hz1, hz2⟩ := info_parts Try.info27
  refine (callsIn_wide (n := 4)).1 ?_
  unfold docV
  have ST := Lib.hid (start_of hD a 43 (.slice none 0 0))
  have DD := Lib.hid hD.1.1.1
  clear hD
  refine callsIn_of_wp_marks Try.func47 rfl trivial ?_ rfl
  simp only [Try.ntmps47, List.size_toArray, List.length_cons, List.length_nil, Nat.reduceAdd, Nat.reduceSub, Array.replicate_succ, Array.replicate_zero, List.push_toArray, List.append_toArray, List.nil_append, List.cons_append]
  gi_wp2_with (refine ⟨trivial, ?_⟩; gi_at_call 77; refine (callsIn_wide.2 (within_any A len c a _)).mono ?_; rintro e w' ⟨rfl, rfl⟩)
  generalize (((((w.alloc (.cells #[.slice A len c, .int .i64 x] 24)).alloc (.cells #[.int .i64 a] 3)).alloc (.cells #[.slice none 0 0] 43)).alloc (.cells #[.slice A len c] 22)).alloc (.cells #[.int .i64 a] 3)) = W0 at ST ⊢
  refine wpIn_rangeFunc_ownG (w0 := W0) rfl (by omega) (gf := 86) (lb := #[.pointer (some ⟨w.heap.size + 1 + 1 + 1, 0, none⟩), .pointer (some ⟨w.heap.size + 1 + 1 + 1 + 1, 0, none⟩)]) rfl trivial (enters_of Try.func86 (by kernel_rfl) rfl)
    (within_stops 3 (by omega) A len c a N _ _ (KeepBut W0.heap.size (w.heap.size + 2)) ST.out.seen_keep hlen ha1 ha2 W0 ST.out.seen_later)
    KeepBut.trans (KeepBut.book (Nat.le_refl _)) (Below.refl _ _) (fun _ => rfl)
    (fun pre W => (KeepBut W0.heap.size (w.heap.size + 2) W0 W ∧ Below w.heap.size w W) ∧ KidsBox N a.toNat W0.heap.size (w.heap.size + 2) pre W)
    (fun _ _ _ => False)
    ?hI (fun _ _ _ _ _ hs _ _ => hs)
    ⟨⟨KeepBut.refl _ _ _, ST.out.below⟩, _, ST.out.box, World.ownsRow_nil _ _ _ _, trivial⟩
    (fun p => { tmps := #[.agg #[.slice A len c, .int .i64 x], .int .i64 a, .pointer (some ⟨w.heap.size, 0, none⟩), .pointer (some ⟨w.heap.size + 1, 0, none⟩), .slice none 0 0, .pointer (some ⟨w.heap.size + 1 + 1, 0, none⟩), .int .i64 ((p.val : Nat) : Int), .pointer (some ⟨w.heap.size, 0, none⟩), .slice A len c, .int .i64 a, .func (.func 86) #[] #[.pointer (some ⟨w.heap.size + 1 + 1 + 1, 0, none⟩), .pointer (some ⟨w.heap.size + 1 + 1 + 1 + 1, 0, none⟩)], .int .i64 ((p.val : Nat) : Int), undef, undef, undef, undef, undef, undef, undef, undef, undef, undef, undef, undef, undef, undef, undef, undef, undef, undef], defers := [] }) ?assign ?body ?done ?stop
  case hI => exact OwnFrom.and (OwnFrom.and (ownFrom_keepBut (Nat.le_refl _)) (ownFrom_below (Nat.le_refl _) (by have := ST.out.size; omega))) (Own.from (holdsRow_own W0.heap.size (w.heap.size + 2) 43 3 1 (fun (pre : List (Fin len)) => (kidsIn N a.toNat pre).length) (fun pre => (kidsIn N a.toNat pre).map fun (x : Nat) => Value.int .i64 (x : Nat)) (fun _ _ => True)) _)
  case assign =>
    intro l p W K hK
    dsimp only
    gi_wp2
    simpa using hK
  case body =>
    rintro l pre p W ⟨⟨hk, hB⟩, v, hv, hown, -⟩ hlt
    obtain ⟨hN, c0, c1⟩ := ST.out.reads hk
    have hin : 0 ≤ a ∧ a < len := by
      by_cases h : 0 ≤ a ∧ a < len
      · exact h
      · rw [withinL_no h] at hlt; simp at hlt
    obtain ⟨i, rfl⟩ := Int.eq_ofNat_of_zero_le hin.1
    have hi : i < len := by omega
    have hp := p.isLt
    have hpl : pre.length < len := by
      rw [withinL_yes hi, List.length_range'] at hlt
      have := (endOf_gt (dps N) hi).2
      omega
    have hkl := kidsIn_le (N := N) (i := i) pre
    obtain ⟨b, off, rfl, hb, d1⟩ := dp_cell hN hp
    obtain ⟨b', off', e', hb', d2⟩ := dp_cell hN hi
    obtain ⟨rfl, rfl⟩ : b = b' ∧ off = off' := by
      simp only [Option.some.injEq, Addr.mk.injEq, and_true] at e'
      exact e'
    have D1 := (DD.out p.val hp).depth
    have D2 := (DD.out i hi).depth
    have hf := hv.frozen
    have hvc := hv.cell
    have HK := Lib.hid hk
    have HB := Lib.hid hB
    have HV := Lib.hid hv
    have HO : Hid (owns W W0.heap.size 3 .i64 v (kidsIn N i pre)) := Lib.hid hown
    have LL : Hid ((kidsIn N i pre).length + 1 ≤ len) := Lib.hid (by omega)
    have hi0 : (0 : Int) ≤ i := by omega
    have hiz : (i : Int) < len := by omega
    have hp0 : (0 : Int) ≤ p.val := by omega
    have hpz : ((p.val : Nat) : Int) < len := by omega
    clear e' hb hb' hN hlt hk hB hv hown hpl hkl
    gi_wp2
    refine wpIn_region_still_tail 12 (by kernel_rfl) (by kernel_rfl) (by kernel_rfl) ?_
    simp only [List.take_succ_cons, List.take_zero, List.drop_succ_cons, List.drop_zero]
    repeat still_step
    refine wpStill_nil ?_
    by_cases hd : (N i).depth + 1 = (N p.val).depth
    · have hdd : decide ((N i).depth + 1 = (N p.val).depth) = true := by simpa using hd
      have HD := Lib.hid hd
      clear hd
      have O2 : Hid (((W.alloc (.cells #[.int .i64 ((p.val : Nat) : Int)] 3)).drew).ownsRow W0.heap.size 3 1 v (kidsIn N i pre).length ((kidsIn N i pre).map fun (x : Nat) => Value.int .i64 (x : Nat))) := Lib.hid ((World.ownsRow.alloc HO.out _).kept (grown_drew _ none) (by cases v.ownBlock <;> simp))
      have hWz : W0.heap.size ≤ W.heap.size := HK.out.size
      gi_wp2_with (first
        | (refine ⟨trivial, ?_⟩; gi_at_call 78; refine (CallsIn.inRound l (callsIn_wide.2 (isNextDeeper_any _ _ _ D2 D1))).mono ?_; rintro e w' ⟨rfl, rfl⟩)
        | (gi_at_builtin; refine wpListIn_append_own _ rfl _ _ 43 rfl W0.heap.size 3 i0 (.int .i64 0) 1 8 Try.underlying43 hi0' hz0 hz1 hz2 rfl (by decide) _ _ _ rfl O2.out ⟨W.heap.size, 0, none⟩ 1 1 [.int .i64 ((p.val : Nat) : Int)] rfl rfl (fun j u h => (World.cell?_drew _ _).trans (cell_one_new _ _ _ j u h)) (by simp [Value.oneCell']) (by have := LL.out; unfold maxLen; omega) (by have := LL.out; omega) (by simp; omega) ?_; intro v' w1 hown' hgrow _; obtain ⟨g', cap', rfl⟩ := ownsRow_succ hown'; obtain ⟨hv1, hv2, hr2, hk2, hb2, hb3⟩ := appended_beyond (tmp := .cells #[.int .i64 ((p.val : Nat) : Int)] 3) HV.out HO.out hWz (by have := ST.out.size; omega) hown' ⟨hgrow.os, hgrow.tape, hgrow.output, hgrow.size, hgrow.block⟩; have hc1 := hv1.cell; have hf1 := hv1.frozen; have V2 := Lib.hid hv2; have R2 := Lib.hid hr2; have K2 := Lib.hid hk2; have B2 := Lib.hid hb2; have B3 := Lib.hid (hb3 w.heap.size (by omega)); clear hv1 hv2 hr2 hk2 hb2 hb3 hown' hgrow))
      exact ⟨K2.out.from _, B2.out, ⟨HK.out.trans B2.out, HB.out.trans B3.out⟩, _, V2.out, by
        rw [show ((i : Nat) : Int).toNat = i from rfl, kidsIn_snoc, if_pos HD.out]
        unfold owns
        simpa using R2.out, trivial⟩
    · have hdd : decide ((N i).depth + 1 = (N p.val).depth) = false := by simpa using hd
      have HD := Lib.hid hd
      clear hd
      gi_wp2_with (refine ⟨trivial, ?_⟩; gi_at_call 78; refine (CallsIn.inRound l (callsIn_wide.2 (isNextDeeper_any _ _ _ D2 D1))).mono ?_; rintro e w' ⟨rfl, rfl⟩)
      exact ⟨(KeepsOthers.drew W).from _, KeepBut.drew _ _ _, ⟨HK.out.trans (KeepBut.drew _ _ _), HB.out.drew⟩, v, HV.out, by
        rw [show ((i : Nat) : Int).toNat = i from rfl, kidsIn_snoc, if_neg HD.out, List.append_nil]; exact HO.out.keep (Below.refl _ _).drew, trivial⟩
  case done =>
    rintro D ys W hD hy ⟨⟨hk, hB⟩, v, hv, hown, -⟩ hK
    have hc := hv.cell
    have HZ2 := ST.out.size
    have HV := Lib.hid hv
    clear hv
    rw [kidsIn_all hy] at hown
    have HO : Hid (owns W W0.heap.size 3 .i64 v (kidsAns N len a)) := Lib.hid hown
    clear hown
    gi_wp2
    refine ⟨by simp, .inl ⟨_, _, rfl, run_takeDeferred hK, ?_⟩⟩
    have HO2 : Hid (owns (W.putObj D (.deferred none)) w.heap.size 3 .i64 v (kidsAns N len a)) := Lib.hid (owns_lower (ownsRow_putObj HO.out (.deferred none) hK rfl) (by omega))
    obtain ⟨B, d, rfl, hpl, hfr⟩ := places_of_owns (ownsRow_putObj HO.out (.deferred none) hK rfl) (fun x hx => by rw [← kidsIn_all hy] at hx; have := kidsIn_lt _ x hx; omega)
    exact ⟨_, results_tmp rfl _ _ _, B, d, rfl, hpl, fun b off e => by have := hfr b off e; omega, HO2.out, hB.trans (belowK_b (w := w) (Nat.le_refl _) W D _ _ (by omega) hK rfl rfl)⟩
  case stop =>
    rintro D c pre W _ _ h _
    exact h.elim
theorem kids_any : KidsOK := fun A n c x N a w hD h1 h2 => (kids_fresh A n c x N a w hD h1 h2).mono fun _ _ ⟨B, d, he, hp, _, _, hb⟩ => ⟨B, d, he, hp, hb⟩
end Go.Proofs.Ytmodegkpfdlccaa
