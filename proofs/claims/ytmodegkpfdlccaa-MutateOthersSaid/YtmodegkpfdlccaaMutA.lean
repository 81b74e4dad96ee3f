/-
  The landed code: demand, find, isFlexible, stylesMay, nestsMay, kidsMay, May, fresh of mutate.
-/
import Derived.Test.YtmodegkpfdlccaaMutMath
import Derived.Test.YtmodegkpfdlccaaFind
import Derived.Test.YtmodegkpfdlccaaOfNode
import Derived.Test.YtmodegkpfdlccaaStyled
import Derived.WalkLawsBesides
import Derived.Test.YtmodegkpfdlccaaDepths
import Derived.Test.YtmodegkpfdlccaaStyleMay
import Derived.Test.YtmodegkpfdlccaaMay5
import Derived.Laws.Rows
namespace Go.Proofs.Ytmodegkpfdlccaa

section
open Go.RowKit

section
variable {W : World} {ops : Array Oper} {rest : List Oper} {o : Oper} {a : Act} {Q : Exit → Act → World → Prop}
theorem wpList_build_op (hgd : Region.wanted o (yielded ops a.tmps) = true) (ty : TypeId) (parts : Array (Nat × Operand)) (ho : o.op = .build ty parts) (V : Value) (hr : ∀ W, (Instr.build ty (parts.map fun (i, x) => (i, a.eval x))).run Try.prog W = .ok V W)
    (h : wpList Try.prog ops Q rest (a.put o.dst V) W) : wpList Try.prog ops Q (o :: rest) a W := by
  refine wpList_step fun K hK => ?_
  rw [if_pos hgd]
  unfold Oper.wp execOp
  simp only [ho, Sem.run_bind, hr, Result.andThen_ok, Sem.run_pure]
  exact hK _ _ h
end
/-- what is wrong, told by panic -/
def wrong (f : Int) : Ending := .panicked [{ v := .iface 37 (.int .i64 f), recovered := false }]
theorem demand_yes (f : Int) (w : World) : Calls Try.prog 24 #[.bool true, .int .i64 f] w fun e w' => e = .returned (.tuple #[]) ∧ w' = w := by
  go_enter Try.func24, Try.ntmps24
  go_wp2
  go_end0
  exact ⟨rfl, rfl⟩
theorem demand_no (f : Int) (w : World) : Calls Try.prog 24 #[.bool false, .int .i64 f] w fun e w' => e = wrong f ∧ w' = w := by
  go_enter Try.func24, Try.ntmps24
  go_wp2
  exact ⟨rfl, rfl, rfl⟩

set_option maxRecDepth 100000 in
theorem lits_disp {v : RN} (hv : v.ok) : v.cells[3]? = some (.int .u8 (dispOf v)) ∧ 0 ≤ dispOf v ∧ dispOf v < 256 := by
  obtain ⟨s, e, hs⟩ := hv.styled
  have : dispOf v = s.display := by unfold dispOf; rw [e]; rfl
  rw [this]
  refine ⟨?_, hs.display⟩
  simp only [RN.cells, RN.lits, e]
  rfl

set_option maxRecDepth 100000 in
set_option maxHeartbeats 4000000 in
theorem isFlexible_any (v : RN) (hv : v.ok) (w : World) (r : Bool) (hr : decide (dispOf v = 2) = r) :
    Calls Try.prog 46 #[.agg v.cells.toArray] w fun e w' => e = .returned (.bool r) ∧ Below w.heap.size w w' := by
  obtain ⟨e3, d0, d1⟩ := lits_disp hv
  have R := Lib.hid hr
  clear hr
  have hB : Hid (Below w.heap.size w (w.alloc (.cells v.cells.toArray 32))) := Lib.hid ((Below.refl _ _).alloc (Nat.le_refl _) _)
  generalize dispOf v = D at *
  generalize v.cells = X at e3 hB ⊢
  have c3 : (w.alloc (.cells X.toArray 32)).cell? ⟨w.heap.size, 3, none⟩ = some (.int .u8 D) := by rw [World.cell?_alloc_new]; simpa using e3
  clear e3 hv
  have h2 : (D == 2) = r := by rw [← R.out]; by_cases h : D = 2 <;> simp [h]
  go_enter Try.func46, Try.ntmps46
  go_wp2
  go_ret
  exact ⟨rfl, hB.out⟩

/-- a place, or that it isn't there -/
def FoundIs (R : Option Nat) (e : Ending) : Prop := match R with
  | none => e = wrong 70
  | some i => e = .returned (.int .i64 (i : Nat))
/-- the node of that key, of that kind -/
def foundN (N : Nat → RN) (n : Nat) (key kind : Int) : Option Nat := match findN N n key with
  | none => none
  | some i => if (N i).kind = kind then some i else none
theorem found_some {N : Nat → RN} {n i : Nat} {key kind : Int} (h : foundN N n key kind = some i) : findN N n key = some i ∧ i < n ∧ (N i).kind = kind := by
  unfold foundN at h
  cases e : findN N n key with
  | none => rw [e] at h; cases h
  | some j =>
    rw [e] at h
    dsimp only at h
    split at h
    · cases h
      exact ⟨rfl, (find_some e).1, by assumption⟩
    · cases h

theorem kind_cell {W : World} {A : Option Addr} {n : Nat} {N : Nat → RN} (h : Nodes W A n N) {j : Nat} (hj : j < n) : ∃ b off, A = some ⟨b, off, none⟩ ∧ b < W.heap.size ∧ W.cell? ⟨b, off + j * 51 + 2, none⟩ = some (.int .u8 (N j).kind) := by
  obtain ⟨b, off, e, hb, hc⟩ := h.2 (by omega)
  exact ⟨b, off, e, hb, (hc j hj 2 (by omega)).trans rfl⟩

set_option maxRecDepth 100000 in
set_option maxHeartbeats 4000000 in
theorem findM_any (A : Option Addr) (n c : Nat) (x : Int) (N : Nat → RN) (key kind : Int) (w : World) (hD : DocIn w A n c x N) (hk1 : -9223372036854775808 ≤ key) (hk2 : key ≤ 9223372036854775807) :
    Calls Try.prog 41 #[docV A n c x, .int .i64 key, .int .u8 kind] w fun e w' => FoundIs (foundN N n key kind) e ∧ Below w.heap.size w w' := by
  have hn : n ≤ 140737488351232 := by have := hD.1.2.2.2; omega
  unfold docV
  have B0 : Hid (Below w.heap.size w (w.alloc (.cells #[.slice A n c, .int .i64 x] 24))) := Lib.hid ((Below.refl _ w).alloc (Nat.le_refl _) _)
  have DD := Lib.hid (hD.below B0.out)
  have D0 : Hid (DocBox (w.alloc (.cells #[.slice A n c, .int .i64 x] 24)) w.heap.size (.slice A n c) (.int .i64 x)) := Lib.hid (heap_alloc_new w _)
  have F := Lib.hid (fun W (h : DocIn W A n c x N) => find_any A n c x N key W h hk1 hk2)
  clear hD
  have FN : Hid (foundN N n key kind = match findN N n key with
    | none => none
    | some i => if (N i).kind = kind then some i else none) := Lib.hid rfl
  generalize foundN N n key kind = R at FN ⊢
  go_enter Try.func41, Try.ntmps41
  go_wp2_with fail
  generalize w.alloc (.cells #[.slice A n c, .int .i64 x] 24) = W0 at B0 DD D0 ⊢
  refine (F.out _ DD.out).mono ?_
  rintro e w1 ⟨r, rfl, hr, hb⟩
  have hr' := hr.uniq (find_is N n key)
  have DD1 := Lib.hid (DD.out.below hb)
  have D1 := Lib.hid (D0.out.keep (hb.block _ D0.out.lt))
  have B1 := Lib.hid (B0.out.trans (hb.mono B0.out.size))
  have d0 := D1.out.c0
  clear hb hr
  cases e : findN N n key with
  | none =>
    rw [e] at hr'
    subst hr'
    replace FN : Hid (R = none) := Lib.hid (by rw [FN.out, e])
    clear e
    go_wp2_with (go_at_call 24; refine (demand_no 70 _).mono ?_; rintro e w2 ⟨rfl, rfl⟩; unfold wrong)
    obtain rfl := FN.out
    exact ⟨rfl, rfl, B1.out⟩
  | some i =>
    rw [e] at hr'
    subst hr'
    obtain ⟨hi, -⟩ := find_some e
    obtain ⟨b, off, rfl, -, k2⟩ := kind_cell DD1.out.1.1 hi
    have hiz : (i : Int) < n := by omega
    have hi0 : (0 : Int) ≤ i := by omega
    by_cases hk : (N i).kind = kind
    · have FN : Hid (R = some i) := Lib.hid (by rw [FN.out, e]; exact if_pos hk)
      have hkk : ((N i).kind == kind) = true := by simpa using hk
      have hiz2 : (i : Int) ≤ 9223372036854775807 := by omega
      clear hk e
      generalize (N i).kind = K at k2 hkk
      go_wp2_with (go_at_call 24; refine (demand_yes 70 _).mono ?_; rintro e w2 ⟨rfl, rfl⟩)
      go_ret
      obtain rfl := FN.out
      exact ⟨rfl, B1.out⟩
    · have FN : Hid (R = none) := Lib.hid (by rw [FN.out, e]; exact if_neg hk)
      have hkk : ((N i).kind == kind) = false := by simpa using hk
      clear hk e
      generalize (N i).kind = K at k2 hkk
      go_wp2_with (go_at_call 24; refine (demand_no 70 _).mono ?_; rintro e w2 ⟨rfl, rfl⟩; unfold wrong)
      obtain rfl := FN.out
      exact ⟨rfl, rfl, B1.out⟩
end

section
open Go.RowKit

def litI : Lit → Int
  | .int _ n => n
  | _ => 0
def litB : Lit → Bool
  | .bool b => b
  | _ => false
def litN (l : List Lit) (i : Nat) : Int := litI (l.getD i (.int .i64 0))
def litL (l : List Lit) (i : Nat) : RL := ⟨litN l i, litN l (i + 1)⟩
/-- a style, off its cells -/
def canonL (l : List Lit) : RS := ⟨litN l 0, litB (l.getD 1 (.int .i64 0)), litL l 2, litL l 4, litL l 6, litL l 8, litL l 10, litL l 12, fun i => litL l (14 + 2 * i), fun i => litN l (22 + i), fun i => litN l (26 + i), litN l 30, litN l 31, litN l 32, litN l 33, litN l 34, litN l 35, litN l 36, litN l 37, litB (l.getD 38 (.int .i64 0)), litN l 39, litN l 40, litN l 41, litN l 42, litN l 43, litL l 44, litN l 46⟩
set_option maxRecDepth 100000 in
theorem canon_lits (s : RS) : (canonL s.lits).lits = s.lits := rfl
set_option maxRecDepth 100000 in
theorem canon_ok {s : RS} (h : s.ok) : (canonL s.lits).ok :=
  ⟨h.display, h.width, h.minW, h.maxW, h.height, h.minH, h.maxH,
    (fun i hi => by
      obtain rfl | rfl | rfl | rfl : i = 0 ∨ i = 1 ∨ i = 2 ∨ i = 3 := by omega
      · exact h.margin 0 hi
      · exact h.margin 1 hi
      · exact h.margin 2 hi
      · exact h.margin 3 hi),
    (fun i hi => by
      obtain rfl | rfl | rfl | rfl : i = 0 ∨ i = 1 ∨ i = 2 ∨ i = 3 := by omega
      · exact h.pad 0 hi
      · exact h.pad 1 hi
      · exact h.pad 2 hi
      · exact h.pad 3 hi),
    (fun i hi => by
      obtain rfl | rfl | rfl | rfl : i = 0 ∨ i = 1 ∨ i = 2 ∨ i = 3 := by omega
      · exact h.bord 0 hi
      · exact h.bord 1 hi
      · exact h.bord 2 hi
      · exact h.bord 3 hi),
    h.offX, h.offY, h.font, h.ws, h.lines, h.valign, h.dir, h.justify, h.align, h.gap, h.lineGap, h.grow, h.shrink, h.basis, h.order⟩
/-- a style may be -/
def StyOK (l : List Lit) : Prop := mayB (canonL l) = true
theorem sty_none : StyOK noStyle := by
  unfold StyOK
  kernel_rfl
set_option maxRecDepth 100000 in
theorem sty_told (v : RN) (hv : v.ok) (w : World) (r : Bool) (hr : mayB (canonL v.style) = r) :
    Calls Try.prog 35 #[.agg (v.style.map Lit.toCell).toArray] w fun e w' => e = .returned (.bool r) ∧ Below w.heap.size w w' := by
  obtain ⟨s, e, hs⟩ := hv.styled
  rw [e] at hr ⊢
  have := smay_any (canonL s.lits) (canon_ok hs) w r hr
  unfold RS.cells at this
  rwa [canon_lits] at this

set_option maxRecDepth 100000 in
theorem style_at {v : RN} {k : Nat} {u : Value} (h : (v.style.map Lit.toCell)[k]? = some u) : v.cells[3 + k]? = some u := by
  have hj : k < v.style.length := by simpa using (List.getElem?_eq_some_iff.1 h).1
  simp only [RN.cells, RN.lits, List.map_cons, List.map_append, List.map_nil]
  rw [show 3 + k = k + 1 + 1 + 1 by omega, List.getElem?_cons_succ, List.getElem?_cons_succ, List.getElem?_cons_succ, List.getElem?_append_left (by simpa using hj)]
  exact h
set_option maxRecDepth 100000 in
theorem style_range (v : RN) (W : World) : (W.alloc (.cells v.cells.toArray 32)).rangeAt W.heap.size 3 (v.style.map Lit.toCell) := fun j u hu => by
  rw [World.cell?_alloc_new]
  simpa using style_at hu
set_option maxRecDepth 100000 in
theorem style_isize {v : RN} (hv : v.ok) : (Try.prog.info? 30).map (·.size) = some (v.style.map Lit.toCell).length := by
  rw [List.length_map, hv.style_len]
  kernel_rfl

set_option maxRecDepth 100000 in
set_option maxHeartbeats 8000000 in
theorem stylesMay_any (A : Option Addr) (n c : Nat) (N : Nat → RN) (w : World) (hN : NodesIn w A n c N) :
    Calls Try.prog 27 #[.slice A n c] w (ToldB (∀ i, i < n → StyOK (N i).style) w) := by
  have hn : n ≤ 140737488351232 := by have := hN.2.2.2; omega
  have HN := Lib.hid hN.1
  clear hN
  go_enter Try.func27, Try.ntmps27
  go_wp2
  go_loopg [7] n (fun g1 v7 wr => ∃ k : Nat, v7 = .int .i64 k ∧ k ≤ n ∧ n - k ≤ g1 ∧ Hid (∀ j, j < k → StyOK (N j).style) ∧ Hid (Below w.heap.size w wr))
  case atStart => exact ⟨0, rfl, by omega, by omega, Lib.hid (fun j h => absurd h (by omega)), Lib.hid (Below.refl _ _)⟩
  case round =>
    obtain ⟨k, rfl, hk, hg1, ST, BW⟩ := hrel
    by_cases hlt : k < n
    · have hltz : (k : Int) < n := by omega
      have hk0 : (0 : Int) ≤ k := by omega
      have HW := Lib.hid (HN.out.below BW.out)
      obtain ⟨b, off, rfl, hb', hat⟩ := HW.out.2 (by omega)
      have ok := HW.out.1 k hlt
      have rk : Hid (wr.rangeAt b (off + k * 51) (N k).cells) := Lib.hid (node_range ok (hat k hlt))
      have Lk : Hid ((Try.prog.info? 32).map (·.size) = some (N k).cells.length) := Lib.hid (by rw [ok.len]; exact node_isize)
      have LS := Lib.hid (style_isize ok)
      have SR := Lib.hid (style_range (N k) wr)
      have ones := Lib.hid (N k).cells_one
      have XL : Hid ((N k).cells.length = 51) := Lib.hid ok.len
      have B1 : Hid (Below w.heap.size w (wr.alloc (.cells (N k).cells.toArray 32))) := Lib.hid (BW.out.alloc BW.out.size _)
      by_cases hs : StyOK (N k).style
      · have C := Lib.hid (fun W => sty_told (N k) ok W true hs)
        have S1 : Hid (∀ j, j < k + 1 → StyOK (N j).style) := Lib.hid fun j hj => by
          rcases Nat.lt_or_ge j k with h | h
          · exact ST.out j h
          · obtain rfl : j = k := by omega
            exact hs
        clear hs ok hat hb' HW
        generalize (N k).style.map Lit.toCell = Z at LS SR C
        generalize (N k).cells = X at rk Lk SR ones XL B1
        go_wp2_with (first
          | ((with_reducible change wpList _ _ _ (Oper.mk (some 10) _ _ _ _ _ :: _) _ _); refine wpList_load_mid rfl 32 _ rfl b (off + k * 51) rfl X _ rk.out Try.underlying32 rfl Lk.out ?_)
          | ((with_reducible change wpList _ _ _ (Oper.mk (some 4) _ _ _ _ _ :: _) _ _); refine wpList_alloc_node rfl rfl ?_)
          | ((with_reducible change wpList _ _ _ (Oper.mk none (.store 32 _ _) _ _ _ _ :: _) _ _); refine wpList_store_new rfl 32 _ _ rfl nodeZero X.toArray rfl rfl (by rw [nodeZero_size, List.size_toArray, XL.out]) (by rw [List.size_toArray]; exact Lk.out) (by simpa using ones.out) ?_)
          | ((with_reducible change wpList _ _ _ (Oper.mk (some 12) _ _ _ _ _ :: _) _ _); refine wpList_load_mid rfl 30 _ rfl wr.heap.size 3 rfl Z _ SR.out Try.underlying30 rfl LS.out ?_)
          | (go_at_call 35; refine (C.out _).mono ?_; rintro e w1 ⟨rfl, hb1⟩))
        have B2 := Lib.hid (B1.out.trans (hb1.mono B1.out.size))
        clear hb1
        go_roundg (n - (k + 1))
        case measure => omega
        case rel => exact ⟨k + 1, by go_num, by omega, Nat.le_refl _, S1, B2⟩
      · have C := Lib.hid (fun W => sty_told (N k) ok W false (by unfold StyOK at hs; simpa using hs))
        have BAD : Hid (¬ ∀ i, i < n → StyOK (N i).style) := Lib.hid (fun h => hs (h k hlt))
        clear hs ok hat hb' HW
        generalize (N k).style.map Lit.toCell = Z at LS SR C
        generalize (N k).cells = X at rk Lk SR ones XL B1
        go_wp2_with (first
          | ((with_reducible change wpList _ _ _ (Oper.mk (some 10) _ _ _ _ _ :: _) _ _); refine wpList_load_mid rfl 32 _ rfl b (off + k * 51) rfl X _ rk.out Try.underlying32 rfl Lk.out ?_)
          | ((with_reducible change wpList _ _ _ (Oper.mk (some 4) _ _ _ _ _ :: _) _ _); refine wpList_alloc_node rfl rfl ?_)
          | ((with_reducible change wpList _ _ _ (Oper.mk none (.store 32 _ _) _ _ _ _ :: _) _ _); refine wpList_store_new rfl 32 _ _ rfl nodeZero X.toArray rfl rfl (by rw [nodeZero_size, List.size_toArray, XL.out]) (by rw [List.size_toArray]; exact Lk.out) (by simpa using ones.out) ?_)
          | ((with_reducible change wpList _ _ _ (Oper.mk (some 12) _ _ _ _ _ :: _) _ _); refine wpList_load_mid rfl 30 _ rfl wr.heap.size 3 rfl Z _ SR.out Try.underlying30 rfl LS.out ?_)
          | (go_at_call 35; refine (C.out _).mono ?_; rintro e w1 ⟨rfl, hb1⟩))
        go_ret
        exact told_no BAD.out (B1.out.trans (hb1.mono B1.out.size))
    · obtain rfl : k = n := by omega
      go_wp2
      go_ret
      exact toldB_yes ST.out BW.out
end

section
open Go.RowKit

/-- the row of how many boxes of DFlex there are above -/
def Abv (W : World) (b : Nat) (f : Nat → Int) : Prop := ∃ cs : Array Value, W.heap[b]? = some (.cells cs 63 (0, 0)) ∧ ∀ j, j < 17 → cs[j]? = some (.int .i64 (f j))
theorem Abv.cell {W : World} {b j : Nat} {f : Nat → Int} (h : Abv W b f) (hj : j < 17) : W.cell? ⟨b, j, none⟩ = some (.int .i64 (f j)) := by
  obtain ⟨cs, h1, h2⟩ := h
  simp [World.cell?, h1, h2 j hj]
theorem Abv.free {W : World} {b : Nat} {f : Nat → Int} (h : Abv W b f) (j : Nat) : W.frozen? ⟨b, j, none⟩ = false := by
  obtain ⟨cs, h1, -⟩ := h
  simp [World.frozen?, h1]
theorem Abv.lt {W : World} {b : Nat} {f : Nat → Int} (h : Abv W b f) : b < W.heap.size := by
  obtain ⟨cs, h1, -⟩ := h
  exact (Array.getElem?_eq_some_iff.1 h1).1
theorem Abv.below {W W' : World} {b : Nat} {f : Nat → Int} (h : Abv W b f) (hb : Below W.heap.size W W') : Abv W' b f := by
  have hl := h.lt
  obtain ⟨cs, h1, h2⟩ := h
  exact ⟨cs, (hb.block b hl).trans h1, h2⟩
theorem Abv.put {W : World} {b : Nat} {f : Nat → Int} (h : Abv W b f) (i : Nat) (v : Int) : Abv (W.setCell ⟨b, i, none⟩ (.int .i64 v)) b (fun j => if j = i then v else f j) := by
  obtain ⟨cs, h1, h2⟩ := h
  refine ⟨cs.setIfInBounds i (.int .i64 v), ?_, fun j hj => ?_⟩
  · simp [World.setCell, Array.getElem?_modify, h1]
  · have hl : j < cs.size := (Array.getElem?_eq_some_iff.1 (h2 j hj)).1
    rw [Array.getElem?_setIfInBounds]
    by_cases e : i = j
    · subst e
      simp [hl]
    · rw [if_neg e]
      dsimp only
      rw [if_neg (fun h : j = i => e h.symm)]
      exact h2 j hj

/-- what the row tells of the nodes ahead -/
def Ups (N : Nat → RN) (k : Nat) (f : Nat → Int) : Prop := f 0 = 0 ∧ (0 < k → ∀ d : Nat, 1 ≤ d → (d : Int) ≤ dps N (k - 1) + 1 → ∃ p, p < k ∧ dps N p + 1 = d ∧ (∀ j, p < j → j < k → (d : Int) ≤ dps N j) ∧ f d = chain N p)
theorem ups_chain {N : Nat → RN} {n k d : Nat} {f : Nat → Int} (hs : Steps (dps N) n) (hk : k < n) (h : Ups N k f) (hd : dps N k = d) : f d + (if dispOf (N k) = 2 then 1 else 0) = chain N k := by
  have hx : (flexOf (N k) : Int) = if dispOf (N k) = 2 then 1 else 0 := by
    unfold flexOf
    split <;> rfl
  rcases Nat.eq_zero_or_pos k with rfl | h0
  · have : d = 0 := by have := hs.1; omega
    subst this
    rw [h.1, chain_root (by rw [first_none]; omega), hx]
    omega
  · have h1 := hs.2 k h0 hk
    obtain ⟨p, hp, e, hj, hf⟩ := h.2 h0 d (by omega) (by omega)
    rw [chain_up (parOf_eq (dps N) hp (by omega) fun j a b => by have := hj j a b; omega), hf]
    omega
theorem ups_next {N : Nat → RN} {n k d : Nat} {f : Nat → Int} (hs : Steps (dps N) n) (hk : k < n) (h : Ups N k f) (hd : dps N k = d) : Ups N (k + 1) (fun j => if j = d + 1 then (chain N k : Int) else f j) := by
  refine ⟨by dsimp only; rw [if_neg (by omega)]; exact h.1, fun _ e he hle => ?_⟩
  rw [Nat.add_sub_cancel, hd] at hle
  by_cases c : e = d + 1
  · subst c
    exact ⟨k, by omega, by omega, fun j a b => by omega, if_pos rfl⟩
  · have h0 : 0 < k := by
      rcases Nat.eq_zero_or_pos k with rfl | h0
      · have := hs.1; omega
      · exact h0
    have h1 := hs.2 k h0 hk
    obtain ⟨p, hp, q, hj, hf⟩ := h.2 h0 e he (by omega)
    refine ⟨p, by omega, q, fun j a b => ?_, by dsimp only; rw [if_neg c]; exact hf⟩
    rcases Nat.lt_or_ge j k with g | g
    · exact hj j a g
    · obtain rfl : j = k := by omega
      omega

theorem ups_six {N : Nat → RN} {n k d : Nat} {f : Nat → Int} (hs : Steps (dps N) n) (hk : k < n) (h : Ups N k f) (hd : dps N k = d) (h6 : ∀ i, i < k → chain N i ≤ 6) : f d ≤ 6 := by
  rcases Nat.eq_zero_or_pos k with rfl | h0
  · have : d = 0 := by have := hs.1; omega
    subst this
    rw [h.1]
    omega
  · have h1 := hs.2 k h0 hk
    obtain ⟨p, hp, -, -, hf⟩ := h.2 h0 d (by omega) (by omega)
    have := h6 p hp
    omega
theorem depth_cell7 {X : List Value} {D : Int} (W : World) (h : X[1]? = some (.int .i64 D)) : (W.alloc (.cells X.toArray 32)).cell? ⟨W.heap.size, 1, none⟩ = some (.int .i64 D) := by
  rw [World.cell?_alloc_new]
  simpa using h

set_option maxRecDepth 100000 in
set_option maxHeartbeats 8000000 in
theorem nestsMay_any (A : Option Addr) (n c : Nat) (x : Int) (N : Nat → RN) (w : World) (hN : NodesIn w A n c N) (hS : Shape n x N) :
    Calls Try.prog 28 #[.slice A n c] w (ToldB (∀ i, i < n → chain N i ≤ 6) w) := by
  have hn : n ≤ 300 := hS.most
  have HN := Lib.hid hN.1
  have HS := Lib.hid hS
  clear hN hS
  go_enter Try.func28, Try.ntmps28
  go_wp2
  have B0 : Hid (Below w.heap.size w (w.alloc (.cells #[.int .i64 0, .int .i64 0, .int .i64 0, .int .i64 0, .int .i64 0, .int .i64 0, .int .i64 0, .int .i64 0, .int .i64 0, .int .i64 0, .int .i64 0, .int .i64 0, .int .i64 0, .int .i64 0, .int .i64 0, .int .i64 0, .int .i64 0] 63))) := Lib.hid ((Below.refl _ w).alloc (Nat.le_refl _) _)
  have A0 : Hid (Abv (w.alloc (.cells #[.int .i64 0, .int .i64 0, .int .i64 0, .int .i64 0, .int .i64 0, .int .i64 0, .int .i64 0, .int .i64 0, .int .i64 0, .int .i64 0, .int .i64 0, .int .i64 0, .int .i64 0, .int .i64 0, .int .i64 0, .int .i64 0, .int .i64 0] 63)) w.heap.size fun _ => 0) := Lib.hid ⟨_, heap_alloc_new w _, fun j hj => by
    iterate 17 (cases j with | zero => rfl | succ j => ?_)
    omega⟩
  go_loopg [9] n (fun g1 v9 wr => ∃ k : Nat, v9 = .int .i64 k ∧ k ≤ n ∧ n - k ≤ g1 ∧ Hid (∃ f, Abv wr w.heap.size f ∧ Ups N k f) ∧ Hid (∀ i, i < k → chain N i ≤ 6) ∧ Hid (Below w.heap.size w wr))
  case atStart => exact ⟨0, rfl, by omega, by omega, Lib.hid ⟨_, A0.out, rfl, fun h => absurd h (by omega)⟩, Lib.hid (fun i h => absurd h (by omega)), B0⟩
  case round =>
    obtain ⟨k, rfl, hk, hg1, UP, ST, BW⟩ := hrel
    by_cases hlt : k < n
    · have hltz : (k : Int) < n := by omega
      have hk0 : (0 : Int) ≤ k := by omega
      have HW := Lib.hid (HN.out.below BW.out)
      obtain ⟨f, AF, UF⟩ := UP.out
      obtain ⟨b, off, rfl, hb', hat⟩ := HW.out.2 (by omega)
      have ok := HW.out.1 k hlt
      have rk : Hid (wr.rangeAt b (off + k * 51) (N k).cells) := Lib.hid (node_range ok (hat k hlt))
      have Lk : Hid ((Try.prog.info? 32).map (·.size) = some (N k).cells.length) := Lib.hid (by rw [ok.len]; exact node_isize)
      have ones := Lib.hid (N k).cells_one
      have XL : Hid ((N k).cells.length = 51) := Lib.hid ok.len
      have hb1 : Below wr.heap.size wr (wr.alloc (.cells (N k).cells.toArray 32)) := (Below.refl _ _).alloc (Nat.le_refl _) _
      have B1 := Lib.hid (BW.out.trans (hb1.mono BW.out.size))
      have AF1 := Lib.hid (AF.below hb1)
      have D15 := HS.out.deep k hlt
      have D0 : 0 ≤ (N k).depth := by
        rcases Nat.eq_zero_or_pos k with h | h
        · subst h; have := HS.out.steps.1; unfold dps at this; omega
        · have := HS.out.steps.2 k h hlt; unfold dps at this; omega
      obtain ⟨d, hd⟩ : ∃ d : Nat, (N k).depth = d := ⟨(N k).depth.toNat, by omega⟩
      have e1 : (N k).cells[1]? = some (.int .i64 (N k).depth) := rfl
      rw [hd] at e1 D15 D0
      have NR : Hid ((wr.alloc (.cells (N k).cells.toArray 32)).rangeAt wr.heap.size 0 (N k).cells) := Lib.hid node_alloc_range
      have CH := Lib.hid (ups_chain HS.out.steps hlt UF hd)
      have SX := Lib.hid (ups_six HS.out.steps hlt UF hd ST.out)
      have UN := Lib.hid (ups_next HS.out.steps hlt UF hd)
      have dc := depth_cell7 wr e1
      have fc := AF1.out.cell (j := d) (by omega)
      have ff := AF1.out.free (d + 1)
      have CF := fun (r : Bool) (hr : decide (dispOf (N k) = 2) = r) => Lib.hid (fun W => isFlexible_any (N k) ok W r hr)
      have GD : Hid (chain N k ≤ 6 → ∀ i, i < k + 1 → chain N i ≤ 6) := Lib.hid fun h i hi => by
        rcases Nat.lt_or_ge i k with g | g
        · exact ST.out i g
        · obtain rfl : i = k := by omega
          exact h
      have BAD : Hid (¬ chain N k ≤ 6 → ¬ ∀ i, i < n → chain N i ≤ 6) := Lib.hid (fun h hh => h (hh k hlt))
      have hdn : (d : Int) < 17 := by omega
      have hdn1 : ((d : Int) + 1) < 17 := by omega
      have hd1 : (0 : Int) ≤ (d : Int) + 1 := by omega
      have wd : IntKind.i64.wrap ((d : Int) + 1) = ((d + 1 : Nat) : Int) := (IntWalk.i64_in _ (by omega)).trans (by omega)
      have hdn2 : (((d + 1 : Nat) : Int)) < 17 := by omega
      have hdn3 : (0 : Int) ≤ ((d + 1 : Nat) : Int) := by omega
      clear ok hat hb' HW AF UF hb1 UP e1
      by_cases hx : dispOf (N k) = 2
      · rw [if_pos hx] at CH
        have C := CF true (decide_eq_true hx)
        clear CF hx
        by_cases h6 : chain N k ≤ 6
        · have G := Lib.hid (GD.out h6)
          clear GD BAD
          generalize (N k).cells = X at rk Lk ones XL B1 NR C AF1 dc fc ff
          generalize chain N k = ch at CH UN h6
          obtain ⟨v, hv⟩ : ∃ v, v = f d := ⟨_, rfl⟩
          rw [← hv] at fc CH SX
          have wv : IntKind.i64.wrap (v + 1) = (ch : Int) := (IntWalk.i64_in _ (by have := CH.out; have := SX.out; omega)).trans (by have := CH.out; omega)
          have h6z : ¬ ((6 : Int) < ch) := by omega
          clear hv h6
          go_wp2_with (first
            | ((with_reducible change wpList _ _ _ (Oper.mk (some 12) _ _ _ _ _ :: _) _ _); refine wpList_load_mid rfl 32 _ rfl b (off + k * 51) rfl X _ rk.out Try.underlying32 rfl Lk.out ?_)
            | ((with_reducible change wpList _ _ _ (Oper.mk (some 5) _ _ _ _ _ :: _) _ _); refine wpList_alloc_node rfl rfl ?_)
            | ((with_reducible change wpList _ _ _ (Oper.mk none (.store 32 _ _) _ _ _ _ :: _) _ _); refine wpList_store_new rfl 32 _ _ rfl nodeZero X.toArray rfl rfl (by rw [nodeZero_size, List.size_toArray, XL.out]) (by rw [List.size_toArray]; exact Lk.out) (by simpa using ones.out) ?_)
            | ((with_reducible change wpList _ _ _ (Oper.mk (some 17) _ _ _ _ _ :: _) _ _); refine wpList_load_mid rfl 32 _ rfl wr.heap.size 0 rfl X _ NR.out Try.underlying32 rfl Lk.out ?_)
            | (go_at_call 46; refine (C.out _).mono ?_; rintro e w1 ⟨rfl, hb1⟩; have dc1 := (hb1.cell (lt_of_cell dc)).trans dc; have AF2 := Lib.hid (AF1.out.below hb1); have B2 := Lib.hid (B1.out.trans (hb1.mono B1.out.size)); have ff2 := AF2.out.free (d + 1); have fe2 := AF2.out.cell (j := d + 1) (by omega); clear dc fc ff hb1))
          go_roundg (n - (k + 1))
          case measure => omega
          case rel => exact ⟨k + 1, by go_num, by omega, Nat.le_refl _, Lib.hid ⟨_, AF2.out.put (d + 1) ch, UN.out⟩, G, Lib.hid (B2.out.setCell (p := ⟨w.heap.size, d + 1, none⟩) (Nat.le_refl _) _)⟩
        · have G := Lib.hid (BAD.out h6)
          clear GD BAD
          generalize (N k).cells = X at rk Lk ones XL B1 NR C AF1 dc fc ff
          generalize chain N k = ch at CH UN h6
          obtain ⟨v, hv⟩ : ∃ v, v = f d := ⟨_, rfl⟩
          rw [← hv] at fc CH SX
          have wv : IntKind.i64.wrap (v + 1) = (ch : Int) := (IntWalk.i64_in _ (by have := CH.out; have := SX.out; omega)).trans (by have := CH.out; omega)
          have h6z : (6 : Int) < ch := by omega
          clear hv h6
          go_wp2_with (first
            | ((with_reducible change wpList _ _ _ (Oper.mk (some 12) _ _ _ _ _ :: _) _ _); refine wpList_load_mid rfl 32 _ rfl b (off + k * 51) rfl X _ rk.out Try.underlying32 rfl Lk.out ?_)
            | ((with_reducible change wpList _ _ _ (Oper.mk (some 5) _ _ _ _ _ :: _) _ _); refine wpList_alloc_node rfl rfl ?_)
            | ((with_reducible change wpList _ _ _ (Oper.mk none (.store 32 _ _) _ _ _ _ :: _) _ _); refine wpList_store_new rfl 32 _ _ rfl nodeZero X.toArray rfl rfl (by rw [nodeZero_size, List.size_toArray, XL.out]) (by rw [List.size_toArray]; exact Lk.out) (by simpa using ones.out) ?_)
            | ((with_reducible change wpList _ _ _ (Oper.mk (some 17) _ _ _ _ _ :: _) _ _); refine wpList_load_mid rfl 32 _ rfl wr.heap.size 0 rfl X _ NR.out Try.underlying32 rfl Lk.out ?_)
            | (go_at_call 46; refine (C.out _).mono ?_; rintro e w1 ⟨rfl, hb1⟩; have dc1 := (hb1.cell (lt_of_cell dc)).trans dc; have AF2 := Lib.hid (AF1.out.below hb1); have B2 := Lib.hid (B1.out.trans (hb1.mono B1.out.size)); have ff2 := AF2.out.free (d + 1); have fe2 := AF2.out.cell (j := d + 1) (by omega); clear dc fc ff hb1))
          go_ret
          exact told_no G.out B2.out
      · rw [if_neg hx] at CH
        have C := CF false (decide_eq_false hx)
        clear CF hx
        by_cases h6 : chain N k ≤ 6
        · have G := Lib.hid (GD.out h6)
          clear GD BAD
          generalize (N k).cells = X at rk Lk ones XL B1 NR C AF1 dc fc ff
          generalize chain N k = ch at CH UN h6
          obtain ⟨v, hv⟩ : ∃ v, v = f d := ⟨_, rfl⟩
          rw [← hv] at fc CH SX
          obtain rfl : v = ch := by have := CH.out; omega
          have h6z : ¬ ((6 : Int) < ch) := by omega
          clear hv h6
          go_wp2_with (first
            | ((with_reducible change wpList _ _ _ (Oper.mk (some 12) _ _ _ _ _ :: _) _ _); refine wpList_load_mid rfl 32 _ rfl b (off + k * 51) rfl X _ rk.out Try.underlying32 rfl Lk.out ?_)
            | ((with_reducible change wpList _ _ _ (Oper.mk (some 5) _ _ _ _ _ :: _) _ _); refine wpList_alloc_node rfl rfl ?_)
            | ((with_reducible change wpList _ _ _ (Oper.mk none (.store 32 _ _) _ _ _ _ :: _) _ _); refine wpList_store_new rfl 32 _ _ rfl nodeZero X.toArray rfl rfl (by rw [nodeZero_size, List.size_toArray, XL.out]) (by rw [List.size_toArray]; exact Lk.out) (by simpa using ones.out) ?_)
            | ((with_reducible change wpList _ _ _ (Oper.mk (some 17) _ _ _ _ _ :: _) _ _); refine wpList_load_mid rfl 32 _ rfl wr.heap.size 0 rfl X _ NR.out Try.underlying32 rfl Lk.out ?_)
            | (go_at_call 46; refine (C.out _).mono ?_; rintro e w1 ⟨rfl, hb1⟩; have dc1 := (hb1.cell (lt_of_cell dc)).trans dc; have AF2 := Lib.hid (AF1.out.below hb1); have B2 := Lib.hid (B1.out.trans (hb1.mono B1.out.size)); have ff2 := AF2.out.free (d + 1); have fe2 := AF2.out.cell (j := d + 1) (by omega); clear dc fc ff hb1))
          go_roundg (n - (k + 1))
          case measure => omega
          case rel => exact ⟨k + 1, by go_num, by omega, Nat.le_refl _, Lib.hid ⟨_, AF2.out.put (d + 1) ch, UN.out⟩, G, Lib.hid (B2.out.setCell (p := ⟨w.heap.size, d + 1, none⟩) (Nat.le_refl _) _)⟩
        · have G := Lib.hid (BAD.out h6)
          clear GD BAD
          generalize (N k).cells = X at rk Lk ones XL B1 NR C AF1 dc fc ff
          generalize chain N k = ch at CH UN h6
          obtain ⟨v, hv⟩ : ∃ v, v = f d := ⟨_, rfl⟩
          rw [← hv] at fc CH SX
          obtain rfl : v = ch := by have := CH.out; omega
          have h6z : (6 : Int) < ch := by omega
          clear hv h6
          go_wp2_with (first
            | ((with_reducible change wpList _ _ _ (Oper.mk (some 12) _ _ _ _ _ :: _) _ _); refine wpList_load_mid rfl 32 _ rfl b (off + k * 51) rfl X _ rk.out Try.underlying32 rfl Lk.out ?_)
            | ((with_reducible change wpList _ _ _ (Oper.mk (some 5) _ _ _ _ _ :: _) _ _); refine wpList_alloc_node rfl rfl ?_)
            | ((with_reducible change wpList _ _ _ (Oper.mk none (.store 32 _ _) _ _ _ _ :: _) _ _); refine wpList_store_new rfl 32 _ _ rfl nodeZero X.toArray rfl rfl (by rw [nodeZero_size, List.size_toArray, XL.out]) (by rw [List.size_toArray]; exact Lk.out) (by simpa using ones.out) ?_)
            | ((with_reducible change wpList _ _ _ (Oper.mk (some 17) _ _ _ _ _ :: _) _ _); refine wpList_load_mid rfl 32 _ rfl wr.heap.size 0 rfl X _ NR.out Try.underlying32 rfl Lk.out ?_)
            | (go_at_call 46; refine (C.out _).mono ?_; rintro e w1 ⟨rfl, hb1⟩; have dc1 := (hb1.cell (lt_of_cell dc)).trans dc; have AF2 := Lib.hid (AF1.out.below hb1); have B2 := Lib.hid (B1.out.trans (hb1.mono B1.out.size)); have ff2 := AF2.out.free (d + 1); have fe2 := AF2.out.cell (j := d + 1) (by omega); clear dc fc ff hb1))
          go_ret
          exact told_no G.out B2.out
    · obtain rfl : k = n := by omega
      go_wp2
      go_ret
      exact toldB_yes ST.out BW.out
end

section
open Go.RowKit

/-- of the boxes of DFlex among the first so many none has a text as a kid -/
def GoodTo (N : Nat → RN) (n k : Nat) : Prop := ∀ a, a < k → dispOf (N a) = 2 → ∀ j ∈ kidsOf (dps N) n a, (N j).kind ≠ 1
def UnderOK (N : Nat → RN) (n : Nat) : Prop := ∀ i, i < n → (N i).kind = 1 → ∀ u : Nat, parOf (dps N) i = u → dispOf (N u) ≠ 2
theorem under_iff {N : Nat → RN} {n : Nat} (hs : Steps (dps N) n) : GoodTo N n n ↔ UnderOK N n := by
  constructor
  · intro h i hi hk u hu hd
    have h1 := par_lt (dps N) i
    exact h u (by omega) hd i (parent_kid (dps N) hs hi hu) hk
  · intro h a ha hd j hj hk
    obtain ⟨h1, h2, -⟩ := (kids_iff (dps N)).1 hj
    have h3 := (endOf_gt (dps N) ha).2
    exact h j (by omega) hk a (kid_parent (dps N) ha hj) hd

theorem kids_lt {dp : Nat → Int} {n a j : Nat} (ha : a < n) (h : j ∈ kidsOf dp n a) : j < n := by
  obtain ⟨h1, h2, -⟩ := (kids_iff dp).1 h
  have h3 := (endOf_gt dp ha).2
  omega

set_option maxRecDepth 100000 in
set_option maxHeartbeats 8000000 in
theorem kidsMay_any (A : Option Addr) (n c : Nat) (x : Int) (N : Nat → RN) (w : World) (hD : DocIn w A n c x N) (hS : Shape n x N) :
    Calls Try.prog 29 #[docV A n c x] w (ToldB (UnderOK N n) w) := by
  have hn : n ≤ 300 := hS.most
  unfold docV
  have B0 : Hid (Below w.heap.size w (w.alloc (.cells #[.slice A n c, .int .i64 x] 24))) := Lib.hid ((Below.refl _ w).alloc (Nat.le_refl _) _)
  have DD0 := Lib.hid (hD.below B0.out)
  have D0 : Hid (DocBox (w.alloc (.cells #[.slice A n c, .int .i64 x] 24)) w.heap.size (.slice A n c) (.int .i64 x)) := Lib.hid (heap_alloc_new w _)
  have HS := Lib.hid hS
  have UI := Lib.hid (under_iff hS.steps)
  clear hD hS
  go_enter Try.func29, Try.ntmps29
  go_wp2
  go_loopg [10] n (fun g1 v10 wr => ∃ k : Nat, v10 = .int .i64 k ∧ k ≤ n ∧ n - k ≤ g1 ∧ Hid (DocBox wr w.heap.size (.slice A n c) (.int .i64 x)) ∧ Hid (DocIn wr A n c x N) ∧ Hid (GoodTo N n k) ∧ Hid (Below w.heap.size w wr))
  case atStart => exact ⟨0, rfl, by omega, by omega, D0, DD0, Lib.hid (fun i h => absurd h (by omega)), B0⟩
  case round =>
    obtain ⟨k, rfl, hk, hg1, DB, DD, GT, BW⟩ := hrel
    clear D0 B0 DD0
    by_cases hlt : k < n
    · have hltz : (k : Int) < n := by omega
      have hk0 : (0 : Int) ≤ k := by omega
      obtain ⟨b, off, rfl, hb', hat⟩ := DD.out.1.1.2 (by omega)
      have ok := DD.out.1.1.1 k hlt
      have rk : Hid (wr.rangeAt b (off + k * 51) (N k).cells) := Lib.hid (node_range ok (hat k hlt))
      have Lk : Hid ((Try.prog.info? 32).map (·.size) = some (N k).cells.length) := Lib.hid (by rw [ok.len]; exact node_isize)
      have ones := Lib.hid (N k).cells_one
      have XL : Hid ((N k).cells.length = 51) := Lib.hid ok.len
      have hb1 : Below wr.heap.size wr (wr.alloc (.cells (N k).cells.toArray 32)) := (Below.refl _ _).alloc (Nat.le_refl _) _
      have B1 := Lib.hid (BW.out.trans (hb1.mono BW.out.size))
      have DB1 := Lib.hid (DB.out.keep (hb1.block _ DB.out.lt))
      have DD1 := Lib.hid (DD.out.below hb1)
      have NR : Hid ((wr.alloc (.cells (N k).cells.toArray 32)).rangeAt wr.heap.size 0 (N k).cells) := Lib.hid node_alloc_range
      have CF := fun (r : Bool) (hr : decide (dispOf (N k) = 2) = r) => Lib.hid (fun W => isFlexible_any (N k) ok W r hr)
      have KK := Lib.hid (fun W (h : DocIn W (some ⟨b, off, none⟩) n c x N) => kids_any _ n c x N k W h (by omega) (by omega))
      have KA : Hid (kidsAns N n k = kidsOf (dps N) n k) := Lib.hid (by unfold kidsAns; rw [if_pos ⟨hk0, hltz⟩, Int.toNat_natCast])
      clear ok hat hb' hb1
      by_cases hx : dispOf (N k) = 2
      · have C := CF true (decide_eq_true hx)
        have GN : Hid ((∀ j ∈ kidsOf (dps N) n k, (N j).kind ≠ 1) → GoodTo N n (k + 1)) := Lib.hid fun h a ha hd => by
          rcases Nat.lt_or_ge a k with g | g
          · exact GT.out a g hd
          · obtain rfl : a = k := by omega
            exact h
        have BAD : Hid (∀ j ∈ kidsOf (dps N) n k, (N j).kind = 1 → ¬ UnderOK N n) := Lib.hid fun j hj h1 hu => (UI.out.2 hu) k hlt hx j hj h1
        clear CF hx
        generalize (N k).cells = X at rk Lk ones XL B1 NR C DB1 DD1
        go_wp2_with (first
          | ((with_reducible change wpList _ _ _ (Oper.mk (some 14) _ _ _ _ _ :: _) _ _); refine wpList_load_mid rfl 32 _ rfl b (off + k * 51) rfl X _ rk.out Try.underlying32 rfl Lk.out ?_)
          | ((with_reducible change wpList _ _ _ (Oper.mk (some 4) _ _ _ _ _ :: _) _ _); refine wpList_alloc_node rfl rfl ?_)
          | ((with_reducible change wpList _ _ _ (Oper.mk none (.store 32 _ _) _ _ _ _ :: _) _ _); refine wpList_store_new rfl 32 _ _ rfl nodeZero X.toArray rfl rfl (by rw [nodeZero_size, List.size_toArray, XL.out]) (by rw [List.size_toArray]; exact Lk.out) (by simpa using ones.out) ?_)
          | ((with_reducible change wpList _ _ _ (Oper.mk (some 15) _ _ _ _ _ :: _) _ _); refine wpList_load_mid rfl 32 _ rfl wr.heap.size 0 rfl X _ NR.out Try.underlying32 rfl Lk.out ?_)
          | (go_at_call 46; refine (C.out _).mono ?_; rintro e w1 ⟨rfl, hb1⟩; have B2 := Lib.hid (B1.out.trans (hb1.mono B1.out.size)); have DB2 := Lib.hid (DB1.out.keep (hb1.block _ DB1.out.lt)); have DD2 := Lib.hid (DD1.out.below hb1); have c20 := DB2.out.c0; have c21 := DB2.out.c1; clear hb1)
          | (go_at_call 47; refine (KK.out _ DD2.out).mono ?_; rintro e w2 ⟨Bk, dk, rfl, hp, hb2⟩; rw [KA.out] at hp ⊢; have B3 := Lib.hid (B2.out.trans (hb2.mono B2.out.size)); have DB3 := Lib.hid (DB2.out.keep (hb2.block _ DB2.out.lt)); have DD3 := Lib.hid (DD2.out.below hb2); have PL := Lib.hid hp; have c30 := DB3.out.c0; clear c20 c21 hb2 hp))
        have KL : Hid (∀ j ∈ kidsOf (dps N) n k, j < n) := Lib.hid fun j hj => kids_lt hlt hj
        generalize kidsOf (dps N) n k = l at GN BAD PL KL ⊢
        clear KA KK
        obtain ⟨m, hm⟩ : ∃ m, m = l.length := ⟨_, rfl⟩
        have hmc : m ≤ 9223372036854775807 := by have := PL.out.2.2.1; omega
        rw [← hm]
        go_loop [22] (fun v => ∃ j : Nat, v = .int .i64 j ∧ j ≤ m ∧ Hid (∀ i p, i < j → l[i]? = some p → (N p).kind ≠ 1)) (fun v => m - (intOf v).toNat)
        case atStart => exact ⟨0, rfl, by omega, Lib.hid (fun i p h => absurd h (by omega))⟩
        case round =>
          obtain ⟨j, rfl, hj, KO⟩ := hrel
          by_cases hjm : j < m
          · have hjz : (j : Int) < m := by omega
            have hj0 : (0 : Int) ≤ j := by omega
            obtain ⟨p, hp⟩ : ∃ p, l[j]? = some p := ⟨_, List.getElem?_eq_getElem (by omega)⟩
            have hpm := List.mem_of_getElem? hp
            have hpn := KL.out p hpm
            obtain ⟨bk, ok, rfl, -, hcell⟩ := PL.out.2.2.2 (by rintro rfl; simp at hp)
            have pc := hcell j p hp
            have hpz : (p : Int) < n := by omega
            have hp0 : (0 : Int) ≤ p := by omega
            obtain ⟨b', off', e', -, k2⟩ := kind_cell DD3.out.1.1 hpn
            obtain ⟨rfl, rfl⟩ : b = b' ∧ off = off' := by
              simp only [Option.some.injEq, Addr.mk.injEq, and_true] at e'
              exact e'
            have PM := Lib.hid hpm
            have PP := Lib.hid hp
            clear hcell e' hpm hp
            by_cases hq : (N p).kind = 1
            · have hqq : ((N p).kind == 1) = true := by simpa using hq
              have Q := Lib.hid hq
              clear hq
              generalize (N p).kind = K at k2 hqq
              go_wp2
              go_ret
              exact told_no (BAD.out p PM.out Q.out) B3.out
            · have hqq : ((N p).kind == 1) = false := by simpa using hq
              have KO1 : Hid (∀ i p, i < j + 1 → l[i]? = some p → (N p).kind ≠ 1) := Lib.hid fun i q hi hh => by
                rcases Nat.lt_or_ge i j with g | g
                · exact KO.out i q g hh
                · obtain rfl : i = j := by omega
                  have := PP.out.symm.trans hh
                  simp only [Option.some.injEq] at this
                  rw [← this]; exact hq
              clear hq
              generalize (N p).kind = K at k2 hqq
              go_wp2
              go_round
              case rel => exact ⟨j + 1, by go_num, by omega, KO1⟩
              case measure => simp [intOf]; omega
          · obtain rfl : j = m := by omega
            have GN2 := Lib.hid (GN.out fun p hp => by
              obtain ⟨i, hi⟩ := List.getElem?_of_mem hp
              exact KO.out i p (by rw [hm]; exact (List.getElem?_eq_some_iff.1 hi).1) hi)
            go_wp2
            go_roundg (n - (k + 1))
            case measure => omega
            case rel => exact ⟨k + 1, by go_num, by omega, Nat.le_refl _, DB3, DD3, GN2, B3⟩
      · have C := CF false (decide_eq_false hx)
        have GN : Hid (GoodTo N n (k + 1)) := Lib.hid fun a ha hd => by
          rcases Nat.lt_or_ge a k with g | g
          · exact GT.out a g hd
          · obtain rfl : a = k := by omega
            exact absurd hd hx
        clear CF hx
        generalize (N k).cells = X at rk Lk ones XL B1 NR C DB1 DD1
        go_wp2_with (first
          | ((with_reducible change wpList _ _ _ (Oper.mk (some 14) _ _ _ _ _ :: _) _ _); refine wpList_load_mid rfl 32 _ rfl b (off + k * 51) rfl X _ rk.out Try.underlying32 rfl Lk.out ?_)
          | ((with_reducible change wpList _ _ _ (Oper.mk (some 4) _ _ _ _ _ :: _) _ _); refine wpList_alloc_node rfl rfl ?_)
          | ((with_reducible change wpList _ _ _ (Oper.mk none (.store 32 _ _) _ _ _ _ :: _) _ _); refine wpList_store_new rfl 32 _ _ rfl nodeZero X.toArray rfl rfl (by rw [nodeZero_size, List.size_toArray, XL.out]) (by rw [List.size_toArray]; exact Lk.out) (by simpa using ones.out) ?_)
          | ((with_reducible change wpList _ _ _ (Oper.mk (some 15) _ _ _ _ _ :: _) _ _); refine wpList_load_mid rfl 32 _ rfl wr.heap.size 0 rfl X _ NR.out Try.underlying32 rfl Lk.out ?_)
          | (go_at_call 46; refine (C.out _).mono ?_; rintro e w1 ⟨rfl, hb1⟩; have B2 := Lib.hid (B1.out.trans (hb1.mono B1.out.size)); have DB2 := Lib.hid (DB1.out.keep (hb1.block _ DB1.out.lt)); have DD2 := Lib.hid (DD1.out.below hb1); clear hb1))
        go_roundg (n - (k + 1))
        case measure => omega
        case rel => exact ⟨k + 1, by go_num, by omega, Nat.le_refl _, DB2, DD2, GN, B2⟩
    · obtain rfl : k = n := by omega
      go_wp2
      go_ret
      exact toldB_yes (UI.out.1 GT.out) BW.out

theorem mayD_iff {N : Nat → RN} {n : Nat} {x : Int} : MayD StyOK n x N ↔ Shape n x N ∧ (∀ i, i < n → StyOK (N i).style) ∧ (∀ i, i < n → chain N i ≤ 6) ∧ UnderOK N n := by
  constructor
  · intro h
    refine ⟨h.shape, fun i hi => ?_, h.flex, h.under⟩
    rcases h.shape.kind i hi with k | k
    · exact h.sty i hi k
    · rw [(h.shape.text i hi k).1]
      exact sty_none
  · rintro ⟨h1, h2, h3, h4⟩
    exact ⟨h1, fun i hi _ => h2 i hi, h4, h3⟩
end

section
open Go.RowKit

set_option maxRecDepth 100000 in
set_option maxHeartbeats 4000000 in
theorem mutMay_any : MayOK7 StyOK 11 := by
  intro A n c x N w hD
  show Calls Try.prog 11 #[docV A n c x] w (ToldB (MayD StyOK n x N) w)
  have TM := Lib.hid (fun W (h : DocIn W A n c x N) => may_any A n c x N W h)
  unfold docV
  have B0 : Hid (Below w.heap.size w (w.alloc (.cells #[.slice A n c, .int .i64 x] 24))) := Lib.hid ((Below.refl _ w).alloc (Nat.le_refl _) _)
  have DD := Lib.hid (hD.below B0.out)
  have D0 : Hid (DocBox (w.alloc (.cells #[.slice A n c, .int .i64 x] 24)) w.heap.size (.slice A n c) (.int .i64 x)) := Lib.hid (heap_alloc_new w _)
  clear hD
  go_enter Try.func11, Try.ntmps11
  go_wp2_with fail
  generalize w.alloc (.cells #[.slice A n c, .int .i64 x] 24) = W0 at B0 DD D0 ⊢
  refine (TM.out W0 DD.out).mono ?_
  rintro e w1 ⟨g, rfl, hg, hb⟩
  have B1 := Lib.hid (B0.out.trans (hb.mono B0.out.size))
  have D1 := Lib.hid (D0.out.keep (hb.block _ D0.out.lt))
  have DD1 := Lib.hid (DD.out.below hb)
  have d0 := D1.out.c0
  have d1 := D1.out.c1
  clear hb
  cases g
  · have G : Hid (¬ MayD StyOK n x N) := Lib.hid (fun h => by have := hg.2 h.shape; cases this)
    clear hg
    go_wp2_with fail
    go_ret
    exact told_no G.out B1.out
  · have S1 := Lib.hid (hg.1 rfl)
    clear hg
    have MI : Hid (MayD StyOK n x N ↔ (∀ i, i < n → StyOK (N i).style) ∧ (∀ i, i < n → chain N i ≤ 6) ∧ UnderOK N n) := Lib.hid (mayD_iff.trans ⟨fun h => h.2, fun h => ⟨S1.out, h⟩⟩)
    go_wp2_with fail
    refine (stylesMay_any A n c N w1 DD1.out.1).mono ?_
    rintro e w2 ⟨g, rfl, hg, hb⟩
    have B2 := Lib.hid (B1.out.trans (hb.mono B1.out.size))
    have D2 := Lib.hid (D1.out.keep (hb.block _ D1.out.lt))
    have DD2 := Lib.hid (DD1.out.below hb)
    clear hb d0 d1
    have d0 := D2.out.c0
    have d1 := D2.out.c1
    cases g
    · have G : Hid (¬ MayD StyOK n x N) := Lib.hid (fun h => by have := hg.2 (MI.out.1 h).1; cases this)
      clear hg
      go_wp2_with fail
      go_ret
      exact told_no G.out B2.out
    · have S2 := Lib.hid (hg.1 rfl)
      clear hg
      go_wp2_with fail
      refine (nestsMay_any A n c x N w2 DD2.out.1 S1.out).mono ?_
      rintro e w3 ⟨g, rfl, hg, hb⟩
      have B3 := Lib.hid (B2.out.trans (hb.mono B2.out.size))
      have D3 := Lib.hid (D2.out.keep (hb.block _ D2.out.lt))
      have DD3 := Lib.hid (DD2.out.below hb)
      clear hb d0 d1
      have d0 := D3.out.c0
      have d1 := D3.out.c1
      cases g
      · have G : Hid (¬ MayD StyOK n x N) := Lib.hid (fun h => by have := hg.2 (MI.out.1 h).2.1; cases this)
        clear hg
        go_wp2_with fail
        go_ret
        exact told_no G.out B3.out
      · have S3 := Lib.hid (hg.1 rfl)
        clear hg
        go_wp2_with fail
        refine (kidsMay_any A n c x N w3 DD3.out S1.out).mono ?_
        rintro e w4 ⟨g, rfl, hg, hb⟩
        have B4 := Lib.hid (B3.out.trans (hb.mono B3.out.size))
        have G : Hid (g = true ↔ MayD StyOK n x N) := Lib.hid (hg.trans ⟨fun h => MI.out.2 ⟨S2.out, S3.out, h⟩, fun h => (MI.out.1 h).2.2⟩)
        clear hb d0 d1 hg
        go_wp2_with fail
        go_ret
        exact toldB (b := g) G.out B4.out
end

section
open Go.RowKit

/-- a new node with what counts of that one -/
def freshN (v : RN) : Option RN := if v.kind = 0 then some ⟨0, 0, 0, v.style, []⟩ else if v.kind = 1 then some ⟨0, 0, 1, noStyle, v.text⟩ else none
/-- a node, or what is wrong -/
def FreshIs (R : Option RN) (e : Ending) : Prop := match R with
  | none => e = wrong 70
  | some u => e = .returned u.val
theorem build_fresh1 (l : List UInt8) (W : World) : (Instr.build 32 #[(2, .int .u8 1), (4, .string ⟨l.toArray⟩)]).run Try.prog W = .ok (RN.val ⟨0, 0, 1, noStyle, l⟩) W := by kernel_rfl
theorem build_fresh0 (s : RS) (W : World) : (Instr.build 32 #[(2, .int .u8 0), (3, .agg (s.lits.map Lit.toCell).toArray)]).run Try.prog W = .ok (RN.val ⟨0, 0, 0, s.lits, []⟩) W := by kernel_rfl

set_option maxRecDepth 100000 in
set_option maxHeartbeats 400000 in
theorem fresh_any (v : RN) (hv : v.ok) (w : World) :
    Calls Try.prog 33 #[v.val] w fun e w' => FreshIs (freshN v) e ∧ Below w.heap.size w w' := by
  have FR : Hid (freshN v = if v.kind = 0 then some ⟨0, 0, 0, v.style, []⟩ else if v.kind = 1 then some ⟨0, 0, 1, noStyle, v.text⟩ else none) := Lib.hid rfl
  have B0 : Hid (∀ Z : Array Value, Below w.heap.size w ((w.alloc (.cells v.cells.toArray 32)).alloc (.cells Z 32))) := Lib.hid (fun Z => ((Below.refl _ _).alloc (Nat.le_refl _) _).alloc (by simp) _)
  have c2 : v.cells[2]? = some (.int .u8 v.kind) := rfl
  have c50 := hv.last
  have SR := Lib.hid (style_range v w)
  have LS := Lib.hid (style_isize hv)
  have KB := hv.kind
  have XL := hv.len
  obtain ⟨s, es, -⟩ := hv.styled
  unfold RN.val
  generalize freshN v = R at FR ⊢
  generalize v.cells = X at B0 c2 c50 SR XL ⊢
  generalize v.text = T at FR c50
  rw [es] at FR SR LS
  generalize v.kind = K at FR c2 KB
  clear hv es
  have D2 : ∀ Z : Array Value, ((w.alloc (.cells X.toArray 32)).alloc (.cells Z 32)).cell? ⟨w.heap.size, 2, none⟩ = some (.int .u8 K) := fun Z => by
    rw [World.cell?_alloc_lt _ _ _ (by simp), World.cell?_alloc_new]
    simpa using c2
  have D50 : ∀ Z : Array Value, ((w.alloc (.cells X.toArray 32)).alloc (.cells Z 32)).cell? ⟨w.heap.size, 50, none⟩ = some (.string ⟨T.toArray⟩) := fun Z => by
    rw [World.cell?_alloc_lt _ _ _ (by simp), World.cell?_alloc_new]
    simpa using c50
  have SR2 : Hid (∀ Z : Array Value, ((w.alloc (.cells X.toArray 32)).alloc (.cells Z 32)).rangeAt w.heap.size 3 (s.lits.map Lit.toCell)) := Lib.hid (fun Z j u hu => by
    rw [World.cell?_alloc_lt _ _ _ (by simp)]
    exact SR.out j u hu)
  clear c2 c50 SR XL
  obtain ⟨W1, hW1⟩ : ∃ W1, w.alloc (.cells X.toArray 32) = W1 := ⟨_, rfl⟩
  rw [hW1] at B0 D2 D50 SR2
  have HW := Lib.hid hW1
  clear hW1
  by_cases h0 : K = 0
  · have h00 : (K == 0) = true := by simpa using h0
    have h01 : (K == 1) = false := by simp [h0]
    obtain rfl : R = some ⟨0, 0, 0, s.lits, []⟩ := by rw [FR.out, if_pos h0]
    subst h0
    clear FR
    have BF := Lib.hid (build_fresh0 s)
    have UL : Hid ((RN.cells ⟨0, 0, 0, s.lits, []⟩).length = 51) := Lib.hid (by kernel_rfl)
    have U1 := Lib.hid (RN.cells_one ⟨0, 0, 0, s.lits, []⟩)
    have UE : Hid (RN.val ⟨0, 0, 0, s.lits, []⟩ = .agg (RN.cells ⟨0, 0, 0, s.lits, []⟩).toArray) := Lib.hid rfl
    unfold RN.val at BF
    generalize RN.cells ⟨0, 0, 0, s.lits, []⟩ = U at BF UL U1 UE
    go_enter Try.func33, Try.ntmps33
    go_wp2_with (first
      | ((with_reducible change wpList _ _ _ (Oper.mk (some 2) _ _ _ _ _ :: _) _ _); rw [HW.out]; refine wpList_alloc_node rfl rfl ?_; have d2 := D2 nodeZero)
      | (go_at_call 24; refine (demand_yes 70 _).mono ?_; rintro e w2 ⟨rfl, rfl⟩)
      | ((with_reducible change wpList _ _ _ (Oper.mk (some 23) _ _ _ _ _ :: _) _ _); refine wpList_load_mid rfl 30 _ rfl w.heap.size 3 rfl (s.lits.map Lit.toCell) _ (SR2.out _) Try.underlying30 rfl LS.out ?_)
      | ((with_reducible change wpList _ _ _ (Oper.mk _ (Op.build _ _) _ _ _ _ :: _) _ _); refine wpList_build_op rfl _ _ rfl _ (by intro W; simp only [List.map_toArray, List.map_cons, List.map_nil]; exact BF.out W) ?_)
      | ((with_reducible change wpList _ _ _ (Oper.mk none (.store 32 _ _) _ _ _ _ :: _) _ _); refine wpList_store_new rfl 32 _ _ rfl nodeZero U.toArray rfl rfl (by rw [nodeZero_size, List.size_toArray, UL.out]) (by rw [List.size_toArray, UL.out]; exact node_isize) (by simpa using U1.out) ?_))
    refine bodyPost_ret (results_cell_row rfl _ _ W1.heap.size _ _ _ _ rfl (heap_alloc_new W1 _) Try.underlying32 rfl (by rw [List.size_toArray, UL.out]; exact node_isize)) rfl ?_
    exact ⟨by show _ = Ending.returned (RN.val ⟨0, 0, 0, s.lits, []⟩); rw [UE.out], B0.out _⟩
  · by_cases h1 : K = 1
    · have h00 : (K == 0) = false := by simp [h1]
      have h01 : (K == 1) = true := by simpa using h1
      obtain rfl : R = some ⟨0, 0, 1, noStyle, T⟩ := by rw [FR.out, if_neg h0, if_pos h1]
      subst h1
      clear h0 FR
      have BF := Lib.hid (build_fresh1 T)
      have UL : Hid ((RN.cells ⟨0, 0, 1, noStyle, T⟩).length = 51) := Lib.hid (by kernel_rfl)
      have U1 := Lib.hid (RN.cells_one ⟨0, 0, 1, noStyle, T⟩)
      have UE : Hid (RN.val ⟨0, 0, 1, noStyle, T⟩ = .agg (RN.cells ⟨0, 0, 1, noStyle, T⟩).toArray) := Lib.hid rfl
      unfold RN.val at BF
      generalize RN.cells ⟨0, 0, 1, noStyle, T⟩ = U at BF UL U1 UE
      go_enter Try.func33, Try.ntmps33
      go_wp2_with (first
        | ((with_reducible change wpList _ _ _ (Oper.mk (some 2) _ _ _ _ _ :: _) _ _); rw [HW.out]; refine wpList_alloc_node rfl rfl ?_; have d2 := D2 nodeZero; have d50 := D50 nodeZero)
        | (go_at_call 24; refine (demand_yes 70 _).mono ?_; rintro e w2 ⟨rfl, rfl⟩)
        | ((with_reducible change wpList _ _ _ (Oper.mk _ (Op.build _ _) _ _ _ _ :: _) _ _); refine wpList_build_op rfl _ _ rfl _ (by intro W; simp only [List.map_toArray, List.map_cons, List.map_nil]; exact BF.out W) ?_)
        | ((with_reducible change wpList _ _ _ (Oper.mk none (.store 32 _ _) _ _ _ _ :: _) _ _); refine wpList_store_new rfl 32 _ _ rfl nodeZero U.toArray rfl rfl (by rw [nodeZero_size, List.size_toArray, UL.out]) (by rw [List.size_toArray, UL.out]; exact node_isize) (by simpa using U1.out) ?_))
      refine bodyPost_ret (results_cell_row rfl _ _ W1.heap.size _ _ _ _ rfl (heap_alloc_new W1 _) Try.underlying32 rfl (by rw [List.size_toArray, UL.out]; exact node_isize)) rfl ?_
      exact ⟨by show _ = Ending.returned (RN.val ⟨0, 0, 1, noStyle, T⟩); rw [UE.out], B0.out _⟩
    · have h00 : (K == 0) = false := by simpa using h0
      have h01 : (K == 1) = false := by simpa using h1
      obtain rfl : R = none := by rw [FR.out, if_neg h0, if_neg h1]
      clear h0 h1 FR
      go_enter Try.func33, Try.ntmps33
      go_wp2_with (first
        | ((with_reducible change wpList _ _ _ (Oper.mk (some 2) _ _ _ _ _ :: _) _ _); rw [HW.out]; refine wpList_alloc_node rfl rfl ?_; have d2 := D2 nodeZero)
        | (go_at_call 24; refine (demand_no 70 _).mono ?_; rintro e w2 ⟨rfl, rfl⟩; unfold wrong))
      exact ⟨rfl, rfl, B0.out _⟩
end
end Go.Proofs.Ytmodegkpfdlccaa
