/-
  mutate.changes, and what Apply does within its fence, of the landed code.
-/
import Derived.Test.YtmodegkpfdlccaaMutC
import Derived.Laws.EntriesVeiled
namespace Go.Proofs.Ytmodegkpfdlccaa
open Go.RowKit

theorem heap_alloc3 (w : World) (a b c : Obj) : (((w.alloc a).alloc b).alloc c).heap[w.heap.size + 1 + 1]? = some c := by
  have := heap_alloc_new ((w.alloc a).alloc b) c
  simpa using this
/-- what each kind of change does, in a row -/
def does (bd bc : Nat) : Array Value := #[.nilFunc, .func (.func 32) #[] #[.pointer (some ⟨bc, 0, none⟩), .pointer (some ⟨bd, 0, none⟩)], .func (.func 36) #[] #[.pointer (some ⟨bd, 0, none⟩), .pointer (some ⟨bc, 0, none⟩)], .func (.func 38) #[] #[.pointer (some ⟨bd, 0, none⟩), .pointer (some ⟨bc, 0, none⟩)], .func (.func 39) #[] #[.pointer (some ⟨bd, 0, none⟩), .pointer (some ⟨bc, 0, none⟩)], .func (.func 42) #[] #[.pointer (some ⟨bd, 0, none⟩), .pointer (some ⟨bc, 0, none⟩)]]

set_option maxRecDepth 100000 in
set_option maxHeartbeats 4000000 in
theorem changes_any (A : Option Addr) (n c : Nat) (x : Int) (g : RC) (w : World) :
    Calls Try.prog 25 #[docV A n c x, changeV g] w fun e w' => ∃ bd bc, e = .returned (.agg (does bd bc)) ∧ DocBox w' bd (.slice A n c) (.int .i64 x) ∧ ChBox w' bc g ∧ Below w.heap.size w w' := by
  unfold docV changeV
  have H : Hid (∀ Z : Array Value, DocBox (((w.alloc (.cells #[.slice A n c, .int .i64 x] 24)).alloc (.cells g.cells.toArray 34)).alloc (.cells Z 52)) w.heap.size (.slice A n c) (.int .i64 x) ∧ ChBox (((w.alloc (.cells #[.slice A n c, .int .i64 x] 24)).alloc (.cells g.cells.toArray 34)).alloc (.cells Z 52)) (w.heap.size + 1) g ∧ Below w.heap.size w (((w.alloc (.cells #[.slice A n c, .int .i64 x] 24)).alloc (.cells g.cells.toArray 34)).alloc (.cells Z 52))) := Lib.hid (fun Z => by
    have b1 : Below w.heap.size w (w.alloc (.cells #[.slice A n c, .int .i64 x] 24)) := (Below.refl _ _).alloc (Nat.le_refl _) _
    have d1 : DocBox (w.alloc (.cells #[.slice A n c, .int .i64 x] 24)) w.heap.size (.slice A n c) (.int .i64 x) := docBox_new rfl
    have c2 : ChBox ((w.alloc (.cells #[.slice A n c, .int .i64 x] 24)).alloc (.cells g.cells.toArray 34)) (w.heap.size + 1) g := heap_alloc2_new _ _ _
    exact ⟨(d1.alloc _).alloc _, c2.keep (((Below.refl _ _).alloc (Nat.le_refl _) _).block _ c2.lt), below_alloc (below_alloc b1 _) _⟩)
  generalize g.cells.toArray = X at H ⊢
  go_enter Try.func25, Try.ntmps25
  go_wp2_with fail
  obtain ⟨h1, h2, h3⟩ := H.out (does w.heap.size (w.heap.size + 1))
  refine bodyPost_ret (results_cell_row rfl _ _ (w.heap.size + 1 + 1) _ _ _ _ rfl (heap_alloc3 w _ _ _) Try.underlying52 rfl (by kernel_rfl)) rfl ?_
  exact ⟨_, _, rfl, h1, h2, h3⟩

theorem ChBox.below {W W' : World} {b : Nat} {g : RC} (h : ChBox W b g) (hb : Below W.heap.size W W') : ChBox W' b g := h.keep (hb.block _ h.lt)
theorem ChBox.alloc {W : World} {b : Nat} {g : RC} (h : ChBox W b g) (o : Obj) : ChBox (W.alloc o) b g := h.below ((Below.refl _ _).alloc (Nat.le_refl _) _)
theorem neq_nil (w : World) : (binOp .neq 48 .nilFunc .nilFunc).run Try.prog w = .ok (.bool false) w := by kernel_rfl
theorem neq_func (f : Fn) (fi cap : Array Value) (w : World) : (binOp .neq 48 (.func f fi cap) .nilFunc).run Try.prog w = .ok (.bool true) w := by kernel_rfl
theorem change_isize : (Try.prog.info? 34).map (·.size) = some 55 := by kernel_rfl
/-- what is asked of a change's closure -/
def CloOK (A : Option Addr) (n c : Nat) (x : Int) (N : Nat → RN) (g : RC) (R : Out7) (y : Nat) (ar : Nat → Nat → Array Value) : Prop := ∀ (W : World) (bd bc : Nat), DocBox W bd (.slice A n c) (.int .i64 x) → DocIn W A n c x N → ChBox W bc g →
  Calls Try.prog y (ar bd bc) W fun e w' => CloIs W R e w' ∧ Below W.heap.size W w'

set_option maxRecDepth 100000 in
set_option maxHeartbeats 1000000 in
theorem do_bad (A : Option Addr) (n c : Nat) (x : Int) (N : Nat → RN) (bd bc : Nat) (g : RC) (hg : g.ok) (hm : ¬ MayD StyOK n x N) (w : World) (hd : DocBox w bd (.slice A n c) (.int .i64 x)) (hD : DocIn w A n c x N) (hc : ChBox w bc g) :
    Calls Try.prog 23 #[.pointer (some ⟨bd, 0, none⟩), .pointer (some ⟨bc, 0, none⟩)] w fun e w' => CloIs w (applyN StyOK N n x g) e w' ∧ Below w.heap.size w w' := by
  have hR : applyN StyOK N n x g = .no 50 := by unfold applyN; rw [if_neg hm]
  rw [hR]
  have P0 := Lib.hid (Chg.start hd hD hc)
  have KM := Lib.hid (fun W (h : DocIn W A n c x N) => mutMay_any A n c x N W h)
  have XL : g.cells.toArray.size = 55 := by simp [hg.len]
  have XS : Hid ((Try.prog.info? 34).map (·.size) = some g.cells.toArray.size) := Lib.hid (by rw [XL]; exact change_isize)
  have KC := Lib.hid (fun W => changes_any A n c x g W)
  unfold docV at KM
  unfold docV changeV at KC
  have k0 : g.cells[0]? = some (.int .u8 g.kind) := rfl
  have hnn := neq_nil
  have hnf := neq_func
  have QQ : Hid (∀ q : Bool, (q = true ↔ MayD StyOK n x N) → q = false) := Lib.hid (fun q h => by
    cases q with
    | false => rfl
    | true => exact absurd (h.1 rfl) hm)
  have d0 := P0.out.db.c0
  have d1 := P0.out.db.c1
  clear hd hD hc hg hm hR k0 KC XS XL
  go_enter Try.func23, Try.ntmps23
  go_wp2_with (first
    | (go_at_call 11; (with_reducible refine (KM.out _ P0.out.doc).mono ?_); rintro e w1 ⟨q, rfl, hq, hb⟩; obtain rfl : q = false := QQ.out q hq; have P1 := Lib.hid (P0.out.next hb); have d0 := P1.out.db.c0; have d1 := P1.out.db.c1; clear hb hq)
    | (go_at_call 24; refine (demand_no 50 _).mono ?_; rintro e wq ⟨rfl, rfl⟩; unfold wrong))
  exact ⟨rfl, rfl, P1.out.below⟩

set_option maxRecDepth 100000 in
set_option maxHeartbeats 1000000 in
theorem do_zero (A : Option Addr) (n c : Nat) (x : Int) (N : Nat → RN) (bd bc : Nat) (g : RC) (hg : g.ok) (hm : MayD StyOK n x N) (hk : g.kind = 0) (hdn : doneN StyOK N n x g = .no 70) (w : World) (hd : DocBox w bd (.slice A n c) (.int .i64 x)) (hD : DocIn w A n c x N) (hc : ChBox w bc g) :
    Calls Try.prog 23 #[.pointer (some ⟨bd, 0, none⟩), .pointer (some ⟨bc, 0, none⟩)] w fun e w' => CloIs w (applyN StyOK N n x g) e w' ∧ Below w.heap.size w w' := by
  have hR : applyN StyOK N n x g = .no 70 := by unfold applyN; rw [if_pos hm, hdn]
  rw [hR]
  have P0 := Lib.hid (Chg.start hd hD hc)
  have KM := Lib.hid (fun W (h : DocIn W A n c x N) => mutMay_any A n c x N W h)
  have XL : g.cells.toArray.size = 55 := by simp [hg.len]
  have XS : Hid ((Try.prog.info? 34).map (·.size) = some g.cells.toArray.size) := Lib.hid (by rw [XL]; exact change_isize)
  have KC := Lib.hid (fun W => changes_any A n c x g W)
  unfold docV at KM
  unfold docV changeV at KC
  have k0 : g.cells[0]? = some (.int .u8 g.kind) := rfl
  have hnn := neq_nil
  have hnf := neq_func
  have QQ : Hid (∀ q : Bool, (q = true ↔ MayD StyOK n x N) → q = true) := Lib.hid (fun q h => h.2 hm)
  rw [hk] at k0
  clear hk
  have d0 := P0.out.db.c0
  have d1 := P0.out.db.c1
  clear hd hD hc hg hm hR hdn XL
  go_enter Try.func23, Try.ntmps23
  go_wp2_with (first
    | (go_at_call 11; (with_reducible refine (KM.out _ P0.out.doc).mono ?_); rintro e w1 ⟨q, rfl, hq, hb⟩; obtain rfl : q = true := QQ.out q hq; have P1 := Lib.hid (P0.out.next hb); have d0 := P1.out.db.c0; have d1 := P1.out.db.c1; clear hb hq)
    | (go_at_call 24; refine (demand_yes 50 _).mono ?_; rintro e wq ⟨rfl, rfl⟩)
    | ((with_reducible change wpList _ _ _ (Oper.mk (some 9) _ _ _ _ _ :: _) _ _); refine wpList_load_row rfl 34 _ rfl bc rfl _ _ _ _ P1.out.cb Try.underlying34 rfl XS.out ?_)
    | (go_at_call 25; refine (KC.out _).mono ?_; rintro e w2 ⟨bd2, bc2, rfl, hd2, hc2, hb⟩; have P2 := Lib.hid (P1.out.next hb); have D2 := Lib.hid hd2; have C2 := Lib.hid hc2; have k2 : ∀ o : Obj, (w2.alloc o).cell? ⟨bc, 0, none⟩ = some (.int .u8 0) := fun o => (P2.out.alloc o).cb.cell k0; clear hd2 hc2 hb d0 d1; unfold does)
    | (go_at_call 24; refine (demand_no 70 _).mono ?_; rintro e wq ⟨rfl, rfl⟩; unfold wrong))
  exact ⟨rfl, rfl, P2.out.below.alloc P2.out.below.size _⟩

set_option maxRecDepth 100000 in
set_option maxHeartbeats 1000000 in
theorem do_great (A : Option Addr) (n c : Nat) (x : Int) (N : Nat → RN) (bd bc : Nat) (g : RC) (hg : g.ok) (hm : MayD StyOK n x N) (hk : 6 ≤ g.kind) (hdn : doneN StyOK N n x g = .no 70) (w : World) (hd : DocBox w bd (.slice A n c) (.int .i64 x)) (hD : DocIn w A n c x N) (hc : ChBox w bc g) :
    Calls Try.prog 23 #[.pointer (some ⟨bd, 0, none⟩), .pointer (some ⟨bc, 0, none⟩)] w fun e w' => CloIs w (applyN StyOK N n x g) e w' ∧ Below w.heap.size w w' := by
  have hR : applyN StyOK N n x g = .no 70 := by unfold applyN; rw [if_pos hm, hdn]
  rw [hR]
  have P0 := Lib.hid (Chg.start hd hD hc)
  have KM := Lib.hid (fun W (h : DocIn W A n c x N) => mutMay_any A n c x N W h)
  have XL : g.cells.toArray.size = 55 := by simp [hg.len]
  have XS : Hid ((Try.prog.info? 34).map (·.size) = some g.cells.toArray.size) := Lib.hid (by rw [XL]; exact change_isize)
  have KC := Lib.hid (fun W => changes_any A n c x g W)
  unfold docV at KM
  unfold docV changeV at KC
  have k0 : g.cells[0]? = some (.int .u8 g.kind) := rfl
  have hnn := neq_nil
  have hnf := neq_func
  have QQ : Hid (∀ q : Bool, (q = true ↔ MayD StyOK n x N) → q = true) := Lib.hid (fun q h => h.2 hm)
  have hkb := hg.kind
  generalize g.kind = kd at k0 hk hkb
  have hk6 : ¬ kd < 6 := by omega
  have wk : IntKind.i64.wrap kd = kd := IntWalk.i64_in _ (by omega)
  have d0 := P0.out.db.c0
  have d1 := P0.out.db.c1
  clear hd hD hc hg hm hR hdn XL
  go_enter Try.func23, Try.ntmps23
  go_wp2_with (first
    | (go_at_call 11; (with_reducible refine (KM.out _ P0.out.doc).mono ?_); rintro e w1 ⟨q, rfl, hq, hb⟩; obtain rfl : q = true := QQ.out q hq; have P1 := Lib.hid (P0.out.next hb); have d0 := P1.out.db.c0; have d1 := P1.out.db.c1; clear hb hq)
    | (go_at_call 24; refine (demand_yes 50 _).mono ?_; rintro e wq ⟨rfl, rfl⟩)
    | ((with_reducible change wpList _ _ _ (Oper.mk (some 9) _ _ _ _ _ :: _) _ _); refine wpList_load_row rfl 34 _ rfl bc rfl _ _ _ _ P1.out.cb Try.underlying34 rfl XS.out ?_)
    | (go_at_call 25; refine (KC.out _).mono ?_; rintro e w2 ⟨bd2, bc2, rfl, hd2, hc2, hb⟩; have P2 := Lib.hid (P1.out.next hb); have D2 := Lib.hid hd2; have C2 := Lib.hid hc2; have k2 : ∀ o : Obj, (w2.alloc o).cell? ⟨bc, 0, none⟩ = some (.int .u8 kd) := fun o => (P2.out.alloc o).cb.cell k0; clear hd2 hc2 hb d0 d1; unfold does)
    | (go_at_call 24; refine (demand_no 70 _).mono ?_; rintro e wq ⟨rfl, rfl⟩; unfold wrong))
  exact ⟨rfl, rfl, P2.out.below.alloc P2.out.below.size _⟩

set_option maxRecDepth 100000 in
set_option maxHeartbeats 1000000 in
theorem do_1 (A : Option Addr) (n c : Nat) (x : Int) (N : Nat → RN) (bd bc : Nat) (g : RC) (hg : g.ok) (hm : MayD StyOK n x N) (hk : g.kind = 1) (CK : CloOK A n c x N g (doneN StyOK N n x g) 32 fun bd bc => #[.pointer (some ⟨bc, 0, none⟩), .pointer (some ⟨bd, 0, none⟩)]) (w : World) (hd : DocBox w bd (.slice A n c) (.int .i64 x)) (hD : DocIn w A n c x N) (hc : ChBox w bc g) :
    Calls Try.prog 23 #[.pointer (some ⟨bd, 0, none⟩), .pointer (some ⟨bc, 0, none⟩)] w fun e w' => CloIs w (applyN StyOK N n x g) e w' ∧ Below w.heap.size w w' := by
  have hR : applyN StyOK N n x g = (match doneN StyOK N n x g with
    | .no f => .no f
    | .doc m y M => @ite _ (MayD StyOK m y M) (Classical.propDecidable _) (.doc m y M) (.no 4)) := by unfold applyN; rw [if_pos hm]; rfl
  rw [hR]
  have P0 := Lib.hid (Chg.start hd hD hc)
  have KM := Lib.hid (fun W (h : DocIn W A n c x N) => mutMay_any A n c x N W h)
  have XL : g.cells.toArray.size = 55 := by simp [hg.len]
  have XS : Hid ((Try.prog.info? 34).map (·.size) = some g.cells.toArray.size) := Lib.hid (by rw [XL]; exact change_isize)
  have KC := Lib.hid (fun W => changes_any A n c x g W)
  unfold docV at KM
  unfold docV changeV at KC
  have k0 : g.cells[0]? = some (.int .u8 g.kind) := rfl
  have hnn := neq_nil
  have hnf := neq_func
  have QQ : Hid (∀ q : Bool, (q = true ↔ MayD StyOK n x N) → q = true) := Lib.hid (fun q h => h.2 hm)
  rw [hk] at k0
  have d0 := P0.out.db.c0
  have d1 := P0.out.db.c1
  unfold CloOK at CK
  have CK := Lib.hid CK
  clear hd hD hc hg hm hR XL hk
  generalize doneN StyOK N n x g = R at CK ⊢
  cases R with
  | no f =>
    dsimp only
    go_enter Try.func23, Try.ntmps23
    go_wp2_with (first
      | (go_at_call 11; (with_reducible refine (KM.out _ P0.out.doc).mono ?_); rintro e w1 ⟨q, rfl, hq, hb⟩; obtain rfl : q = true := QQ.out q hq; have P1 := Lib.hid (P0.out.next hb); have d0 := P1.out.db.c0; have d1 := P1.out.db.c1; clear hb hq)
      | (go_at_call 24; refine (demand_yes 50 _).mono ?_; rintro e wq ⟨rfl, rfl⟩)
      | ((with_reducible change wpList _ _ _ (Oper.mk (some 9) _ _ _ _ _ :: _) _ _); refine wpList_load_row rfl 34 _ rfl bc rfl _ _ _ _ P1.out.cb Try.underlying34 rfl XS.out ?_)
      | (go_at_call 25; refine (KC.out _).mono ?_; rintro e w2 ⟨bd2, bc2, rfl, hd2, hc2, hb⟩; have P2 := Lib.hid (P1.out.next hb); have D2 := Lib.hid hd2; have C2 := Lib.hid hc2; have k2 : ∀ o : Obj, (w2.alloc o).cell? ⟨bc, 0, none⟩ = some (.int .u8 1) := fun o => (P2.out.alloc o).cb.cell k0; clear hd2 hc2 hb d0 d1; unfold does)
      | (go_at_call 24; refine (demand_yes 70 _).mono ?_; rintro e wq ⟨rfl, rfl⟩)
      | (go_at_call 32; refine (CK.out _ bd2 bc2 (D2.out.alloc _) (P2.out.alloc _).doc (C2.out.alloc _)).mono ?_; rintro e w4 ⟨hr, hb⟩; have P4 := Lib.hid ((P2.out.alloc _).next hb); clear hb; unfold CloIs wrong at hr; subst hr))
    exact ⟨rfl, rfl, P4.out.below⟩
  | doc m y M =>
    dsimp only
    by_cases hy : MayD StyOK m y M
    · rw [if_pos hy]
      have Q2 : Hid (∀ q : Bool, (q = true ↔ MayD StyOK m y M) → q = true) := Lib.hid (fun q h => h.2 hy)
      clear hy
      go_enter Try.func23, Try.ntmps23
      go_wp2_with (first
        | (go_at_call 11; (with_reducible refine (KM.out _ P0.out.doc).mono ?_); rintro e w1 ⟨q, rfl, hq, hb⟩; obtain rfl : q = true := QQ.out q hq; have P1 := Lib.hid (P0.out.next hb); have d0 := P1.out.db.c0; have d1 := P1.out.db.c1; clear hb hq)
        | (go_at_call 24; refine (demand_yes 50 _).mono ?_; rintro e wq ⟨rfl, rfl⟩)
        | ((with_reducible change wpList _ _ _ (Oper.mk (some 9) _ _ _ _ _ :: _) _ _); refine wpList_load_row rfl 34 _ rfl bc rfl _ _ _ _ P1.out.cb Try.underlying34 rfl XS.out ?_)
        | (go_at_call 25; refine (KC.out _).mono ?_; rintro e w2 ⟨bd2, bc2, rfl, hd2, hc2, hb⟩; have P2 := Lib.hid (P1.out.next hb); have D2 := Lib.hid hd2; have C2 := Lib.hid hc2; have k2 : ∀ o : Obj, (w2.alloc o).cell? ⟨bc, 0, none⟩ = some (.int .u8 1) := fun o => (P2.out.alloc o).cb.cell k0; clear hd2 hc2 hb d0 d1; unfold does)
        | (go_at_call 24; refine (demand_yes 70 _).mono ?_; rintro e wq ⟨rfl, rfl⟩)
        | (go_at_call 32; refine (CK.out _ bd2 bc2 (D2.out.alloc _) (P2.out.alloc _).doc (C2.out.alloc _)).mono ?_; rintro e w4 ⟨hr, hb⟩; have P4 := Lib.hid ((P2.out.alloc _).next hb); obtain ⟨B, d, rfl, hn4⟩ := hr; have D4 := Lib.hid (hn4.lower (P2.out.alloc _).below.size); have HQ4 := Lib.hid (hn4.apart (q := w.heap.size) (by have := (P2.out.alloc (.cells (does bd2 bc2) 52)).size; unfold does at this; omega)); clear hb hn4; have HB5 : Hid (Below w4.heap.size w4 (w4.alloc (.cells #[.slice B m d, .int .i64 y] 24))) := Lib.hid ((Below.refl _ _).alloc (Nat.le_refl _) _); have P5 := Lib.hid (P4.out.next HB5.out); have D5 := Lib.hid (D4.out.below HB5.out); have E5 : Hid (DocBox (w4.alloc (.cells #[.slice B m d, .int .i64 y] 24)) w4.heap.size (.slice B m d) (.int .i64 y)) := Lib.hid (docBox_new rfl); have KN := Lib.hid (mutMay_any B m d y M (w4.alloc (.cells #[.slice B m d, .int .i64 y] 24)) D5.out.1); unfold docV at KN ⊢)
        | (go_at_call 11; (with_reducible refine KN.out.mono ?_); rintro e w6 ⟨q, rfl, hq, hb⟩; obtain rfl : q = true := Q2.out q hq; have P6 := Lib.hid (P5.out.next hb); have D6 := Lib.hid (D5.out.below hb); have E6 := Lib.hid (E5.out.below hb); have e0 := E6.out.c0; have e1 := E6.out.c1; have o0 := P6.out.out.c0; have o1 := P6.out.out.c1; have of0 := P6.out.out.f0; have of1 := P6.out.out.f1; clear hb hq)
        | (go_at_call 24; refine (demand_yes 4 _).mono ?_; rintro e wq ⟨rfl, rfl⟩))
      refine bodyPost_ret (results_cell_row rfl _ _ w.heap.size _ _ _ _ rfl (P6.out.out.put _ _) Try.underlying24 rfl (by kernel_rfl)) rfl ?_
      refine ⟨⟨B, d, rfl, (D6.out.set 0 _ HQ4.out).set 1 _ HQ4.out⟩, ?_⟩
      exact (P6.out.below.setCell (p := ⟨w.heap.size, 0, none⟩) (Nat.le_refl _) _).setCell (p := ⟨w.heap.size, 1, none⟩) (Nat.le_refl _) _
    · rw [if_neg hy]
      have Q2 : Hid (∀ q : Bool, (q = true ↔ MayD StyOK m y M) → q = false) := Lib.hid (fun q h => by
        cases q with
        | false => rfl
        | true => exact absurd (h.1 rfl) hy)
      clear hy
      go_enter Try.func23, Try.ntmps23
      go_wp2_with (first
        | (go_at_call 11; (with_reducible refine (KM.out _ P0.out.doc).mono ?_); rintro e w1 ⟨q, rfl, hq, hb⟩; obtain rfl : q = true := QQ.out q hq; have P1 := Lib.hid (P0.out.next hb); have d0 := P1.out.db.c0; have d1 := P1.out.db.c1; clear hb hq)
        | (go_at_call 24; refine (demand_yes 50 _).mono ?_; rintro e wq ⟨rfl, rfl⟩)
        | ((with_reducible change wpList _ _ _ (Oper.mk (some 9) _ _ _ _ _ :: _) _ _); refine wpList_load_row rfl 34 _ rfl bc rfl _ _ _ _ P1.out.cb Try.underlying34 rfl XS.out ?_)
        | (go_at_call 25; refine (KC.out _).mono ?_; rintro e w2 ⟨bd2, bc2, rfl, hd2, hc2, hb⟩; have P2 := Lib.hid (P1.out.next hb); have D2 := Lib.hid hd2; have C2 := Lib.hid hc2; have k2 : ∀ o : Obj, (w2.alloc o).cell? ⟨bc, 0, none⟩ = some (.int .u8 1) := fun o => (P2.out.alloc o).cb.cell k0; clear hd2 hc2 hb d0 d1; unfold does)
        | (go_at_call 24; refine (demand_yes 70 _).mono ?_; rintro e wq ⟨rfl, rfl⟩)
        | (go_at_call 32; refine (CK.out _ bd2 bc2 (D2.out.alloc _) (P2.out.alloc _).doc (C2.out.alloc _)).mono ?_; rintro e w4 ⟨hr, hb⟩; have P4 := Lib.hid ((P2.out.alloc _).next hb); obtain ⟨B, d, rfl, hn4⟩ := hr; have D4 := Lib.hid (hn4.lower (P2.out.alloc _).below.size); have HQ4 := Lib.hid (hn4.apart (q := w.heap.size) (by have := (P2.out.alloc (.cells (does bd2 bc2) 52)).size; unfold does at this; omega)); clear hb hn4; have HB5 : Hid (Below w4.heap.size w4 (w4.alloc (.cells #[.slice B m d, .int .i64 y] 24))) := Lib.hid ((Below.refl _ _).alloc (Nat.le_refl _) _); have P5 := Lib.hid (P4.out.next HB5.out); have D5 := Lib.hid (D4.out.below HB5.out); have E5 : Hid (DocBox (w4.alloc (.cells #[.slice B m d, .int .i64 y] 24)) w4.heap.size (.slice B m d) (.int .i64 y)) := Lib.hid (docBox_new rfl); have KN := Lib.hid (mutMay_any B m d y M (w4.alloc (.cells #[.slice B m d, .int .i64 y] 24)) D5.out.1); unfold docV at KN ⊢)
        | (go_at_call 11; (with_reducible refine KN.out.mono ?_); rintro e w6 ⟨q, rfl, hq, hb⟩; obtain rfl : q = false := Q2.out q hq; have P6 := Lib.hid (P5.out.next hb); have D6 := Lib.hid (D5.out.below hb); have E6 := Lib.hid (E5.out.below hb); have e0 := E6.out.c0; have e1 := E6.out.c1; have o0 := P6.out.out.c0; have o1 := P6.out.out.c1; have of0 := P6.out.out.f0; have of1 := P6.out.out.f1; clear hb hq)
        | (go_at_call 24; refine (demand_no 4 _).mono ?_; rintro e wq ⟨rfl, rfl⟩; unfold wrong))
      exact ⟨rfl, rfl, P6.out.below⟩

set_option maxRecDepth 100000 in
set_option maxHeartbeats 1000000 in
theorem do_2 (A : Option Addr) (n c : Nat) (x : Int) (N : Nat → RN) (bd bc : Nat) (g : RC) (hg : g.ok) (hm : MayD StyOK n x N) (hk : g.kind = 2) (CK : CloOK A n c x N g (doneN StyOK N n x g) 36 fun bd bc => #[.pointer (some ⟨bd, 0, none⟩), .pointer (some ⟨bc, 0, none⟩)]) (w : World) (hd : DocBox w bd (.slice A n c) (.int .i64 x)) (hD : DocIn w A n c x N) (hc : ChBox w bc g) :
    Calls Try.prog 23 #[.pointer (some ⟨bd, 0, none⟩), .pointer (some ⟨bc, 0, none⟩)] w fun e w' => CloIs w (applyN StyOK N n x g) e w' ∧ Below w.heap.size w w' := by
  have hR : applyN StyOK N n x g = (match doneN StyOK N n x g with
    | .no f => .no f
    | .doc m y M => @ite _ (MayD StyOK m y M) (Classical.propDecidable _) (.doc m y M) (.no 4)) := by unfold applyN; rw [if_pos hm]; rfl
  rw [hR]
  have P0 := Lib.hid (Chg.start hd hD hc)
  have KM := Lib.hid (fun W (h : DocIn W A n c x N) => mutMay_any A n c x N W h)
  have XL : g.cells.toArray.size = 55 := by simp [hg.len]
  have XS : Hid ((Try.prog.info? 34).map (·.size) = some g.cells.toArray.size) := Lib.hid (by rw [XL]; exact change_isize)
  have KC := Lib.hid (fun W => changes_any A n c x g W)
  unfold docV at KM
  unfold docV changeV at KC
  have k0 : g.cells[0]? = some (.int .u8 g.kind) := rfl
  have hnn := neq_nil
  have hnf := neq_func
  have QQ : Hid (∀ q : Bool, (q = true ↔ MayD StyOK n x N) → q = true) := Lib.hid (fun q h => h.2 hm)
  rw [hk] at k0
  have d0 := P0.out.db.c0
  have d1 := P0.out.db.c1
  unfold CloOK at CK
  have CK := Lib.hid CK
  clear hd hD hc hg hm hR XL hk
  generalize doneN StyOK N n x g = R at CK ⊢
  cases R with
  | no f =>
    dsimp only
    go_enter Try.func23, Try.ntmps23
    go_wp2_with (first
      | (go_at_call 11; (with_reducible refine (KM.out _ P0.out.doc).mono ?_); rintro e w1 ⟨q, rfl, hq, hb⟩; obtain rfl : q = true := QQ.out q hq; have P1 := Lib.hid (P0.out.next hb); have d0 := P1.out.db.c0; have d1 := P1.out.db.c1; clear hb hq)
      | (go_at_call 24; refine (demand_yes 50 _).mono ?_; rintro e wq ⟨rfl, rfl⟩)
      | ((with_reducible change wpList _ _ _ (Oper.mk (some 9) _ _ _ _ _ :: _) _ _); refine wpList_load_row rfl 34 _ rfl bc rfl _ _ _ _ P1.out.cb Try.underlying34 rfl XS.out ?_)
      | (go_at_call 25; refine (KC.out _).mono ?_; rintro e w2 ⟨bd2, bc2, rfl, hd2, hc2, hb⟩; have P2 := Lib.hid (P1.out.next hb); have D2 := Lib.hid hd2; have C2 := Lib.hid hc2; have k2 : ∀ o : Obj, (w2.alloc o).cell? ⟨bc, 0, none⟩ = some (.int .u8 2) := fun o => (P2.out.alloc o).cb.cell k0; clear hd2 hc2 hb d0 d1; unfold does)
      | (go_at_call 24; refine (demand_yes 70 _).mono ?_; rintro e wq ⟨rfl, rfl⟩)
      | (go_at_call 36; refine (CK.out _ bd2 bc2 (D2.out.alloc _) (P2.out.alloc _).doc (C2.out.alloc _)).mono ?_; rintro e w4 ⟨hr, hb⟩; have P4 := Lib.hid ((P2.out.alloc _).next hb); clear hb; unfold CloIs wrong at hr; subst hr))
    exact ⟨rfl, rfl, P4.out.below⟩
  | doc m y M =>
    dsimp only
    by_cases hy : MayD StyOK m y M
    · rw [if_pos hy]
      have Q2 : Hid (∀ q : Bool, (q = true ↔ MayD StyOK m y M) → q = true) := Lib.hid (fun q h => h.2 hy)
      clear hy
      go_enter Try.func23, Try.ntmps23
      go_wp2_with (first
        | (go_at_call 11; (with_reducible refine (KM.out _ P0.out.doc).mono ?_); rintro e w1 ⟨q, rfl, hq, hb⟩; obtain rfl : q = true := QQ.out q hq; have P1 := Lib.hid (P0.out.next hb); have d0 := P1.out.db.c0; have d1 := P1.out.db.c1; clear hb hq)
        | (go_at_call 24; refine (demand_yes 50 _).mono ?_; rintro e wq ⟨rfl, rfl⟩)
        | ((with_reducible change wpList _ _ _ (Oper.mk (some 9) _ _ _ _ _ :: _) _ _); refine wpList_load_row rfl 34 _ rfl bc rfl _ _ _ _ P1.out.cb Try.underlying34 rfl XS.out ?_)
        | (go_at_call 25; refine (KC.out _).mono ?_; rintro e w2 ⟨bd2, bc2, rfl, hd2, hc2, hb⟩; have P2 := Lib.hid (P1.out.next hb); have D2 := Lib.hid hd2; have C2 := Lib.hid hc2; have k2 : ∀ o : Obj, (w2.alloc o).cell? ⟨bc, 0, none⟩ = some (.int .u8 2) := fun o => (P2.out.alloc o).cb.cell k0; clear hd2 hc2 hb d0 d1; unfold does)
        | (go_at_call 24; refine (demand_yes 70 _).mono ?_; rintro e wq ⟨rfl, rfl⟩)
        | (go_at_call 36; refine (CK.out _ bd2 bc2 (D2.out.alloc _) (P2.out.alloc _).doc (C2.out.alloc _)).mono ?_; rintro e w4 ⟨hr, hb⟩; have P4 := Lib.hid ((P2.out.alloc _).next hb); obtain ⟨B, d, rfl, hn4⟩ := hr; have D4 := Lib.hid (hn4.lower (P2.out.alloc _).below.size); have HQ4 := Lib.hid (hn4.apart (q := w.heap.size) (by have := (P2.out.alloc (.cells (does bd2 bc2) 52)).size; unfold does at this; omega)); clear hb hn4; have HB5 : Hid (Below w4.heap.size w4 (w4.alloc (.cells #[.slice B m d, .int .i64 y] 24))) := Lib.hid ((Below.refl _ _).alloc (Nat.le_refl _) _); have P5 := Lib.hid (P4.out.next HB5.out); have D5 := Lib.hid (D4.out.below HB5.out); have E5 : Hid (DocBox (w4.alloc (.cells #[.slice B m d, .int .i64 y] 24)) w4.heap.size (.slice B m d) (.int .i64 y)) := Lib.hid (docBox_new rfl); have KN := Lib.hid (mutMay_any B m d y M (w4.alloc (.cells #[.slice B m d, .int .i64 y] 24)) D5.out.1); unfold docV at KN ⊢)
        | (go_at_call 11; (with_reducible refine KN.out.mono ?_); rintro e w6 ⟨q, rfl, hq, hb⟩; obtain rfl : q = true := Q2.out q hq; have P6 := Lib.hid (P5.out.next hb); have D6 := Lib.hid (D5.out.below hb); have E6 := Lib.hid (E5.out.below hb); have e0 := E6.out.c0; have e1 := E6.out.c1; have o0 := P6.out.out.c0; have o1 := P6.out.out.c1; have of0 := P6.out.out.f0; have of1 := P6.out.out.f1; clear hb hq)
        | (go_at_call 24; refine (demand_yes 4 _).mono ?_; rintro e wq ⟨rfl, rfl⟩))
      refine bodyPost_ret (results_cell_row rfl _ _ w.heap.size _ _ _ _ rfl (P6.out.out.put _ _) Try.underlying24 rfl (by kernel_rfl)) rfl ?_
      refine ⟨⟨B, d, rfl, (D6.out.set 0 _ HQ4.out).set 1 _ HQ4.out⟩, ?_⟩
      exact (P6.out.below.setCell (p := ⟨w.heap.size, 0, none⟩) (Nat.le_refl _) _).setCell (p := ⟨w.heap.size, 1, none⟩) (Nat.le_refl _) _
    · rw [if_neg hy]
      have Q2 : Hid (∀ q : Bool, (q = true ↔ MayD StyOK m y M) → q = false) := Lib.hid (fun q h => by
        cases q with
        | false => rfl
        | true => exact absurd (h.1 rfl) hy)
      clear hy
      go_enter Try.func23, Try.ntmps23
      go_wp2_with (first
        | (go_at_call 11; (with_reducible refine (KM.out _ P0.out.doc).mono ?_); rintro e w1 ⟨q, rfl, hq, hb⟩; obtain rfl : q = true := QQ.out q hq; have P1 := Lib.hid (P0.out.next hb); have d0 := P1.out.db.c0; have d1 := P1.out.db.c1; clear hb hq)
        | (go_at_call 24; refine (demand_yes 50 _).mono ?_; rintro e wq ⟨rfl, rfl⟩)
        | ((with_reducible change wpList _ _ _ (Oper.mk (some 9) _ _ _ _ _ :: _) _ _); refine wpList_load_row rfl 34 _ rfl bc rfl _ _ _ _ P1.out.cb Try.underlying34 rfl XS.out ?_)
        | (go_at_call 25; refine (KC.out _).mono ?_; rintro e w2 ⟨bd2, bc2, rfl, hd2, hc2, hb⟩; have P2 := Lib.hid (P1.out.next hb); have D2 := Lib.hid hd2; have C2 := Lib.hid hc2; have k2 : ∀ o : Obj, (w2.alloc o).cell? ⟨bc, 0, none⟩ = some (.int .u8 2) := fun o => (P2.out.alloc o).cb.cell k0; clear hd2 hc2 hb d0 d1; unfold does)
        | (go_at_call 24; refine (demand_yes 70 _).mono ?_; rintro e wq ⟨rfl, rfl⟩)
        | (go_at_call 36; refine (CK.out _ bd2 bc2 (D2.out.alloc _) (P2.out.alloc _).doc (C2.out.alloc _)).mono ?_; rintro e w4 ⟨hr, hb⟩; have P4 := Lib.hid ((P2.out.alloc _).next hb); obtain ⟨B, d, rfl, hn4⟩ := hr; have D4 := Lib.hid (hn4.lower (P2.out.alloc _).below.size); have HQ4 := Lib.hid (hn4.apart (q := w.heap.size) (by have := (P2.out.alloc (.cells (does bd2 bc2) 52)).size; unfold does at this; omega)); clear hb hn4; have HB5 : Hid (Below w4.heap.size w4 (w4.alloc (.cells #[.slice B m d, .int .i64 y] 24))) := Lib.hid ((Below.refl _ _).alloc (Nat.le_refl _) _); have P5 := Lib.hid (P4.out.next HB5.out); have D5 := Lib.hid (D4.out.below HB5.out); have E5 : Hid (DocBox (w4.alloc (.cells #[.slice B m d, .int .i64 y] 24)) w4.heap.size (.slice B m d) (.int .i64 y)) := Lib.hid (docBox_new rfl); have KN := Lib.hid (mutMay_any B m d y M (w4.alloc (.cells #[.slice B m d, .int .i64 y] 24)) D5.out.1); unfold docV at KN ⊢)
        | (go_at_call 11; (with_reducible refine KN.out.mono ?_); rintro e w6 ⟨q, rfl, hq, hb⟩; obtain rfl : q = false := Q2.out q hq; have P6 := Lib.hid (P5.out.next hb); have D6 := Lib.hid (D5.out.below hb); have E6 := Lib.hid (E5.out.below hb); have e0 := E6.out.c0; have e1 := E6.out.c1; have o0 := P6.out.out.c0; have o1 := P6.out.out.c1; have of0 := P6.out.out.f0; have of1 := P6.out.out.f1; clear hb hq)
        | (go_at_call 24; refine (demand_no 4 _).mono ?_; rintro e wq ⟨rfl, rfl⟩; unfold wrong))
      exact ⟨rfl, rfl, P6.out.below⟩

set_option maxRecDepth 100000 in
set_option maxHeartbeats 1000000 in
theorem do_3 (A : Option Addr) (n c : Nat) (x : Int) (N : Nat → RN) (bd bc : Nat) (g : RC) (hg : g.ok) (hm : MayD StyOK n x N) (hk : g.kind = 3) (CK : CloOK A n c x N g (doneN StyOK N n x g) 38 fun bd bc => #[.pointer (some ⟨bd, 0, none⟩), .pointer (some ⟨bc, 0, none⟩)]) (w : World) (hd : DocBox w bd (.slice A n c) (.int .i64 x)) (hD : DocIn w A n c x N) (hc : ChBox w bc g) :
    Calls Try.prog 23 #[.pointer (some ⟨bd, 0, none⟩), .pointer (some ⟨bc, 0, none⟩)] w fun e w' => CloIs w (applyN StyOK N n x g) e w' ∧ Below w.heap.size w w' := by
  have hR : applyN StyOK N n x g = (match doneN StyOK N n x g with
    | .no f => .no f
    | .doc m y M => @ite _ (MayD StyOK m y M) (Classical.propDecidable _) (.doc m y M) (.no 4)) := by unfold applyN; rw [if_pos hm]; rfl
  rw [hR]
  have P0 := Lib.hid (Chg.start hd hD hc)
  have KM := Lib.hid (fun W (h : DocIn W A n c x N) => mutMay_any A n c x N W h)
  have XL : g.cells.toArray.size = 55 := by simp [hg.len]
  have XS : Hid ((Try.prog.info? 34).map (·.size) = some g.cells.toArray.size) := Lib.hid (by rw [XL]; exact change_isize)
  have KC := Lib.hid (fun W => changes_any A n c x g W)
  unfold docV at KM
  unfold docV changeV at KC
  have k0 : g.cells[0]? = some (.int .u8 g.kind) := rfl
  have hnn := neq_nil
  have hnf := neq_func
  have QQ : Hid (∀ q : Bool, (q = true ↔ MayD StyOK n x N) → q = true) := Lib.hid (fun q h => h.2 hm)
  rw [hk] at k0
  have d0 := P0.out.db.c0
  have d1 := P0.out.db.c1
  unfold CloOK at CK
  have CK := Lib.hid CK
  clear hd hD hc hg hm hR XL hk
  generalize doneN StyOK N n x g = R at CK ⊢
  cases R with
  | no f =>
    dsimp only
    go_enter Try.func23, Try.ntmps23
    go_wp2_with (first
      | (go_at_call 11; (with_reducible refine (KM.out _ P0.out.doc).mono ?_); rintro e w1 ⟨q, rfl, hq, hb⟩; obtain rfl : q = true := QQ.out q hq; have P1 := Lib.hid (P0.out.next hb); have d0 := P1.out.db.c0; have d1 := P1.out.db.c1; clear hb hq)
      | (go_at_call 24; refine (demand_yes 50 _).mono ?_; rintro e wq ⟨rfl, rfl⟩)
      | ((with_reducible change wpList _ _ _ (Oper.mk (some 9) _ _ _ _ _ :: _) _ _); refine wpList_load_row rfl 34 _ rfl bc rfl _ _ _ _ P1.out.cb Try.underlying34 rfl XS.out ?_)
      | (go_at_call 25; refine (KC.out _).mono ?_; rintro e w2 ⟨bd2, bc2, rfl, hd2, hc2, hb⟩; have P2 := Lib.hid (P1.out.next hb); have D2 := Lib.hid hd2; have C2 := Lib.hid hc2; have k2 : ∀ o : Obj, (w2.alloc o).cell? ⟨bc, 0, none⟩ = some (.int .u8 3) := fun o => (P2.out.alloc o).cb.cell k0; clear hd2 hc2 hb d0 d1; unfold does)
      | (go_at_call 24; refine (demand_yes 70 _).mono ?_; rintro e wq ⟨rfl, rfl⟩)
      | (go_at_call 38; refine (CK.out _ bd2 bc2 (D2.out.alloc _) (P2.out.alloc _).doc (C2.out.alloc _)).mono ?_; rintro e w4 ⟨hr, hb⟩; have P4 := Lib.hid ((P2.out.alloc _).next hb); clear hb; unfold CloIs wrong at hr; subst hr))
    exact ⟨rfl, rfl, P4.out.below⟩
  | doc m y M =>
    dsimp only
    by_cases hy : MayD StyOK m y M
    · rw [if_pos hy]
      have Q2 : Hid (∀ q : Bool, (q = true ↔ MayD StyOK m y M) → q = true) := Lib.hid (fun q h => h.2 hy)
      clear hy
      go_enter Try.func23, Try.ntmps23
      go_wp2_with (first
        | (go_at_call 11; (with_reducible refine (KM.out _ P0.out.doc).mono ?_); rintro e w1 ⟨q, rfl, hq, hb⟩; obtain rfl : q = true := QQ.out q hq; have P1 := Lib.hid (P0.out.next hb); have d0 := P1.out.db.c0; have d1 := P1.out.db.c1; clear hb hq)
        | (go_at_call 24; refine (demand_yes 50 _).mono ?_; rintro e wq ⟨rfl, rfl⟩)
        | ((with_reducible change wpList _ _ _ (Oper.mk (some 9) _ _ _ _ _ :: _) _ _); refine wpList_load_row rfl 34 _ rfl bc rfl _ _ _ _ P1.out.cb Try.underlying34 rfl XS.out ?_)
        | (go_at_call 25; refine (KC.out _).mono ?_; rintro e w2 ⟨bd2, bc2, rfl, hd2, hc2, hb⟩; have P2 := Lib.hid (P1.out.next hb); have D2 := Lib.hid hd2; have C2 := Lib.hid hc2; have k2 : ∀ o : Obj, (w2.alloc o).cell? ⟨bc, 0, none⟩ = some (.int .u8 3) := fun o => (P2.out.alloc o).cb.cell k0; clear hd2 hc2 hb d0 d1; unfold does)
        | (go_at_call 24; refine (demand_yes 70 _).mono ?_; rintro e wq ⟨rfl, rfl⟩)
        | (go_at_call 38; refine (CK.out _ bd2 bc2 (D2.out.alloc _) (P2.out.alloc _).doc (C2.out.alloc _)).mono ?_; rintro e w4 ⟨hr, hb⟩; have P4 := Lib.hid ((P2.out.alloc _).next hb); obtain ⟨B, d, rfl, hn4⟩ := hr; have D4 := Lib.hid (hn4.lower (P2.out.alloc _).below.size); have HQ4 := Lib.hid (hn4.apart (q := w.heap.size) (by have := (P2.out.alloc (.cells (does bd2 bc2) 52)).size; unfold does at this; omega)); clear hb hn4; have HB5 : Hid (Below w4.heap.size w4 (w4.alloc (.cells #[.slice B m d, .int .i64 y] 24))) := Lib.hid ((Below.refl _ _).alloc (Nat.le_refl _) _); have P5 := Lib.hid (P4.out.next HB5.out); have D5 := Lib.hid (D4.out.below HB5.out); have E5 : Hid (DocBox (w4.alloc (.cells #[.slice B m d, .int .i64 y] 24)) w4.heap.size (.slice B m d) (.int .i64 y)) := Lib.hid (docBox_new rfl); have KN := Lib.hid (mutMay_any B m d y M (w4.alloc (.cells #[.slice B m d, .int .i64 y] 24)) D5.out.1); unfold docV at KN ⊢)
        | (go_at_call 11; (with_reducible refine KN.out.mono ?_); rintro e w6 ⟨q, rfl, hq, hb⟩; obtain rfl : q = true := Q2.out q hq; have P6 := Lib.hid (P5.out.next hb); have D6 := Lib.hid (D5.out.below hb); have E6 := Lib.hid (E5.out.below hb); have e0 := E6.out.c0; have e1 := E6.out.c1; have o0 := P6.out.out.c0; have o1 := P6.out.out.c1; have of0 := P6.out.out.f0; have of1 := P6.out.out.f1; clear hb hq)
        | (go_at_call 24; refine (demand_yes 4 _).mono ?_; rintro e wq ⟨rfl, rfl⟩))
      refine bodyPost_ret (results_cell_row rfl _ _ w.heap.size _ _ _ _ rfl (P6.out.out.put _ _) Try.underlying24 rfl (by kernel_rfl)) rfl ?_
      refine ⟨⟨B, d, rfl, (D6.out.set 0 _ HQ4.out).set 1 _ HQ4.out⟩, ?_⟩
      exact (P6.out.below.setCell (p := ⟨w.heap.size, 0, none⟩) (Nat.le_refl _) _).setCell (p := ⟨w.heap.size, 1, none⟩) (Nat.le_refl _) _
    · rw [if_neg hy]
      have Q2 : Hid (∀ q : Bool, (q = true ↔ MayD StyOK m y M) → q = false) := Lib.hid (fun q h => by
        cases q with
        | false => rfl
        | true => exact absurd (h.1 rfl) hy)
      clear hy
      go_enter Try.func23, Try.ntmps23
      go_wp2_with (first
        | (go_at_call 11; (with_reducible refine (KM.out _ P0.out.doc).mono ?_); rintro e w1 ⟨q, rfl, hq, hb⟩; obtain rfl : q = true := QQ.out q hq; have P1 := Lib.hid (P0.out.next hb); have d0 := P1.out.db.c0; have d1 := P1.out.db.c1; clear hb hq)
        | (go_at_call 24; refine (demand_yes 50 _).mono ?_; rintro e wq ⟨rfl, rfl⟩)
        | ((with_reducible change wpList _ _ _ (Oper.mk (some 9) _ _ _ _ _ :: _) _ _); refine wpList_load_row rfl 34 _ rfl bc rfl _ _ _ _ P1.out.cb Try.underlying34 rfl XS.out ?_)
        | (go_at_call 25; refine (KC.out _).mono ?_; rintro e w2 ⟨bd2, bc2, rfl, hd2, hc2, hb⟩; have P2 := Lib.hid (P1.out.next hb); have D2 := Lib.hid hd2; have C2 := Lib.hid hc2; have k2 : ∀ o : Obj, (w2.alloc o).cell? ⟨bc, 0, none⟩ = some (.int .u8 3) := fun o => (P2.out.alloc o).cb.cell k0; clear hd2 hc2 hb d0 d1; unfold does)
        | (go_at_call 24; refine (demand_yes 70 _).mono ?_; rintro e wq ⟨rfl, rfl⟩)
        | (go_at_call 38; refine (CK.out _ bd2 bc2 (D2.out.alloc _) (P2.out.alloc _).doc (C2.out.alloc _)).mono ?_; rintro e w4 ⟨hr, hb⟩; have P4 := Lib.hid ((P2.out.alloc _).next hb); obtain ⟨B, d, rfl, hn4⟩ := hr; have D4 := Lib.hid (hn4.lower (P2.out.alloc _).below.size); have HQ4 := Lib.hid (hn4.apart (q := w.heap.size) (by have := (P2.out.alloc (.cells (does bd2 bc2) 52)).size; unfold does at this; omega)); clear hb hn4; have HB5 : Hid (Below w4.heap.size w4 (w4.alloc (.cells #[.slice B m d, .int .i64 y] 24))) := Lib.hid ((Below.refl _ _).alloc (Nat.le_refl _) _); have P5 := Lib.hid (P4.out.next HB5.out); have D5 := Lib.hid (D4.out.below HB5.out); have E5 : Hid (DocBox (w4.alloc (.cells #[.slice B m d, .int .i64 y] 24)) w4.heap.size (.slice B m d) (.int .i64 y)) := Lib.hid (docBox_new rfl); have KN := Lib.hid (mutMay_any B m d y M (w4.alloc (.cells #[.slice B m d, .int .i64 y] 24)) D5.out.1); unfold docV at KN ⊢)
        | (go_at_call 11; (with_reducible refine KN.out.mono ?_); rintro e w6 ⟨q, rfl, hq, hb⟩; obtain rfl : q = false := Q2.out q hq; have P6 := Lib.hid (P5.out.next hb); have D6 := Lib.hid (D5.out.below hb); have E6 := Lib.hid (E5.out.below hb); have e0 := E6.out.c0; have e1 := E6.out.c1; have o0 := P6.out.out.c0; have o1 := P6.out.out.c1; have of0 := P6.out.out.f0; have of1 := P6.out.out.f1; clear hb hq)
        | (go_at_call 24; refine (demand_no 4 _).mono ?_; rintro e wq ⟨rfl, rfl⟩; unfold wrong))
      exact ⟨rfl, rfl, P6.out.below⟩

set_option maxRecDepth 100000 in
set_option maxHeartbeats 1000000 in
theorem do_4 (A : Option Addr) (n c : Nat) (x : Int) (N : Nat → RN) (bd bc : Nat) (g : RC) (hg : g.ok) (hm : MayD StyOK n x N) (hk : g.kind = 4) (CK : CloOK A n c x N g (doneN StyOK N n x g) 39 fun bd bc => #[.pointer (some ⟨bd, 0, none⟩), .pointer (some ⟨bc, 0, none⟩)]) (w : World) (hd : DocBox w bd (.slice A n c) (.int .i64 x)) (hD : DocIn w A n c x N) (hc : ChBox w bc g) :
    Calls Try.prog 23 #[.pointer (some ⟨bd, 0, none⟩), .pointer (some ⟨bc, 0, none⟩)] w fun e w' => CloIs w (applyN StyOK N n x g) e w' ∧ Below w.heap.size w w' := by
  have hR : applyN StyOK N n x g = (match doneN StyOK N n x g with
    | .no f => .no f
    | .doc m y M => @ite _ (MayD StyOK m y M) (Classical.propDecidable _) (.doc m y M) (.no 4)) := by unfold applyN; rw [if_pos hm]; rfl
  rw [hR]
  have P0 := Lib.hid (Chg.start hd hD hc)
  have KM := Lib.hid (fun W (h : DocIn W A n c x N) => mutMay_any A n c x N W h)
  have XL : g.cells.toArray.size = 55 := by simp [hg.len]
  have XS : Hid ((Try.prog.info? 34).map (·.size) = some g.cells.toArray.size) := Lib.hid (by rw [XL]; exact change_isize)
  have KC := Lib.hid (fun W => changes_any A n c x g W)
  unfold docV at KM
  unfold docV changeV at KC
  have k0 : g.cells[0]? = some (.int .u8 g.kind) := rfl
  have hnn := neq_nil
  have hnf := neq_func
  have QQ : Hid (∀ q : Bool, (q = true ↔ MayD StyOK n x N) → q = true) := Lib.hid (fun q h => h.2 hm)
  rw [hk] at k0
  have d0 := P0.out.db.c0
  have d1 := P0.out.db.c1
  unfold CloOK at CK
  have CK := Lib.hid CK
  clear hd hD hc hg hm hR XL hk
  generalize doneN StyOK N n x g = R at CK ⊢
  cases R with
  | no f =>
    dsimp only
    go_enter Try.func23, Try.ntmps23
    go_wp2_with (first
      | (go_at_call 11; (with_reducible refine (KM.out _ P0.out.doc).mono ?_); rintro e w1 ⟨q, rfl, hq, hb⟩; obtain rfl : q = true := QQ.out q hq; have P1 := Lib.hid (P0.out.next hb); have d0 := P1.out.db.c0; have d1 := P1.out.db.c1; clear hb hq)
      | (go_at_call 24; refine (demand_yes 50 _).mono ?_; rintro e wq ⟨rfl, rfl⟩)
      | ((with_reducible change wpList _ _ _ (Oper.mk (some 9) _ _ _ _ _ :: _) _ _); refine wpList_load_row rfl 34 _ rfl bc rfl _ _ _ _ P1.out.cb Try.underlying34 rfl XS.out ?_)
      | (go_at_call 25; refine (KC.out _).mono ?_; rintro e w2 ⟨bd2, bc2, rfl, hd2, hc2, hb⟩; have P2 := Lib.hid (P1.out.next hb); have D2 := Lib.hid hd2; have C2 := Lib.hid hc2; have k2 : ∀ o : Obj, (w2.alloc o).cell? ⟨bc, 0, none⟩ = some (.int .u8 4) := fun o => (P2.out.alloc o).cb.cell k0; clear hd2 hc2 hb d0 d1; unfold does)
      | (go_at_call 24; refine (demand_yes 70 _).mono ?_; rintro e wq ⟨rfl, rfl⟩)
      | (go_at_call 39; refine (CK.out _ bd2 bc2 (D2.out.alloc _) (P2.out.alloc _).doc (C2.out.alloc _)).mono ?_; rintro e w4 ⟨hr, hb⟩; have P4 := Lib.hid ((P2.out.alloc _).next hb); clear hb; unfold CloIs wrong at hr; subst hr))
    exact ⟨rfl, rfl, P4.out.below⟩
  | doc m y M =>
    dsimp only
    by_cases hy : MayD StyOK m y M
    · rw [if_pos hy]
      have Q2 : Hid (∀ q : Bool, (q = true ↔ MayD StyOK m y M) → q = true) := Lib.hid (fun q h => h.2 hy)
      clear hy
      go_enter Try.func23, Try.ntmps23
      go_wp2_with (first
        | (go_at_call 11; (with_reducible refine (KM.out _ P0.out.doc).mono ?_); rintro e w1 ⟨q, rfl, hq, hb⟩; obtain rfl : q = true := QQ.out q hq; have P1 := Lib.hid (P0.out.next hb); have d0 := P1.out.db.c0; have d1 := P1.out.db.c1; clear hb hq)
        | (go_at_call 24; refine (demand_yes 50 _).mono ?_; rintro e wq ⟨rfl, rfl⟩)
        | ((with_reducible change wpList _ _ _ (Oper.mk (some 9) _ _ _ _ _ :: _) _ _); refine wpList_load_row rfl 34 _ rfl bc rfl _ _ _ _ P1.out.cb Try.underlying34 rfl XS.out ?_)
        | (go_at_call 25; refine (KC.out _).mono ?_; rintro e w2 ⟨bd2, bc2, rfl, hd2, hc2, hb⟩; have P2 := Lib.hid (P1.out.next hb); have D2 := Lib.hid hd2; have C2 := Lib.hid hc2; have k2 : ∀ o : Obj, (w2.alloc o).cell? ⟨bc, 0, none⟩ = some (.int .u8 4) := fun o => (P2.out.alloc o).cb.cell k0; clear hd2 hc2 hb d0 d1; unfold does)
        | (go_at_call 24; refine (demand_yes 70 _).mono ?_; rintro e wq ⟨rfl, rfl⟩)
        | (go_at_call 39; refine (CK.out _ bd2 bc2 (D2.out.alloc _) (P2.out.alloc _).doc (C2.out.alloc _)).mono ?_; rintro e w4 ⟨hr, hb⟩; have P4 := Lib.hid ((P2.out.alloc _).next hb); obtain ⟨B, d, rfl, hn4⟩ := hr; have D4 := Lib.hid (hn4.lower (P2.out.alloc _).below.size); have HQ4 := Lib.hid (hn4.apart (q := w.heap.size) (by have := (P2.out.alloc (.cells (does bd2 bc2) 52)).size; unfold does at this; omega)); clear hb hn4; have HB5 : Hid (Below w4.heap.size w4 (w4.alloc (.cells #[.slice B m d, .int .i64 y] 24))) := Lib.hid ((Below.refl _ _).alloc (Nat.le_refl _) _); have P5 := Lib.hid (P4.out.next HB5.out); have D5 := Lib.hid (D4.out.below HB5.out); have E5 : Hid (DocBox (w4.alloc (.cells #[.slice B m d, .int .i64 y] 24)) w4.heap.size (.slice B m d) (.int .i64 y)) := Lib.hid (docBox_new rfl); have KN := Lib.hid (mutMay_any B m d y M (w4.alloc (.cells #[.slice B m d, .int .i64 y] 24)) D5.out.1); unfold docV at KN ⊢)
        | (go_at_call 11; (with_reducible refine KN.out.mono ?_); rintro e w6 ⟨q, rfl, hq, hb⟩; obtain rfl : q = true := Q2.out q hq; have P6 := Lib.hid (P5.out.next hb); have D6 := Lib.hid (D5.out.below hb); have E6 := Lib.hid (E5.out.below hb); have e0 := E6.out.c0; have e1 := E6.out.c1; have o0 := P6.out.out.c0; have o1 := P6.out.out.c1; have of0 := P6.out.out.f0; have of1 := P6.out.out.f1; clear hb hq)
        | (go_at_call 24; refine (demand_yes 4 _).mono ?_; rintro e wq ⟨rfl, rfl⟩))
      refine bodyPost_ret (results_cell_row rfl _ _ w.heap.size _ _ _ _ rfl (P6.out.out.put _ _) Try.underlying24 rfl (by kernel_rfl)) rfl ?_
      refine ⟨⟨B, d, rfl, (D6.out.set 0 _ HQ4.out).set 1 _ HQ4.out⟩, ?_⟩
      exact (P6.out.below.setCell (p := ⟨w.heap.size, 0, none⟩) (Nat.le_refl _) _).setCell (p := ⟨w.heap.size, 1, none⟩) (Nat.le_refl _) _
    · rw [if_neg hy]
      have Q2 : Hid (∀ q : Bool, (q = true ↔ MayD StyOK m y M) → q = false) := Lib.hid (fun q h => by
        cases q with
        | false => rfl
        | true => exact absurd (h.1 rfl) hy)
      clear hy
      go_enter Try.func23, Try.ntmps23
      go_wp2_with (first
        | (go_at_call 11; (with_reducible refine (KM.out _ P0.out.doc).mono ?_); rintro e w1 ⟨q, rfl, hq, hb⟩; obtain rfl : q = true := QQ.out q hq; have P1 := Lib.hid (P0.out.next hb); have d0 := P1.out.db.c0; have d1 := P1.out.db.c1; clear hb hq)
        | (go_at_call 24; refine (demand_yes 50 _).mono ?_; rintro e wq ⟨rfl, rfl⟩)
        | ((with_reducible change wpList _ _ _ (Oper.mk (some 9) _ _ _ _ _ :: _) _ _); refine wpList_load_row rfl 34 _ rfl bc rfl _ _ _ _ P1.out.cb Try.underlying34 rfl XS.out ?_)
        | (go_at_call 25; refine (KC.out _).mono ?_; rintro e w2 ⟨bd2, bc2, rfl, hd2, hc2, hb⟩; have P2 := Lib.hid (P1.out.next hb); have D2 := Lib.hid hd2; have C2 := Lib.hid hc2; have k2 : ∀ o : Obj, (w2.alloc o).cell? ⟨bc, 0, none⟩ = some (.int .u8 4) := fun o => (P2.out.alloc o).cb.cell k0; clear hd2 hc2 hb d0 d1; unfold does)
        | (go_at_call 24; refine (demand_yes 70 _).mono ?_; rintro e wq ⟨rfl, rfl⟩)
        | (go_at_call 39; refine (CK.out _ bd2 bc2 (D2.out.alloc _) (P2.out.alloc _).doc (C2.out.alloc _)).mono ?_; rintro e w4 ⟨hr, hb⟩; have P4 := Lib.hid ((P2.out.alloc _).next hb); obtain ⟨B, d, rfl, hn4⟩ := hr; have D4 := Lib.hid (hn4.lower (P2.out.alloc _).below.size); have HQ4 := Lib.hid (hn4.apart (q := w.heap.size) (by have := (P2.out.alloc (.cells (does bd2 bc2) 52)).size; unfold does at this; omega)); clear hb hn4; have HB5 : Hid (Below w4.heap.size w4 (w4.alloc (.cells #[.slice B m d, .int .i64 y] 24))) := Lib.hid ((Below.refl _ _).alloc (Nat.le_refl _) _); have P5 := Lib.hid (P4.out.next HB5.out); have D5 := Lib.hid (D4.out.below HB5.out); have E5 : Hid (DocBox (w4.alloc (.cells #[.slice B m d, .int .i64 y] 24)) w4.heap.size (.slice B m d) (.int .i64 y)) := Lib.hid (docBox_new rfl); have KN := Lib.hid (mutMay_any B m d y M (w4.alloc (.cells #[.slice B m d, .int .i64 y] 24)) D5.out.1); unfold docV at KN ⊢)
        | (go_at_call 11; (with_reducible refine KN.out.mono ?_); rintro e w6 ⟨q, rfl, hq, hb⟩; obtain rfl : q = false := Q2.out q hq; have P6 := Lib.hid (P5.out.next hb); have D6 := Lib.hid (D5.out.below hb); have E6 := Lib.hid (E5.out.below hb); have e0 := E6.out.c0; have e1 := E6.out.c1; have o0 := P6.out.out.c0; have o1 := P6.out.out.c1; have of0 := P6.out.out.f0; have of1 := P6.out.out.f1; clear hb hq)
        | (go_at_call 24; refine (demand_no 4 _).mono ?_; rintro e wq ⟨rfl, rfl⟩; unfold wrong))
      exact ⟨rfl, rfl, P6.out.below⟩

set_option maxRecDepth 100000 in
set_option maxHeartbeats 1000000 in
theorem do_5 (A : Option Addr) (n c : Nat) (x : Int) (N : Nat → RN) (bd bc : Nat) (g : RC) (hg : g.ok) (hm : MayD StyOK n x N) (hk : g.kind = 5) (CK : CloOK A n c x N g (doneN StyOK N n x g) 42 fun bd bc => #[.pointer (some ⟨bd, 0, none⟩), .pointer (some ⟨bc, 0, none⟩)]) (w : World) (hd : DocBox w bd (.slice A n c) (.int .i64 x)) (hD : DocIn w A n c x N) (hc : ChBox w bc g) :
    Calls Try.prog 23 #[.pointer (some ⟨bd, 0, none⟩), .pointer (some ⟨bc, 0, none⟩)] w fun e w' => CloIs w (applyN StyOK N n x g) e w' ∧ Below w.heap.size w w' := by
  have hR : applyN StyOK N n x g = (match doneN StyOK N n x g with
    | .no f => .no f
    | .doc m y M => @ite _ (MayD StyOK m y M) (Classical.propDecidable _) (.doc m y M) (.no 4)) := by unfold applyN; rw [if_pos hm]; rfl
  rw [hR]
  have P0 := Lib.hid (Chg.start hd hD hc)
  have KM := Lib.hid (fun W (h : DocIn W A n c x N) => mutMay_any A n c x N W h)
  have XL : g.cells.toArray.size = 55 := by simp [hg.len]
  have XS : Hid ((Try.prog.info? 34).map (·.size) = some g.cells.toArray.size) := Lib.hid (by rw [XL]; exact change_isize)
  have KC := Lib.hid (fun W => changes_any A n c x g W)
  unfold docV at KM
  unfold docV changeV at KC
  have k0 : g.cells[0]? = some (.int .u8 g.kind) := rfl
  have hnn := neq_nil
  have hnf := neq_func
  have QQ : Hid (∀ q : Bool, (q = true ↔ MayD StyOK n x N) → q = true) := Lib.hid (fun q h => h.2 hm)
  rw [hk] at k0
  have d0 := P0.out.db.c0
  have d1 := P0.out.db.c1
  unfold CloOK at CK
  have CK := Lib.hid CK
  clear hd hD hc hg hm hR XL hk
  generalize doneN StyOK N n x g = R at CK ⊢
  cases R with
  | no f =>
    dsimp only
    go_enter Try.func23, Try.ntmps23
    go_wp2_with (first
      | (go_at_call 11; (with_reducible refine (KM.out _ P0.out.doc).mono ?_); rintro e w1 ⟨q, rfl, hq, hb⟩; obtain rfl : q = true := QQ.out q hq; have P1 := Lib.hid (P0.out.next hb); have d0 := P1.out.db.c0; have d1 := P1.out.db.c1; clear hb hq)
      | (go_at_call 24; refine (demand_yes 50 _).mono ?_; rintro e wq ⟨rfl, rfl⟩)
      | ((with_reducible change wpList _ _ _ (Oper.mk (some 9) _ _ _ _ _ :: _) _ _); refine wpList_load_row rfl 34 _ rfl bc rfl _ _ _ _ P1.out.cb Try.underlying34 rfl XS.out ?_)
      | (go_at_call 25; refine (KC.out _).mono ?_; rintro e w2 ⟨bd2, bc2, rfl, hd2, hc2, hb⟩; have P2 := Lib.hid (P1.out.next hb); have D2 := Lib.hid hd2; have C2 := Lib.hid hc2; have k2 : ∀ o : Obj, (w2.alloc o).cell? ⟨bc, 0, none⟩ = some (.int .u8 5) := fun o => (P2.out.alloc o).cb.cell k0; clear hd2 hc2 hb d0 d1; unfold does)
      | (go_at_call 24; refine (demand_yes 70 _).mono ?_; rintro e wq ⟨rfl, rfl⟩)
      | (go_at_call 42; refine (CK.out _ bd2 bc2 (D2.out.alloc _) (P2.out.alloc _).doc (C2.out.alloc _)).mono ?_; rintro e w4 ⟨hr, hb⟩; have P4 := Lib.hid ((P2.out.alloc _).next hb); clear hb; unfold CloIs wrong at hr; subst hr))
    exact ⟨rfl, rfl, P4.out.below⟩
  | doc m y M =>
    dsimp only
    by_cases hy : MayD StyOK m y M
    · rw [if_pos hy]
      have Q2 : Hid (∀ q : Bool, (q = true ↔ MayD StyOK m y M) → q = true) := Lib.hid (fun q h => h.2 hy)
      clear hy
      go_enter Try.func23, Try.ntmps23
      go_wp2_with (first
        | (go_at_call 11; (with_reducible refine (KM.out _ P0.out.doc).mono ?_); rintro e w1 ⟨q, rfl, hq, hb⟩; obtain rfl : q = true := QQ.out q hq; have P1 := Lib.hid (P0.out.next hb); have d0 := P1.out.db.c0; have d1 := P1.out.db.c1; clear hb hq)
        | (go_at_call 24; refine (demand_yes 50 _).mono ?_; rintro e wq ⟨rfl, rfl⟩)
        | ((with_reducible change wpList _ _ _ (Oper.mk (some 9) _ _ _ _ _ :: _) _ _); refine wpList_load_row rfl 34 _ rfl bc rfl _ _ _ _ P1.out.cb Try.underlying34 rfl XS.out ?_)
        | (go_at_call 25; refine (KC.out _).mono ?_; rintro e w2 ⟨bd2, bc2, rfl, hd2, hc2, hb⟩; have P2 := Lib.hid (P1.out.next hb); have D2 := Lib.hid hd2; have C2 := Lib.hid hc2; have k2 : ∀ o : Obj, (w2.alloc o).cell? ⟨bc, 0, none⟩ = some (.int .u8 5) := fun o => (P2.out.alloc o).cb.cell k0; clear hd2 hc2 hb d0 d1; unfold does)
        | (go_at_call 24; refine (demand_yes 70 _).mono ?_; rintro e wq ⟨rfl, rfl⟩)
        | (go_at_call 42; refine (CK.out _ bd2 bc2 (D2.out.alloc _) (P2.out.alloc _).doc (C2.out.alloc _)).mono ?_; rintro e w4 ⟨hr, hb⟩; have P4 := Lib.hid ((P2.out.alloc _).next hb); obtain ⟨B, d, rfl, hn4⟩ := hr; have D4 := Lib.hid (hn4.lower (P2.out.alloc _).below.size); have HQ4 := Lib.hid (hn4.apart (q := w.heap.size) (by have := (P2.out.alloc (.cells (does bd2 bc2) 52)).size; unfold does at this; omega)); clear hb hn4; have HB5 : Hid (Below w4.heap.size w4 (w4.alloc (.cells #[.slice B m d, .int .i64 y] 24))) := Lib.hid ((Below.refl _ _).alloc (Nat.le_refl _) _); have P5 := Lib.hid (P4.out.next HB5.out); have D5 := Lib.hid (D4.out.below HB5.out); have E5 : Hid (DocBox (w4.alloc (.cells #[.slice B m d, .int .i64 y] 24)) w4.heap.size (.slice B m d) (.int .i64 y)) := Lib.hid (docBox_new rfl); have KN := Lib.hid (mutMay_any B m d y M (w4.alloc (.cells #[.slice B m d, .int .i64 y] 24)) D5.out.1); unfold docV at KN ⊢)
        | (go_at_call 11; (with_reducible refine KN.out.mono ?_); rintro e w6 ⟨q, rfl, hq, hb⟩; obtain rfl : q = true := Q2.out q hq; have P6 := Lib.hid (P5.out.next hb); have D6 := Lib.hid (D5.out.below hb); have E6 := Lib.hid (E5.out.below hb); have e0 := E6.out.c0; have e1 := E6.out.c1; have o0 := P6.out.out.c0; have o1 := P6.out.out.c1; have of0 := P6.out.out.f0; have of1 := P6.out.out.f1; clear hb hq)
        | (go_at_call 24; refine (demand_yes 4 _).mono ?_; rintro e wq ⟨rfl, rfl⟩))
      refine bodyPost_ret (results_cell_row rfl _ _ w.heap.size _ _ _ _ rfl (P6.out.out.put _ _) Try.underlying24 rfl (by kernel_rfl)) rfl ?_
      refine ⟨⟨B, d, rfl, (D6.out.set 0 _ HQ4.out).set 1 _ HQ4.out⟩, ?_⟩
      exact (P6.out.below.setCell (p := ⟨w.heap.size, 0, none⟩) (Nat.le_refl _) _).setCell (p := ⟨w.heap.size, 1, none⟩) (Nat.le_refl _) _
    · rw [if_neg hy]
      have Q2 : Hid (∀ q : Bool, (q = true ↔ MayD StyOK m y M) → q = false) := Lib.hid (fun q h => by
        cases q with
        | false => rfl
        | true => exact absurd (h.1 rfl) hy)
      clear hy
      go_enter Try.func23, Try.ntmps23
      go_wp2_with (first
        | (go_at_call 11; (with_reducible refine (KM.out _ P0.out.doc).mono ?_); rintro e w1 ⟨q, rfl, hq, hb⟩; obtain rfl : q = true := QQ.out q hq; have P1 := Lib.hid (P0.out.next hb); have d0 := P1.out.db.c0; have d1 := P1.out.db.c1; clear hb hq)
        | (go_at_call 24; refine (demand_yes 50 _).mono ?_; rintro e wq ⟨rfl, rfl⟩)
        | ((with_reducible change wpList _ _ _ (Oper.mk (some 9) _ _ _ _ _ :: _) _ _); refine wpList_load_row rfl 34 _ rfl bc rfl _ _ _ _ P1.out.cb Try.underlying34 rfl XS.out ?_)
        | (go_at_call 25; refine (KC.out _).mono ?_; rintro e w2 ⟨bd2, bc2, rfl, hd2, hc2, hb⟩; have P2 := Lib.hid (P1.out.next hb); have D2 := Lib.hid hd2; have C2 := Lib.hid hc2; have k2 : ∀ o : Obj, (w2.alloc o).cell? ⟨bc, 0, none⟩ = some (.int .u8 5) := fun o => (P2.out.alloc o).cb.cell k0; clear hd2 hc2 hb d0 d1; unfold does)
        | (go_at_call 24; refine (demand_yes 70 _).mono ?_; rintro e wq ⟨rfl, rfl⟩)
        | (go_at_call 42; refine (CK.out _ bd2 bc2 (D2.out.alloc _) (P2.out.alloc _).doc (C2.out.alloc _)).mono ?_; rintro e w4 ⟨hr, hb⟩; have P4 := Lib.hid ((P2.out.alloc _).next hb); obtain ⟨B, d, rfl, hn4⟩ := hr; have D4 := Lib.hid (hn4.lower (P2.out.alloc _).below.size); have HQ4 := Lib.hid (hn4.apart (q := w.heap.size) (by have := (P2.out.alloc (.cells (does bd2 bc2) 52)).size; unfold does at this; omega)); clear hb hn4; have HB5 : Hid (Below w4.heap.size w4 (w4.alloc (.cells #[.slice B m d, .int .i64 y] 24))) := Lib.hid ((Below.refl _ _).alloc (Nat.le_refl _) _); have P5 := Lib.hid (P4.out.next HB5.out); have D5 := Lib.hid (D4.out.below HB5.out); have E5 : Hid (DocBox (w4.alloc (.cells #[.slice B m d, .int .i64 y] 24)) w4.heap.size (.slice B m d) (.int .i64 y)) := Lib.hid (docBox_new rfl); have KN := Lib.hid (mutMay_any B m d y M (w4.alloc (.cells #[.slice B m d, .int .i64 y] 24)) D5.out.1); unfold docV at KN ⊢)
        | (go_at_call 11; (with_reducible refine KN.out.mono ?_); rintro e w6 ⟨q, rfl, hq, hb⟩; obtain rfl : q = false := Q2.out q hq; have P6 := Lib.hid (P5.out.next hb); have D6 := Lib.hid (D5.out.below hb); have E6 := Lib.hid (E5.out.below hb); have e0 := E6.out.c0; have e1 := E6.out.c1; have o0 := P6.out.out.c0; have o1 := P6.out.out.c1; have of0 := P6.out.out.f0; have of1 := P6.out.out.f1; clear hb hq)
        | (go_at_call 24; refine (demand_no 4 _).mono ?_; rintro e wq ⟨rfl, rfl⟩; unfold wrong))
      exact ⟨rfl, rfl, P6.out.below⟩
end Go.Proofs.Ytmodegkpfdlccaa
