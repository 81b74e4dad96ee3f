/-
  The landed code: the closures of mutate.changes.
-/
import Derived.Test.YtmodegkpfdlccaaMutB
import Derived.Deep.RegionHeld
import Derived.Great.BuildSlice
namespace Go.Proofs.Ytmodegkpfdlccaa

section
open Go.RowKit

/-- a change in a block of its own -/
def ChBox (W : World) (b : Nat) (g : RC) : Prop := W.heap[b]? = some (.cells g.cells.toArray 34 (0, 0))
theorem ChBox.lt {W : World} {b : Nat} {g : RC} (h : ChBox W b g) : b < W.heap.size := (Array.getElem?_eq_some_iff.1 h).1
theorem ChBox.keep {W W' : World} {b : Nat} {g : RC} (h : ChBox W b g) (hb : W'.heap[b]? = W.heap[b]?) : ChBox W' b g := hb.trans h
theorem ChBox.cell {W : World} {b k : Nat} {g : RC} {v : Value} (h : ChBox W b g) (hv : g.cells[k]? = some v) : W.cell? ⟨b, k, none⟩ = some v := by
  unfold ChBox at h
  unfold World.cell?
  simp only [h]
  simpa using hv
theorem ChBox.range {W : World} {b o : Nat} {g : RC} {l : List Value} (h : ChBox W b g) (hv : ∀ j u, l[j]? = some u → g.cells[o + j]? = some u) : W.rangeAt b o l := fun j u hu => h.cell (hv j u hu)
theorem RC.node_at {g : RC} {j : Nat} {u : Value} (h : g.node.cells[j]? = some u) : g.cells[4 + j]? = some u := by
  unfold RC.cells
  rw [show 4 + j = j + 1 + 1 + 1 + 1 by omega, List.getElem?_cons_succ, List.getElem?_cons_succ, List.getElem?_cons_succ, List.getElem?_cons_succ]
  exact h
theorem ChBox.node {W : World} {b : Nat} {g : RC} (h : ChBox W b g) : W.rangeAt b 4 g.node.cells := h.range fun _ _ hu => RC.node_at hu
theorem ChBox.style {W : World} {b : Nat} {g : RC} (h : ChBox W b g) : W.rangeAt b 7 (g.node.style.map Lit.toCell) := h.range fun j u hu => by
  have := RC.node_at (style_at hu)
  rwa [show 4 + (3 + j) = 7 + j by omega] at this

/-- where the walk of a closure stands -/
structure Chg (w : World) (A : Option Addr) (n c : Nat) (x : Int) (N : Nat → RN) (bd bc : Nat) (g : RC) (W : World) : Prop where
  below : Below w.heap.size w W
  size : w.heap.size + 1 ≤ W.heap.size
  db : DocBox W bd (.slice A n c) (.int .i64 x)
  doc : DocIn W A n c x N
  cb : ChBox W bc g
  out : DocBox W w.heap.size (.slice none 0 0) (.int .i64 0)
section
variable {w W W' : World} {A : Option Addr} {n c : Nat} {x : Int} {N : Nat → RN} {bd bc : Nat} {g : RC}
theorem Chg.next (h : Chg w A n c x N bd bc g W) (hb : Below W.heap.size W W') : Chg w A n c x N bd bc g W' :=
  ⟨h.below.trans (hb.mono h.below.size), Nat.le_trans h.size hb.size, h.db.keep (hb.block _ h.db.lt), h.doc.below hb, h.cb.keep (hb.block _ h.cb.lt), h.out.keep (hb.block _ h.out.lt)⟩
theorem Chg.drew (h : Chg w A n c x N bd bc g W) : Chg w A n c x N bd bc g W.drew := h.next (Below.refl _ _).drew
theorem Chg.alloc (h : Chg w A n c x N bd bc g W) (o : Obj) : Chg w A n c x N bd bc g (W.alloc o) := h.next ((Below.refl _ _).alloc (Nat.le_refl _) _)
theorem Chg.start (hd : DocBox w bd (.slice A n c) (.int .i64 x)) (hD : DocIn w A n c x N) (hc : ChBox w bc g) : Chg w A n c x N bd bc g (w.alloc (.cells #[.slice none 0 0, .int .i64 0] 24)) := by
  have hb : Below w.heap.size w (w.alloc (.cells #[.slice none 0 0, .int .i64 0] 24)) := (Below.refl _ _).alloc (Nat.le_refl _) _
  exact ⟨hb, by simp, hd.keep (hb.block _ hd.lt), hD.below hb, hc.keep (hb.block _ hc.lt), heap_alloc_new w _⟩
end
/-- what a change comes to, as a closure tells it -/
def CloIs (w : World) (R : Out7) (e : Ending) (w' : World) : Prop := match R with
  | .no f => e = wrong f
  | .doc m y M => ∃ B d, e = .returned (docV B m d y) ∧ DocNew w w' B m d y M
/-- a document of its own memory, carried on -/
theorem DocNew.lower {w w1 w' : World} {B : Option Addr} {m d : Nat} {y : Int} {M : Nat → RN} (h : DocNew w1 w' B m d y M) (hs : w.heap.size ≤ w1.heap.size) : DocNew w w' B m d y M :=
  ⟨h.1, fun h0 => let ⟨b, off, cs, e, hl, hb⟩ := h.2 h0; ⟨b, off, cs, e, Nat.le_trans hs hl, hb⟩⟩
theorem DocNew.below {w W W' : World} {B : Option Addr} {m d : Nat} {y : Int} {M : Nat → RN} (h : DocNew w W B m d y M) (hb : Below W.heap.size W W') : DocNew w W' B m d y M :=
  ⟨h.1.below hb, fun h0 => let ⟨b, off, cs, e, hl, hc⟩ := h.2 h0; ⟨b, off, cs, e, hl, (hb.block b (Array.getElem?_eq_some_iff.1 hc).1).trans hc⟩⟩
theorem DocNew.set {w W : World} {B : Option Addr} {m d q : Nat} {y : Int} {M : Nat → RN} (h : DocNew w W B m d y M) (k : Nat) (v : Value) (hq : ∀ b off, B = some ⟨b, off, none⟩ → 0 < m → b ≠ q) : DocNew w (W.setCell ⟨q, k, none⟩ v) B m d y M :=
  ⟨⟨⟨h.1.1.1.set0 _ v (fun h0 b off e => hq b off e h0), h.1.1.2⟩, h.1.2⟩, fun h0 => by
    obtain ⟨b, off, cs, e, hl, hc⟩ := h.2 h0
    exact ⟨b, off, cs, e, hl, (heap_set v (by show b ≠ q; exact hq b off e h0)).trans hc⟩⟩
theorem DocNew.apart {w W : World} {B : Option Addr} {m d q : Nat} {y : Int} {M : Nat → RN} (h : DocNew w W B m d y M) (hq : q < w.heap.size) : ∀ b off, B = some ⟨b, off, none⟩ → 0 < m → b ≠ q := fun b off e h0 => by
  obtain ⟨b', off', cs, e', hl, -⟩ := h.2 h0
  rw [e] at e'
  simp only [Option.some.injEq, Addr.mk.injEq, and_true] at e'
  omega

theorem cut_done {N : Nat → RN} {n : Nat} {x : Int} {g : RC} (h : g.kind = 2) : doneN StyOK N n x g = match cutAt N n g.key with
    | none => .no 70
    | some a => .doc (n - sizeN N n a) x (gapped N a (sizeN N n a)) := by
  unfold doneN cutAt
  rw [if_neg (by omega)]
  cases findN N n g.key with
  | none => rfl
  | some a =>
    dsimp only
    by_cases h0 : 0 < a
    · rw [if_pos ⟨h, h0⟩, if_pos h0]
    · rw [if_neg (fun e => h0 e.2), if_neg (fun e => h0 e.2), if_neg (by omega), if_neg h0]

set_option maxRecDepth 100000 in
set_option maxHeartbeats 4000000 in
theorem clo2_any (A : Option Addr) (n c : Nat) (x : Int) (N : Nat → RN) (bd bc : Nat) (g : RC) (hg : g.ok) (hk : g.kind = 2) (w : World) (hS : Shape n x N) (hd : DocBox w bd (.slice A n c) (.int .i64 x)) (hD : DocIn w A n c x N) (hc : ChBox w bc g) :
    Calls Try.prog 36 #[.pointer (some ⟨bd, 0, none⟩), .pointer (some ⟨bc, 0, none⟩)] w fun e w' => CloIs w (doneN StyOK N n x g) e w' ∧ Below w.heap.size w w' := by
  rw [cut_done hk]
  have P0 := Lib.hid (Chg.start hd hD hc)
  have KC := Lib.hid (fun W (h : DocIn W A n c x N) => cut_any A n c x N g.key W h hS.most hg.key.1 hg.key.2)
  unfold docV at KC
  have kc : g.cells[1]? = some (.int .i64 g.key) := rfl
  clear hd hD hc hg hS
  have d0 := P0.out.db.c0
  have d1 := P0.out.db.c1
  have k1 := P0.out.cb.cell kc
  generalize g.key = key at k1 KC ⊢
  generalize cutAt N n key = R at KC ⊢
  go_enter Try.func36, Try.ntmps36
  go_wp2_with fail
  generalize w.alloc (.cells #[.slice none 0 0, .int .i64 0] 24) = W0 at P0 ⊢
  refine (KC.out _ P0.out.doc).mono ?_
  rintro e w1 ⟨hr, hb⟩
  have P1 := Lib.hid (P0.out.next hb)
  have HP : Hid (w.heap.size < W0.heap.size) := Lib.hid (by have := P0.out.size; omega)
  have HQ : Hid (w.heap.size ≤ W0.heap.size) := Lib.hid P0.out.below.size
  clear hb d0 d1 k1 KC kc
  cases R with
  | none =>
    unfold CutIs wrong at hr
    subst hr
    go_wp2_with fail
    exact ⟨rfl, rfl, P1.out.below⟩
  | some a =>
    obtain ⟨B, d, ad, c', rfl, hn, -⟩ := hr
    have HN := Lib.hid hn
    clear hn
    unfold docV
    generalize hkk : sizeN N n a = k at HN ⊢
    have HK := Lib.hid hkk
    clear hkk
    have P2 := Lib.hid (P1.out.alloc (.cells #[.slice B (n - k) d, .int .i64 x] 24))
    have o0 := P2.out.out.c0
    have o1 := P2.out.out.c1
    have of0 := P2.out.out.f0
    have of1 := P2.out.out.f1
    go_wp2_with fail
    have hb : Below w1.heap.size w1 (w1.alloc (.cells #[.slice B (n - k) d, .int .i64 x] 24)) := (Below.refl _ _).alloc (Nat.le_refl _) _
    have ap : ∀ b off, B = some ⟨b, off, none⟩ → 0 < n - k → b ≠ w.heap.size := HN.out.apart HP.out
    refine bodyPost_ret (results_cell_row rfl _ _ w.heap.size _ _ _ _ rfl (P2.out.out.put _ _) Try.underlying24 rfl (by kernel_rfl)) rfl ?_
    have e := HK.out
    subst e
    exact ⟨⟨B, d, rfl, (((HN.out.below hb).set 0 _ ap).set 1 _ ap).lower HQ.out⟩, (P2.out.below.setCell (p := ⟨w.heap.size, 0, none⟩) (Nat.le_refl _) _).setCell (p := ⟨w.heap.size, 1, none⟩) (Nat.le_refl _) _⟩
theorem move_done {N : Nat → RN} {n : Nat} {x : Int} {g : RC} (h : g.kind = 3) : doneN StyOK N n x g = match cutAt N n g.key with
    | none => .no 70
    | some a => movedN N n x g a := by
  unfold doneN cutAt
  rw [if_neg (by omega)]
  cases findN N n g.key with
  | none => rfl
  | some a =>
    dsimp only
    by_cases h0 : 0 < a
    · rw [if_neg (by omega), if_pos ⟨h, h0⟩, if_pos h0]
    · rw [if_neg (fun e => h0 e.2), if_neg (fun e => h0 e.2), if_neg (by omega), if_neg h0]
theorem shape_deep {N : Nat → RN} {n : Nat} {x : Int} (h : Shape n x N) : ∀ i, i < n → 0 ≤ (N i).depth ∧ (N i).depth ≤ 1000 := fun i hi => by
  have h1 := h.deep i hi
  refine ⟨?_, by omega⟩
  rcases Nat.eq_zero_or_pos i with rfl | h0
  · have := h.steps.1
    unfold dps at this
    omega
  · have := h.steps.2 i h0 hi
    unfold dps at this
    omega
theorem gapped_deep {N : Nat → RN} {n a k : Nat} (h : ∀ i, i < n → 0 ≤ (N i).depth ∧ (N i).depth ≤ 1000) (hk : a + k ≤ n) : ∀ i, i < n - k → 0 ≤ (gapped N a k i).depth ∧ (gapped N a k i).depth ≤ 1000 := fun j hj => by
  rcases Nat.lt_or_ge j a with g | g
  · rw [gapped_lt g]; exact h j (by omega)
  · rw [gapped_ge g]; exact h _ (by omega)

set_option maxRecDepth 100000 in
set_option maxHeartbeats 4000000 in
theorem clo3_any (A : Option Addr) (n c : Nat) (x : Int) (N : Nat → RN) (bd bc : Nat) (g : RC) (hg : g.ok) (hk : g.kind = 3) (w : World) (hS : Shape n x N) (hd : DocBox w bd (.slice A n c) (.int .i64 x)) (hD : DocIn w A n c x N) (hc : ChBox w bc g) :
    Calls Try.prog 38 #[.pointer (some ⟨bd, 0, none⟩), .pointer (some ⟨bc, 0, none⟩)] w fun e w' => CloIs w (doneN StyOK N n x g) e w' ∧ Below w.heap.size w w' := by
  rw [move_done hk]
  have P0 := Lib.hid (Chg.start hd hD hc)
  have KC := Lib.hid (fun W (h : DocIn W A n c x N) => cut_any A n c x N g.key W h hS.most hg.key.1 hg.key.2)
  unfold docV at KC
  have kc : g.cells[1]? = some (.int .i64 g.key) := rfl
  have kp : g.cells[2]? = some (.int .i64 g.parent) := rfl
  have ka : g.cells[3]? = some (.int .i64 g.at_) := rfl
  have hpar := hg.parent
  have hat := hg.at_
  have hn300 := hS.most
  have SD := Lib.hid (shape_deep hS)
  have CA : Hid (∀ a, cutAt N n g.key = some a → 0 < sizeN N n a ∧ a + sizeN N n a ≤ n) := Lib.hid (fun a h => sizeN_pos (cutAt_some h).2.2)
  have MV : Hid (∀ a, movedN N n x g a = match gapN (gapped N a (sizeN N n a)) (n - sizeN N n a) g.parent g.at_ with
    | none => .no 70
    | some (u, p) => .doc n x (putN (gapped N a (sizeN N n a)) p (sizeN N n a) (levelN (fun i => N (a + i)) ((gapped N a (sizeN N n a) u).depth + 1)))) := Lib.hid (fun a => rfl)
  clear hd hD hc hg hS
  have d0 := P0.out.db.c0
  have d1 := P0.out.db.c1
  have k1 := P0.out.cb.cell kc
  generalize cutAt N n g.key = R at KC CA ⊢
  generalize g.key = key at k1 KC ⊢
  go_enter Try.func38, Try.ntmps38
  go_wp2_with fail
  generalize w.alloc (.cells #[.slice none 0 0, .int .i64 0] 24) = W0 at P0 ⊢
  refine (KC.out _ P0.out.doc).mono ?_
  rintro e w1 ⟨hr, hb⟩
  have P1 := Lib.hid (P0.out.next hb)
  have HP : Hid (w.heap.size < W0.heap.size) := Lib.hid (by have := P0.out.size; omega)
  have HQ : Hid (w.heap.size ≤ W0.heap.size) := Lib.hid P0.out.below.size
  clear hb d0 d1 k1 KC kc
  cases R with
  | none =>
    unfold CutIs wrong at hr
    subst hr
    go_wp2_with fail
    exact ⟨rfl, rfl, P1.out.below⟩
  | some a =>
    obtain ⟨hk0, hka⟩ := CA.out a rfl
    have MV := Lib.hid (MV.out a)
    obtain ⟨B, d, ad, c', rfl, hn, hm⟩ := hr
    unfold docV
    generalize hkk : sizeN N n a = k at hn hm MV hk0 hka ⊢
    have GD := Lib.hid (gapped_deep SD.out hka)
    have MD : Hid (∀ i, i < k → 0 ≤ (N (a + i)).depth ∧ (N (a + i)).depth ≤ 1000) := Lib.hid (fun i hi => SD.out (a + i) (by omega))
    have hb2 : Below w1.heap.size w1 (w1.alloc (.cells #[.slice B (n - k) d, .int .i64 x] 24)) := (Below.refl _ _).alloc (Nat.le_refl _) _
    have P2 := Lib.hid (P1.out.alloc (.cells #[.slice B (n - k) d, .int .i64 x] 24))
    have HN := Lib.hid (hn.below hb2)
    have HM := Lib.hid (hm.below hb2)
    have RB : Hid (DocBox (w1.alloc (.cells #[.slice B (n - k) d, .int .i64 x] 24)) w1.heap.size (.slice B (n - k) d) (.int .i64 x)) := Lib.hid (docBox_new rfl)
    have r0 := RB.out.c0
    have r1 := RB.out.c1
    have k2 := P2.out.cb.cell kp
    have k3 := P2.out.cb.cell ka
    have PU := Lib.hid (put_any B (n - k) d x (gapped N a k) ad k c' (fun i => N (a + i)) g.parent g.at_ _ HN.out.1 HM.out hk0 (by omega) hpar hat GD.out MD.out)
    unfold docV at PU
    have HK := Lib.hid hkk
    clear hn hm hb2 hkk kp ka
    generalize gapN (gapped N a k) (n - k) g.parent g.at_ = G at PU MV
    generalize g.parent = par at k2 PU
    generalize g.at_ = att at k3 PU
    go_wp2_with fail
    generalize w1.alloc (.cells #[.slice B (n - k) d, .int .i64 x] 24) = w2 at P2 HN HM RB PU ⊢
    refine PU.out.mono ?_
    rintro e w3 ⟨hr, hb⟩
    have P3 := Lib.hid (P2.out.next hb)
    have HZ := Lib.hid P2.out.size
    clear hb r0 r1 k2 k3 PU
    cases G with
    | none =>
      unfold PutIs wrong at hr
      subst hr
      have MV := Lib.hid MV.out
      go_wp2_with fail
      refine ⟨rfl, ?_, P3.out.below⟩
      show CloIs w (movedN N n x g a) _ _
      rw [MV.out]
      rfl
    | some up =>
      obtain ⟨u, p⟩ := up
      obtain ⟨B2, d2, rfl, hn⟩ := hr
      rw [Nat.sub_add_cancel (by omega)] at hn ⊢
      have H3 := Lib.hid hn
      clear hn
      unfold docV
      have o0 := P3.out.out.c0
      have o1 := P3.out.out.c1
      have of0 := P3.out.out.f0
      have of1 := P3.out.out.f1
      go_wp2_with fail
      have ap := H3.out.apart (q := w.heap.size) (by have := HZ.out; omega)
      refine bodyPost_ret (results_cell_row rfl _ _ w.heap.size _ _ _ _ rfl (P3.out.out.put _ _) Try.underlying24 rfl (by kernel_rfl)) rfl ?_
      refine ⟨?_, (P3.out.below.setCell (p := ⟨w.heap.size, 0, none⟩) (Nat.le_refl _) _).setCell (p := ⟨w.heap.size, 1, none⟩) (Nat.le_refl _) _⟩
      show CloIs w (movedN N n x g a) _ _
      rw [MV.out]
      exact ⟨B2, d2, rfl, ((H3.out.set 0 _ ap).set 1 _ ap).lower P2.out.below.size⟩
end

section
open Go.RowKit Go.WideShapes
attribute [local go_sem ↓] Go.wp_at_zero Go.wp_at_succ

theorem Chg.cells {w W : World} {A : Option Addr} {n c : Nat} {x : Int} {N : Nat → RN} {bd bc : Nat} {g : RC} (kc : g.cells[1]? = some (.int .i64 g.key)) (h : Chg w A n c x N bd bc g W) :
    W.cell? ⟨bd, 0, none⟩ = some (.slice A n c) ∧ W.cell? ⟨bd, 1, none⟩ = some (.int .i64 x) ∧ W.cell? ⟨bc, 1, none⟩ = some (.int .i64 g.key) := ⟨h.db.c0, h.db.c1, h.cb.cell kc⟩
theorem Chg.set {w W : World} {A : Option Addr} {n c : Nat} {x : Int} {N : Nat → RN} {bd bc : Nat} {g : RC} (h : Chg w A n c x N bd bc g W) (hbd : bd < w.heap.size) (hbc : bc < w.heap.size) (hA : ∀ b off, A = some ⟨b, off, none⟩ → 0 < n → b < w.heap.size) (q : Addr) (v : Value) (hq : w.heap.size + 1 ≤ q.block) : Chg w A n c x N bd bc g (W.setCell q v) :=
  ⟨h.below.setCell (by omega) v, by simpa [World.setCell] using h.size, h.db.keep (heap_set v (by omega)), ⟨⟨h.doc.1.1.set0 q v (fun h0 b off e => by have := hA b off e h0; omega), h.doc.1.2⟩, h.doc.2⟩, h.cb.keep (heap_set v (by omega)), h.out.keep (heap_set v (by omega))⟩

set_option maxRecDepth 100000 in
theorem ok_of_parts {k d kd : Int} {s : List Lit} {t : List UInt8} (hs : Try.prog.keyLits 5 30 (s.map Lit.toCell) = some s) (hsl : s.length = 47) (hk : -9223372036854775808 ≤ k ∧ k ≤ 9223372036854775807) (hd : -9223372036854775808 ≤ d ∧ d ≤ 9223372036854775807) (hkd : 0 ≤ kd ∧ kd < 256) (ht : t.length ≤ 9223372036854775807) : (⟨k, d, kd, s, t⟩ : RN).ok := by
  have h1 : IntKind.i64.min = -9223372036854775808 := by decide
  have h2 : IntKind.i64.max = 9223372036854775807 := by decide
  have h3 : IntKind.u8.min = 0 := by decide
  have h4 : IntKind.u8.max = 255 := by decide
  have wk : (Lit.int .i64 k).wf = true := by simp only [Lit.wf, h1, h2, Bool.and_eq_true, decide_eq_true_eq]; exact hk
  have wd : (Lit.int .i64 d).wf = true := by simp only [Lit.wf, h1, h2, Bool.and_eq_true, decide_eq_true_eq]; exact hd
  have wu : (Lit.int .u8 kd).wf = true := by simp only [Lit.wf, h3, h4, Bool.and_eq_true, decide_eq_true_eq]; omega
  have fk : Try.prog.keyLits 5 3 [.int .i64 k] = some [.int .i64 k] := by simp [Program.keyLits, Try.underlying3, wk]
  have fd : Try.prog.keyLits 5 3 [.int .i64 d] = some [.int .i64 d] := by simp [Program.keyLits, Try.underlying3, wd]
  have fu : Try.prog.keyLits 5 5 [.int .u8 kd] = some [.int .u8 kd] := by simp [Program.keyLits, Try.underlying5, wu]
  have hm : t.length ≤ maxLen := by unfold maxLen; omega
  have ft : Try.prog.keyLits 5 9 [.string ⟨t.toArray⟩] = some [.string t] := by simp [Program.keyLits, Try.underlying9, ByteArray.size, hm]
  have c1 : Try.prog.cellsOf 3 = 1 := by kernel_rfl
  have c2 : Try.prog.cellsOf 5 = 1 := by kernel_rfl
  have c3 : Try.prog.cellsOf 9 = 1 := by kernel_rfl
  have hl : (s.map Lit.toCell).length = 47 := by rw [List.length_map]; exact hsl
  refine ⟨?_, hs, hk, hd, hkd, ht⟩
  unfold RN.cells RN.lits
  rw [show (6 : Nat) = 5 + 1 from rfl]
  unfold Program.keyLits
  rw [Try.underlying32]
  dsimp only
  simp only [List.map_cons, List.map_append, List.map_nil, Lit.toCell]
  rw [if_pos ⟨by simp only [List.length_cons, List.length_append, hl, List.length_nil, node_cells], by kernel_rfl⟩]
  simp [c1, c2, c3, style_cells, fk, fd, fu, ft, hl, hs]
theorem noStyle_lits : Try.prog.keyLits 5 30 (noStyle.map Lit.toCell) = some noStyle := by kernel_rfl
theorem noStyle_len : noStyle.length = 47 := by kernel_rfl

theorem setCells_size (b : Nat) : ∀ (l : List Value) (o : Nat) (W : World), (W.setCells b o l).heap.size = W.heap.size
  | [], _, _ => rfl
  | v :: r, o, W => by rw [World.setCells, setCells_size b r]; simp [World.setCell]
theorem setCells_other (b : Nat) {k : Nat} (hk : k ≠ b) : ∀ (l : List Value) (o : Nat) (W : World), (W.setCells b o l).heap[k]? = W.heap[k]?
  | [], _, _ => rfl
  | v :: r, o, W => by rw [World.setCells, setCells_other b hk r, heap_set v hk]
theorem setCells_block (b : Nat) : ∀ (l : List Value) (o : Nat) (W : World), (∃ cs, W.heap[b]? = some (.cells cs 32 (0, 0))) → ∃ cs, (W.setCells b o l).heap[b]? = some (.cells cs 32 (0, 0))
  | [], _, _, h => h
  | v :: r, o, W, ⟨cs, e⟩ => by
    rw [World.setCells]
    exact setCells_block b r _ _ ⟨_, by simp [World.setCell, Array.getElem?_modify, e]; rfl⟩
theorem setCells_below {w : World} {B b : Nat} (hb : B ≤ b) : ∀ (l : List Value) (o : Nat) (W : World), Below B w W → Below B w (W.setCells b o l)
  | [], _, _, h => h
  | v :: r, o, W, h => by rw [World.setCells]; exact setCells_below hb r _ _ (h.setCell hb v)
theorem copied_cells {W : World} {b o n d : Nat} {x : Int} {N M : Nat → RN} (h : Copied W b o n d x N) {i k : Nat} (hi : i < n) (l : List Value) (hk : k + l.length ≤ 51) (hok : (M i).ok) (hM : ∀ j, j ≠ i → M j = N j)
    (hv : ∀ q, q < 51 → (M i).cells[q]? = if k ≤ q ∧ q < k + l.length then l[q - k]? else (N i).cells[q]?) : Copied (W.setCells b (o + i * 51 + k) l) b o n d x M := by
  refine ⟨⟨⟨⟨fun j hj => ?_, fun _ => ⟨b, o, rfl, by rw [setCells_size]; exact h.lt, fun j hj q hq => ?_⟩⟩, h.doc.1.2⟩, h.doc.2⟩, setCells_block b l _ _ h.own⟩
  · by_cases e : j = i
    · subst e; exact hok
    · rw [hM j e]; exact h.doc.1.1.1 j hj
  · have c := h.cell hj hq
    by_cases e : j = i ∧ k ≤ q ∧ q < k + l.length
    · obtain ⟨rfl, e1, e2⟩ := e
      rw [hv q hq, if_pos ⟨e1, e2⟩]
      have := World.cell?_setCells_in b l (o + j * 51 + k) W (fun r hr => by
        have c2 := h.cell hj (k := k + r) (by omega)
        rw [Nat.add_assoc, c2, List.getElem?_eq_getElem (by rw [(h.doc.1.1.1 j hj).len]; omega)]
        rfl) (q - k) (by omega)
      rw [show o + j * 51 + k + (q - k) = o + j * 51 + q by omega] at this
      rw [this, List.getElem?_eq_getElem (by omega)]
    · rw [World.cell?_setCells_out b l (o + i * 51 + k) W ⟨b, o + j * 51 + q, none⟩ (fun _ _ => by
        show o + j * 51 + q < o + i * 51 + k ∨ o + i * 51 + k + l.length ≤ o + j * 51 + q
        rcases Nat.lt_trichotomy j i with g | g | g
        · left; omega
        · subst g
          have : ¬ (k ≤ q ∧ q < k + l.length) := fun hh => e ⟨rfl, hh⟩
          omega
        · right; omega), c]
      by_cases e1 : j = i
      · subst e1
        rw [hv q hq, if_neg (fun hh => e ⟨rfl, hh⟩)]
      · rw [hM j e1]

set_option maxRecDepth 100000 in
set_option maxHeartbeats 4000000 in
theorem clo5_none (A : Option Addr) (n c : Nat) (x : Int) (N : Nat → RN) (bd bc : Nat) (g : RC) (hg : g.ok) (w : World) (hF : foundN N n g.key 1 = none) (hd : DocBox w bd (.slice A n c) (.int .i64 x)) (hD : DocIn w A n c x N) (hc : ChBox w bc g) :
    Calls Try.prog 42 #[.pointer (some ⟨bd, 0, none⟩), .pointer (some ⟨bc, 0, none⟩)] w fun e w' => e = wrong 70 ∧ Below w.heap.size w w' := by
  have P0 := Lib.hid (Chg.start hd hD hc)
  have KF := Lib.hid (fun W (h : DocIn W A n c x N) => findM_any A n c x N g.key 1 W h hg.key.1 hg.key.2)
  have KC := Lib.hid (fun W (h : DocIn W A n c x N) => copy_any5 A n c x N W h)
  rw [hF] at KF
  unfold docV at KF KC
  have kc : g.cells[1]? = some (.int .i64 g.key) := rfl
  have KG := Lib.hid (fun W (h : Chg w A n c x N bd bc g W) => h.cells kc)
  clear hd hD hc hg hF kc
  generalize g.key = key at KF KG
  go_enter Try.func42, Try.ntmps42
  go_wp2_with fail
  generalize w.alloc (.cells #[.slice none 0 0, .int .i64 0] 24) = W0 at P0 ⊢
  have P0d := Lib.hid P0.out.drew
  refine wp_region_held_drew (S := fun W' => W'.cell? ⟨bd, 0, none⟩ = some (.slice A n c) ∧ W'.cell? ⟨bd, 1, none⟩ = some (.int .i64 x) ∧ W'.cell? ⟨bc, 1, none⟩ = some (.int .i64 key)) (by kernel_rfl) (KG.out _ P0d.out) (fun hHeld => ?_)
  refine wpAnyH_take (i := 0) (oi := Oper.mk (some 5) _ _ _ _ _) (v := .agg #[.slice A n c, .int .i64 x]) rfl (by kernel_rfl) (by kernel_rfl) (by kernel_rfl) (fun _ _ _ h => h) (Or.inl ⟨by rfl, ?_⟩) (by assumption) ?_
  · intro w hSw
    obtain ⟨s0, s1, s2⟩ := hSw
    go_simp
  try simp only [Act.put, List.setIfInBounds_toArray, List.set_cons_zero, List.set_cons_succ]
  refine wpAnyH_take (i := 2) (oi := Oper.mk (some 7) _ _ _ _ _) (v := .agg #[.slice A n c, .int .i64 x]) rfl (by kernel_rfl) (by kernel_rfl) (by kernel_rfl) (fun _ _ _ h => h) (Or.inl ⟨by rfl, ?_⟩) (by assumption) ?_
  · intro w hSw
    obtain ⟨s0, s1, s2⟩ := hSw
    go_simp
  try simp only [Act.put, List.setIfInBounds_toArray, List.set_cons_zero, List.set_cons_succ]
  refine wpAnyH_take (i := 3) (oi := Oper.mk (some 8) _ _ _ _ _) (v := .pointer (some ⟨bc, 1, none⟩)) rfl (by kernel_rfl) (by kernel_rfl) (by kernel_rfl) (fun _ _ _ h => h) (Or.inl ⟨by rfl, ?_⟩) (by assumption) ?_
  · intro w hSw
    obtain ⟨s0, s1, s2⟩ := hSw
    go_simp
  try simp only [Act.put, List.setIfInBounds_toArray, List.set_cons_zero, List.set_cons_succ]
  refine wpAnyH_take (i := 4) (oi := Oper.mk (some 9) _ _ _ _ _) (v := .int .i64 key) rfl (by kernel_rfl) (by kernel_rfl) (by kernel_rfl) (fun _ _ _ h => h) (Or.inl ⟨by rfl, ?_⟩) (by assumption) ?_
  · intro w hSw
    obtain ⟨s0, s1, s2⟩ := hSw
    go_simp
  try simp only [Act.put, List.setIfInBounds_toArray, List.set_cons_zero, List.set_cons_succ]
  refine wpAnyH_ready (rs := [1, 6]) (by kernel_rfl) (by simp) ?_
  refine AllReadyH.cons (o := Oper.mk (some 6) _ _ _ _ _) rfl (fun K hK => ?_) ?_
  · go_simp
    refine (KC.out _ P0d.out.doc).mono ?_
    rintro e w1 ⟨B, d, rfl, -, -, hb⟩
    have P1 := Lib.hid (P0d.out.next hb)
    clear hb
    refine hK.out _ _ (KG.out _ P1.out) (fun hHeld => ?_)
    clear hK K
    try simp only [Act.put, List.setIfInBounds_toArray, List.set_cons_zero, List.set_cons_succ]
    refine wpAnyH_ready (rs := [5, 6]) (by kernel_rfl) (by simp) ?_
    refine AllReadyH.cons (o := Oper.mk (some 10) _ _ _ _ _) rfl (fun K hK => ?_) ?_
    · go_simp
      refine (KF.out _ P1.out.doc).mono ?_
      rintro e w2 ⟨hr, hb⟩
      unfold FoundIs wrong at hr
      subst hr
      exact ⟨rfl, rfl, P1.out.below.trans (hb.mono P1.out.below.size)⟩
    refine AllReadyH.cons (o := Oper.mk (some 3) _ _ _ _ _) rfl (fun K hK => ?_) ?_
    · go_simp
      refine hK.out _ _ (KG.out _ (P1.out.alloc _)) (fun hHeld => ?_)
      clear hK K
      try simp only [Act.put, List.setIfInBounds_toArray, List.set_cons_zero, List.set_cons_succ]
      refine wpAnyH_ready (rs := [5]) (by kernel_rfl) (by simp) ?_
      refine AllReadyH.cons (o := Oper.mk (some 10) _ _ _ _ _) rfl (fun K hK => ?_) ?_
      · go_simp
        refine (KF.out _ (P1.out.alloc _).doc).mono ?_
        rintro e w2 ⟨hr, hb⟩
        unfold FoundIs wrong at hr
        subst hr
        exact ⟨rfl, rfl, (P1.out.alloc _).below.trans (hb.mono (P1.out.alloc _).below.size)⟩
      exact AllReadyH.nil
    exact AllReadyH.nil
  refine AllReadyH.cons (o := Oper.mk (some 3) _ _ _ _ _) rfl (fun K hK => ?_) ?_
  · go_simp
    have PA := Lib.hid (P0.out.alloc (.cells #[.slice none 0 0, .int .i64 0] 24)).drew
    refine hK.out _ _ (KG.out _ PA.out) (fun hHeld => ?_)
    clear hK K
    try simp only [Act.put, List.setIfInBounds_toArray, List.set_cons_zero, List.set_cons_succ]
    refine wpAnyH_ready (rs := [1]) (by kernel_rfl) (by simp) ?_
    refine AllReadyH.cons (o := Oper.mk (some 6) _ _ _ _ _) rfl (fun K hK => ?_) ?_
    · go_simp
      refine (KC.out _ PA.out.doc).mono ?_
      rintro e w1 ⟨B, d, rfl, -, -, hb⟩
      have P1 := Lib.hid (PA.out.next hb)
      clear hb
      refine hK.out _ _ (KG.out _ P1.out) (fun hHeld => ?_)
      clear hK K
      try simp only [Act.put, List.setIfInBounds_toArray, List.set_cons_zero, List.set_cons_succ]
      refine wpAnyH_ready (rs := [5]) (by kernel_rfl) (by simp) ?_
      refine AllReadyH.cons (o := Oper.mk (some 10) _ _ _ _ _) rfl (fun K hK => ?_) ?_
      · go_simp
        refine (KF.out _ P1.out.doc).mono ?_
        rintro e w2 ⟨hr, hb⟩
        unfold FoundIs wrong at hr
        subst hr
        exact ⟨rfl, rfl, P1.out.below.trans (hb.mono P1.out.below.size)⟩
      exact AllReadyH.nil
    exact AllReadyH.nil
  exact AllReadyH.nil

set_option maxRecDepth 100000 in
set_option maxHeartbeats 4000000 in
theorem clo4_none (A : Option Addr) (n c : Nat) (x : Int) (N : Nat → RN) (bd bc : Nat) (g : RC) (hg : g.ok) (w : World) (hF : foundN N n g.key 0 = none) (hd : DocBox w bd (.slice A n c) (.int .i64 x)) (hD : DocIn w A n c x N) (hc : ChBox w bc g) :
    Calls Try.prog 39 #[.pointer (some ⟨bd, 0, none⟩), .pointer (some ⟨bc, 0, none⟩)] w fun e w' => e = wrong 70 ∧ Below w.heap.size w w' := by
  have P0 := Lib.hid (Chg.start hd hD hc)
  have KF := Lib.hid (fun W (h : DocIn W A n c x N) => findM_any A n c x N g.key 0 W h hg.key.1 hg.key.2)
  have KC := Lib.hid (fun W (h : DocIn W A n c x N) => copy_any5 A n c x N W h)
  rw [hF] at KF
  unfold docV at KF KC
  have kc : g.cells[1]? = some (.int .i64 g.key) := rfl
  have KG := Lib.hid (fun W (h : Chg w A n c x N bd bc g W) => h.cells kc)
  clear hd hD hc hg hF kc
  generalize g.key = key at KF KG
  go_enter Try.func39, Try.ntmps39
  go_wp2_with fail
  generalize w.alloc (.cells #[.slice none 0 0, .int .i64 0] 24) = W0 at P0 ⊢
  have P0d := Lib.hid P0.out.drew
  refine wp_region_held_drew (S := fun W' => W'.cell? ⟨bd, 0, none⟩ = some (.slice A n c) ∧ W'.cell? ⟨bd, 1, none⟩ = some (.int .i64 x) ∧ W'.cell? ⟨bc, 1, none⟩ = some (.int .i64 key)) (by kernel_rfl) (KG.out _ P0d.out) (fun hHeld => ?_)
  refine wpAnyH_take (i := 0) (oi := Oper.mk (some 5) _ _ _ _ _) (v := .agg #[.slice A n c, .int .i64 x]) rfl (by kernel_rfl) (by kernel_rfl) (by kernel_rfl) (fun _ _ _ h => h) (Or.inl ⟨by rfl, ?_⟩) (by assumption) ?_
  · intro w hSw
    obtain ⟨s0, s1, s2⟩ := hSw
    go_simp
  try simp only [Act.put, List.setIfInBounds_toArray, List.set_cons_zero, List.set_cons_succ]
  refine wpAnyH_take (i := 2) (oi := Oper.mk (some 7) _ _ _ _ _) (v := .agg #[.slice A n c, .int .i64 x]) rfl (by kernel_rfl) (by kernel_rfl) (by kernel_rfl) (fun _ _ _ h => h) (Or.inl ⟨by rfl, ?_⟩) (by assumption) ?_
  · intro w hSw
    obtain ⟨s0, s1, s2⟩ := hSw
    go_simp
  try simp only [Act.put, List.setIfInBounds_toArray, List.set_cons_zero, List.set_cons_succ]
  refine wpAnyH_take (i := 3) (oi := Oper.mk (some 8) _ _ _ _ _) (v := .pointer (some ⟨bc, 1, none⟩)) rfl (by kernel_rfl) (by kernel_rfl) (by kernel_rfl) (fun _ _ _ h => h) (Or.inl ⟨by rfl, ?_⟩) (by assumption) ?_
  · intro w hSw
    obtain ⟨s0, s1, s2⟩ := hSw
    go_simp
  try simp only [Act.put, List.setIfInBounds_toArray, List.set_cons_zero, List.set_cons_succ]
  refine wpAnyH_take (i := 4) (oi := Oper.mk (some 9) _ _ _ _ _) (v := .int .i64 key) rfl (by kernel_rfl) (by kernel_rfl) (by kernel_rfl) (fun _ _ _ h => h) (Or.inl ⟨by rfl, ?_⟩) (by assumption) ?_
  · intro w hSw
    obtain ⟨s0, s1, s2⟩ := hSw
    go_simp
  try simp only [Act.put, List.setIfInBounds_toArray, List.set_cons_zero, List.set_cons_succ]
  refine wpAnyH_ready (rs := [1, 6]) (by kernel_rfl) (by simp) ?_
  refine AllReadyH.cons (o := Oper.mk (some 6) _ _ _ _ _) rfl (fun K hK => ?_) ?_
  · go_simp
    refine (KC.out _ P0d.out.doc).mono ?_
    rintro e w1 ⟨B, d, rfl, -, -, hb⟩
    have P1 := Lib.hid (P0d.out.next hb)
    clear hb
    refine hK.out _ _ (KG.out _ P1.out) (fun hHeld => ?_)
    clear hK K
    try simp only [Act.put, List.setIfInBounds_toArray, List.set_cons_zero, List.set_cons_succ]
    refine wpAnyH_ready (rs := [5, 6]) (by kernel_rfl) (by simp) ?_
    refine AllReadyH.cons (o := Oper.mk (some 10) _ _ _ _ _) rfl (fun K hK => ?_) ?_
    · go_simp
      refine (KF.out _ P1.out.doc).mono ?_
      rintro e w2 ⟨hr, hb⟩
      unfold FoundIs wrong at hr
      subst hr
      exact ⟨rfl, rfl, P1.out.below.trans (hb.mono P1.out.below.size)⟩
    refine AllReadyH.cons (o := Oper.mk (some 3) _ _ _ _ _) rfl (fun K hK => ?_) ?_
    · go_simp
      refine hK.out _ _ (KG.out _ (P1.out.alloc _)) (fun hHeld => ?_)
      clear hK K
      try simp only [Act.put, List.setIfInBounds_toArray, List.set_cons_zero, List.set_cons_succ]
      refine wpAnyH_ready (rs := [5]) (by kernel_rfl) (by simp) ?_
      refine AllReadyH.cons (o := Oper.mk (some 10) _ _ _ _ _) rfl (fun K hK => ?_) ?_
      · go_simp
        refine (KF.out _ (P1.out.alloc _).doc).mono ?_
        rintro e w2 ⟨hr, hb⟩
        unfold FoundIs wrong at hr
        subst hr
        exact ⟨rfl, rfl, (P1.out.alloc _).below.trans (hb.mono (P1.out.alloc _).below.size)⟩
      exact AllReadyH.nil
    exact AllReadyH.nil
  refine AllReadyH.cons (o := Oper.mk (some 3) _ _ _ _ _) rfl (fun K hK => ?_) ?_
  · go_simp
    have PA := Lib.hid (P0.out.alloc (.cells #[.slice none 0 0, .int .i64 0] 24)).drew
    refine hK.out _ _ (KG.out _ PA.out) (fun hHeld => ?_)
    clear hK K
    try simp only [Act.put, List.setIfInBounds_toArray, List.set_cons_zero, List.set_cons_succ]
    refine wpAnyH_ready (rs := [1]) (by kernel_rfl) (by simp) ?_
    refine AllReadyH.cons (o := Oper.mk (some 6) _ _ _ _ _) rfl (fun K hK => ?_) ?_
    · go_simp
      refine (KC.out _ PA.out.doc).mono ?_
      rintro e w1 ⟨B, d, rfl, -, -, hb⟩
      have P1 := Lib.hid (PA.out.next hb)
      clear hb
      refine hK.out _ _ (KG.out _ P1.out) (fun hHeld => ?_)
      clear hK K
      try simp only [Act.put, List.setIfInBounds_toArray, List.set_cons_zero, List.set_cons_succ]
      refine wpAnyH_ready (rs := [5]) (by kernel_rfl) (by simp) ?_
      refine AllReadyH.cons (o := Oper.mk (some 10) _ _ _ _ _) rfl (fun K hK => ?_) ?_
      · go_simp
        refine (KF.out _ P1.out.doc).mono ?_
        rintro e w2 ⟨hr, hb⟩
        unfold FoundIs wrong at hr
        subst hr
        exact ⟨rfl, rfl, P1.out.below.trans (hb.mono P1.out.below.size)⟩
      exact AllReadyH.nil
    exact AllReadyH.nil
  exact AllReadyH.nil
end

section
open Go.RowKit Go.WideShapes
attribute [local go_sem ↓] Go.wp_at_zero Go.wp_at_succ

theorem cells_text {v : RN} (hl : v.style.length = 47) (t : List UInt8) {q : Nat} (hq : q < 51) : ({ v with text := t } : RN).cells[q]? = if q = 50 then some (.string ⟨t.toArray⟩) else v.cells[q]? := by
  have h47 : (v.style.map Lit.toCell).length = 47 := by rw [List.length_map]; exact hl
  simp only [RN.cells, RN.lits, List.map_cons, List.map_append, List.map_nil]
  match q with
  | 0 => rfl
  | 1 => rfl
  | 2 => rfl
  | q + 3 =>
    simp only [List.getElem?_cons_succ]
    rcases Nat.lt_or_ge q 47 with h | h
    · rw [List.getElem?_append_left (by omega), List.getElem?_append_left (by omega), if_neg (by omega)]
    · obtain rfl : q = 47 := by omega
      rw [List.getElem?_append_right (by omega), h47]
      rfl
/-- a copy in its box -/
structure Dup (w : World) (A : Option Addr) (n c : Nat) (x : Int) (N : Nat → RN) (bd bc : Nat) (g : RC) (W : World) (q b2 o2 d2 : Nat) (V : Nat → RN) : Prop where
  chg : Chg w A n c x N bd bc g W
  copy : Copied W b2 o2 n d2 x V
  bx : DocBox W q (.slice (some ⟨b2, o2, none⟩) n d2) (.int .i64 x)
  lq : w.heap.size + 1 ≤ q
  lb : w.heap.size + 1 ≤ b2

set_option maxRecDepth 100000 in
set_option maxHeartbeats 4000000 in
theorem clo5_some (A : Option Addr) (n c : Nat) (x : Int) (N : Nat → RN) (bd bc : Nat) (g : RC) (hg : g.ok) (w : World) (a : Nat) (hF : foundN N n g.key 1 = some a) (hn : n ≤ 300) (hd : DocBox w bd (.slice A n c) (.int .i64 x)) (hD : DocIn w A n c x N) (hc : ChBox w bc g) :
    Calls Try.prog 42 #[.pointer (some ⟨bd, 0, none⟩), .pointer (some ⟨bc, 0, none⟩)] w fun e w' => CloIs w (.doc n x (setN N a { N a with text := g.node.text })) e w' ∧ Below w.heap.size w w' := by
  have ha : a < n := (found_some hF).2.1
  have P0 := Lib.hid (Chg.start hd hD hc)
  have HBD := Lib.hid hd.lt
  have HBC := Lib.hid hc.lt
  have HA : Hid (∀ b off, A = some ⟨b, off, none⟩ → 0 < n → b < w.heap.size) := Lib.hid (fun b off e h0 => by
    obtain ⟨b', off', e', hb, -⟩ := hD.1.1.2 h0
    rw [e] at e'
    simp only [Option.some.injEq, Addr.mk.injEq, and_true] at e'
    exact (show b < w.heap.size by rw [e'.1]; exact hb))
  have KF := Lib.hid (fun W (h : DocIn W A n c x N) => findM_any A n c x N g.key 1 W h hg.key.1 hg.key.2)
  rw [hF] at KF
  unfold FoundIs docV at KF
  have KC := Lib.hid (fun W (h : DocIn W A n c x N) => (copy_any5 A n c x N W h).mono (R' := fun e w' => ∃ b2 o2 d2, e = .returned (.agg #[.slice (some ⟨b2, o2, none⟩) n d2, .int .i64 x]) ∧ Copied w' b2 o2 n d2 x N ∧ W.heap.size ≤ b2 ∧ Below W.heap.size W w') (by
    rintro e w' ⟨B, d, rfl, h1, h2, h3⟩
    obtain ⟨b, off, cs, rfl, h4, h5⟩ := h2 (by omega)
    exact ⟨b, off, d, rfl, ⟨h1, cs, h5⟩, h4, h3⟩))
  unfold docV at KC
  have kc : g.cells[1]? = some (.int .i64 g.key) := rfl
  have KG := Lib.hid (fun W (h : Chg w A n c x N bd bc g W) => h.cells kc)
  have HO := Lib.hid hg.node
  clear hd hD hc hg hF kc
  generalize g.key = key at KF KG
  go_enter Try.func42, Try.ntmps42
  go_wp2_with fail
  generalize w.alloc (.cells #[.slice none 0 0, .int .i64 0] 24) = W0 at P0 ⊢
  have P0d := Lib.hid P0.out.drew
  have P0ad := Lib.hid (fun o => (P0.out.alloc o).drew)
  have LQ0 := Lib.hid P0.out.size
  go_cut [3, 4] from 5 (fun p3 p4 wx => ∃ q b2 o2 d2 : Nat, p3 = .pointer (some ⟨q, 0, none⟩) ∧ p4 = .int .i64 (a : Nat) ∧ Hid (Dup w A n c x N bd bc g wx q b2 o2 d2 N))
  case first =>
    go_region_held3 (fun W' => W'.cell? ⟨bd, 0, none⟩ = some (.slice A n c) ∧ W'.cell? ⟨bd, 1, none⟩ = some (.int .i64 x) ∧ W'.cell? ⟨bc, 1, none⟩ = some (.int .i64 key))
      (first | ((refine KG.out _ ?_); (repeat (first | (with_reducible exact P2.out) | (with_reducible exact P1.out) | (with_reducible exact P0.out) | (with_reducible refine Chg.drew ?_) | (with_reducible refine Chg.alloc ?_ _) | (with_reducible refine Chg.set ?_ HBD.out HBC.out HA.out _ _ ?_) | (with_reducible exact LQ0.out) | (with_reducible exact LQ1.out) | (with_reducible exact LQ2.out)))))
      (first
      | (go_at_call 40; (with_reducible refine (KC.out _ P0d.out.doc).mono ?_); rintro e w1 ⟨b2, o2, d2, rfl, hc, hl, hb⟩; have P1 := Lib.hid (P0d.out.next hb); have C1 := Lib.hid hc; have LB := Lib.hid (Nat.le_trans P0d.out.size hl); have LQ1 := Lib.hid P1.out.size; have P1a := Lib.hid (fun o => P1.out.alloc o); (try (have A1 : Hid (DocBox w1 W0.heap.size (.slice none 0 0) (.int .i64 0)) := Lib.hid (DocBox.below (by first | ((repeat (first | (with_reducible exact A1.out) | ((with_reducible apply docBox_new); first | (with_reducible rfl) | (simp; done)) | (with_reducible apply DocBox.drew) | (with_reducible apply DocBox.alloc))); done) | fail) hb))); clear hc hl hb)
      | (go_at_call 40; (with_reducible refine (KC.out _ (P0ad.out _).doc).mono ?_); rintro e w1 ⟨b2, o2, d2, rfl, hc, hl, hb⟩; have P1 := Lib.hid ((P0ad.out _).next hb); have C1 := Lib.hid hc; have LB := Lib.hid (Nat.le_trans (P0ad.out _).size hl); have LQ1 := Lib.hid P1.out.size; have P1a := Lib.hid (fun o => P1.out.alloc o); (try (have A1 : Hid (DocBox w1 W0.heap.size (.slice none 0 0) (.int .i64 0)) := Lib.hid (DocBox.below (by first | ((repeat (first | (with_reducible exact A1.out) | ((with_reducible apply docBox_new); first | (with_reducible rfl) | (simp; done)) | (with_reducible apply DocBox.drew) | (with_reducible apply DocBox.alloc))); done) | fail) hb))); clear hc hl hb)
      | (go_at_call 41; (with_reducible refine (KF.out _ P1.out.doc).mono ?_); rintro e w2 ⟨rfl, hb⟩; have P2 := Lib.hid (P1.out.next hb); have LQ2 := Lib.hid P2.out.size; have C2 : Hid (Copied w2 b2 o2 n d2 x N) := Lib.hid (Copied.below (by repeat (first | (with_reducible exact C1.out) | (with_reducible refine Copied.alloc ?_ _) | (with_reducible refine Copied.drew ?_))) hb); (try (have A2 : Hid (DocBox w2 W0.heap.size (.slice none 0 0) (.int .i64 0)) := Lib.hid (DocBox.below (by first | ((repeat (first | (with_reducible exact A1.out) | (with_reducible apply DocBox.drew) | (with_reducible apply DocBox.alloc))); done) | fail) hb); have a20 := A2.out.c0; have a21 := A2.out.c1; have a2f := A2.out.f0; have a2g := A2.out.f1)); (try (have E2 : Hid (DocBox w2 w1.heap.size (.slice none 0 0) (.int .i64 0)) := Lib.hid (DocBox.below (by first | ((repeat (first | ((with_reducible apply docBox_new); first | (with_reducible rfl) | (simp; done)) | (with_reducible apply DocBox.drew))); done) | fail) hb); have e20 := E2.out.c0; have e21 := E2.out.c1; have e2f := E2.out.f0; have e2g := E2.out.f1)); clear hb)
      | (go_at_call 41; (with_reducible refine (KF.out _ (P1a.out _).doc).mono ?_); rintro e w2 ⟨rfl, hb⟩; have P2 := Lib.hid ((P1a.out _).next hb); have LQ2 := Lib.hid P2.out.size; have C2 : Hid (Copied w2 b2 o2 n d2 x N) := Lib.hid (Copied.below (by repeat (first | (with_reducible exact C1.out) | (with_reducible refine Copied.alloc ?_ _) | (with_reducible refine Copied.drew ?_))) hb); (try (have A2 : Hid (DocBox w2 W0.heap.size (.slice none 0 0) (.int .i64 0)) := Lib.hid (DocBox.below (by first | ((repeat (first | (with_reducible exact A1.out) | (with_reducible apply DocBox.drew) | (with_reducible apply DocBox.alloc))); done) | fail) hb); have a20 := A2.out.c0; have a21 := A2.out.c1; have a2f := A2.out.f0; have a2g := A2.out.f1)); (try (have E2 : Hid (DocBox w2 w1.heap.size (.slice none 0 0) (.int .i64 0)) := Lib.hid (DocBox.below (by first | ((repeat (first | ((with_reducible apply docBox_new); first | (with_reducible rfl) | (simp; done)) | (with_reducible apply DocBox.drew))); done) | fail) hb); have e20 := E2.out.c0; have e21 := E2.out.c1; have e2f := E2.out.f0; have e2g := E2.out.f1)); clear hb))
    all_goals
      rename_i hS
      clear hS
      have cn := C2.out
      go_wp2_with fail
      go_meet
    · exact ⟨_, b2, o2, d2, rfl, rfl, Lib.hid ⟨P2.out.alloc _, cn.alloc _, docBox_new rfl, LQ2.out, LB.out⟩⟩
    · exact ⟨_, b2, o2, d2, rfl, rfl, Lib.hid ⟨(P2.out.set HBD.out HBC.out HA.out _ _ LQ1.out).set HBD.out HBC.out HA.out _ _ LQ1.out, (cn.set (fun e => box_row E2.out cn e) _).set (fun e => box_row E2.out cn e) _, E2.out.put _ _, LQ1.out, LB.out⟩⟩
    · exact ⟨_, b2, o2, d2, rfl, rfl, Lib.hid ⟨(P2.out.set HBD.out HBC.out HA.out _ _ LQ0.out).set HBD.out HBC.out HA.out _ _ LQ0.out, (cn.set (fun e => box_row A2.out cn e) _).set (fun e => box_row A2.out cn e) _, A2.out.put _ _, LQ0.out, LB.out⟩⟩
  case rest =>
    obtain ⟨q, b2, o2, d2, rfl, rfl, DU⟩ := hcut
    obtain ⟨wd, hwd⟩ : ∃ wd, wd = wc := ⟨_, rfl⟩
    subst hwd
    clear KF KC KG P0 P0d P0ad LQ0
    have q0 := DU.out.bx.c0
    have q1 := DU.out.bx.c1
    have c54 : g.cells[54]? = some (.string ⟨g.node.text.toArray⟩) := RC.node_at (j := 50) HO.out.last
    have t54 := DU.out.chg.cb.cell c54
    have okA := DU.out.copy.doc.1.1.1 a ha
    have ec : wd.cell? ⟨b2, o2 + a * 51 + 50, none⟩ = some (.string ⟨(N a).text.toArray⟩) := (DU.out.copy.cell ha (k := 50) (by omega)).trans okA.last
    have ef := DU.out.copy.free (o2 + a * 51 + 50)
    have haz : (a : Int) < n := by omega
    have ha0 : (0 : Int) ≤ a := by omega
    have CN := Lib.hid (copied_set (k := 50) (M := setN N a { N a with text := g.node.text }) DU.out.copy ha (by omega) (.string ⟨g.node.text.toArray⟩) (by unfold setN; rw [if_pos rfl]; exact ok_of_parts okA.style okA.style_len okA.key okA.depth okA.kind HO.out.text) (fun j hj => by unfold setN; rw [if_neg hj]) (fun r hr => by
      have e : setN N a { N a with text := g.node.text } a = { N a with text := g.node.text } := if_pos rfl
      rw [e]
      exact cells_text okA.style_len _ hr))
    have hne := box_row DU.out.bx DU.out.copy
    have ON : Hid (DocBox (wd.setCell ⟨b2, o2 + a * 51 + 50, none⟩ (.string ⟨g.node.text.toArray⟩)) w.heap.size (.slice none 0 0) (.int .i64 0)) := Lib.hid (DU.out.chg.out.keep (heap_set _ (by show w.heap.size ≠ b2; have := DU.out.lb; omega)))
    have QN : Hid (DocBox (wd.setCell ⟨b2, o2 + a * 51 + 50, none⟩ (.string ⟨g.node.text.toArray⟩)) q (.slice (some ⟨b2, o2, none⟩) n d2) (.int .i64 x)) := Lib.hid (DU.out.bx.set (fun e => hne e.symm) _)
    have BN : Hid (Below w.heap.size w (wd.setCell ⟨b2, o2 + a * 51 + 50, none⟩ (.string ⟨g.node.text.toArray⟩))) := Lib.hid (DU.out.chg.below.setCell (by show w.heap.size ≤ b2; have := DU.out.lb; omega) _)
    generalize hT : g.node.text = T at t54 CN ON QN BN ⊢
    have HT := Lib.hid hT
    clear hT
    have o0 := ON.out.c0
    have o1 := ON.out.c1
    have of0 := ON.out.f0
    have of1 := ON.out.f1
    have n0 := QN.out.c0
    have n1 := QN.out.c1
    clear c54 okA hne
    go_wp2_with fail
    have CP := (CN.out.set (p := ⟨w.heap.size, 0, none⟩) (by show w.heap.size ≠ b2; have := DU.out.lb; omega) (.slice (some ⟨b2, o2, none⟩) n d2)).set (p := ⟨w.heap.size, 1, none⟩) (by show w.heap.size ≠ b2; have := DU.out.lb; omega) (.int .i64 x)
    refine bodyPost_ret (results_cell_row rfl _ _ w.heap.size _ _ _ _ rfl (ON.out.put _ _) Try.underlying24 rfl (by kernel_rfl)) rfl ?_
    have e := HT.out
    subst e
    refine ⟨⟨some ⟨b2, o2, none⟩, d2, rfl, CP.doc, fun _ => let ⟨cs, e⟩ := CP.own; ⟨b2, o2, cs, rfl, by have := DU.out.lb; omega, e⟩⟩, ?_⟩
    exact (BN.out.setCell (p := ⟨w.heap.size, 0, none⟩) (Nat.le_refl _) _).setCell (p := ⟨w.heap.size, 1, none⟩) (Nat.le_refl _) _

theorem cells_style {v : RN} (hl : v.style.length = 47) (s : List Lit) (hs : s.length = 47) {q : Nat} (hq : q < 51) : ({ v with style := s } : RN).cells[q]? = if 3 ≤ q ∧ q < 3 + (s.map Lit.toCell).length then (s.map Lit.toCell)[q - 3]? else v.cells[q]? := by
  have h47 : (v.style.map Lit.toCell).length = 47 := by rw [List.length_map]; exact hl
  have h47' : (s.map Lit.toCell).length = 47 := by rw [List.length_map]; exact hs
  simp only [RN.cells, RN.lits, List.map_cons, List.map_append, List.map_nil]
  rw [h47']
  match q with
  | 0 => rfl
  | 1 => rfl
  | 2 => rfl
  | q + 3 =>
    simp only [List.getElem?_cons_succ]
    rcases Nat.lt_or_ge q 47 with h | h
    · rw [List.getElem?_append_left (by omega), if_pos (by omega), Nat.add_sub_cancel]
    · obtain rfl : q = 47 := by omega
      rw [List.getElem?_append_right (by omega), List.getElem?_append_right (by omega), if_neg (by omega), h47, h47']
theorem Dup.next {w W W' : World} {A : Option Addr} {n c : Nat} {x : Int} {N : Nat → RN} {bd bc : Nat} {g : RC} {q b2 o2 d2 : Nat} {V : Nat → RN} (h : Dup w A n c x N bd bc g W q b2 o2 d2 V) (hb : Below W.heap.size W W') : Dup w A n c x N bd bc g W' q b2 o2 d2 V :=
  ⟨h.chg.next hb, h.copy.below hb, h.bx.below hb, h.lq, h.lb⟩
theorem Dup.style {w W : World} {A : Option Addr} {n c : Nat} {x : Int} {N : Nat → RN} {bd bc : Nat} {g : RC} {q b2 o2 d2 a : Nat} (h : Dup w A n c x N bd bc g W q b2 o2 d2 N) (ha : a < n) (hg : g.node.ok) :
    DocBox (W.setCells b2 (o2 + a * 51 + 3) (g.node.style.map Lit.toCell)) w.heap.size (.slice none 0 0) (.int .i64 0) ∧ DocBox (W.setCells b2 (o2 + a * 51 + 3) (g.node.style.map Lit.toCell)) q (.slice (some ⟨b2, o2, none⟩) n d2) (.int .i64 x) ∧
      Copied (W.setCells b2 (o2 + a * 51 + 3) (g.node.style.map Lit.toCell)) b2 o2 n d2 x (setN N a { N a with style := g.node.style }) ∧ Below w.heap.size w (W.setCells b2 (o2 + a * 51 + 3) (g.node.style.map Lit.toCell)) := by
  have hlb := h.lb
  have hne := box_row h.bx h.copy
  have okA := h.copy.doc.1.1.1 a ha
  have hl : (g.node.style.map Lit.toCell).length = 47 := by rw [List.length_map]; exact hg.style_len
  refine ⟨h.chg.out.keep (setCells_other _ (by omega) _ _ _), h.bx.keep (setCells_other _ hne _ _ _), copied_cells (k := 3) h.copy ha _ (by omega) ?_ (fun j hj => by unfold setN; rw [if_neg hj]) (fun r hr => ?_), setCells_below (by omega) _ _ _ h.chg.below⟩
  · unfold setN
    rw [if_pos rfl]
    exact ok_of_parts hg.style hg.style_len okA.key okA.depth okA.kind okA.text
  · have e : setN N a { N a with style := g.node.style } a = { N a with style := g.node.style } := if_pos rfl
    rw [e]
    exact cells_style okA.style_len _ hg.style_len hr
theorem Dup.there {w W : World} {A : Option Addr} {n c : Nat} {x : Int} {N : Nat → RN} {bd bc : Nat} {g : RC} {q b2 o2 d2 a m : Nat} (h : Dup w A n c x N bd bc g W q b2 o2 d2 N) (ha : a < n) (hm : m = 47) : W.there b2 (o2 + a * 51 + 3) m := fun j hj => by
  refine ⟨?_, h.copy.free _⟩
  rw [Nat.add_assoc (o2 + a * 51), h.copy.cell ha (k := 3 + j) (by omega), List.getElem?_eq_getElem (by rw [(h.copy.doc.1.1.1 a ha).len]; omega)]
  rfl

set_option maxRecDepth 100000 in
set_option maxHeartbeats 4000000 in
theorem clo4_some (A : Option Addr) (n c : Nat) (x : Int) (N : Nat → RN) (bd bc : Nat) (g : RC) (hg : g.ok) (w : World) (a : Nat) (hF : foundN N n g.key 0 = some a) (r : Bool) (hr : mayB (canonL g.node.style) = r) (hn : n ≤ 300) (hd : DocBox w bd (.slice A n c) (.int .i64 x)) (hD : DocIn w A n c x N) (hc : ChBox w bc g) :
    Calls Try.prog 39 #[.pointer (some ⟨bd, 0, none⟩), .pointer (some ⟨bc, 0, none⟩)] w fun e w' => CloIs w (if r = true then .doc n x (setN N a { N a with style := g.node.style }) else .no 60) e w' ∧ Below w.heap.size w w' := by
  have ha : a < n := (found_some hF).2.1
  have P0 := Lib.hid (Chg.start hd hD hc)
  have HBD := Lib.hid hd.lt
  have HBC := Lib.hid hc.lt
  have HA : Hid (∀ b off, A = some ⟨b, off, none⟩ → 0 < n → b < w.heap.size) := Lib.hid (fun b off e h0 => by
    obtain ⟨b', off', e', hb, -⟩ := hD.1.1.2 h0
    rw [e] at e'
    simp only [Option.some.injEq, Addr.mk.injEq, and_true] at e'
    exact (show b < w.heap.size by rw [e'.1]; exact hb))
  have KF := Lib.hid (fun W (h : DocIn W A n c x N) => findM_any A n c x N g.key 0 W h hg.key.1 hg.key.2)
  rw [hF] at KF
  unfold FoundIs docV at KF
  have KC := Lib.hid (fun W (h : DocIn W A n c x N) => (copy_any5 A n c x N W h).mono (R' := fun e w' => ∃ b2 o2 d2, e = .returned (.agg #[.slice (some ⟨b2, o2, none⟩) n d2, .int .i64 x]) ∧ Copied w' b2 o2 n d2 x N ∧ W.heap.size ≤ b2 ∧ Below W.heap.size W w') (by
    rintro e w' ⟨B, d, rfl, h1, h2, h3⟩
    obtain ⟨b, off, cs, rfl, h4, h5⟩ := h2 (by omega)
    exact ⟨b, off, d, rfl, ⟨h1, cs, h5⟩, h4, h3⟩))
  unfold docV at KC
  have kc : g.cells[1]? = some (.int .i64 g.key) := rfl
  have KG := Lib.hid (fun W (h : Chg w A n c x N bd bc g W) => h.cells kc)
  have HO := Lib.hid hg.node
  clear hd hD hc hg hF kc
  generalize g.key = key at KF KG
  go_enter Try.func39, Try.ntmps39
  go_wp2_with fail
  generalize w.alloc (.cells #[.slice none 0 0, .int .i64 0] 24) = W0 at P0 ⊢
  have P0d := Lib.hid P0.out.drew
  have P0ad := Lib.hid (fun o => (P0.out.alloc o).drew)
  have LQ0 := Lib.hid P0.out.size
  go_cut [3, 4] from 5 (fun p3 p4 wx => ∃ q b2 o2 d2 : Nat, p3 = .pointer (some ⟨q, 0, none⟩) ∧ p4 = .int .i64 (a : Nat) ∧ Hid (Dup w A n c x N bd bc g wx q b2 o2 d2 N))
  case first =>
    go_region_held3 (fun W' => W'.cell? ⟨bd, 0, none⟩ = some (.slice A n c) ∧ W'.cell? ⟨bd, 1, none⟩ = some (.int .i64 x) ∧ W'.cell? ⟨bc, 1, none⟩ = some (.int .i64 key))
      (first | ((refine KG.out _ ?_); (repeat (first | (with_reducible exact P2.out) | (with_reducible exact P1.out) | (with_reducible exact P0.out) | (with_reducible refine Chg.drew ?_) | (with_reducible refine Chg.alloc ?_ _) | (with_reducible refine Chg.set ?_ HBD.out HBC.out HA.out _ _ ?_) | (with_reducible exact LQ0.out) | (with_reducible exact LQ1.out) | (with_reducible exact LQ2.out)))))
      (first
      | (go_at_call 40; (with_reducible refine (KC.out _ P0d.out.doc).mono ?_); rintro e w1 ⟨b2, o2, d2, rfl, hc, hl, hb⟩; have P1 := Lib.hid (P0d.out.next hb); have C1 := Lib.hid hc; have LB := Lib.hid (Nat.le_trans P0d.out.size hl); have LQ1 := Lib.hid P1.out.size; have P1a := Lib.hid (fun o => P1.out.alloc o); (try (have A1 : Hid (DocBox w1 W0.heap.size (.slice none 0 0) (.int .i64 0)) := Lib.hid (DocBox.below (by first | ((repeat (first | (with_reducible exact A1.out) | ((with_reducible apply docBox_new); first | (with_reducible rfl) | (simp; done)) | (with_reducible apply DocBox.drew) | (with_reducible apply DocBox.alloc))); done) | fail) hb))); clear hc hl hb)
      | (go_at_call 40; (with_reducible refine (KC.out _ (P0ad.out _).doc).mono ?_); rintro e w1 ⟨b2, o2, d2, rfl, hc, hl, hb⟩; have P1 := Lib.hid ((P0ad.out _).next hb); have C1 := Lib.hid hc; have LB := Lib.hid (Nat.le_trans (P0ad.out _).size hl); have LQ1 := Lib.hid P1.out.size; have P1a := Lib.hid (fun o => P1.out.alloc o); (try (have A1 : Hid (DocBox w1 W0.heap.size (.slice none 0 0) (.int .i64 0)) := Lib.hid (DocBox.below (by first | ((repeat (first | (with_reducible exact A1.out) | ((with_reducible apply docBox_new); first | (with_reducible rfl) | (simp; done)) | (with_reducible apply DocBox.drew) | (with_reducible apply DocBox.alloc))); done) | fail) hb))); clear hc hl hb)
      | (go_at_call 41; (with_reducible refine (KF.out _ P1.out.doc).mono ?_); rintro e w2 ⟨rfl, hb⟩; have P2 := Lib.hid (P1.out.next hb); have LQ2 := Lib.hid P2.out.size; have C2 : Hid (Copied w2 b2 o2 n d2 x N) := Lib.hid (Copied.below (by repeat (first | (with_reducible exact C1.out) | (with_reducible refine Copied.alloc ?_ _) | (with_reducible refine Copied.drew ?_))) hb); (try (have A2 : Hid (DocBox w2 W0.heap.size (.slice none 0 0) (.int .i64 0)) := Lib.hid (DocBox.below (by first | ((repeat (first | (with_reducible exact A1.out) | (with_reducible apply DocBox.drew) | (with_reducible apply DocBox.alloc))); done) | fail) hb); have a20 := A2.out.c0; have a21 := A2.out.c1; have a2f := A2.out.f0; have a2g := A2.out.f1)); (try (have E2 : Hid (DocBox w2 w1.heap.size (.slice none 0 0) (.int .i64 0)) := Lib.hid (DocBox.below (by first | ((repeat (first | ((with_reducible apply docBox_new); first | (with_reducible rfl) | (simp; done)) | (with_reducible apply DocBox.drew))); done) | fail) hb); have e20 := E2.out.c0; have e21 := E2.out.c1; have e2f := E2.out.f0; have e2g := E2.out.f1)); clear hb)
      | (go_at_call 41; (with_reducible refine (KF.out _ (P1a.out _).doc).mono ?_); rintro e w2 ⟨rfl, hb⟩; have P2 := Lib.hid ((P1a.out _).next hb); have LQ2 := Lib.hid P2.out.size; have C2 : Hid (Copied w2 b2 o2 n d2 x N) := Lib.hid (Copied.below (by repeat (first | (with_reducible exact C1.out) | (with_reducible refine Copied.alloc ?_ _) | (with_reducible refine Copied.drew ?_))) hb); (try (have A2 : Hid (DocBox w2 W0.heap.size (.slice none 0 0) (.int .i64 0)) := Lib.hid (DocBox.below (by first | ((repeat (first | (with_reducible exact A1.out) | (with_reducible apply DocBox.drew) | (with_reducible apply DocBox.alloc))); done) | fail) hb); have a20 := A2.out.c0; have a21 := A2.out.c1; have a2f := A2.out.f0; have a2g := A2.out.f1)); (try (have E2 : Hid (DocBox w2 w1.heap.size (.slice none 0 0) (.int .i64 0)) := Lib.hid (DocBox.below (by first | ((repeat (first | ((with_reducible apply docBox_new); first | (with_reducible rfl) | (simp; done)) | (with_reducible apply DocBox.drew))); done) | fail) hb); have e20 := E2.out.c0; have e21 := E2.out.c1; have e2f := E2.out.f0; have e2g := E2.out.f1)); clear hb))
    all_goals
      rename_i hS
      clear hS
      have cn := C2.out
      go_wp2_with fail
      go_meet
    · exact ⟨_, b2, o2, d2, rfl, rfl, Lib.hid ⟨P2.out.alloc _, cn.alloc _, docBox_new rfl, LQ2.out, LB.out⟩⟩
    · exact ⟨_, b2, o2, d2, rfl, rfl, Lib.hid ⟨(P2.out.set HBD.out HBC.out HA.out _ _ LQ1.out).set HBD.out HBC.out HA.out _ _ LQ1.out, (cn.set (fun e => box_row E2.out cn e) _).set (fun e => box_row E2.out cn e) _, E2.out.put _ _, LQ1.out, LB.out⟩⟩
    · exact ⟨_, b2, o2, d2, rfl, rfl, Lib.hid ⟨(P2.out.set HBD.out HBC.out HA.out _ _ LQ0.out).set HBD.out HBC.out HA.out _ _ LQ0.out, (cn.set (fun e => box_row A2.out cn e) _).set (fun e => box_row A2.out cn e) _, A2.out.put _ _, LQ0.out, LB.out⟩⟩
  case rest =>
    obtain ⟨q, b2, o2, d2, rfl, rfl, DU⟩ := hcut
    obtain ⟨wd, hwd⟩ : ∃ wd, wd = wc := ⟨_, rfl⟩
    subst hwd
    clear KF KC KG P0 P0d P0ad LQ0
    have q0 := DU.out.bx.c0
    have q1 := DU.out.bx.c1
    have SR := Lib.hid DU.out.chg.cb.style
    have LS := Lib.hid (style_isize HO.out)
    have S1 := Lib.hid (show ∀ u ∈ g.node.style.map Lit.toCell, u.oneCell' = true by
      intro u hu
      obtain ⟨l, -, rfl⟩ := List.mem_map.1 hu
      exact toCell_one l)
    have SL : Hid ((g.node.style.map Lit.toCell).length = 47) := Lib.hid (by rw [List.length_map]; exact HO.out.style_len)
    have C := Lib.hid (fun W => sty_told g.node HO.out W r hr)
    have DS := Lib.hid (fun W (h : Dup w A n c x N bd bc g W q b2 o2 d2 N) => And.intro h.chg.cb.style (h.style ha HO.out))
    have haz : (a : Int) < n := by omega
    have ha0 : (0 : Int) ≤ a := by omega
    clear hr
    generalize g.node.style.map Lit.toCell = S at SR LS S1 SL C DS
    cases r with
    | false =>
      go_wp2_with (first
        | ((with_reducible change wpList _ _ _ (Oper.mk (some 13) _ _ _ _ _ :: _) _ _); refine wpList_load_mid rfl 30 _ rfl bc 7 rfl S _ SR.out Try.underlying30 rfl LS.out ?_)
        | (go_at_call 35; refine (C.out _).mono ?_; rintro e w1 ⟨rfl, hb⟩; have B1 := Lib.hid (DU.out.chg.below.trans (hb.mono DU.out.chg.below.size)); clear hb)
        | (go_at_call 24; refine (demand_no 60 _).mono ?_; rintro e w2 ⟨rfl, rfl⟩; unfold wrong))
      exact ⟨rfl, rfl, B1.out⟩
    | true =>
      go_wp2_with (first
        | ((with_reducible change wpList _ _ _ (Oper.mk (some 13) _ _ _ _ _ :: _) _ _); refine wpList_load_mid rfl 30 _ rfl bc 7 rfl S _ SR.out Try.underlying30 rfl LS.out ?_)
        | (go_at_call 35; refine (C.out _).mono ?_; rintro e w1 ⟨rfl, hb⟩; have D1 := Lib.hid (DU.out.next hb); have SR1 := Lib.hid (DS.out _ D1.out).1; have XS := Lib.hid (DS.out _ D1.out).2; have TH := Lib.hid (D1.out.there ha (m := S.toArray.size) (by rw [List.size_toArray]; exact SL.out)); have z0 := D1.out.bx.c0; have z1 := D1.out.bx.c1; clear hb q0 q1)
        | (go_at_call 24; refine (demand_yes 60 _).mono ?_; rintro e w2 ⟨rfl, rfl⟩)
        | ((with_reducible change wpList _ _ _ (Oper.mk (some 21) _ _ _ _ _ :: _) _ _); refine wpList_load_mid rfl 30 _ rfl bc 7 rfl S _ SR1.out Try.underlying30 rfl LS.out ?_)
        | ((with_reducible change wpList _ _ _ (Oper.mk none (.store 30 _ _) _ _ _ _ :: _) _ _); refine wpList_store_mid rfl 30 _ _ rfl b2 (o2 + a * 51 + 3) S.toArray rfl rfl TH.out (by rw [List.size_toArray]; exact LS.out) (all_oneCell_toArray S1.out) ?_; (try dsimp only); obtain ⟨ON, QN, CN, BN⟩ := XS.out; have o0 := ON.c0; have o1 := ON.c1; have of0 := ON.f0; have of1 := ON.f1; have n0 := QN.c0; have n1 := QN.c1; replace ON := Lib.hid ON; replace QN := Lib.hid QN; replace CN := Lib.hid CN; replace BN := Lib.hid BN; clear z0 z1 XS))
      have CP := (CN.out.set (p := ⟨w.heap.size, 0, none⟩) (by show w.heap.size ≠ b2; have := DU.out.lb; omega) (.slice (some ⟨b2, o2, none⟩) n d2)).set (p := ⟨w.heap.size, 1, none⟩) (by show w.heap.size ≠ b2; have := DU.out.lb; omega) (.int .i64 x)
      refine bodyPost_ret (results_cell_row rfl _ _ w.heap.size _ _ _ _ rfl (ON.out.put _ _) Try.underlying24 rfl (by kernel_rfl)) rfl ?_
      refine ⟨⟨some ⟨b2, o2, none⟩, d2, rfl, CP.doc, fun _ => let ⟨cs, e⟩ := CP.own; ⟨b2, o2, cs, rfl, by have := DU.out.lb; omega, e⟩⟩, ?_⟩
      exact (BN.out.setCell (p := ⟨w.heap.size, 0, none⟩) (Nat.le_refl _) _).setCell (p := ⟨w.heap.size, 1, none⟩) (Nat.le_refl _) _
end

section
open Go.RowKit Go.WideShapes

/-- a node in a variable -/
def NodeBox (W : World) (b : Nat) (v : RN) : Prop := W.heap[b]? = some (.cells v.cells.toArray 32 (0, 0))
section
variable {W W' : World} {b : Nat} {v : RN}
theorem NodeBox.lt (h : NodeBox W b v) : b < W.heap.size := (Array.getElem?_eq_some_iff.1 h).1
theorem NodeBox.below (h : NodeBox W b v) (hb : Below W.heap.size W W') : NodeBox W' b v := (hb.block b h.lt).trans h
theorem NodeBox.set (h : NodeBox W b v) {q : Addr} (hq : q.block ≠ b) (u : Value) : NodeBox (W.setCell q u) b v := (heap_set u (fun e => hq e.symm)).trans h
theorem NodeBox.cell (h : NodeBox W b v) (k : Nat) : W.cell? ⟨b, k, none⟩ = v.cells[k]? := by
  unfold NodeBox at h
  simp [World.cell?, h]
theorem NodeBox.free (h : NodeBox W b v) (k : Nat) : W.frozen? ⟨b, k, none⟩ = false := by
  unfold NodeBox at h
  simp [World.frozen?, h]
theorem NodeBox.range (h : NodeBox W b v) : W.rangeAt b 0 v.cells := fun j u hu => by rw [Nat.zero_add, h.cell]; exact hu
theorem NodeBox.style (h : NodeBox W b v) : W.rangeAt b 3 (v.style.map Lit.toCell) := fun j u hu => by rw [h.cell]; exact style_at hu
theorem NodeBox.new (w : World) (v : RN) : NodeBox (w.alloc (.cells v.cells.toArray 32)) w.heap.size v := heap_alloc_new w _
theorem NodeBox.key (h : NodeBox W b v) (x : Int) : NodeBox (W.setCell ⟨b, 0, none⟩ (.int .i64 x)) b { v with key := x } := by
  unfold NodeBox at *
  simp [World.setCell, Array.getElem?_modify, h, RN.cells, RN.lits, Lit.toCell]
theorem NodeBox.nodes (h : NodeBox W b v) (hv : v.ok) : Nodes W (some ⟨b, 0, none⟩) 1 fun _ => v :=
  ⟨fun _ _ => hv, fun _ => ⟨b, 0, rfl, h.lt, fun j hj k _ => by
    obtain rfl : j = 0 := by omega
    rw [Nat.zero_mul, Nat.add_zero, Nat.zero_add]
    exact h.cell k⟩⟩
end
theorem DocBox.next1 {W : World} {q : Nat} {a b : Value} (h : DocBox W q a b) (v : Value) : DocBox (W.setCell ⟨q, 1, none⟩ v) q a v := by
  unfold DocBox at *
  simp [World.setCell, Array.getElem?_modify, h]
/-- where the walk of an insertion stands -/
structure Inserting (w : World) (A : Option Addr) (n c : Nat) (x : Int) (N : Nat → RN) (bd bc : Nat) (g : RC) (W : World) (nb : Nat) (V : RN) : Prop where
  chg : Chg w A n c x N bd bc g W
  node : NodeBox W nb V
  lo : w.heap.size + 1 ≤ nb
theorem Inserting.next {w W W' : World} {A : Option Addr} {n c : Nat} {x : Int} {N : Nat → RN} {bd bc : Nat} {g : RC} {nb : Nat} {V : RN} (h : Inserting w A n c x N bd bc g W nb V) (hb : Below W.heap.size W W') : Inserting w A n c x N bd bc g W' nb V :=
  ⟨h.chg.next hb, h.node.below hb, h.lo⟩

/-- what an insertion comes to, once the node is known -/
def InsR (N : Nat → RN) (n : Nat) (x : Int) (g : RC) (U : RN) : Out7 := match gapN N n g.parent g.at_ with
  | none => .no 70
  | some (u, p) => if mayB (canonL U.style) = true then .doc (n + 1) (x + 1) (putN N p 1 fun _ => { U with key := x, depth := (N u).depth + 1 }) else .no 60

set_option maxRecDepth 100000 in
set_option maxHeartbeats 4000000 in
theorem clo1_core (A : Option Addr) (n c : Nat) (x : Int) (N : Nat → RN) (bd bc : Nat) (g : RC) (hg : g.ok) (w : World) (hS : Shape n x N) (hd : DocBox w bd (.slice A n c) (.int .i64 x)) (hD : DocIn w A n c x N) (hc : ChBox w bc g)
    (U : RN) (hU : freshN g.node = some U) (okU : U.ok) (u0 : U.depth = 0)
    (hf : Instr.fill (fun i => some (i * 51, 51)) ((Array.range (1 * 51)).map ((box 0 0).val.cells[· % (box 0 0).val.cells.size]!)) [(0, .agg ({ U with key := x } : RN).cells.toArray)] = some ({ U with key := x } : RN).cells.toArray) :
    Calls Try.prog 32 #[.pointer (some ⟨bc, 0, none⟩), .pointer (some ⟨bd, 0, none⟩)] w fun e w' => CloIs w (InsR N n x g U) e w' ∧ Below w.heap.size w w' := by
  have hx := hS.next
  have hx1 : 1 ≤ x := by have := hS.key 0 hS.some_; omega
  have hn := hS.most
  have P0 := Lib.hid (Chg.start hd hD hc)
  have HBD := Lib.hid hd.lt
  have HBC := Lib.hid hc.lt
  have HA : Hid (∀ b off, A = some ⟨b, off, none⟩ → 0 < n → b < w.heap.size) := Lib.hid (fun b off e h0 => by
    obtain ⟨b', off', e', hb, -⟩ := hD.1.1.2 h0
    rw [e] at e'
    simp only [Option.some.injEq, Addr.mk.injEq, and_true] at e'
    exact (show b < w.heap.size by rw [e'.1]; exact hb))
  have SD := Lib.hid (shape_deep hS)
  have KF := Lib.hid (fun W => fresh_any g.node hg.node W)
  rw [hU] at KF
  unfold FreshIs RN.val at KF
  obtain ⟨V, hV⟩ : ∃ V : RN, { U with key := x } = V := ⟨_, rfl⟩
  have okV : V.ok := by rw [← hV]; exact node_ok okU (by omega) okU.depth
  have hVV := Lib.hid hV.symm
  have hVU := Lib.hid u0
  have v0 : V.depth = 0 := by rw [← hV]; exact u0
  have vs : V.style = U.style := by rw [← hV]
  have vsH := Lib.hid vs
  rw [hV] at hf
  have KP := Lib.hid (fun (b : Nat) W (h : DocIn W A n c x N) (hm : Nodes W (some ⟨b, 0, none⟩) 1 fun _ => V) => put_any A n c x N ⟨b, 0, none⟩ 1 1 (fun _ => V) g.parent g.at_ W h hm (by omega) (by omega) hg.parent hg.at_ SD.out (fun _ _ => by rw [v0]; omega))
  unfold docV at KP
  have kp : g.cells[2]? = some (.int .i64 g.parent) := rfl
  have ka : g.cells[3]? = some (.int .i64 g.at_) := rfl
  have KK := Lib.hid (fun W (h : Chg w A n c x N bd bc g W) => And.intro (h.cb.cell kp) (h.cb.cell ka))
  have IR : Hid (InsR N n x g U = match gapN N n g.parent g.at_ with
    | none => .no 70
    | some (u, p) => if mayB (canonL U.style) = true then .doc (n + 1) (x + 1) (putN N p 1 fun _ => { U with key := x, depth := (N u).depth + 1 }) else .no 60) := Lib.hid rfl
  have NR := Lib.hid P0.out.cb.node
  have NL : Hid ((Try.prog.info? 32).map (·.size) = some g.node.cells.length) := Lib.hid (by rw [hg.node.len]; exact node_isize)
  have UL : Hid (U.cells.length = 51) := Lib.hid okU.len
  have VL : Hid ((Try.prog.info? 32).map (·.size) = some V.cells.length) := Lib.hid (by rw [okV.len]; exact node_isize)
  have U1 := Lib.hid U.cells_one
  have SL := Lib.hid (style_isize okV)
  have SM := Lib.hid (fun W r (hr : mayB (canonL V.style) = r) => sty_told V okV W r hr)
  have OKV := Lib.hid okV
  have NST := Lib.hid (fun (W : World) b (h : NodeBox W b V) => h.style)
  have NU : Hid (∀ W : World, NodeBox (W.alloc (.cells U.cells.toArray 32)) W.heap.size U) := Lib.hid (fun W => NodeBox.new W U)
  have NV : Hid (∀ (W : World) (b : Nat), NodeBox W b U → NodeBox (W.setCell ⟨b, 0, none⟩ (.int .i64 x)) b V) := Lib.hid (fun W b h => by rw [← hV]; exact h.key x)
  have U0 : Hid (U.cells[0]? = some (.int .i64 U.key)) := Lib.hid rfl
  have HF := Lib.hid hf
  obtain ⟨ie, hie, hsz, hz, hby⟩ := node_info
  have HI := Lib.hid (And.intro hie (And.intro hsz hz))
  have d0 := P0.out.db.c0
  have d1 := P0.out.db.c1
  clear hd hD hc hg hS hU okU u0 hf kp ka okV hie hsz hz hby hV
  generalize hGN : gapN N n g.parent g.at_ = G at KP IR
  clear hGN
  generalize g.parent = par at KK KP
  generalize g.at_ = att at KK KP
  generalize InsR N n x g U = R at IR ⊢
  generalize hX : g.node.cells = X at NR NL KF
  have wx : IntKind.i64.wrap (x + 1) = x + 1 := IntWalk.i64_in _ (by omega)
  have HXB := Lib.hid (And.intro hx hx1)
  clear hx hx1
  cases G with
  | none =>
    obtain rfl : R = .no 70 := by rw [IR.out]
    clear IR
    go_enter Try.func32, Try.ntmps32
    go_wp2_with (first
      | ((with_reducible change wpList _ _ _ (Oper.mk (some 6) _ _ _ _ _ :: _) _ _); refine wpList_load_mid rfl 32 _ rfl bc 4 rfl X _ NR.out Try.underlying32 rfl NL.out ?_)
      | (go_at_call 33; refine (KF.out _).mono ?_; rintro e w1 ⟨rfl, hb⟩; have P1 := Lib.hid (P0.out.next hb); clear hb d0 d1)
      | ((with_reducible change wpList _ _ _ (Oper.mk (some 3) _ _ _ _ _ :: _) _ _); refine wpList_alloc_node rfl rfl ?_)
      | ((with_reducible change wpList _ _ _ (Oper.mk none (.store 32 _ _) _ _ _ _ :: _) _ _); refine wpList_store_new rfl 32 _ _ rfl nodeZero U.cells.toArray rfl rfl (by rw [nodeZero_size, List.size_toArray, UL.out]) (by rw [List.size_toArray, UL.out]; exact node_isize) (by simpa using U1.out) ?_; have I2 : Hid (Inserting w A n c x N bd bc g (w1.alloc (.cells U.cells.toArray 32)) w1.heap.size U) := Lib.hid ⟨P1.out.alloc _, NU.out w1, P1.out.size⟩; obtain ⟨nb, hnb⟩ : ∃ nb, w1.heap.size = nb := ⟨_, rfl⟩; rw [hnb] at I2 ⊢; generalize w1.alloc (.cells U.cells.toArray 32) = w2 at I2 ⊢; have d1 := I2.out.chg.db.c1; have n0 := (I2.out.node.cell 0).trans U0.out; have nf := I2.out.node.free 0; clear hnb)
      | ((with_reducible change wpList _ _ _ (Oper.mk (some 11) _ _ _ _ _ :: _) _ _); have I3 : Hid (Inserting w A n c x N bd bc g (w2.setCell ⟨nb, 0, none⟩ (.int .i64 x)) nb V) := Lib.hid ⟨I2.out.chg.set HBD.out HBC.out HA.out _ _ I2.out.lo, NV.out _ _ I2.out.node, I2.out.lo⟩; clear d1 n0 nf; generalize w2.setCell ⟨nb, 0, none⟩ (.int .i64 x) = w3 at I3 ⊢; refine wpList_load_row rfl 24 _ rfl bd rfl _ _ _ _ I3.out.chg.db Try.underlying24 rfl (by kernel_rfl) ?_)
      | ((with_reducible change wpList _ _ _ (Oper.mk (some 12) _ _ _ _ _ :: _) _ _); refine wpList_load_mid rfl 32 _ rfl nb 0 rfl V.cells _ I3.out.node.range Try.underlying32 rfl VL.out ?_)
      | ((with_reducible change wpList _ _ _ (Oper.mk (some 13) _ _ _ _ _ :: _) _ _); refine wpList_buildSlice rfl 22 32 1 _ rfl V.cells.toArray ie (box 0 0).val Try.underlying22 HI.out.1 HI.out.2.2 (by rw [HI.out.2.1]; omega) (by rw [HI.out.2.1]; omega) (by rw [HI.out.2.1]; simp only [List.map_toArray, List.map_cons, List.map_nil]; exact HF.out) ?_; have I4 : Hid (Inserting w A n c x N bd bc g (w3.alloc (.cells V.cells.toArray 32)) nb V) := Lib.hid (I3.out.next ((Below.refl _ _).alloc (Nat.le_refl _) _)); have N4 : Hid (NodeBox (w3.alloc (.cells V.cells.toArray 32)) w3.heap.size V) := Lib.hid (NodeBox.new w3 V); obtain ⟨ns, hns⟩ : ∃ ns, w3.heap.size = ns := ⟨_, rfl⟩; rw [hns] at N4 ⊢; generalize w3.alloc (.cells V.cells.toArray 32) = w4 at I4 N4 ⊢; have k2 := (KK.out _ I4.out.chg).1; have k3 := (KK.out _ I4.out.chg).2; clear hns)
      | (go_at_call 34; refine (KP.out ns w4 I4.out.chg.doc (N4.out.nodes OKV.out)).mono ?_; rintro e w5 ⟨hr, hb⟩; have B5 := Lib.hid (I4.out.chg.below.trans (hb.mono I4.out.chg.below.size)); unfold PutIs wrong at hr; subst hr; clear hb k2 k3))
    exact ⟨rfl, rfl, B5.out⟩
  | some up =>
    obtain ⟨u, p⟩ := up
    have hle : levelN (fun _ => V) ((N u).depth + 1) = fun _ => { U with key := x, depth := (N u).depth + 1 } := by
      funext j
      unfold levelN
      rw [hVV.out]
      dsimp only
      rw [hVU.out]
      congr 1
      omega
    unfold PutIs at KP
    dsimp only at KP
    rw [hle] at KP
    clear hle
    obtain ⟨r, hr⟩ : ∃ r, mayB (canonL V.style) = r := ⟨_, rfl⟩
    have IR : Hid (R = if r = true then .doc (n + 1) (x + 1) (putN N p 1 fun _ => { U with key := x, depth := (N u).depth + 1 }) else .no 60) := Lib.hid (by rw [IR.out, ← hr, vsH.out])
    have SM := Lib.hid (fun W => SM.out W r hr)
    clear hr
    generalize V.style.map Lit.toCell = S at SM SL NST
    generalize (fun _ : Nat => ({ U with key := x, depth := (N u).depth + 1 } : RN)) = MM at KP IR
    cases r with
    | false =>
      obtain rfl : R = .no 60 := IR.out
      clear IR
      go_enter Try.func32, Try.ntmps32
      go_wp2_with (first
        | ((with_reducible change wpList _ _ _ (Oper.mk (some 6) _ _ _ _ _ :: _) _ _); refine wpList_load_mid rfl 32 _ rfl bc 4 rfl X _ NR.out Try.underlying32 rfl NL.out ?_)
        | (go_at_call 33; refine (KF.out _).mono ?_; rintro e w1 ⟨rfl, hb⟩; have P1 := Lib.hid (P0.out.next hb); clear hb d0 d1)
        | ((with_reducible change wpList _ _ _ (Oper.mk (some 3) _ _ _ _ _ :: _) _ _); refine wpList_alloc_node rfl rfl ?_)
        | ((with_reducible change wpList _ _ _ (Oper.mk none (.store 32 _ _) _ _ _ _ :: _) _ _); refine wpList_store_new rfl 32 _ _ rfl nodeZero U.cells.toArray rfl rfl (by rw [nodeZero_size, List.size_toArray, UL.out]) (by rw [List.size_toArray, UL.out]; exact node_isize) (by simpa using U1.out) ?_; have I2 : Hid (Inserting w A n c x N bd bc g (w1.alloc (.cells U.cells.toArray 32)) w1.heap.size U) := Lib.hid ⟨P1.out.alloc _, NU.out w1, P1.out.size⟩; obtain ⟨nb, hnb⟩ : ∃ nb, w1.heap.size = nb := ⟨_, rfl⟩; rw [hnb] at I2 ⊢; generalize w1.alloc (.cells U.cells.toArray 32) = w2 at I2 ⊢; have d1 := I2.out.chg.db.c1; have n0 := (I2.out.node.cell 0).trans U0.out; have nf := I2.out.node.free 0; clear hnb)
        | ((with_reducible change wpList _ _ _ (Oper.mk (some 11) _ _ _ _ _ :: _) _ _); have I3 : Hid (Inserting w A n c x N bd bc g (w2.setCell ⟨nb, 0, none⟩ (.int .i64 x)) nb V) := Lib.hid ⟨I2.out.chg.set HBD.out HBC.out HA.out _ _ I2.out.lo, NV.out _ _ I2.out.node, I2.out.lo⟩; clear d1 n0 nf; generalize w2.setCell ⟨nb, 0, none⟩ (.int .i64 x) = w3 at I3 ⊢; refine wpList_load_row rfl 24 _ rfl bd rfl _ _ _ _ I3.out.chg.db Try.underlying24 rfl (by kernel_rfl) ?_)
        | ((with_reducible change wpList _ _ _ (Oper.mk (some 12) _ _ _ _ _ :: _) _ _); refine wpList_load_mid rfl 32 _ rfl nb 0 rfl V.cells _ I3.out.node.range Try.underlying32 rfl VL.out ?_)
        | ((with_reducible change wpList _ _ _ (Oper.mk (some 13) _ _ _ _ _ :: _) _ _); refine wpList_buildSlice rfl 22 32 1 _ rfl V.cells.toArray ie (box 0 0).val Try.underlying22 HI.out.1 HI.out.2.2 (by rw [HI.out.2.1]; omega) (by rw [HI.out.2.1]; omega) (by rw [HI.out.2.1]; simp only [List.map_toArray, List.map_cons, List.map_nil]; exact HF.out) ?_; have I4 : Hid (Inserting w A n c x N bd bc g (w3.alloc (.cells V.cells.toArray 32)) nb V) := Lib.hid (I3.out.next ((Below.refl _ _).alloc (Nat.le_refl _) _)); have N4 : Hid (NodeBox (w3.alloc (.cells V.cells.toArray 32)) w3.heap.size V) := Lib.hid (NodeBox.new w3 V); obtain ⟨ns, hns⟩ : ∃ ns, w3.heap.size = ns := ⟨_, rfl⟩; rw [hns] at N4 ⊢; generalize w3.alloc (.cells V.cells.toArray 32) = w4 at I4 N4 ⊢; have k2 := (KK.out _ I4.out.chg).1; have k3 := (KK.out _ I4.out.chg).2; clear hns)
        | (go_at_call 34; refine (KP.out ns w4 I4.out.chg.doc (N4.out.nodes OKV.out)).mono ?_; rintro e w5 ⟨⟨B, d, rfl, hn5⟩, hb⟩; have I5 := Lib.hid (I4.out.next hb); have D5 := Lib.hid (hn5.lower I4.out.chg.below.size); have HQ5 := Lib.hid (hn5.apart (q := w.heap.size) (by have := I4.out.chg.size; omega)); clear hb k2 k3 hn5; unfold docV)
        | ((with_reducible change wpList _ _ _ (Oper.mk (some 24) _ _ _ _ _ :: _) _ _); have hb6 : Below w5.heap.size w5 (w5.alloc (.cells #[.slice B (n + 1) d, .int .i64 (x + 1)] 24)) := (Below.refl _ _).alloc (Nat.le_refl _) _; have I6 := Lib.hid (I5.out.next hb6); have D6 := Lib.hid (D5.out.below hb6); have E6 : Hid (DocBox (w5.alloc (.cells #[.slice B (n + 1) d, .int .i64 (x + 1)] 24)) w5.heap.size (.slice B (n + 1) d) (.int .i64 (x + 1))) := Lib.hid (docBox_new rfl); clear hb6; obtain ⟨cb, hcb⟩ : ∃ cb, w5.heap.size = cb := ⟨_, rfl⟩; rw [hcb] at E6 ⊢; clear hcb; generalize w5.alloc (.cells #[.slice B (n + 1) d, .int .i64 (x + 1)] 24) = w6 at I6 D6 E6 ⊢; refine wpList_load_mid rfl 30 _ rfl nb 3 rfl S _ (NST.out _ _ I6.out.node) Try.underlying30 rfl SL.out ?_)
        | (go_at_call 35; refine (SM.out _).mono ?_; rintro e w7 ⟨rfl, hb⟩; have I7 := Lib.hid (I6.out.next hb); have D7 := Lib.hid (D6.out.below hb); have E7 := Lib.hid (E6.out.below hb); have e0 := E7.out.c0; have e1 := E7.out.c1; have o0 := I7.out.chg.out.c0; have o1 := I7.out.chg.out.c1; have of0 := I7.out.chg.out.f0; have of1 := I7.out.chg.out.f1; clear hb)
        | (go_at_call 24; refine (demand_no 60 _).mono ?_; rintro e w8 ⟨rfl, rfl⟩; unfold wrong))
      exact ⟨rfl, rfl, I7.out.chg.below⟩
    | true =>
      obtain rfl : R = .doc (n + 1) (x + 1) (putN N p 1 MM) := IR.out
      clear IR
      go_enter Try.func32, Try.ntmps32
      go_wp2_with (first
        | ((with_reducible change wpList _ _ _ (Oper.mk (some 6) _ _ _ _ _ :: _) _ _); refine wpList_load_mid rfl 32 _ rfl bc 4 rfl X _ NR.out Try.underlying32 rfl NL.out ?_)
        | (go_at_call 33; refine (KF.out _).mono ?_; rintro e w1 ⟨rfl, hb⟩; have P1 := Lib.hid (P0.out.next hb); clear hb d0 d1)
        | ((with_reducible change wpList _ _ _ (Oper.mk (some 3) _ _ _ _ _ :: _) _ _); refine wpList_alloc_node rfl rfl ?_)
        | ((with_reducible change wpList _ _ _ (Oper.mk none (.store 32 _ _) _ _ _ _ :: _) _ _); refine wpList_store_new rfl 32 _ _ rfl nodeZero U.cells.toArray rfl rfl (by rw [nodeZero_size, List.size_toArray, UL.out]) (by rw [List.size_toArray, UL.out]; exact node_isize) (by simpa using U1.out) ?_; have I2 : Hid (Inserting w A n c x N bd bc g (w1.alloc (.cells U.cells.toArray 32)) w1.heap.size U) := Lib.hid ⟨P1.out.alloc _, NU.out w1, P1.out.size⟩; obtain ⟨nb, hnb⟩ : ∃ nb, w1.heap.size = nb := ⟨_, rfl⟩; rw [hnb] at I2 ⊢; generalize w1.alloc (.cells U.cells.toArray 32) = w2 at I2 ⊢; have d1 := I2.out.chg.db.c1; have n0 := (I2.out.node.cell 0).trans U0.out; have nf := I2.out.node.free 0; clear hnb)
        | ((with_reducible change wpList _ _ _ (Oper.mk (some 11) _ _ _ _ _ :: _) _ _); have I3 : Hid (Inserting w A n c x N bd bc g (w2.setCell ⟨nb, 0, none⟩ (.int .i64 x)) nb V) := Lib.hid ⟨I2.out.chg.set HBD.out HBC.out HA.out _ _ I2.out.lo, NV.out _ _ I2.out.node, I2.out.lo⟩; clear d1 n0 nf; generalize w2.setCell ⟨nb, 0, none⟩ (.int .i64 x) = w3 at I3 ⊢; refine wpList_load_row rfl 24 _ rfl bd rfl _ _ _ _ I3.out.chg.db Try.underlying24 rfl (by kernel_rfl) ?_)
        | ((with_reducible change wpList _ _ _ (Oper.mk (some 12) _ _ _ _ _ :: _) _ _); refine wpList_load_mid rfl 32 _ rfl nb 0 rfl V.cells _ I3.out.node.range Try.underlying32 rfl VL.out ?_)
        | ((with_reducible change wpList _ _ _ (Oper.mk (some 13) _ _ _ _ _ :: _) _ _); refine wpList_buildSlice rfl 22 32 1 _ rfl V.cells.toArray ie (box 0 0).val Try.underlying22 HI.out.1 HI.out.2.2 (by rw [HI.out.2.1]; omega) (by rw [HI.out.2.1]; omega) (by rw [HI.out.2.1]; simp only [List.map_toArray, List.map_cons, List.map_nil]; exact HF.out) ?_; have I4 : Hid (Inserting w A n c x N bd bc g (w3.alloc (.cells V.cells.toArray 32)) nb V) := Lib.hid (I3.out.next ((Below.refl _ _).alloc (Nat.le_refl _) _)); have N4 : Hid (NodeBox (w3.alloc (.cells V.cells.toArray 32)) w3.heap.size V) := Lib.hid (NodeBox.new w3 V); obtain ⟨ns, hns⟩ : ∃ ns, w3.heap.size = ns := ⟨_, rfl⟩; rw [hns] at N4 ⊢; generalize w3.alloc (.cells V.cells.toArray 32) = w4 at I4 N4 ⊢; have k2 := (KK.out _ I4.out.chg).1; have k3 := (KK.out _ I4.out.chg).2; clear hns)
        | (go_at_call 34; refine (KP.out ns w4 I4.out.chg.doc (N4.out.nodes OKV.out)).mono ?_; rintro e w5 ⟨⟨B, d, rfl, hn5⟩, hb⟩; have I5 := Lib.hid (I4.out.next hb); have D5 := Lib.hid (hn5.lower I4.out.chg.below.size); have HQ5 := Lib.hid (hn5.apart (q := w.heap.size) (by have := I4.out.chg.size; omega)); clear hb k2 k3 hn5; unfold docV)
        | ((with_reducible change wpList _ _ _ (Oper.mk (some 24) _ _ _ _ _ :: _) _ _); have hb6 : Below w5.heap.size w5 (w5.alloc (.cells #[.slice B (n + 1) d, .int .i64 (x + 1)] 24)) := (Below.refl _ _).alloc (Nat.le_refl _) _; have I6 := Lib.hid (I5.out.next hb6); have D6 := Lib.hid (D5.out.below hb6); have E6 : Hid (DocBox (w5.alloc (.cells #[.slice B (n + 1) d, .int .i64 (x + 1)] 24)) w5.heap.size (.slice B (n + 1) d) (.int .i64 (x + 1))) := Lib.hid (docBox_new rfl); clear hb6; obtain ⟨cb, hcb⟩ : ∃ cb, w5.heap.size = cb := ⟨_, rfl⟩; rw [hcb] at E6 ⊢; clear hcb; generalize w5.alloc (.cells #[.slice B (n + 1) d, .int .i64 (x + 1)] 24) = w6 at I6 D6 E6 ⊢; refine wpList_load_mid rfl 30 _ rfl nb 3 rfl S _ (NST.out _ _ I6.out.node) Try.underlying30 rfl SL.out ?_)
        | (go_at_call 35; refine (SM.out _).mono ?_; rintro e w7 ⟨rfl, hb⟩; have I7 := Lib.hid (I6.out.next hb); have D7 := Lib.hid (D6.out.below hb); have E7 := Lib.hid (E6.out.below hb); have e0 := E7.out.c0; have e1 := E7.out.c1; have o0 := I7.out.chg.out.c0; have o1 := I7.out.chg.out.c1; have of0 := I7.out.chg.out.f0; have of1 := I7.out.chg.out.f1; clear hb)
        | (go_at_call 24; refine (demand_yes 60 _).mono ?_; rintro e w8 ⟨rfl, rfl⟩))
      have DX : DocNew w w8 B (n + 1) d (x + 1) (putN N p 1 MM) := ⟨⟨D7.out.1.1, by have := HXB.out; omega, by have := HXB.out; omega⟩, D7.out.2⟩
      refine bodyPost_ret (results_cell_row rfl _ _ w.heap.size _ _ _ _ rfl (I7.out.chg.out.put _ _) Try.underlying24 rfl (by kernel_rfl)) rfl ?_
      refine ⟨⟨B, d, rfl, (DX.set 0 _ HQ5.out).set 1 _ HQ5.out⟩, ?_⟩
      exact (I7.out.chg.below.setCell (p := ⟨w.heap.size, 0, none⟩) (Nat.le_refl _) _).setCell (p := ⟨w.heap.size, 1, none⟩) (Nat.le_refl _) _
theorem fill_box (s : RS) (x : Int) : Instr.fill (fun i => some (i * 51, 51)) ((Array.range (1 * 51)).map ((box 0 0).val.cells[· % (box 0 0).val.cells.size]!)) [(0, .agg (⟨x, 0, 0, s.lits, []⟩ : RN).cells.toArray)] = some (⟨x, 0, 0, s.lits, []⟩ : RN).cells.toArray := by kernel_rfl
theorem fill_text (t : List UInt8) (x : Int) : Instr.fill (fun i => some (i * 51, 51)) ((Array.range (1 * 51)).map ((box 0 0).val.cells[· % (box 0 0).val.cells.size]!)) [(0, .agg (⟨x, 0, 1, noStyle, t⟩ : RN).cells.toArray)] = some (⟨x, 0, 1, noStyle, t⟩ : RN).cells.toArray := by kernel_rfl

set_option maxRecDepth 100000 in
set_option maxHeartbeats 4000000 in
theorem clo1_none (A : Option Addr) (n c : Nat) (x : Int) (N : Nat → RN) (bd bc : Nat) (g : RC) (hg : g.ok) (w : World) (hd : DocBox w bd (.slice A n c) (.int .i64 x)) (hD : DocIn w A n c x N) (hc : ChBox w bc g)
    (hU : freshN g.node = none) :
    Calls Try.prog 32 #[.pointer (some ⟨bc, 0, none⟩), .pointer (some ⟨bd, 0, none⟩)] w fun e w' => e = wrong 70 ∧ Below w.heap.size w w' := by
  have P0 := Lib.hid (Chg.start hd hD hc)
  have KF := Lib.hid (fun W => fresh_any g.node hg.node W)
  rw [hU] at KF
  unfold FreshIs RN.val at KF
  have NR := Lib.hid P0.out.cb.node
  have NL : Hid ((Try.prog.info? 32).map (·.size) = some g.node.cells.length) := Lib.hid (by rw [hg.node.len]; exact node_isize)
  clear hd hD hc hU hg
  generalize hX : g.node.cells = X at NR NL KF
  go_enter Try.func32, Try.ntmps32
  go_wp2_with (first
    | ((with_reducible change wpList _ _ _ (Oper.mk (some 6) _ _ _ _ _ :: _) _ _); refine wpList_load_mid rfl 32 _ rfl bc 4 rfl X _ NR.out Try.underlying32 rfl NL.out ?_)
    | (go_at_call 33; refine (KF.out _).mono ?_; rintro e w1 ⟨rfl, hb⟩; have P1 := Lib.hid (P0.out.next hb); clear hb; unfold wrong))
  exact ⟨rfl, rfl, P1.out.below⟩

theorem ins_none {N : Nat → RN} {n : Nat} {x : Int} {g : RC} (hk : g.kind = 1) (h : freshN g.node = none) : doneN StyOK N n x g = .no 70 := by
  unfold freshN at h
  have h0 : ¬ g.node.kind = 0 := fun e => by rw [if_pos e] at h; cases h
  rw [if_neg h0] at h
  have h1 : ¬ g.node.kind = 1 := fun e => by rw [if_pos e] at h; cases h
  unfold doneN insertedN
  rw [if_pos hk]
  cases gapN N n g.parent g.at_ with
  | none => rfl
  | some up =>
    obtain ⟨u, p⟩ := up
    dsimp only
    rw [if_neg h0, if_neg h1]
theorem ins_some {N : Nat → RN} {n : Nat} {x : Int} {g : RC} {U : RN} (hk : g.kind = 1) (h : freshN g.node = some U) : doneN StyOK N n x g = InsR N n x g U := by
  unfold doneN insertedN InsR
  rw [if_pos hk]
  cases gapN N n g.parent g.at_ with
  | none => rfl
  | some up =>
    obtain ⟨u, p⟩ := up
    dsimp only
    unfold freshN at h
    by_cases h0 : g.node.kind = 0
    · rw [if_pos h0] at h
      cases h
      rw [if_pos h0]
      by_cases hs : StyOK g.node.style
      · rw [if_pos hs, if_pos (show mayB (canonL g.node.style) = true from hs)]
      · rw [if_neg hs, if_neg (show ¬ mayB (canonL g.node.style) = true from hs)]
    · rw [if_neg h0] at h
      by_cases h1 : g.node.kind = 1
      · rw [if_pos h1] at h
        cases h
        rw [if_neg h0, if_pos h1, if_pos (show mayB (canonL noStyle) = true from sty_none)]
      · rw [if_neg h1] at h
        cases h

theorem clo1_any (A : Option Addr) (n c : Nat) (x : Int) (N : Nat → RN) (bd bc : Nat) (g : RC) (hg : g.ok) (hk : g.kind = 1) (w : World) (hS : Shape n x N) (hd : DocBox w bd (.slice A n c) (.int .i64 x)) (hD : DocIn w A n c x N) (hc : ChBox w bc g) :
    Calls Try.prog 32 #[.pointer (some ⟨bc, 0, none⟩), .pointer (some ⟨bd, 0, none⟩)] w fun e w' => CloIs w (doneN StyOK N n x g) e w' ∧ Below w.heap.size w w' := by
  cases hU : freshN g.node with
  | none =>
    rw [ins_none hk hU]
    exact clo1_none A n c x N bd bc g hg w hd hD hc hU
  | some U =>
    rw [ins_some hk hU]
    have hU' := hU
    unfold freshN at hU'
    by_cases h0 : g.node.kind = 0
    · rw [if_pos h0] at hU'
      cases hU'
      obtain ⟨s, e, -⟩ := hg.node.styled
      exact clo1_core A n c x N bd bc g hg w hS hd hD hc _ hU (ok_of_parts hg.node.style hg.node.style_len (by omega) (by omega) (by omega) (Nat.zero_le _)) rfl (by dsimp only; rw [e]; exact fill_box s x)
    · rw [if_neg h0] at hU'
      by_cases h1 : g.node.kind = 1
      · rw [if_pos h1] at hU'
        cases hU'
        exact clo1_core A n c x N bd bc g hg w hS hd hD hc _ hU (ok_of_parts noStyle_lits noStyle_len (by omega) (by omega) (by omega) hg.node.text) rfl (fill_text _ x)
      · rw [if_neg h1] at hU'
        cases hU'

theorem other_done {N : Nat → RN} {n : Nat} {x : Int} {g : RC} (hk : g.kind = 4 ∨ g.kind = 5) : doneN StyOK N n x g = match findN N n g.key with
    | none => .no 70
    | some a => otherN StyOK N n x g a := by
  unfold doneN
  rw [if_neg (by omega)]
  cases findN N n g.key with
  | none => rfl
  | some a =>
    dsimp only
    rw [if_neg (by omega), if_neg (by omega), if_pos hk]
theorem clo5_any (A : Option Addr) (n c : Nat) (x : Int) (N : Nat → RN) (bd bc : Nat) (g : RC) (hg : g.ok) (hk : g.kind = 5) (w : World) (hn : n ≤ 300) (hd : DocBox w bd (.slice A n c) (.int .i64 x)) (hD : DocIn w A n c x N) (hc : ChBox w bc g) :
    Calls Try.prog 42 #[.pointer (some ⟨bd, 0, none⟩), .pointer (some ⟨bc, 0, none⟩)] w fun e w' => CloIs w (doneN StyOK N n x g) e w' ∧ Below w.heap.size w w' := by
  rw [other_done (.inr hk)]
  cases hf : foundN N n g.key 1 with
  | none =>
    have e : (match findN N n g.key with
      | none => .no 70
      | some a => otherN StyOK N n x g a) = Out7.no 70 := by
      unfold foundN at hf
      cases h : findN N n g.key with
      | none => rfl
      | some a =>
        rw [h] at hf
        dsimp only at hf ⊢
        unfold otherN
        rw [if_neg (by omega)]
        by_cases h1 : (N a).kind = 1
        · rw [if_pos h1] at hf; cases hf
        · rw [if_neg h1]
    rw [e]
    exact clo5_none A n c x N bd bc g hg w hf hd hD hc
  | some a =>
    obtain ⟨h1, -, h2⟩ := found_some hf
    rw [h1]
    dsimp only
    unfold otherN
    rw [if_neg (by omega), if_pos h2]
    exact clo5_some A n c x N bd bc g hg w a hf hn hd hD hc
theorem clo4_any (A : Option Addr) (n c : Nat) (x : Int) (N : Nat → RN) (bd bc : Nat) (g : RC) (hg : g.ok) (hk : g.kind = 4) (w : World) (hn : n ≤ 300) (hd : DocBox w bd (.slice A n c) (.int .i64 x)) (hD : DocIn w A n c x N) (hc : ChBox w bc g) :
    Calls Try.prog 39 #[.pointer (some ⟨bd, 0, none⟩), .pointer (some ⟨bc, 0, none⟩)] w fun e w' => CloIs w (doneN StyOK N n x g) e w' ∧ Below w.heap.size w w' := by
  rw [other_done (.inl hk)]
  cases hf : foundN N n g.key 0 with
  | none =>
    have e : (match findN N n g.key with
      | none => .no 70
      | some a => otherN StyOK N n x g a) = Out7.no 70 := by
      unfold foundN at hf
      cases h : findN N n g.key with
      | none => rfl
      | some a =>
        rw [h] at hf
        dsimp only at hf ⊢
        unfold otherN
        rw [if_pos hk]
        by_cases h1 : (N a).kind = 0
        · rw [if_pos h1] at hf; cases hf
        · rw [if_neg h1]
    rw [e]
    exact clo4_none A n c x N bd bc g hg w hf hd hD hc
  | some a =>
    obtain ⟨h1, -, h2⟩ := found_some hf
    rw [h1]
    dsimp only
    unfold otherN
    rw [if_pos hk, if_pos h2]
    by_cases hs : StyOK g.node.style
    · rw [if_pos hs]
      exact clo4_some A n c x N bd bc g hg w a hf true hs hn hd hD hc
    · rw [if_neg hs]
      exact clo4_some A n c x N bd bc g hg w a hf false (by unfold StyOK at hs; simpa using hs) hn hd hD hc
end
end Go.Proofs.Ytmodegkpfdlccaa
