/-
  The law MutateKeeps, of any program whose May and Apply answer as is asked.
-/
import Derived.Test.YtmodegkpfdlccaaAwake7
import Derived.Laws.NewBlocks
namespace Go.Proofs.Ytmodegkpfdlccaa
open Go.RowKit

/-- a block of a change's cells -/
def Box55 (W : World) (b : Nat) (X : Array Value) : Prop := b < W.heap.size ∧ W.heap[b]? = some (.cells X 34 (0, 0))
theorem Box55.below {W W' : World} {b : Nat} {X : Array Value} (h : Box55 W b X) (hb : Below W.heap.size W W') : Box55 W' b X := ⟨Nat.lt_of_lt_of_le h.1 hb.size, (hb.block b h.1).trans h.2⟩
theorem Box55.new (w : World) (X : Array Value) : Box55 (w.alloc (.cells X 34)) w.heap.size X := ⟨by simp, heap_alloc_new w _⟩
theorem Box55.cell {W : World} {b : Nat} {X : Array Value} (h : Box55 W b X) {k : Nat} {v : Value} (hv : X[k]? = some v) : W.cell? ⟨b, k, none⟩ = some v := by
  unfold World.cell?
  simp only [h.2]
  simpa using hv
theorem change_size : (Try.prog.info? 34).map (·.size) = some 55 := by kernel_rfl
theorem wpList_load_change {W : World} {ops : Array Oper} {rest : List Oper} {o : Oper} {a : Act} {Q : Exit → Act → World → Prop} (hw : Region.wanted o (yielded ops a.tmps) = true) (x : Operand) (ho : o.op = .load 34 x) (g : Nat)
    (hx : a.eval x = .pointer (some ⟨g, 0, none⟩)) (X : Array Value) (hB : Box55 W g X) (hs : X.size = 55) (h : wpList Try.prog ops Q rest (a.put o.dst (.agg X)) W) : wpList Try.prog ops Q (o :: rest) a W := by
  refine wpList_step fun K hK => ?_
  rw [if_pos hw]
  exact wp_load_row 34 x ho g hx _ X _ _ hB.2 Try.underlying34 rfl (by rw [hs]; exact change_size) (hK _ _ h)

theorem done_no {Sty : List Lit → Prop} {N : Nat → RN} {n : Nat} {x f : Int} {c : RC} (h : doneN Sty N n x c = .no f) : f = 60 ∨ f = 70 := by
  unfold doneN insertedN movedN otherN at h
  repeat' split at h
  all_goals first | (cases h; exact .inr rfl) | (cases h; exact .inl rfl) | (cases h; done)
theorem apply_no {Sty : List Lit → Prop} {N : Nat → RN} {n : Nat} {x f : Int} {c : RC} (h : applyN Sty N n x c = .no f) : (f = 50 ∧ ¬ MayD Sty n x N) ∨ ((f = 4 ∨ f = 60 ∨ f = 70) ∧ MayD Sty n x N) := by
  unfold applyN at h
  split at h
  · rename_i h1
    cases e : doneN Sty N n x c with
    | no f' =>
      rw [e] at h
      cases h
      exact .inr ⟨.inr (done_no e), h1⟩
    | doc m y M =>
      rw [e] at h
      dsimp only at h
      split at h
      · cases h
      · cases h
        exact .inr ⟨.inl rfl, h1⟩
  · rename_i h1
    cases h
    exact .inl ⟨rfl, h1⟩

set_option maxRecDepth 100000 in
set_option maxHeartbeats 4000000 in
theorem keeps7 {Sty : List Lit → Prop} (st : Sty noStyle) (nq : ¬ Sty oddStyle) (hA : ApplyOK7 Sty 10) (hM : MayOK7 Sty 11) (A : Option Addr) (n c : Nat) (x : Int) (N : Nat → RN) (g : RC) (w : World) (hD : DocIn w A n c x N) (hg : g.ok) :
    Calls Try.prog 3 #[docV A n c x, changeV g] w fun e w' => e = .returned (.bool true) ∧ Below w.heap.size w w' := by
  have KA := Lib.hid (fun W (h : DocIn W A n c x N) => hA A n c x N g W h hg)
  have KM := Lib.hid hM
  have KW := Lib.hid (fun W => awake7_any st nq hA hM W)
  have KG := Lib.hid (fun W (h : DocIn W A n c x N) => great7_any A n c x N g W h hg)
  have V := Lib.hid (newDoc_var hD)
  have hx := hD.2
  have hl : g.cells.toArray.size = 55 := by simp [hg.len]
  have hk : g.cells.toArray[0]? = some (.int .u8 g.kind) := by simp [RC.cells]
  obtain ⟨kd, hkd⟩ : ∃ kd, kd = g.kind := ⟨_, rfl⟩
  have key := Lib.hid (fun m y M (h : applyN Sty N n x g = .doc m y M) => apply_doc h)
  have nxt : Hid (∀ m y M, applyN Sty N n x g = .doc m y M → y = x + if g.kind = 1 then 1 else 0) := Lib.hid (fun m y M h => by
    rcases done_of (apply_doc h).2.1 with ⟨k, u, p, v, i, -, e, -⟩ | ⟨a, -, e, ⟨k, -⟩ | ⟨k, -⟩ | ⟨k, -⟩⟩
    · rw [if_pos k]; exact e
    · rw [if_neg (by omega)]; omega
    · rw [if_neg (by omega)]; omega
    · rw [if_neg (by omega)]; omega)
  have non := Lib.hid (fun f (h : applyN Sty N n x g = .no f) => apply_no h)
  generalize applyN Sty N n x g = R at *
  rw [← hkd] at hk nxt
  clear hD hg hA hM hkd
  unfold docV changeV at *
  generalize g.cells.toArray = X at *
  have hW : Below (newDoc w A n c x).heap.size (newDoc w A n c x) ((newDoc w A n c x).alloc (.cells X 34)) := (Below.refl _ _).alloc (Nat.le_refl _) _
  have B := Lib.hid (Box55.new (newDoc w A n c x) X)
  have V := Lib.hid (V.out.next hW)
  have BW := Lib.hid ((newDoc_below w A n c x).trans (hW.mono (newDoc_below w A n c x).size))
  have hq : (newDoc w A n c x).heap.size = w.heap.size + 1 := by simp [newDoc]
  rw [hq] at B
  clear hW hq
  unfold newDoc at V B BW
  go_enter Try.func3, Try.ntmps3
  go_wp2_with fail
  refine (KW.out _).mono ?_
  rintro e w1 ⟨rfl, hb⟩
  replace V := Lib.hid (V.out.next hb)
  replace B := Lib.hid (B.out.below hb)
  replace BW := Lib.hid (BW.out.trans (hb.mono BW.out.size))
  clear hb
  obtain ⟨-, c0, c1, -⟩ := V.out
  go_wp2_with (refine wpList_load_change (o := ⟨some 11, _, _, _, _, _⟩) rfl _ rfl _ rfl _ B.out hl ?_)
  clear c0 c1
  refine (KG.out _ V.out.doc).mono ?_
  rintro e w2 ⟨q, rfl, hq, hb⟩
  replace V := Lib.hid (V.out.next hb)
  replace B := Lib.hid (B.out.below hb)
  replace BW := Lib.hid (BW.out.trans (hb.mono BW.out.size))
  clear hb hq
  cases q with
  | true =>
    go_wp2_with fail
    go_ret
    exact ⟨rfl, BW.out⟩
  | false =>
    obtain ⟨-, c0, c1, -⟩ := V.out
    go_wp2_with (refine wpList_load_change (o := ⟨some 15, _, _, _, _, _⟩) rfl _ rfl _ rfl _ B.out hl ?_)
    clear c0 c1
    refine (KA.out _ V.out.doc).mono ?_
    rintro e w3 ⟨ha, hb⟩
    cases R with
    | no f =>
      obtain rfl := ha
      have hn := hb.trans ((newDoc_below w3 none 0 0 0).mono hb.size)
      replace V := Lib.hid (V.out.next hn)
      replace BW := Lib.hid (BW.out.trans (hn.mono BW.out.size))
      have NV := Lib.hid (newDoc_var (W := w3) (A := none) (n := 0) (c := 0) (x := 0) (N := N) ⟨⟨Nodes.zero _ _ _, fun _ => ⟨rfl, rfl⟩, ⟨by omega, by omega⟩, by omega⟩, by omega, by omega⟩)
      clear hb hn
      unfold docV
      obtain ⟨-, c0, c1, -⟩ := V.out
      obtain ⟨-, a0, a1, -⟩ := NV.out
      unfold newDoc at c0 c1 a0 a1
      rcases non.out f rfl with ⟨rfl, hm⟩ | ⟨rfl | rfl | rfl, hm⟩
      · have HM := Lib.hid hm
        clear hm
        go_wp2_with fail
        clear c0 c1 a0 a1
        refine (KM.out _ _ _ _ _ _ V.out.doc).mono ?_
        rintro e z1 ⟨q1, rfl, hq, hb⟩
        obtain rfl : q1 = false := by cases q1 with | false => rfl | true => exact absurd (hq.1 rfl) HM.out
        replace BW := Lib.hid (BW.out.trans (hb.mono BW.out.size))
        clear hb hq
        go_wp2_with fail
        go_ret
        exact ⟨rfl, BW.out⟩
      all_goals
        have HM := Lib.hid hm
        clear hm
        go_wp2_with fail
        clear c0 c1 a0 a1
        refine (KM.out _ _ _ _ _ _ V.out.doc).mono ?_
        rintro e z1 ⟨q1, rfl, hq, hb⟩
        obtain rfl : q1 = true := hq.2 HM.out
        replace BW := Lib.hid (BW.out.trans (hb.mono BW.out.size))
        clear hb hq
        go_wp2_with fail
        go_ret
        exact ⟨rfl, BW.out⟩
    | doc m y M =>
      obtain ⟨B', d', rfl, dM, -⟩ := ha
      obtain ⟨m1, -, m2⟩ := key.out m y M rfl
      have ny := nxt.out m y M rfl
      have M1 := Lib.hid m1
      have M2 := Lib.hid m2
      have yb := m2.shape.next
      have hn := hb.trans ((newDoc_below w3 B' m d' y).mono hb.size)
      replace V := Lib.hid (V.out.next hn)
      replace B := Lib.hid (B.out.below hn)
      replace BW := Lib.hid (BW.out.trans (hn.mono BW.out.size))
      have NV := Lib.hid (newDoc_var dM)
      clear hb hn dM m1 m2
      unfold docV
      have b0 := B.out.cell hk
      obtain ⟨-, c0, c1, -⟩ := V.out
      obtain ⟨-, a0, a1, -⟩ := NV.out
      unfold newDoc at c0 c1 a0 a1 b0
      have Y0 := Lib.hid ny
      have Y1 := Lib.hid yb
      have HX := Lib.hid hx
      clear ny yb hx
      by_cases h1 : kd = 1
      · subst h1
        have ey : y = x + 1 := by have := Y0.out; rw [if_pos rfl] at this; exact this
        subst ey
        have wr : IntKind.i64.wrap (x + 1) = x + 1 := IntWalk.i64_in _ (by have := HX.out; have := Y1.out; omega)
        go_wp2_with fail
        refine (KM.out _ _ _ _ _ _ V.out.doc).mono ?_
        rintro e z1 ⟨q1, rfl, hq, hb⟩
        obtain rfl : q1 = true := hq.2 M1.out
        clear c0 c1 a0 a1 b0
        replace V := Lib.hid (V.out.next hb)
        replace NV := Lib.hid (NV.out.next hb)
        replace BW := Lib.hid (BW.out.trans (hb.mono BW.out.size))
        clear hb hq
        obtain ⟨-, a0, a1, -⟩ := NV.out
        go_wp2_with fail
        refine (KM.out _ _ _ _ _ _ NV.out.doc).mono ?_
        rintro e z2 ⟨q2, rfl, hq, hb⟩
        obtain rfl : q2 = true := hq.2 M2.out
        clear a0 a1
        replace V := Lib.hid (V.out.next hb)
        replace NV := Lib.hid (NV.out.next hb)
        replace BW := Lib.hid (BW.out.trans (hb.mono BW.out.size))
        clear hb hq
        obtain ⟨-, c0, c1, -⟩ := V.out
        obtain ⟨-, a0, a1, -⟩ := NV.out
        go_wp2_with fail
        go_ret
        exact ⟨by simp, BW.out⟩
      · have ey : y = x := by have := Y0.out; rw [if_neg h1] at this; omega
        subst ey
        have e1 : decide (kd = 1) = false := decide_eq_false h1
        have e2 : (kd == 1) = false := by simp [h1]
        have wr : IntKind.i64.wrap (y + 0) = y := (IntWalk.i64_in _ (by have := HX.out; have := Y1.out; omega)).trans (by omega)
        have wr' : IntKind.i64.wrap y = y := IntWalk.i64_in _ (by have := HX.out; have := Y1.out; omega)
        go_wp2_with fail
        refine (KM.out _ _ _ _ _ _ V.out.doc).mono ?_
        rintro e z1 ⟨q1, rfl, hq, hb⟩
        obtain rfl : q1 = true := hq.2 M1.out
        clear c0 c1 a0 a1 b0
        replace V := Lib.hid (V.out.next hb)
        replace NV := Lib.hid (NV.out.next hb)
        replace BW := Lib.hid (BW.out.trans (hb.mono BW.out.size))
        clear hb hq
        obtain ⟨-, a0, a1, -⟩ := NV.out
        go_wp2_with fail
        refine (KM.out _ _ _ _ _ _ NV.out.doc).mono ?_
        rintro e z2 ⟨q2, rfl, hq, hb⟩
        obtain rfl : q2 = true := hq.2 M2.out
        clear a0 a1
        replace V := Lib.hid (V.out.next hb)
        replace NV := Lib.hid (NV.out.next hb)
        replace BW := Lib.hid (BW.out.trans (hb.mono BW.out.size))
        clear hb hq
        obtain ⟨-, c0, c1, -⟩ := V.out
        obtain ⟨-, a0, a1, -⟩ := NV.out
        go_wp2_with fail
        go_ret
        exact ⟨by simp, BW.out⟩
end Go.Proofs.Ytmodegkpfdlccaa
