/-
  tree.deepestBehind, tree.contentMay.
-/
import Derived.Test.YtmodegkpfdlccaaNodeVar
import Derived.WalkLawsBesides
namespace Go.Proofs.Ytmodegkpfdlccaa
open Go.RowKit

set_option maxRecDepth 100000 in
theorem RN.ok.get1 {v : RN} (_ : v.ok) : v.cells[1]? = some (.int .i64 v.depth) := rfl
set_option maxRecDepth 100000 in
theorem RN.ok.get2 {v : RN} (_ : v.ok) : v.cells[2]? = some (.int .u8 v.kind) := rfl
/-- how deep the node behind may be -/
def mostBehind (v : RN) : Int := if v.kind = 1 then v.depth else if v.depth + 1 ≤ 15 then v.depth + 1 else 15

set_option maxRecDepth 100000 in
set_option maxHeartbeats 4000000 in
theorem deepest_any (v : RN) (hv : v.ok) (w : World) (h0 : 0 ≤ v.depth) (h1 : v.depth ≤ 15) :
    Calls Try.prog 73 #[.agg v.cells.toArray] w fun e w' => e = .returned (.int .i64 (mostBehind v)) ∧ Below w.heap.size w w' := by
  have e1 := hv.get1
  have e2 := hv.get2
  have HM : Hid (mostBehind v = if v.kind = 1 then v.depth else if v.depth + 1 ≤ 15 then v.depth + 1 else 15) := Lib.hid rfl
  have hB : Hid (Below w.heap.size w (w.alloc (.cells v.cells.toArray 32))) := Lib.hid ((Below.refl _ _).alloc (Nat.le_refl _) _)
  have k1 := hv.kind
  clear hv
  generalize mostBehind v = M at HM ⊢
  generalize v.cells = X at e1 e2 hB ⊢
  generalize v.depth = D at e1 h0 h1 HM
  generalize v.kind = K at e2 k1 HM
  have c1 : (w.alloc (.cells X.toArray 32)).cell? ⟨w.heap.size, 1, none⟩ = some (.int .i64 D) := by rw [World.cell?_alloc_new]; simpa using e1
  have c2 : (w.alloc (.cells X.toArray 32)).cell? ⟨w.heap.size, 2, none⟩ = some (.int .u8 K) := by rw [World.cell?_alloc_new]; simpa using e2
  clear e1 e2
  by_cases hk : K = 1
  · have hkk : (K == 1) = true := by simpa using hk
    have HK := Lib.hid hk
    clear hk
    go_enter Try.func73, Try.ntmps73
    go_wp2
    go_ret
    exact ⟨by rw [HM.out, if_pos HK.out]; rfl, hB.out⟩
  · have hkk : (K == 1) = false := by simpa using hk
    have HK := Lib.hid hk
    clear hk
    by_cases hd : D + 1 ≤ 15
    · have HD := Lib.hid hd
      go_enter Try.func73, Try.ntmps73
      go_wp2
      go_ret
      exact ⟨by rw [HM.out, if_neg HK.out, if_pos HD.out]; rfl, hB.out⟩
    · have HD := Lib.hid hd
      go_enter Try.func73, Try.ntmps73
      go_wp2
      go_ret
      exact ⟨by rw [HM.out, if_neg HK.out, if_neg (by have := HD.out; omega)]; rfl, hB.out⟩

/-- the style that nobody has set -/
def styleZero : Array Value := (noStyle.map Lit.toCell).toArray
set_option maxRecDepth 100000 in
theorem wpList_build_style {w : World} {ops : Array Oper} {rest : List Oper} {o : Oper} {a : Act} {Q : Exit → Act → World → Prop} (hgd : o.guard = none) (ho : o.op = .build 30 #[])
    (h : wpList Try.prog ops Q rest (a.put o.dst (.agg styleZero)) w) : wpList Try.prog ops Q (o :: rest) a w := by
  refine wpList_plain hgd fun K hK => ?_
  unfold Oper.wp execOp
  have hr : (Instr.build 30 #[]).run Try.prog w = .ok (.agg styleZero) w := by kernel_rfl
  simp only [ho, List.map_toArray, List.map_nil, Sem.run_bind, hr, Result.andThen_ok, Sem.run_pure]
  exact hK _ _ h
set_option maxRecDepth 100000 in
theorem wpList_eq_struct {P : Program} {w : World} {ops : Array Oper} {rest : List Oper} {o : Oper} {a : Act} {Q : Exit → Act → World → Prop} (hg : o.guard = none) (t rt : TypeId) (x y : Operand) (ho : o.op = .binOp .eql t x y rt)
    (xs ys : Array Value) (hx : a.eval x = .agg xs) (hy : a.eval y = .agg ys) (hm : P.eqGuardType P.depth t = false) (r : Bool) (hr : ∀ w : World, (Op.equalIn 10000 t (.agg xs) (.agg ys)).run P w = .ok r w)
    (h : wpList P ops Q rest (a.put o.dst (.bool r)) w) : wpList P ops Q (o :: rest) a w := by
  refine wpList_plain hg fun K hK => ?_
  unfold Oper.wp execOp
  simp only [ho, hx, hy, Sem.run_bind, Sem.run_pure, run_eqGuard_agg _ _ _ _ _ _ _ hm, run_eql_struct, hr, Result.andThen_ok]
  exact hK _ _ h
set_option maxRecDepth 100000 in
theorem style_guard : Try.prog.eqGuardType Try.prog.depth 30 = false := by kernel_rfl
set_option maxRecDepth 100000 in
theorem run_style_eq {v : RN} (hv : v.ok) : ∃ r : Bool, (∀ w : World, (Op.equalIn 10000 30 (.agg (v.style.map Lit.toCell).toArray) (.agg styleZero)).run Try.prog w = .ok r w) ∧ (r = true ↔ v.style = noStyle) := by
  classical
  have hz : Try.prog.keyLits 5 30 (noStyle.map Lit.toCell) = some noStyle := by kernel_rfl
  have f1 : (Value.agg (v.style.map Lit.toCell).toArray).formed Try.prog 30 = true := by
    simp [Value.formed, Try.underlying30, hv.style_len, style_cells]
  have f2 : (Value.agg styleZero).formed Try.prog 30 = true := by kernel_rfl
  refine ⟨decide (v.style = noStyle), fun w => ?_, by simp⟩
  obtain ⟨r, hr, hiff⟩ := run_equalIn_deep 9995 5 30 style_key w 5 5 (.agg (v.style.map Lit.toCell).toArray) (.agg styleZero) v.style noStyle f1 f2 (by simpa [Value.cells] using hv.style) (by simpa [Value.cells, styleZero] using hz)
  rw [hr]
  congr 1
  rw [Bool.eq_iff_iff, decide_eq_true_iff]
  exact hiff

/-- whether a node may have what it has -/
def ContentMay (v : RN) : Prop := v.kind = 0 ∧ v.text = [] ∨ v.kind = 1 ∧ v.style = noStyle ∧ v.text.length ≤ 200

set_option maxRecDepth 100000 in
set_option maxHeartbeats 4000000 in
theorem content_any (v : RN) (hv : v.ok) (w : World) :
    Calls Try.prog 76 #[.agg v.cells.toArray] w fun e w' => ∃ b : Bool, e = .returned (.bool b) ∧ (b = true ↔ ContentMay v) ∧ Below w.heap.size w w' := by
  have e2 := hv.get2
  have e50 := hv.last
  have es : Hid ((w.alloc (.cells v.cells.toArray 32)).rangeAt w.heap.size 3 (v.style.map Lit.toCell)) := Lib.hid (fun j u hu => by
    rw [World.cell?_alloc_new]
    have hj : j < v.style.length := by simpa using (List.getElem?_eq_some_iff.1 hu).1
    simp only [List.getElem?_toArray, RN.cells, RN.lits, List.map_cons, List.map_append, List.map_nil]
    rw [show 3 + j = j + 1 + 1 + 1 by omega, List.getElem?_cons_succ, List.getElem?_cons_succ, List.getElem?_cons_succ, List.getElem?_append_left (by simpa using hj)]
    exact hu)
  have SL : Hid ((Try.prog.info? 30).map (·.size) = some (v.style.map Lit.toCell).length) := Lib.hid (by rw [List.length_map, hv.style_len]; kernel_rfl)
  obtain ⟨r, hr, hri⟩ := run_style_eq hv
  have RR := Lib.hid hr
  have RI : Hid (r = true ∧ v.style = noStyle ∨ r = false ∧ v.style ≠ noStyle) := Lib.hid (by cases r <;> simp at hri <;> simp [hri])
  have CM : Hid (ContentMay v = (v.kind = 0 ∧ v.text = [] ∨ v.kind = 1 ∧ v.style = noStyle ∧ v.text.length ≤ 200)) := Lib.hid rfl
  have hB : Hid (Below w.heap.size w (w.alloc (.cells v.cells.toArray 32))) := Lib.hid ((Below.refl _ _).alloc (Nat.le_refl _) _)
  have k1 := hv.kind
  have tl := hv.text
  clear hv hr hri
  generalize ContentMay v = M at CM ⊢
  generalize v.cells = X at e2 e50 hB es ⊢
  generalize v.style.map Lit.toCell = Y at es RR SL
  generalize v.kind = K at e2 k1 CM
  generalize v.text = T at e50 CM tl
  have c2 : (w.alloc (.cells X.toArray 32)).cell? ⟨w.heap.size, 2, none⟩ = some (.int .u8 K) := by rw [World.cell?_alloc_new]; simpa using e2
  have c50 : (w.alloc (.cells X.toArray 32)).cell? ⟨w.heap.size, 50, none⟩ = some (.string ⟨T.toArray⟩) := by rw [World.cell?_alloc_new]; simpa using e50
  clear e2 e50
  by_cases h0 : K = 0
  · have k0 : (K == 0) = true := by simpa using h0
    have HK := Lib.hid h0
    clear h0
    by_cases ht : T = []
    · have t1 : T.isEmpty = true := by simpa using ht
      have HT := Lib.hid ht
      go_enter Try.func76, Try.ntmps76
      go_wp2
      go_ret
      exact ⟨true, rfl, ⟨fun _ => by rw [CM.out]; exact .inl ⟨HK.out, HT.out⟩, fun _ => rfl⟩, hB.out⟩
    · have t1 : T.isEmpty = false := by simpa using ht
      have HT := Lib.hid ht
      go_enter Try.func76, Try.ntmps76
      go_wp2
      go_ret
      exact ⟨false, rfl, ⟨(fun h => by cases h), fun h => by
        rw [CM.out] at h
        rcases h with h | h
        · exact absurd h.2 HT.out
        · have := HK.out; omega⟩, hB.out⟩
  · have k0 : (K == 0) = false := by simpa using h0
    have HK := Lib.hid h0
    clear h0
    by_cases h1 : K = 1
    · have kk1 : (K == 1) = true := by simpa using h1
      have HK1 := Lib.hid h1
      clear h1
      rcases RI.out with ⟨rfl, hs⟩ | ⟨rfl, hs⟩
      · have HS := Lib.hid hs
        clear hs RI
        go_enter Try.func76, Try.ntmps76
        go_wp2_with (first
          | (refine wpList_load_mid (op := ⟨some 13, _, _, _, _, _⟩) rfl 30 _ rfl w.heap.size 3 rfl Y _ es.out Try.underlying30 rfl SL.out ?_)
          | (refine wpList_build_style (o := ⟨some 14, _, _, _, _, _⟩) rfl rfl ?_)
          | (refine wpList_eq_struct (o := ⟨some 15, _, _, _, _, _⟩) rfl 30 _ _ _ rfl Y.toArray styleZero rfl rfl style_guard true RR.out ?_))
        go_ret
        exact ⟨_, rfl, by
          rw [CM.out, decide_eq_true_iff]
          constructor
          · intro h; exact .inr ⟨HK1.out, HS.out, by omega⟩
          · rintro (h | h)
            · exact absurd h.1 HK.out
            · omega, hB.out⟩
      · have HS := Lib.hid hs
        clear hs RI
        go_enter Try.func76, Try.ntmps76
        go_wp2_with (first
          | (refine wpList_load_mid (op := ⟨some 13, _, _, _, _, _⟩) rfl 30 _ rfl w.heap.size 3 rfl Y _ es.out Try.underlying30 rfl SL.out ?_)
          | (refine wpList_build_style (o := ⟨some 14, _, _, _, _, _⟩) rfl rfl ?_)
          | (refine wpList_eq_struct (o := ⟨some 15, _, _, _, _, _⟩) rfl 30 _ _ _ rfl Y.toArray styleZero rfl rfl style_guard false RR.out ?_))
        go_ret
        exact ⟨false, rfl, ⟨(fun h => by cases h), fun h => by
          rw [CM.out] at h
          rcases h with h | h
          · exact absurd h.1 HK.out
          · exact absurd h.2.1 HS.out⟩, hB.out⟩
    · have kk1 : (K == 1) = false := by simpa using h1
      have HK1 := Lib.hid h1
      clear h1
      go_enter Try.func76, Try.ntmps76
      go_wp2
      go_ret
      exact ⟨false, rfl, ⟨(fun h => by cases h), fun h => by rw [CM.out] at h; rcases h with h | h; exact absurd h.1 HK.out; exact absurd h.1 HK1.out⟩, hB.out⟩
end Go.Proofs.Ytmodegkpfdlccaa
