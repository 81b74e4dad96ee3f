/-
  The document's take: the value of a letter with which bytes begin, or none.
-/
import Derived.Test.YtkjndgnjilfobaaRefCopy4
import Derived.Test.YtkjndgnjilfobaaRefGet
import Derived.Test.YtkjndgnjilfobaaRefPut4
import Derived.Test.YtkjndgnjilfobaaWireOK
import Derived.Laws.ResultCell
import Derived.Laws.Rows
namespace Go.Proofs.Ytkjndgnjilfobaa
open Go.RowKit

/-- a place of the call's own -/
def NewAt (w w' : World) (A : Option Addr) : Prop := ∀ p, A = some p → w.heap.size ≤ p.block ∧ p.block < w'.heap.size
def onlyRV (n : Nat) (i : Int) (f : Bool) : RV := ⟨n, i, f, none, 0, 0, fun _ => 0, none, 0, 0, fun _ => 0⟩
/-- what the document's take answers -/
def OneTaken (c : Nat) (bl : List Nat) (w : World) (e : Ending) (w' : World) : Prop :=
  Below w.heap.size w w' ∧ (((∀ v r, Fits c v → Short v → Real v → form c v ++ r ≠ bl) ∧ e = .returned (.tuple #[(onlyRV 0 0 false).val, .int .i64 0])) ∨
    (∃ (X : RV) (r : List Nat), X.ok w' ∧ Fits c X.mean ∧ Short X.mean ∧ form c X.mean ++ r = bl ∧ e = .returned (.tuple #[X.val, .int .i64 ((form c X.mean).length : Nat)]) ∧ NewAt w w' X.bA ∧ NewAt w w' X.lA))
theorem NewAt.none (w w' : World) : NewAt w w' .none := fun _ e => by cases e
theorem nums_none (K : IntKind) (M : Nat) (w : World) (f : Nat → Nat) : Nums K M w none 0 f := Nums.zero _ _
theorem results_row_tmp {P : Program} {fn : Func} {p u : Tmp} {ty : TypeId} (h : fn.results = #[.cell p ty, .tmp u]) (tmps : Array Value) (w : World) (g : Nat) (t : TypeId) (cs : Array Value) (fr : Nat × Nat) (d : TypeDesc)
    (hp : tmps.getD p undef = .pointer (some ⟨g, 0, none⟩)) (hg : w.heap[g]? = some (.cells cs t fr))
    (hu : P.underlying ty = some d) (hd : (match d with | .struct _ | .array _ _ => true | _ => false) = true) (hi : (P.info? ty).map (·.size) = some cs.size) :
    (results fn tmps).run P w = .ok (.tuple #[.agg cs, tmps.getD u undef]) w := by
  rw [results_cell_tmp h, hp]
  simp [asAddr, run_loadVar_row w g t ty cs fr d hg hu hd hi, Result.andThen]
theorem onlyOk (w : World) {n : Nat} {i : Int} {f : Bool} (hn : n < 18446744073709551616) (hi : -9223372036854775808 ≤ i ∧ i ≤ 9223372036854775807) : (onlyRV n i f).ok w :=
  ⟨hn, hi, ⟨Nums.zero _ _, fun _ => ⟨rfl, rfl⟩, Nat.zero_le _, Nat.le_refl _, Nat.zero_le _⟩, ⟨Nums.zero _ _, fun _ => ⟨rfl, rfl⟩, Nat.zero_le _, Nat.le_refl _, Nat.zero_le _⟩⟩
theorem form_f (v : WV) : form 102 v = [if v.f then 1 else 0] := by unfold form; simp
theorem form_n (v : WV) : form 110 v = word v.n := by unfold form; simp
theorem form_b (v : WV) : form 98 v = word v.b.length ++ v.b := by unfold form; simp
theorem form_i (v : WV) : form 105 v = word (foldN v.i) := by unfold form; simp

set_option maxRecDepth 100000 in
set_option maxHeartbeats 4000000 in
theorem refTake_f (A : Option Addr) (n c : Nat) (f : Nat → Nat) (w : World) (h : Bytes w A n f) (hc : n ≤ c) :
    Calls Try.prog 34 #[.int .u8 102, .slice A n c] w (OneTaken 102 (seg f 0 n) w) := by
  have H := Lib.hid h
  clear h
  by_cases hn : n = 0
  · subst hn
    have NO : Hid (∀ v r, Fits 102 v → Short v → Real v → form 102 v ++ r ≠ seg f 0 0) := Lib.hid (fun v r _ _ _ e => by rw [form_f, seg_zero] at e; cases e)
    go_enter Try.func34, Try.ntmps34
    go_wp2_with fail
    refine bodyPost_ret (results_row_tmp rfl _ _ w.heap.size _ _ _ _ rfl (heap_alloc2_old _ _ _) Try.underlying42 rfl (by kernel_rfl)) rfl ?_
    exact ⟨((Below.refl _ _).alloc (Nat.le_refl _) _).alloc (by simp) _, .inl ⟨NO.out, rfl⟩⟩
  · have h0 : 0 < n := by omega
    obtain ⟨b, off, rfl, hb, hcell⟩ := H.out.at_ h0
    rw [Nat.add_zero] at hcell
    have lz : (0 : Int) < n := by omega
    have nz : ¬ (n : Int) = 0 := by omega
    have AC : ∀ o : Obj, (w.alloc o).cell? ⟨b, off, none⟩ = some (.int .u8 (f 0 : Nat)) := fun o => by rw [World.cell?_alloc_lt w o _ hb]; exact hcell
    have SG : Hid (seg f 0 n = f 0 :: seg f 1 (n - 1)) := Lib.hid (by rw [← seg_cons f 0 (n - 1), show n - 1 + 1 = n by omega])
    by_cases hg : 1 < f 0
    · have g1 : (1 : Int) < (f 0 : Nat) := by omega
      have NO : Hid (∀ v r, Fits 102 v → Short v → Real v → form 102 v ++ r ≠ seg f 0 n) := Lib.hid (fun v r _ _ _ e => by
        rw [form_f, SG.out] at e
        injection e with e
        split at e <;> omega)
      go_enter Try.func34, Try.ntmps34
      go_wp2_with fail
      refine bodyPost_ret (results_row_tmp rfl _ _ w.heap.size _ _ _ _ rfl (heap_alloc2_old _ _ _) Try.underlying42 rfl (by kernel_rfl)) rfl ?_
      exact ⟨((Below.refl _ _).alloc (Nat.le_refl _) _).alloc (by simp) _, .inl ⟨NO.out, rfl⟩⟩
    · have g1 : ¬ (1 : Int) < (f 0 : Nat) := by omega
      have key : ∀ t : Bool, f 0 = (if t then 1 else 0) → Hid (∃ (X : RV) (r : List Nat), (∀ W, X.ok W) ∧ Fits 102 X.mean ∧ Short X.mean ∧ form 102 X.mean ++ r = seg f 0 n ∧ (form 102 X.mean).length = 1 ∧ X.val = .agg #[.int .u64 0, .int .i64 0, .bool t, .slice none 0 0, .slice none 0 0] ∧ X.bA = none ∧ X.lA = none) := fun t ht => Lib.hid
        ⟨onlyRV 0 0 t, seg f 1 (n - 1), fun W => onlyOk W (by decide) (by decide), by simp [Fits, onlyRV, RV.mean, seg_zero], by simp [Short, onlyRV, RV.mean, seg_zero], by rw [form_f, SG.out, ht]; rfl, by rw [form_f]; rfl, rfl, rfl, rfl⟩
      rcases (show f 0 = 0 ∨ f 0 = 1 by omega) with e0 | e0
      · have KK := key false (by rw [e0]; rfl)
        rw [e0] at AC g1
        clear key hcell SG hg
        go_enter Try.func34, Try.ntmps34
        go_wp2_with fail
        refine bodyPost_ret (results_row_tmp rfl _ _ w.heap.size _ _ _ _ rfl (heap_alloc2_old _ _ _) Try.underlying42 rfl (by kernel_rfl)) rfl ?_
        obtain ⟨X, r, k1, k2, k3, k4, k5, k6, k7, k8⟩ := KK.out
        refine ⟨((Below.refl _ _).alloc (Nat.le_refl _) _).alloc (by simp) _, .inr ⟨X, r, k1 _, k2, k3, k4, by rw [k6, k5]; rfl, by rw [k7]; exact NewAt.none _ _, by rw [k8]; exact NewAt.none _ _⟩⟩
      · have KK := key true (by rw [e0]; rfl)
        rw [e0] at AC g1
        clear key hcell SG hg
        go_enter Try.func34, Try.ntmps34
        go_wp2_with fail
        refine bodyPost_ret (results_row_tmp rfl _ _ w.heap.size _ _ _ _ rfl (heap_alloc2_old _ _ _) Try.underlying42 rfl (by kernel_rfl)) rfl ?_
        obtain ⟨X, r, k1, k2, k3, k4, k5, k6, k7, k8⟩ := KK.out
        refine ⟨((Below.refl _ _).alloc (Nat.le_refl _) _).alloc (by simp) _, .inr ⟨X, r, k1 _, k2, k3, k4, by rw [k6, k5]; rfl, by rw [k7]; exact NewAt.none _ _, by rw [k8]; exact NewAt.none _ _⟩⟩
theorem got_is (l : List Nat) : ∃ r, Got l r := by
  by_cases h : ∃ n r, n < 18446744073709551616 ∧ l = word n ++ r
  · obtain ⟨n, r, hn, e⟩ := h
    exact ⟨some (n, (word n).length), hn, rfl, r, e⟩
  · exact ⟨none, fun n r hn e => h ⟨n, r, hn, e⟩⟩
set_option maxRecDepth 100000 in
set_option maxHeartbeats 1000000 in
theorem refGetOut (A : Option Addr) (len c : Nat) (a : Int) (w : World) (hlen : len ≤ 4611686018427387904) (h0 : -9223372036854775808 ≤ a) (h1 : a ≤ 9223372036854775807) (ha : a < 0 ∨ (len : Int) ≤ a) :
    Calls Try.prog 44 #[.slice A len c, .int .i64 a] w fun e w' => e = .returned (encGot none) ∧ w = w' := by
  by_cases hn : a < 0
  · have hn' : decide ((0 : Int) ≤ a) = false := by simpa using hn
    go_enter Try.func44, Try.ntmps44
    go_wp2
    refine wp_loop_rounds 1 ?_
    rw [rounds_succ]
    go_wp2
    go_ret3
    exact ⟨rfl, rfl⟩
  · have hl : (len : Int) ≤ a := by omega
    have hn' : decide ((0 : Int) ≤ a) = true := by simpa using hn
    have hl' : decide (a ≤ (len : Int) - 1 - 0) = false := by simp; omega
    have hl2 : decide (a ≤ (len : Int) - 1) = false := by simp; omega
    go_enter Try.func44, Try.ntmps44
    go_wp2
    refine wp_loop_rounds 1 ?_
    rw [rounds_succ]
    go_wp2
    go_ret3
    exact ⟨rfl, rfl⟩

theorem box_set {w : World} {g : Nat} {t : TypeId} {a0 a1 a2 a3 a4 : Value} (h : w.heap[g]? = some (.cells #[a0, a1, a2, a3, a4] t (0, 0))) (v0 v1 v2 v3 v4 : Value) :
    (((((w.setCell ⟨g, 0, none⟩ v0).setCell ⟨g, 1, none⟩ v1).setCell ⟨g, 2, none⟩ v2).setCell ⟨g, 3, none⟩ v3).setCell ⟨g, 4, none⟩ v4).heap[g]? = some (.cells #[v0, v1, v2, v3, v4] t (0, 0)) := by
  rw [setCell_eq_setRow _ _ _ _ _ _ _ h, setCell_eq_setRow _ _ _ _ _ _ _ (setRow_heap _ _ _ _ _ _ h), setRow_setRow, setCell_eq_setRow _ _ _ _ _ _ _ (setRow_heap _ _ _ _ _ _ h), setRow_setRow,
    setCell_eq_setRow _ _ _ _ _ _ _ (setRow_heap _ _ _ _ _ _ h), setRow_setRow, setCell_eq_setRow _ _ _ _ _ _ _ (setRow_heap _ _ _ _ _ _ h), setRow_setRow, setRow_heap _ _ _ _ _ _ h]
  rfl
theorem box_below {B : Nat} {w0 w : World} {g : Nat} (h : Below B w0 w) (hB : B ≤ g) (v0 v1 v2 v3 v4 : Value) :
    Below B w0 (((((w.setCell ⟨g, 0, none⟩ v0).setCell ⟨g, 1, none⟩ v1).setCell ⟨g, 2, none⟩ v2).setCell ⟨g, 3, none⟩ v3).setCell ⟨g, 4, none⟩ v4) :=
  ((((h.setCell hB _).setCell hB _).setCell hB _).setCell hB _).setCell hB _

theorem box_other {w : World} {g : Nat} (v0 v1 v2 v3 v4 : Value) (k : Nat) (hk : k ≠ g) :
    (((((w.setCell ⟨g, 0, none⟩ v0).setCell ⟨g, 1, none⟩ v1).setCell ⟨g, 2, none⟩ v2).setCell ⟨g, 3, none⟩ v3).setCell ⟨g, 4, none⟩ v4).heap[k]? = w.heap[k]? := by
  rw [Below.heap_setCell _ _ _ _ hk, Below.heap_setCell _ _ _ _ hk, Below.heap_setCell _ _ _ _ hk, Below.heap_setCell _ _ _ _ hk, Below.heap_setCell _ _ _ _ hk]
theorem owns.over {w w' : World} {base e : Nat} {K : IntKind} {v : Value} {l : List Nat} (h : owns w base e K v l) (hk : ∀ k, base ≤ k → w'.heap[k]? = w.heap[k]?) : owns w' base e K v l := by
  refine ⟨h.1, ?_⟩
  rcases h.2 with hn | ⟨g, cap, cur, rfl, hbg, hg, rest⟩
  · exact .inl hn
  · exact .inr ⟨g, cap, cur, rfl, hbg, by rw [hk g hbg]; exact hg, rest⟩
theorem owns.newAt {w w0 : World} {base e n c : Nat} {K : IntKind} {A : Option Addr} {l : List Nat} (h : owns w base e K (.slice A n c) l) (hb : w0.heap.size ≤ base) : NewAt w0 w A := fun p hp => by
  subst hp
  rcases h.2 with ⟨hv, _⟩ | ⟨g, cap, cur, hv, hbg, hg, _⟩
  · cases hv
  · injection hv with v1 v2 v3
    injection v1 with v1
    subst v1
    exact ⟨Nat.le_trans hb hbg, lt_of_block hg⟩
theorem slice_mid (A : Option Addr) (n c k m : Nat) (f : Nat → Nat) (hk : k + m ≤ n) (hn : n ≤ c) (hA : A = none → n = 0 ∧ c = 0) :
    ∃ A', (∀ W : World, (Instr.slice 25 (.slice A n c) (some (.int .i64 (k : Nat))) (some (.int .i64 ((k : Int) + (m : Nat)))) none).run Try.prog W = .ok (.slice A' m (c - k)) W) ∧ (A' = none → m = 0 ∧ c - k = 0) ∧ ∀ W, Bytes W A n f → Bytes W A' m (fun i => f (k + i)) := by
  refine ⟨if c = k then A else A.map (·.add (k * 1)), fun W => ?_, fun e => ?_, fun W h => ?_⟩
  · have hsz : ∀ W : World, (sizeOf (Try.prog.elem 25)).run Try.prog W = .ok 1 W := fun W => by kernel_rfl
    rw [run_slice_lh W 25 A n c (by kernel_rfl) .i64 .i64 (k : Nat) ((k : Int) + (m : Nat)) (by omega) (by omega) (by omega), hsz]
    have e : ((k : Int) + (m : Nat)).toNat - k = m := by omega
    simp [Result.andThen, sliced, e]
  · split at e
    · have := hA e; omega
    · cases A with
      | none => have := hA rfl; omega
      | some a => cases e
  · by_cases h0 : m = 0
    · rw [h0]; exact Nums.zero _ _
    · obtain ⟨b, off, rfl, -, -⟩ := h.at_ (show 0 < n by omega)
      have := Nums.from_ h (k := k) (m := m) (by omega)
      rw [if_neg (by omega), Nat.mul_one]
      show Bytes W (some (Addr.add ⟨b, off, none⟩ k)) _ _
      rw [Go.WideShapes.add_plain]
      exact this

theorem refGet_at (A : Option Addr) (len c : Nat) (f : Nat → Nat) (p : Nat) (w : World) (h : Bytes w A len f) (hlen : len ≤ 4194304) (hc : len ≤ c) (hcc : c ≤ 9223372036854775807) (hp : p ≤ len) (r : Option (Nat × Nat)) (hr : Got (seg f p (len - p)) r) :
    Calls Try.prog 44 #[.slice A len c, .int .i64 (p : Nat)] w fun e w' => e = .returned (encGot r) ∧ Below w.heap.size w w' := by
  by_cases hlt : p < len
  · exact refGet_in A len c f p w h (by omega) hc hcc hlt r hr
  · have e : len - p = 0 := by omega
    rw [e, seg_zero] at hr
    have hr2 : none = r := (got_no_short (a := []) (fun x hx => by cases hx)).uniq hr
    subst hr2
    exact (refGetOut A len c (p : Nat) w (by omega) (by omega) (by omega) (by omega)).mono fun e w' ⟨h, h'⟩ => ⟨h, h' ▸ Below.refl _ _⟩

set_option maxRecDepth 100000 in
set_option maxHeartbeats 4000000 in
theorem refTake_n (A : Option Addr) (n c : Nat) (f : Nat → Nat) (w : World) (h : Bytes w A n f) (hn : n ≤ 4194304) (hc : n ≤ c) (hcc : c ≤ 9223372036854775807) :
    Calls Try.prog 34 #[.int .u8 110, .slice A n c] w (OneTaken 110 (seg f 0 n) w) := by
  obtain ⟨r, hr⟩ := got_is (seg f 0 n)
  have G : Hid (∀ W, Below w.heap.size w W → Calls Try.prog 44 #[.slice A n c, .int .i64 0] W fun e w' => e = .returned (encGot r) ∧ Below W.heap.size W w') := Lib.hid (fun W hW => refGet_at A n c f 0 W (h.below hW) hn hc hcc (by omega) r hr)
  have R := Lib.hid hr
  clear h hr
  cases r with
  | none =>
    have NO : Hid (∀ v r, Fits 110 v → Short v → Real v → form 110 v ++ r ≠ seg f 0 n) := Lib.hid (fun v r _ _ hv e => by rw [form_n] at e; exact R.out v.n r hv.1 e.symm)
    go_enter Try.func34, Try.ntmps34
    go_wp2_with fail
    have B := Lib.hid (((Below.refl w.heap.size w).alloc (Nat.le_refl _) (.cells #[.int .u64 0, .int .i64 0, .bool false, .slice none 0 0, .slice none 0 0] 42)).alloc (by simp) (.cells #[.int .u64 0, .int .i64 0, .bool false, .slice none 0 0, .slice none 0 0] 42))
    refine (G.out _ B.out).mono ?_
    rintro e w3 ⟨rfl, hb⟩
    unfold encGot
    have X1 := Lib.hid ((hb.block w.heap.size (by simp; omega)).trans (heap_alloc2_old _ _ _))
    have X2 := Lib.hid ((hb.block (w.heap.size + 1) (by simp)).trans (heap_alloc2_new _ _ _))
    have B3 := Lib.hid (B.out.trans (hb.mono B.out.size))
    clear hb B
    have c0 : w3.cell? ⟨w.heap.size + 1, 0, none⟩ = some (.int .u64 0) := by rw [cell_of_row w3 _ 0 _ _ _ X2.out]; rfl
    have y0 : w3.frozen? ⟨w.heap.size + 1, 0, none⟩ = false := by simp [World.frozen?, X2.out]
    have d0 : w3.cell? ⟨w.heap.size, 0, none⟩ = some (.int .u64 0) := by rw [cell_of_row w3 _ 0 _ _ _ X1.out]; rfl
    have z0 : w3.frozen? ⟨w.heap.size, 0, none⟩ = false := by simp [World.frozen?, X1.out]
    have c1 : w3.cell? ⟨w.heap.size + 1, 1, none⟩ = some (.int .i64 0) := by rw [cell_of_row w3 _ 1 _ _ _ X2.out]; rfl
    have y1 : w3.frozen? ⟨w.heap.size + 1, 1, none⟩ = false := by simp [World.frozen?, X2.out]
    have d1 : w3.cell? ⟨w.heap.size, 1, none⟩ = some (.int .i64 0) := by rw [cell_of_row w3 _ 1 _ _ _ X1.out]; rfl
    have z1 : w3.frozen? ⟨w.heap.size, 1, none⟩ = false := by simp [World.frozen?, X1.out]
    have c2 : w3.cell? ⟨w.heap.size + 1, 2, none⟩ = some (.bool false) := by rw [cell_of_row w3 _ 2 _ _ _ X2.out]; rfl
    have y2 : w3.frozen? ⟨w.heap.size + 1, 2, none⟩ = false := by simp [World.frozen?, X2.out]
    have d2 : w3.cell? ⟨w.heap.size, 2, none⟩ = some (.bool false) := by rw [cell_of_row w3 _ 2 _ _ _ X1.out]; rfl
    have z2 : w3.frozen? ⟨w.heap.size, 2, none⟩ = false := by simp [World.frozen?, X1.out]
    have c3 : w3.cell? ⟨w.heap.size + 1, 3, none⟩ = some (.slice none 0 0) := by rw [cell_of_row w3 _ 3 _ _ _ X2.out]; rfl
    have y3 : w3.frozen? ⟨w.heap.size + 1, 3, none⟩ = false := by simp [World.frozen?, X2.out]
    have d3 : w3.cell? ⟨w.heap.size, 3, none⟩ = some (.slice none 0 0) := by rw [cell_of_row w3 _ 3 _ _ _ X1.out]; rfl
    have z3 : w3.frozen? ⟨w.heap.size, 3, none⟩ = false := by simp [World.frozen?, X1.out]
    have c4 : w3.cell? ⟨w.heap.size + 1, 4, none⟩ = some (.slice none 0 0) := by rw [cell_of_row w3 _ 4 _ _ _ X2.out]; rfl
    have y4 : w3.frozen? ⟨w.heap.size + 1, 4, none⟩ = false := by simp [World.frozen?, X2.out]
    have d4 : w3.cell? ⟨w.heap.size, 4, none⟩ = some (.slice none 0 0) := by rw [cell_of_row w3 _ 4 _ _ _ X1.out]; rfl
    have z4 : w3.frozen? ⟨w.heap.size, 4, none⟩ = false := by simp [World.frozen?, X1.out]
    go_wp2_with fail
    refine bodyPost_ret (results_row_tmp rfl _ _ w.heap.size _ _ _ _ rfl (box_set X1.out _ _ _ _ _) Try.underlying42 rfl (by kernel_rfl)) rfl ?_
    exact ⟨box_below B3.out (Nat.le_refl _) _ _ _ _ _, .inl ⟨NO.out, rfl⟩⟩
  | some p =>
    obtain ⟨x, k⟩ := p
    obtain ⟨hx, rfl, r, hr⟩ := R.out
    have k0 := word_pos x
    have kz : ((word x).length : Int) ≠ 0 := by omega
    have KK : Hid (∃ (X : RV), (∀ W, X.ok W) ∧ Fits 110 X.mean ∧ Short X.mean ∧ form 110 X.mean ++ r = seg f 0 n ∧ (form 110 X.mean).length = (word x).length ∧ X.val = .agg #[.int .u64 (x : Nat), .int .i64 0, .bool false, .slice none 0 0, .slice none 0 0] ∧ X.bA = none ∧ X.lA = none) := Lib.hid
      ⟨onlyRV x 0 false, fun W => onlyOk W hx (by decide), by simp [Fits, onlyRV, RV.mean, seg_zero], by simp [Short, onlyRV, RV.mean, seg_zero], by rw [form_n, hr]; rfl, by rw [form_n]; rfl, rfl, rfl, rfl⟩
    clear R hr
    go_enter Try.func34, Try.ntmps34
    go_wp2_with fail
    have B := Lib.hid (((Below.refl w.heap.size w).alloc (Nat.le_refl _) (.cells #[.int .u64 0, .int .i64 0, .bool false, .slice none 0 0, .slice none 0 0] 42)).alloc (by simp) (.cells #[.int .u64 0, .int .i64 0, .bool false, .slice none 0 0, .slice none 0 0] 42))
    refine (G.out _ B.out).mono ?_
    rintro e w3 ⟨rfl, hb⟩
    unfold encGot
    have X1 := Lib.hid ((hb.block w.heap.size (by simp; omega)).trans (heap_alloc2_old _ _ _))
    have X2 := Lib.hid ((hb.block (w.heap.size + 1) (by simp)).trans (heap_alloc2_new _ _ _))
    have B3 := Lib.hid (B.out.trans (hb.mono B.out.size))
    clear hb B
    have c0 : w3.cell? ⟨w.heap.size + 1, 0, none⟩ = some (.int .u64 0) := by rw [cell_of_row w3 _ 0 _ _ _ X2.out]; rfl
    have y0 : w3.frozen? ⟨w.heap.size + 1, 0, none⟩ = false := by simp [World.frozen?, X2.out]
    have d0 : w3.cell? ⟨w.heap.size, 0, none⟩ = some (.int .u64 0) := by rw [cell_of_row w3 _ 0 _ _ _ X1.out]; rfl
    have z0 : w3.frozen? ⟨w.heap.size, 0, none⟩ = false := by simp [World.frozen?, X1.out]
    have c1 : w3.cell? ⟨w.heap.size + 1, 1, none⟩ = some (.int .i64 0) := by rw [cell_of_row w3 _ 1 _ _ _ X2.out]; rfl
    have y1 : w3.frozen? ⟨w.heap.size + 1, 1, none⟩ = false := by simp [World.frozen?, X2.out]
    have d1 : w3.cell? ⟨w.heap.size, 1, none⟩ = some (.int .i64 0) := by rw [cell_of_row w3 _ 1 _ _ _ X1.out]; rfl
    have z1 : w3.frozen? ⟨w.heap.size, 1, none⟩ = false := by simp [World.frozen?, X1.out]
    have c2 : w3.cell? ⟨w.heap.size + 1, 2, none⟩ = some (.bool false) := by rw [cell_of_row w3 _ 2 _ _ _ X2.out]; rfl
    have y2 : w3.frozen? ⟨w.heap.size + 1, 2, none⟩ = false := by simp [World.frozen?, X2.out]
    have d2 : w3.cell? ⟨w.heap.size, 2, none⟩ = some (.bool false) := by rw [cell_of_row w3 _ 2 _ _ _ X1.out]; rfl
    have z2 : w3.frozen? ⟨w.heap.size, 2, none⟩ = false := by simp [World.frozen?, X1.out]
    have c3 : w3.cell? ⟨w.heap.size + 1, 3, none⟩ = some (.slice none 0 0) := by rw [cell_of_row w3 _ 3 _ _ _ X2.out]; rfl
    have y3 : w3.frozen? ⟨w.heap.size + 1, 3, none⟩ = false := by simp [World.frozen?, X2.out]
    have d3 : w3.cell? ⟨w.heap.size, 3, none⟩ = some (.slice none 0 0) := by rw [cell_of_row w3 _ 3 _ _ _ X1.out]; rfl
    have z3 : w3.frozen? ⟨w.heap.size, 3, none⟩ = false := by simp [World.frozen?, X1.out]
    have c4 : w3.cell? ⟨w.heap.size + 1, 4, none⟩ = some (.slice none 0 0) := by rw [cell_of_row w3 _ 4 _ _ _ X2.out]; rfl
    have y4 : w3.frozen? ⟨w.heap.size + 1, 4, none⟩ = false := by simp [World.frozen?, X2.out]
    have d4 : w3.cell? ⟨w.heap.size, 4, none⟩ = some (.slice none 0 0) := by rw [cell_of_row w3 _ 4 _ _ _ X1.out]; rfl
    have z4 : w3.frozen? ⟨w.heap.size, 4, none⟩ = false := by simp [World.frozen?, X1.out]
    go_wp2_with fail
    have X3 : Hid ((w3.setCell ⟨w.heap.size + 1, 0, none⟩ (.int .u64 (x : Nat))).heap[w.heap.size]? = some (.cells #[.int .u64 0, .int .i64 0, .bool false, .slice none 0 0, .slice none 0 0] 42 (0, 0))) := Lib.hid (by rw [Below.heap_setCell _ _ _ _ (by simp)]; exact X1.out)
    refine bodyPost_ret (results_row_tmp rfl _ _ w.heap.size _ _ _ _ rfl (box_set X3.out _ _ _ _ _) Try.underlying42 rfl (by kernel_rfl)) rfl ?_
    obtain ⟨X, k1, k2, k3, k4, k5, k6, k7, k8⟩ := KK.out
    exact ⟨box_below (B3.out.setCell (by simp) _) (Nat.le_refl _) _ _ _ _ _, .inr ⟨X, r, k1 _, k2, k3, k4, by rw [k6, k5]; rfl, by rw [k7]; exact NewAt.none _ _, by rw [k8]; exact NewAt.none _ _⟩⟩

set_option maxRecDepth 100000 in
set_option maxHeartbeats 4000000 in
theorem refTake_i (A : Option Addr) (n c : Nat) (f : Nat → Nat) (w : World) (h : Bytes w A n f) (hn : n ≤ 4194304) (hc : n ≤ c) (hcc : c ≤ 9223372036854775807) :
    Calls Try.prog 34 #[.int .u8 105, .slice A n c] w (OneTaken 105 (seg f 0 n) w) := by
  obtain ⟨r, hr⟩ := got_is (seg f 0 n)
  have G : Hid (∀ W, Below w.heap.size w W → Calls Try.prog 44 #[.slice A n c, .int .i64 0] W fun e w' => e = .returned (encGot r) ∧ Below W.heap.size W w') := Lib.hid (fun W hW => refGet_at A n c f 0 W (h.below hW) hn hc hcc (by omega) r hr)
  have R := Lib.hid hr
  clear h hr
  cases r with
  | none =>
    have NO : Hid (∀ v r, Fits 105 v → Short v → Real v → form 105 v ++ r ≠ seg f 0 n) := Lib.hid (fun v r _ _ hv e => by rw [form_i] at e; exact R.out (foldN v.i) r (foldN_lt hv.2.1) e.symm)
    go_enter Try.func34, Try.ntmps34
    go_wp2_with fail
    have B := Lib.hid (((Below.refl w.heap.size w).alloc (Nat.le_refl _) (.cells #[.int .u64 0, .int .i64 0, .bool false, .slice none 0 0, .slice none 0 0] 42)).alloc (by simp) (.cells #[.int .u64 0, .int .i64 0, .bool false, .slice none 0 0, .slice none 0 0] 42))
    refine (G.out _ B.out).mono ?_
    rintro e w3 ⟨rfl, hb⟩
    unfold encGot
    have X1 := Lib.hid ((hb.block w.heap.size (by simp; omega)).trans (heap_alloc2_old _ _ _))
    have X2 := Lib.hid ((hb.block (w.heap.size + 1) (by simp)).trans (heap_alloc2_new _ _ _))
    have B3 := Lib.hid (B.out.trans (hb.mono B.out.size))
    clear hb B
    have c0 : w3.cell? ⟨w.heap.size + 1, 0, none⟩ = some (.int .u64 0) := by rw [cell_of_row w3 _ 0 _ _ _ X2.out]; rfl
    have y0 : w3.frozen? ⟨w.heap.size + 1, 0, none⟩ = false := by simp [World.frozen?, X2.out]
    have d0 : w3.cell? ⟨w.heap.size, 0, none⟩ = some (.int .u64 0) := by rw [cell_of_row w3 _ 0 _ _ _ X1.out]; rfl
    have z0 : w3.frozen? ⟨w.heap.size, 0, none⟩ = false := by simp [World.frozen?, X1.out]
    have c1 : w3.cell? ⟨w.heap.size + 1, 1, none⟩ = some (.int .i64 0) := by rw [cell_of_row w3 _ 1 _ _ _ X2.out]; rfl
    have y1 : w3.frozen? ⟨w.heap.size + 1, 1, none⟩ = false := by simp [World.frozen?, X2.out]
    have d1 : w3.cell? ⟨w.heap.size, 1, none⟩ = some (.int .i64 0) := by rw [cell_of_row w3 _ 1 _ _ _ X1.out]; rfl
    have z1 : w3.frozen? ⟨w.heap.size, 1, none⟩ = false := by simp [World.frozen?, X1.out]
    have c2 : w3.cell? ⟨w.heap.size + 1, 2, none⟩ = some (.bool false) := by rw [cell_of_row w3 _ 2 _ _ _ X2.out]; rfl
    have y2 : w3.frozen? ⟨w.heap.size + 1, 2, none⟩ = false := by simp [World.frozen?, X2.out]
    have d2 : w3.cell? ⟨w.heap.size, 2, none⟩ = some (.bool false) := by rw [cell_of_row w3 _ 2 _ _ _ X1.out]; rfl
    have z2 : w3.frozen? ⟨w.heap.size, 2, none⟩ = false := by simp [World.frozen?, X1.out]
    have c3 : w3.cell? ⟨w.heap.size + 1, 3, none⟩ = some (.slice none 0 0) := by rw [cell_of_row w3 _ 3 _ _ _ X2.out]; rfl
    have y3 : w3.frozen? ⟨w.heap.size + 1, 3, none⟩ = false := by simp [World.frozen?, X2.out]
    have d3 : w3.cell? ⟨w.heap.size, 3, none⟩ = some (.slice none 0 0) := by rw [cell_of_row w3 _ 3 _ _ _ X1.out]; rfl
    have z3 : w3.frozen? ⟨w.heap.size, 3, none⟩ = false := by simp [World.frozen?, X1.out]
    have c4 : w3.cell? ⟨w.heap.size + 1, 4, none⟩ = some (.slice none 0 0) := by rw [cell_of_row w3 _ 4 _ _ _ X2.out]; rfl
    have y4 : w3.frozen? ⟨w.heap.size + 1, 4, none⟩ = false := by simp [World.frozen?, X2.out]
    have d4 : w3.cell? ⟨w.heap.size, 4, none⟩ = some (.slice none 0 0) := by rw [cell_of_row w3 _ 4 _ _ _ X1.out]; rfl
    have z4 : w3.frozen? ⟨w.heap.size, 4, none⟩ = false := by simp [World.frozen?, X1.out]
    go_wp2_with fail
    refine bodyPost_ret (results_row_tmp rfl _ _ w.heap.size _ _ _ _ rfl (box_set X1.out _ _ _ _ _) Try.underlying42 rfl (by kernel_rfl)) rfl ?_
    exact ⟨box_below B3.out (Nat.le_refl _) _ _ _ _ _, .inl ⟨NO.out, rfl⟩⟩
  | some p =>
    obtain ⟨x, k⟩ := p
    obtain ⟨hx, rfl, r, hr⟩ := R.out
    have k0 := word_pos x
    have kz : ((word x).length : Int) ≠ 0 := by omega
    have UB : Hid (-9223372036854775808 ≤ unfoldI x ∧ unfoldI x ≤ 9223372036854775807) := Lib.hid (by unfold unfoldI; split <;> omega)
    have KK : Hid (∃ (X : RV), (∀ W, X.ok W) ∧ Fits 105 X.mean ∧ Short X.mean ∧ form 105 X.mean ++ r = seg f 0 n ∧ (form 105 X.mean).length = (word x).length ∧ X.val = .agg #[.int .u64 0, .int .i64 (unfoldI x), .bool false, .slice none 0 0, .slice none 0 0] ∧ X.bA = none ∧ X.lA = none) := Lib.hid
      ⟨onlyRV 0 (unfoldI x) false, fun W => onlyOk W (by decide) UB.out, by simp [Fits, onlyRV, RV.mean, seg_zero], by simp [Short, onlyRV, RV.mean, seg_zero], by rw [form_i, hr]; show word (foldN (unfoldI x)) ++ _ = _; rw [fold_unfold], by rw [form_i]; show (word (foldN (unfoldI x))).length = _; rw [fold_unfold], rfl, rfl, rfl⟩
    clear R hr
    go_enter Try.func34, Try.ntmps34
    go_wp2_with fail
    have B := Lib.hid (((Below.refl w.heap.size w).alloc (Nat.le_refl _) (.cells #[.int .u64 0, .int .i64 0, .bool false, .slice none 0 0, .slice none 0 0] 42)).alloc (by simp) (.cells #[.int .u64 0, .int .i64 0, .bool false, .slice none 0 0, .slice none 0 0] 42))
    refine (G.out _ B.out).mono ?_
    rintro e w3 ⟨rfl, hb⟩
    unfold encGot
    have X1 := Lib.hid ((hb.block w.heap.size (by simp; omega)).trans (heap_alloc2_old _ _ _))
    have X2 := Lib.hid ((hb.block (w.heap.size + 1) (by simp)).trans (heap_alloc2_new _ _ _))
    have B3 := Lib.hid (B.out.trans (hb.mono B.out.size))
    clear hb B
    have c0 : w3.cell? ⟨w.heap.size + 1, 0, none⟩ = some (.int .u64 0) := by rw [cell_of_row w3 _ 0 _ _ _ X2.out]; rfl
    have y0 : w3.frozen? ⟨w.heap.size + 1, 0, none⟩ = false := by simp [World.frozen?, X2.out]
    have d0 : w3.cell? ⟨w.heap.size, 0, none⟩ = some (.int .u64 0) := by rw [cell_of_row w3 _ 0 _ _ _ X1.out]; rfl
    have z0 : w3.frozen? ⟨w.heap.size, 0, none⟩ = false := by simp [World.frozen?, X1.out]
    have c1 : w3.cell? ⟨w.heap.size + 1, 1, none⟩ = some (.int .i64 0) := by rw [cell_of_row w3 _ 1 _ _ _ X2.out]; rfl
    have y1 : w3.frozen? ⟨w.heap.size + 1, 1, none⟩ = false := by simp [World.frozen?, X2.out]
    have d1 : w3.cell? ⟨w.heap.size, 1, none⟩ = some (.int .i64 0) := by rw [cell_of_row w3 _ 1 _ _ _ X1.out]; rfl
    have z1 : w3.frozen? ⟨w.heap.size, 1, none⟩ = false := by simp [World.frozen?, X1.out]
    have c2 : w3.cell? ⟨w.heap.size + 1, 2, none⟩ = some (.bool false) := by rw [cell_of_row w3 _ 2 _ _ _ X2.out]; rfl
    have y2 : w3.frozen? ⟨w.heap.size + 1, 2, none⟩ = false := by simp [World.frozen?, X2.out]
    have d2 : w3.cell? ⟨w.heap.size, 2, none⟩ = some (.bool false) := by rw [cell_of_row w3 _ 2 _ _ _ X1.out]; rfl
    have z2 : w3.frozen? ⟨w.heap.size, 2, none⟩ = false := by simp [World.frozen?, X1.out]
    have c3 : w3.cell? ⟨w.heap.size + 1, 3, none⟩ = some (.slice none 0 0) := by rw [cell_of_row w3 _ 3 _ _ _ X2.out]; rfl
    have y3 : w3.frozen? ⟨w.heap.size + 1, 3, none⟩ = false := by simp [World.frozen?, X2.out]
    have d3 : w3.cell? ⟨w.heap.size, 3, none⟩ = some (.slice none 0 0) := by rw [cell_of_row w3 _ 3 _ _ _ X1.out]; rfl
    have z3 : w3.frozen? ⟨w.heap.size, 3, none⟩ = false := by simp [World.frozen?, X1.out]
    have c4 : w3.cell? ⟨w.heap.size + 1, 4, none⟩ = some (.slice none 0 0) := by rw [cell_of_row w3 _ 4 _ _ _ X2.out]; rfl
    have y4 : w3.frozen? ⟨w.heap.size + 1, 4, none⟩ = false := by simp [World.frozen?, X2.out]
    have d4 : w3.cell? ⟨w.heap.size, 4, none⟩ = some (.slice none 0 0) := by rw [cell_of_row w3 _ 4 _ _ _ X1.out]; rfl
    have z4 : w3.frozen? ⟨w.heap.size, 4, none⟩ = false := by simp [World.frozen?, X1.out]
    go_wp2_with fail
    refine (refUnfold_any x hx _).mono ?_
    rintro e w4 ⟨rfl, rfl⟩
    go_wp2_with fail
    have X3 : Hid ((w3.setCell ⟨w.heap.size + 1, 1, none⟩ (.int .i64 (unfoldI x))).heap[w.heap.size]? = some (.cells #[.int .u64 0, .int .i64 0, .bool false, .slice none 0 0, .slice none 0 0] 42 (0, 0))) := Lib.hid (by rw [Below.heap_setCell _ _ _ _ (by simp)]; exact X1.out)
    refine bodyPost_ret (results_row_tmp rfl _ _ w.heap.size _ _ _ _ rfl (box_set X3.out _ _ _ _ _) Try.underlying42 rfl (by kernel_rfl)) rfl ?_
    obtain ⟨X, k1, k2, k3, k4, k5, k6, k7, k8⟩ := KK.out
    exact ⟨box_below (B3.out.setCell (by simp) _) (Nat.le_refl _) _ _ _ _ _, .inr ⟨X, r, k1 _, k2, k3, k4, by rw [k6, k5]; rfl, by rw [k7]; exact NewAt.none _ _, by rw [k8]; exact NewAt.none _ _⟩⟩

set_option maxRecDepth 100000 in
set_option maxHeartbeats 4000000 in
theorem refTake_b (A : Option Addr) (n c : Nat) (f : Nat → Nat) (w : World) (h : Bytes w A n f) (hn : n ≤ 4194304) (hc : n ≤ c) (hcc : c ≤ 9223372036854775807) (hA : A = none → n = 0 ∧ c = 0) :
    Calls Try.prog 34 #[.int .u8 98, .slice A n c] w (OneTaken 98 (seg f 0 n) w) := by
  obtain ⟨r, hr⟩ := got_is (seg f 0 n)
  have G : Hid (∀ W, Below w.heap.size w W → Calls Try.prog 44 #[.slice A n c, .int .i64 0] W fun e w' => e = .returned (encGot r) ∧ Below W.heap.size W w') := Lib.hid (fun W hW => refGet_at A n c f 0 W (h.below hW) hn hc hcc (by omega) r hr)
  have R := Lib.hid hr
  have H := Lib.hid h
  clear h hr
  cases r with
  | none =>
    have NO : Hid (∀ v r, Fits 98 v → Short v → Real v → form 98 v ++ r ≠ seg f 0 n) := Lib.hid (fun v r _ _ hv e => by rw [form_b, List.append_assoc] at e; exact R.out v.b.length (v.b ++ r) hv.2.2.2.2.1 e.symm)
    go_enter Try.func34, Try.ntmps34
    go_wp2_with fail
    have B := Lib.hid (((Below.refl w.heap.size w).alloc (Nat.le_refl _) (.cells #[.int .u64 0, .int .i64 0, .bool false, .slice none 0 0, .slice none 0 0] 42)).alloc (by simp) (.cells #[.int .u64 0, .int .i64 0, .bool false, .slice none 0 0, .slice none 0 0] 42))
    refine (G.out _ B.out).mono ?_
    rintro e w3 ⟨rfl, hb⟩
    unfold encGot
    have X1 := Lib.hid ((hb.block w.heap.size (by simp; omega)).trans (heap_alloc2_old _ _ _))
    have X2 := Lib.hid ((hb.block (w.heap.size + 1) (by simp)).trans (heap_alloc2_new _ _ _))
    have B3 := Lib.hid (B.out.trans (hb.mono B.out.size))
    clear hb B
    have c0 : w3.cell? ⟨w.heap.size + 1, 0, none⟩ = some (.int .u64 0) := by rw [cell_of_row w3 _ 0 _ _ _ X2.out]; rfl
    have y0 : w3.frozen? ⟨w.heap.size + 1, 0, none⟩ = false := by simp [World.frozen?, X2.out]
    have d0 : w3.cell? ⟨w.heap.size, 0, none⟩ = some (.int .u64 0) := by rw [cell_of_row w3 _ 0 _ _ _ X1.out]; rfl
    have z0 : w3.frozen? ⟨w.heap.size, 0, none⟩ = false := by simp [World.frozen?, X1.out]
    have c1 : w3.cell? ⟨w.heap.size + 1, 1, none⟩ = some (.int .i64 0) := by rw [cell_of_row w3 _ 1 _ _ _ X2.out]; rfl
    have y1 : w3.frozen? ⟨w.heap.size + 1, 1, none⟩ = false := by simp [World.frozen?, X2.out]
    have d1 : w3.cell? ⟨w.heap.size, 1, none⟩ = some (.int .i64 0) := by rw [cell_of_row w3 _ 1 _ _ _ X1.out]; rfl
    have z1 : w3.frozen? ⟨w.heap.size, 1, none⟩ = false := by simp [World.frozen?, X1.out]
    have c2 : w3.cell? ⟨w.heap.size + 1, 2, none⟩ = some (.bool false) := by rw [cell_of_row w3 _ 2 _ _ _ X2.out]; rfl
    have y2 : w3.frozen? ⟨w.heap.size + 1, 2, none⟩ = false := by simp [World.frozen?, X2.out]
    have d2 : w3.cell? ⟨w.heap.size, 2, none⟩ = some (.bool false) := by rw [cell_of_row w3 _ 2 _ _ _ X1.out]; rfl
    have z2 : w3.frozen? ⟨w.heap.size, 2, none⟩ = false := by simp [World.frozen?, X1.out]
    have c3 : w3.cell? ⟨w.heap.size + 1, 3, none⟩ = some (.slice none 0 0) := by rw [cell_of_row w3 _ 3 _ _ _ X2.out]; rfl
    have y3 : w3.frozen? ⟨w.heap.size + 1, 3, none⟩ = false := by simp [World.frozen?, X2.out]
    have d3 : w3.cell? ⟨w.heap.size, 3, none⟩ = some (.slice none 0 0) := by rw [cell_of_row w3 _ 3 _ _ _ X1.out]; rfl
    have z3 : w3.frozen? ⟨w.heap.size, 3, none⟩ = false := by simp [World.frozen?, X1.out]
    have c4 : w3.cell? ⟨w.heap.size + 1, 4, none⟩ = some (.slice none 0 0) := by rw [cell_of_row w3 _ 4 _ _ _ X2.out]; rfl
    have y4 : w3.frozen? ⟨w.heap.size + 1, 4, none⟩ = false := by simp [World.frozen?, X2.out]
    have d4 : w3.cell? ⟨w.heap.size, 4, none⟩ = some (.slice none 0 0) := by rw [cell_of_row w3 _ 4 _ _ _ X1.out]; rfl
    have z4 : w3.frozen? ⟨w.heap.size, 4, none⟩ = false := by simp [World.frozen?, X1.out]
    go_wp2_with fail
    refine bodyPost_ret (results_row_tmp rfl _ _ w.heap.size _ _ _ _ rfl (box_set X1.out _ _ _ _ _) Try.underlying42 rfl (by kernel_rfl)) rfl ?_
    exact ⟨box_below B3.out (Nat.le_refl _) _ _ _ _ _, .inl ⟨NO.out, rfl⟩⟩
  | some p =>
    obtain ⟨x, k⟩ := p
    obtain ⟨hx, rfl, r, hr⟩ := R.out
    have k0 := word_pos x
    have kt := word_ten hx
    have kz : ((word x).length : Int) ≠ 0 := by omega
    have LE : (word x).length + r.length = n := by have := congrArg List.length hr; rw [seg_len, List.length_append] at this; omega
    by_cases hbig : 262144 < x
    · have g1 : (262144 : Int) < x := by omega
      have NO : Hid (∀ v r, Fits 98 v → Short v → Real v → form 98 v ++ r ≠ seg f 0 n) := Lib.hid (fun v t _ hs _ e => by
        rw [form_b, hr, List.append_assoc] at e
        have := word_inj e
        have := hs.1
        omega)
      clear R hr
      go_enter Try.func34, Try.ntmps34
      go_wp2_with fail
      have B := Lib.hid (((Below.refl w.heap.size w).alloc (Nat.le_refl _) (.cells #[.int .u64 0, .int .i64 0, .bool false, .slice none 0 0, .slice none 0 0] 42)).alloc (by simp) (.cells #[.int .u64 0, .int .i64 0, .bool false, .slice none 0 0, .slice none 0 0] 42))
      refine (G.out _ B.out).mono ?_
      rintro e w3 ⟨rfl, hb⟩
      unfold encGot
      have X1 := Lib.hid ((hb.block w.heap.size (by simp; omega)).trans (heap_alloc2_old _ _ _))
      have X2 := Lib.hid ((hb.block (w.heap.size + 1) (by simp)).trans (heap_alloc2_new _ _ _))
      have B3 := Lib.hid (B.out.trans (hb.mono B.out.size))
      clear hb B
      have c0 : w3.cell? ⟨w.heap.size + 1, 0, none⟩ = some (.int .u64 0) := by rw [cell_of_row w3 _ 0 _ _ _ X2.out]; rfl
      have y0 : w3.frozen? ⟨w.heap.size + 1, 0, none⟩ = false := by simp [World.frozen?, X2.out]
      have d0 : w3.cell? ⟨w.heap.size, 0, none⟩ = some (.int .u64 0) := by rw [cell_of_row w3 _ 0 _ _ _ X1.out]; rfl
      have z0 : w3.frozen? ⟨w.heap.size, 0, none⟩ = false := by simp [World.frozen?, X1.out]
      have c1 : w3.cell? ⟨w.heap.size + 1, 1, none⟩ = some (.int .i64 0) := by rw [cell_of_row w3 _ 1 _ _ _ X2.out]; rfl
      have y1 : w3.frozen? ⟨w.heap.size + 1, 1, none⟩ = false := by simp [World.frozen?, X2.out]
      have d1 : w3.cell? ⟨w.heap.size, 1, none⟩ = some (.int .i64 0) := by rw [cell_of_row w3 _ 1 _ _ _ X1.out]; rfl
      have z1 : w3.frozen? ⟨w.heap.size, 1, none⟩ = false := by simp [World.frozen?, X1.out]
      have c2 : w3.cell? ⟨w.heap.size + 1, 2, none⟩ = some (.bool false) := by rw [cell_of_row w3 _ 2 _ _ _ X2.out]; rfl
      have y2 : w3.frozen? ⟨w.heap.size + 1, 2, none⟩ = false := by simp [World.frozen?, X2.out]
      have d2 : w3.cell? ⟨w.heap.size, 2, none⟩ = some (.bool false) := by rw [cell_of_row w3 _ 2 _ _ _ X1.out]; rfl
      have z2 : w3.frozen? ⟨w.heap.size, 2, none⟩ = false := by simp [World.frozen?, X1.out]
      have c3 : w3.cell? ⟨w.heap.size + 1, 3, none⟩ = some (.slice none 0 0) := by rw [cell_of_row w3 _ 3 _ _ _ X2.out]; rfl
      have y3 : w3.frozen? ⟨w.heap.size + 1, 3, none⟩ = false := by simp [World.frozen?, X2.out]
      have d3 : w3.cell? ⟨w.heap.size, 3, none⟩ = some (.slice none 0 0) := by rw [cell_of_row w3 _ 3 _ _ _ X1.out]; rfl
      have z3 : w3.frozen? ⟨w.heap.size, 3, none⟩ = false := by simp [World.frozen?, X1.out]
      have c4 : w3.cell? ⟨w.heap.size + 1, 4, none⟩ = some (.slice none 0 0) := by rw [cell_of_row w3 _ 4 _ _ _ X2.out]; rfl
      have y4 : w3.frozen? ⟨w.heap.size + 1, 4, none⟩ = false := by simp [World.frozen?, X2.out]
      have d4 : w3.cell? ⟨w.heap.size, 4, none⟩ = some (.slice none 0 0) := by rw [cell_of_row w3 _ 4 _ _ _ X1.out]; rfl
      have z4 : w3.frozen? ⟨w.heap.size, 4, none⟩ = false := by simp [World.frozen?, X1.out]
      go_wp2_with fail
      refine bodyPost_ret (results_row_tmp rfl _ _ w.heap.size _ _ _ _ rfl (box_set X1.out _ _ _ _ _) Try.underlying42 rfl (by kernel_rfl)) rfl ?_
      exact ⟨box_below B3.out (Nat.le_refl _) _ _ _ _ _, .inl ⟨NO.out, rfl⟩⟩
    · have g1 : ¬ (262144 : Int) < x := by omega
      have w1 : IntKind.i64.wrap (x : Int) = (x : Int) := IntWalk.i64_in _ (by omega)
      by_cases hlen : n < (word x).length + x
      · have g2 : (n : Int) < ((word x).length : Int) + x := by omega
        have NO : Hid (∀ v r, Fits 98 v → Short v → Real v → form 98 v ++ r ≠ seg f 0 n) := Lib.hid (fun v t _ hs _ e => by
          have el := congrArg List.length e
          rw [form_b, hr, List.append_assoc] at e
          have e2 := word_inj e
          rw [form_b, seg_len, List.length_append, List.length_append, e2] at el
          omega)
        have w2 : IntKind.i64.wrap (((word x).length : Int) + x) = ((word x).length : Int) + x := IntWalk.i64_in _ (by omega)
        clear R hr
        go_enter Try.func34, Try.ntmps34
        go_wp2_with fail
        have B := Lib.hid (((Below.refl w.heap.size w).alloc (Nat.le_refl _) (.cells #[.int .u64 0, .int .i64 0, .bool false, .slice none 0 0, .slice none 0 0] 42)).alloc (by simp) (.cells #[.int .u64 0, .int .i64 0, .bool false, .slice none 0 0, .slice none 0 0] 42))
        refine (G.out _ B.out).mono ?_
        rintro e w3 ⟨rfl, hb⟩
        unfold encGot
        have X1 := Lib.hid ((hb.block w.heap.size (by simp; omega)).trans (heap_alloc2_old _ _ _))
        have X2 := Lib.hid ((hb.block (w.heap.size + 1) (by simp)).trans (heap_alloc2_new _ _ _))
        have B3 := Lib.hid (B.out.trans (hb.mono B.out.size))
        clear hb B
        have c0 : w3.cell? ⟨w.heap.size + 1, 0, none⟩ = some (.int .u64 0) := by rw [cell_of_row w3 _ 0 _ _ _ X2.out]; rfl
        have y0 : w3.frozen? ⟨w.heap.size + 1, 0, none⟩ = false := by simp [World.frozen?, X2.out]
        have d0 : w3.cell? ⟨w.heap.size, 0, none⟩ = some (.int .u64 0) := by rw [cell_of_row w3 _ 0 _ _ _ X1.out]; rfl
        have z0 : w3.frozen? ⟨w.heap.size, 0, none⟩ = false := by simp [World.frozen?, X1.out]
        have c1 : w3.cell? ⟨w.heap.size + 1, 1, none⟩ = some (.int .i64 0) := by rw [cell_of_row w3 _ 1 _ _ _ X2.out]; rfl
        have y1 : w3.frozen? ⟨w.heap.size + 1, 1, none⟩ = false := by simp [World.frozen?, X2.out]
        have d1 : w3.cell? ⟨w.heap.size, 1, none⟩ = some (.int .i64 0) := by rw [cell_of_row w3 _ 1 _ _ _ X1.out]; rfl
        have z1 : w3.frozen? ⟨w.heap.size, 1, none⟩ = false := by simp [World.frozen?, X1.out]
        have c2 : w3.cell? ⟨w.heap.size + 1, 2, none⟩ = some (.bool false) := by rw [cell_of_row w3 _ 2 _ _ _ X2.out]; rfl
        have y2 : w3.frozen? ⟨w.heap.size + 1, 2, none⟩ = false := by simp [World.frozen?, X2.out]
        have d2 : w3.cell? ⟨w.heap.size, 2, none⟩ = some (.bool false) := by rw [cell_of_row w3 _ 2 _ _ _ X1.out]; rfl
        have z2 : w3.frozen? ⟨w.heap.size, 2, none⟩ = false := by simp [World.frozen?, X1.out]
        have c3 : w3.cell? ⟨w.heap.size + 1, 3, none⟩ = some (.slice none 0 0) := by rw [cell_of_row w3 _ 3 _ _ _ X2.out]; rfl
        have y3 : w3.frozen? ⟨w.heap.size + 1, 3, none⟩ = false := by simp [World.frozen?, X2.out]
        have d3 : w3.cell? ⟨w.heap.size, 3, none⟩ = some (.slice none 0 0) := by rw [cell_of_row w3 _ 3 _ _ _ X1.out]; rfl
        have z3 : w3.frozen? ⟨w.heap.size, 3, none⟩ = false := by simp [World.frozen?, X1.out]
        have c4 : w3.cell? ⟨w.heap.size + 1, 4, none⟩ = some (.slice none 0 0) := by rw [cell_of_row w3 _ 4 _ _ _ X2.out]; rfl
        have y4 : w3.frozen? ⟨w.heap.size + 1, 4, none⟩ = false := by simp [World.frozen?, X2.out]
        have d4 : w3.cell? ⟨w.heap.size, 4, none⟩ = some (.slice none 0 0) := by rw [cell_of_row w3 _ 4 _ _ _ X1.out]; rfl
        have z4 : w3.frozen? ⟨w.heap.size, 4, none⟩ = false := by simp [World.frozen?, X1.out]
        go_wp2_with fail
        refine bodyPost_ret (results_row_tmp rfl _ _ w.heap.size _ _ _ _ rfl (box_set X1.out _ _ _ _ _) Try.underlying42 rfl (by kernel_rfl)) rfl ?_
        exact ⟨box_below B3.out (Nat.le_refl _) _ _ _ _ _, .inl ⟨NO.out, rfl⟩⟩
      · have g2 : ¬ (n : Int) < ((word x).length : Int) + x := by omega
        have w2 : IntKind.i64.wrap (((word x).length : Int) + x) = ((word x).length : Int) + x := IntWalk.i64_in _ (by omega)
        obtain ⟨A', hsl, hnil, hby⟩ := slice_mid A n c (word x).length x f (by omega) hc hA
        have XB : Hid (∀ W, Below w.heap.size w W → Bytes W A' x (fun i => f ((word x).length + i))) := Lib.hid (fun W hW => hby W (H.out.below hW))
        have NI := Lib.hid hnil
        have SG : Hid (seg (fun i => f ((word x).length + i)) 0 x ++ seg f ((word x).length + x) (n - ((word x).length + x)) = r) := Lib.hid (by
          obtain ⟨j, hj⟩ : ∃ j, n = (word x).length + x + j := ⟨n - ((word x).length + x), by omega⟩
          have e := hr
          rw [hj, seg_add, seg_add, List.append_assoc] at e
          have e2 := (List.append_inj e (by rw [seg_len])).2
          rw [Nat.zero_add, Nat.zero_add] at e2
          rw [seg_shift, Nat.add_zero, show n - ((word x).length + x) = j by omega]
          exact e2)
        have XL : Hid (∀ y ∈ seg (fun i => f ((word x).length + i)) 0 x, y < 256) := Lib.hid (bytes_lt (XB.out w (Below.refl _ _)))
        have FO : Hid (∀ X : RV, X.mean = ⟨0, 0, false, seg (fun i => f ((word x).length + i)) 0 x, []⟩ → Fits 98 X.mean ∧ Short X.mean ∧ form 98 X.mean ++ seg f ((word x).length + x) (n - ((word x).length + x)) = seg f 0 n ∧ (form 98 X.mean).length = (word x).length + x) := Lib.hid (fun X e => by
          rw [e, form_b]
          dsimp only
          refine ⟨by simp [Fits], ⟨by dsimp only; rw [seg_len]; omega, by simp⟩, ?_, ?_⟩
          · rw [seg_len, List.append_assoc, SG.out, hr]
          · rw [List.length_append, seg_len])
        clear R hr H hby hnil hA SG
        go_enter Try.func34, Try.ntmps34
        go_wp2_with fail
        have B := Lib.hid (((Below.refl w.heap.size w).alloc (Nat.le_refl _) (.cells #[.int .u64 0, .int .i64 0, .bool false, .slice none 0 0, .slice none 0 0] 42)).alloc (by simp) (.cells #[.int .u64 0, .int .i64 0, .bool false, .slice none 0 0, .slice none 0 0] 42))
        refine (G.out _ B.out).mono ?_
        rintro e w3 ⟨rfl, hb⟩
        unfold encGot
        have X1 := Lib.hid ((hb.block w.heap.size (by simp; omega)).trans (heap_alloc2_old _ _ _))
        have X2 := Lib.hid ((hb.block (w.heap.size + 1) (by simp)).trans (heap_alloc2_new _ _ _))
        have B3 := Lib.hid (B.out.trans (hb.mono B.out.size))
        clear hb B
        have c0 : w3.cell? ⟨w.heap.size + 1, 0, none⟩ = some (.int .u64 0) := by rw [cell_of_row w3 _ 0 _ _ _ X2.out]; rfl
        have y0 : w3.frozen? ⟨w.heap.size + 1, 0, none⟩ = false := by simp [World.frozen?, X2.out]
        have d0 : w3.cell? ⟨w.heap.size, 0, none⟩ = some (.int .u64 0) := by rw [cell_of_row w3 _ 0 _ _ _ X1.out]; rfl
        have z0 : w3.frozen? ⟨w.heap.size, 0, none⟩ = false := by simp [World.frozen?, X1.out]
        have c1 : w3.cell? ⟨w.heap.size + 1, 1, none⟩ = some (.int .i64 0) := by rw [cell_of_row w3 _ 1 _ _ _ X2.out]; rfl
        have y1 : w3.frozen? ⟨w.heap.size + 1, 1, none⟩ = false := by simp [World.frozen?, X2.out]
        have d1 : w3.cell? ⟨w.heap.size, 1, none⟩ = some (.int .i64 0) := by rw [cell_of_row w3 _ 1 _ _ _ X1.out]; rfl
        have z1 : w3.frozen? ⟨w.heap.size, 1, none⟩ = false := by simp [World.frozen?, X1.out]
        have c2 : w3.cell? ⟨w.heap.size + 1, 2, none⟩ = some (.bool false) := by rw [cell_of_row w3 _ 2 _ _ _ X2.out]; rfl
        have y2 : w3.frozen? ⟨w.heap.size + 1, 2, none⟩ = false := by simp [World.frozen?, X2.out]
        have d2 : w3.cell? ⟨w.heap.size, 2, none⟩ = some (.bool false) := by rw [cell_of_row w3 _ 2 _ _ _ X1.out]; rfl
        have z2 : w3.frozen? ⟨w.heap.size, 2, none⟩ = false := by simp [World.frozen?, X1.out]
        have c3 : w3.cell? ⟨w.heap.size + 1, 3, none⟩ = some (.slice none 0 0) := by rw [cell_of_row w3 _ 3 _ _ _ X2.out]; rfl
        have y3 : w3.frozen? ⟨w.heap.size + 1, 3, none⟩ = false := by simp [World.frozen?, X2.out]
        have d3 : w3.cell? ⟨w.heap.size, 3, none⟩ = some (.slice none 0 0) := by rw [cell_of_row w3 _ 3 _ _ _ X1.out]; rfl
        have z3 : w3.frozen? ⟨w.heap.size, 3, none⟩ = false := by simp [World.frozen?, X1.out]
        have c4 : w3.cell? ⟨w.heap.size + 1, 4, none⟩ = some (.slice none 0 0) := by rw [cell_of_row w3 _ 4 _ _ _ X2.out]; rfl
        have y4 : w3.frozen? ⟨w.heap.size + 1, 4, none⟩ = false := by simp [World.frozen?, X2.out]
        have d4 : w3.cell? ⟨w.heap.size, 4, none⟩ = some (.slice none 0 0) := by rw [cell_of_row w3 _ 4 _ _ _ X1.out]; rfl
        have z4 : w3.frozen? ⟨w.heap.size, 4, none⟩ = false := by simp [World.frozen?, X1.out]
        go_wp2_with fail
        clear c0 c1 c2 c3 c4 y0 y1 y2 y3 y4 d0 d1 d2 d3 d4 z0 z1 z2 z3 z4
        refine (copy_any A' x (c - (word x).length) (fun i => f ((word x).length + i)) w3 (XB.out w3 B3.out) (by omega) NI.out).mono ?_
        rintro e w4 ⟨C, cC, rfl, q1, q2, q3, -, hO, hbel⟩
        have S3 : w.heap.size + 2 ≤ w3.heap.size := by have := lt_of_block X2.out; omega
        have OC := Lib.hid hO
        have Y1 := Lib.hid ((hbel.block w.heap.size (by omega)).trans X1.out)
        have Y2 := Lib.hid ((hbel.block (w.heap.size + 1) (by omega)).trans X2.out)
        have B4 := Lib.hid (B3.out.trans (hbel.mono (by omega)))
        clear hbel hO X1 X2 B3
        have c0 : w4.cell? ⟨w.heap.size + 1, 0, none⟩ = some (.int .u64 0) := by rw [cell_of_row w4 _ 0 _ _ _ Y2.out]; rfl
        have y0 : w4.frozen? ⟨w.heap.size + 1, 0, none⟩ = false := by simp [World.frozen?, Y2.out]
        have d0 : w4.cell? ⟨w.heap.size, 0, none⟩ = some (.int .u64 0) := by rw [cell_of_row w4 _ 0 _ _ _ Y1.out]; rfl
        have z0 : w4.frozen? ⟨w.heap.size, 0, none⟩ = false := by simp [World.frozen?, Y1.out]
        have c1 : w4.cell? ⟨w.heap.size + 1, 1, none⟩ = some (.int .i64 0) := by rw [cell_of_row w4 _ 1 _ _ _ Y2.out]; rfl
        have y1 : w4.frozen? ⟨w.heap.size + 1, 1, none⟩ = false := by simp [World.frozen?, Y2.out]
        have d1 : w4.cell? ⟨w.heap.size, 1, none⟩ = some (.int .i64 0) := by rw [cell_of_row w4 _ 1 _ _ _ Y1.out]; rfl
        have z1 : w4.frozen? ⟨w.heap.size, 1, none⟩ = false := by simp [World.frozen?, Y1.out]
        have c2 : w4.cell? ⟨w.heap.size + 1, 2, none⟩ = some (.bool false) := by rw [cell_of_row w4 _ 2 _ _ _ Y2.out]; rfl
        have y2 : w4.frozen? ⟨w.heap.size + 1, 2, none⟩ = false := by simp [World.frozen?, Y2.out]
        have d2 : w4.cell? ⟨w.heap.size, 2, none⟩ = some (.bool false) := by rw [cell_of_row w4 _ 2 _ _ _ Y1.out]; rfl
        have z2 : w4.frozen? ⟨w.heap.size, 2, none⟩ = false := by simp [World.frozen?, Y1.out]
        have c3 : w4.cell? ⟨w.heap.size + 1, 3, none⟩ = some (.slice none 0 0) := by rw [cell_of_row w4 _ 3 _ _ _ Y2.out]; rfl
        have y3 : w4.frozen? ⟨w.heap.size + 1, 3, none⟩ = false := by simp [World.frozen?, Y2.out]
        have d3 : w4.cell? ⟨w.heap.size, 3, none⟩ = some (.slice none 0 0) := by rw [cell_of_row w4 _ 3 _ _ _ Y1.out]; rfl
        have z3 : w4.frozen? ⟨w.heap.size, 3, none⟩ = false := by simp [World.frozen?, Y1.out]
        have c4 : w4.cell? ⟨w.heap.size + 1, 4, none⟩ = some (.slice none 0 0) := by rw [cell_of_row w4 _ 4 _ _ _ Y2.out]; rfl
        have y4 : w4.frozen? ⟨w.heap.size + 1, 4, none⟩ = false := by simp [World.frozen?, Y2.out]
        have d4 : w4.cell? ⟨w.heap.size, 4, none⟩ = some (.slice none 0 0) := by rw [cell_of_row w4 _ 4 _ _ _ Y1.out]; rfl
        have z4 : w4.frozen? ⟨w.heap.size, 4, none⟩ = false := by simp [World.frozen?, Y1.out]
        go_wp2_with fail
        have X3 : Hid ((w4.setCell ⟨w.heap.size + 1, 3, none⟩ (.slice C (seg (fun i => f ((word x).length + i)) 0 x).length cC)).heap[w.heap.size]? = some (.cells #[.int .u64 0, .int .i64 0, .bool false, .slice none 0 0, .slice none 0 0] 42 (0, 0))) := Lib.hid (by rw [Below.heap_setCell _ _ _ _ (by simp)]; exact Y1.out)
        clear c0 c1 c2 c3 c4 y0 y1 y2 y3 y4 d0 d1 d2 d3 d4 z0 z1 z2 z3 z4
        refine bodyPost_ret (results_row_tmp rfl _ _ w.heap.size _ _ _ _ rfl (box_set X3.out _ _ _ _ _) Try.underlying42 rfl (by kernel_rfl)) rfl ?_
        obtain ⟨X, hX⟩ : ∃ X : RV, X = ⟨0, 0, false, C, (seg (fun i => f ((word x).length + i)) 0 x).length, cC, pick (seg (fun i => f ((word x).length + i)) 0 x), none, 0, 0, fun _ => 0⟩ := ⟨_, rfl⟩
        have XM : X.mean = ⟨0, 0, false, seg (fun i => f ((word x).length + i)) 0 x, []⟩ := by rw [hX]; unfold RV.mean; simp only [pick_seg, seg_zero]
        obtain ⟨f1, f2, f3, f4⟩ := FO.out X XM
        have hov := OC.out.over (w' := ((((((w4.setCell ⟨w.heap.size + 1, 3, none⟩ (.slice C (seg (fun i => f ((word x).length + i)) 0 x).length cC)).setCell ⟨w.heap.size, 0, none⟩ (.int .u64 0)).setCell ⟨w.heap.size, 1, none⟩ (.int .i64 0)).setCell ⟨w.heap.size, 2, none⟩ (.bool false)).setCell ⟨w.heap.size, 3, none⟩ (.slice C (seg (fun i => f ((word x).length + i)) 0 x).length cC)).setCell ⟨w.heap.size, 4, none⟩ (.slice none 0 0))) (fun k hk => by
          rw [box_other _ _ _ _ _ k (by omega), Below.heap_setCell _ _ _ _ (by show k ≠ w.heap.size + 1; omega)])
        obtain ⟨p1, p2, p3, p4⟩ := hov.nums_n (M := 256) rfl XL.out
        refine ⟨box_below (B4.out.setCell (by show w.heap.size ≤ w.heap.size + 1; omega) _) (Nat.le_refl _) _ _ _ _ _, .inr ⟨X, _, ?_, f1, f2, f3, ?_, ?_, ?_⟩⟩
        · rw [hX]
          exact ⟨(by decide : (0 : Nat) < 18446744073709551616), (by decide : (-9223372036854775808 : Int) ≤ 0 ∧ (0 : Int) ≤ 9223372036854775807), ⟨p1, p2, by dsimp only; rw [seg_len]; omega, p3, p4⟩, ⟨Nums.zero _ _, fun _ => ⟨rfl, rfl⟩, Nat.zero_le _, Nat.le_refl _, Nat.zero_le _⟩⟩
        · rw [f4, hX]; rfl
        · rw [hX]; exact hov.newAt (by omega)
        · rw [hX]; exact NewAt.none _ _
end Go.Proofs.Ytkjndgnjilfobaa
