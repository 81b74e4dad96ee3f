/-
  The landed code's cursor over items: what stands at it, what it passes over.
-/
import Derived.Test.YtpfeiiabplaghaaRefLines
import Derived.Maps.AppendAt
import Derived.Shelf.Abstract
import Derived.RangeFuncNested
import Derived.StillTailTactics
import Derived.Deep.LoopGhost
import Derived.OwnWalkIn
namespace Go.Proofs.Ytpfeiiabplaghaa
open Go.RowKit Go.Shelf

/-- a cursor in a block: over items that lie elsewhere, at a place; the widths that it passed over -/
structure Cur (W : World) (b : Nat) (A : Option Addr) (c : Nat) (l : List It) (i : Nat) : Prop where
  blk : W.heap[b]? = some (.cells #[.slice A l.length c, .int .i64 (i : Nat), .int .i64 (pre l i)] 56)
  its : ItIn W (.slice A l.length c) l
  ne : l ≠ [] → ∀ b' off, A = some ⟨b', off, none⟩ → b' ≠ b
  le : i ≤ l.length
theorem Cur.c0 {W : World} {b c i : Nat} {A : Option Addr} {l : List It} (h : Cur W b A c l i) : W.cell? ⟨b, 0, none⟩ = some (.slice A l.length c) := by simp [World.cell?, h.blk]
theorem Cur.c1 {W : World} {b c i : Nat} {A : Option Addr} {l : List It} (h : Cur W b A c l i) : W.cell? ⟨b, 1, none⟩ = some (.int .i64 (i : Nat)) := by simp [World.cell?, h.blk]
theorem Cur.c2 {W : World} {b c i : Nat} {A : Option Addr} {l : List It} (h : Cur W b A c l i) : W.cell? ⟨b, 2, none⟩ = some (.int .i64 (pre l i)) := by simp [World.cell?, h.blk]
theorem Cur.fro {W : World} {b c i : Nat} {A : Option Addr} {l : List It} (h : Cur W b A c l i) (j : Nat) : W.frozen? ⟨b, j, none⟩ = false := by simp [World.frozen?, h.blk]
theorem Cur.lt {W : World} {b c i : Nat} {A : Option Addr} {l : List It} (h : Cur W b A c l i) : b < W.heap.size := (Array.getElem?_eq_some_iff.1 h.blk).1
/-- items lie on where another block turns -/
theorem ItIn.grown {W W' : World} {row : Option Nat} {A : Option Addr} {c : Nat} {l : List It} (h : ItIn W (.slice A l.length c) l) (hg : W.grownBy W' row) (hr : l ≠ [] → ∀ b off, A = some ⟨b, off, none⟩ → row ≠ some b) : ItIn W' (.slice A l.length c) l := by
  obtain ⟨A', c', e, hc, hq⟩ := h
  injection e with e1 e2 e3
  subst e1 e3
  refine ⟨_, _, rfl, hc, fun hl => ?_⟩
  obtain ⟨b, off, h1, h2, h3⟩ := hq hl
  have hb := hg.block b h2 (fun e => hr hl _ _ h1 e.symm)
  refine ⟨b, off, h1, Nat.lt_of_lt_of_le h2 hg.size, fun j hj => ?_⟩
  rw [World.cell?_of_block (a := ⟨b, off + j * 2, none⟩) hb, World.cell?_of_block (a := ⟨b, off + j * 2 + 1, none⟩) hb]
  exact h3 j hj
theorem ItIn.block_lt {W : World} {A : Option Addr} {c : Nat} {l : List It} (h : ItIn W (.slice A l.length c) l) (hl : l ≠ []) {b off : Nat} (e : A = some ⟨b, off, none⟩) : b < W.heap.size := by
  obtain ⟨A', c', e', hc, hq⟩ := h
  injection e' with e1 e2 e3
  subst e1
  obtain ⟨b', off', h1, h2, h3⟩ := hq hl
  rw [e] at h1
  injection h1 with h1
  injection h1 with h1
  omega
theorem Cur.grown {W W' : World} {b c i : Nat} {A : Option Addr} {l : List It} (h : Cur W b A c l i) {row : Option Nat} (hg : W.grownBy W' row) (hb : row ≠ some b) (hr : l ≠ [] → ∀ b off, A = some ⟨b, off, none⟩ → row ≠ some b) : Cur W' b A c l i :=
  ⟨(hg.block b h.lt (fun e => hb e.symm)).trans h.blk, h.its.grown hg hr, h.ne, h.le⟩
theorem Cur.drewN {W : World} {b c i : Nat} {A : Option Addr} {l : List It} (h : Cur W b A c l i) (q : Nat) : Cur (W.drewN q) b A c l i :=
  h.grown (row := none) ⟨rfl, rfl, rfl, Nat.le_refl _, fun _ _ _ => rfl⟩ (by simp) (by simp)
theorem pre_in {l : List It} (h : Within l 1099511627776) (hn : l.length ≤ 4096) (i : Nat) (hi : i ≤ l.length) : -4503599627370496 ≤ pre l i ∧ pre l i ≤ 4503599627370496 := by
  have key : ∀ i, i ≤ l.length → -(1099511627776 * (i : Int)) ≤ pre l i ∧ pre l i ≤ 1099511627776 * (i : Int) := fun i => by
    induction i with
    | zero => intro _; rw [pre_zero]; omega
    | succ i ih =>
      intro hi
      have h1 := ih (by omega)
      have h2 := h i (by omega)
      rw [pre_succ]
      omega
  have := key i hi
  have := hn
  omega

set_option maxRecDepth 100000 in
set_option maxHeartbeats 4000000 in
theorem on_any {W : World} {b c i : Nat} {A : Option Addr} {l : List It} (h : Cur W b A c l i) (k : Nat) (hk : k ≤ 3) (r : Bool) (hr : decide (kd l i = k) = r) :
    Calls Try.prog 35 #[.pointer (some ⟨b, 0, none⟩), .int .u8 (k : Nat)] W fun e w' => e = .returned (.bool r) ∧ ∃ q, w' = W.drewN q := by
  have c0 := h.c0
  have c1 := h.c1
  have HI := Lib.hid h.its
  have HL := Lib.hid h.le
  obtain ⟨n, en⟩ : ∃ n, l.length = n := ⟨_, rfl⟩
  have HR := Lib.hid hr
  rw [en] at c0 HI HL
  have EN := Lib.hid en
  clear h hr en
  by_cases hlt : i < n
  · have hz : decide ((i : Int) < n) = true := by simpa using hlt
    have hz1 : (i : Int) < n := by omega
    have hz0 : (0 : Int) ≤ i := by omega
    obtain ⟨b', off, c', e, d0, -⟩ := HI.out.get (i := i) (by have := EN.out; omega)
    injection e with e1 e2 e3
    subst e1 e3
    clear e2
    have hkk : (((kd l i : Nat) : Int) == (k : Int)) = r := by
      rw [← HR.out]
      by_cases e : kd l i = k
      · simp [e]
      · have : ¬ ((kd l i : Nat) : Int) = k := by omega
        simp [e, this]
    generalize ((kd l i : Nat) : Int) = x at d0 hkk
    generalize (k : Int) = y at hkk
    cases r with
    | true =>
      go_enter Try.func35, Try.ntmps35
      go_wp2_with fail
      go_quiet (fail)
      go_wp2_with fail
      go_ret
      exact ⟨rfl, _, rfl⟩
    | false =>
      go_enter Try.func35, Try.ntmps35
      go_wp2_with fail
      go_quiet (fail)
      go_wp2_with fail
      go_ret
      exact ⟨rfl, _, rfl⟩
  · have hz : decide ((i : Int) < n) = false := by simpa using hlt
    have R : Hid (r = false) := Lib.hid (by
      rw [← HR.out, kd_end (by have := EN.out; omega)]
      simp
      omega)
    go_enter Try.func35, Try.ntmps35
    go_wp2_with fail
    go_quiet (fail)
    go_wp2_with fail
    go_ret
    exact ⟨by rw [R.out]; rfl, _, rfl⟩

/-- a method of a cursor, as a value: whether such an item stands there -/
def OnOK (y k : Nat) : Prop := (∀ {W : World} {b c i : Nat} {A : Option Addr} {l : List It} (_ : Cur W b A c l i) (r : Bool) (_ : decide (kd l i = k) = r),
    Calls Try.prog y #[.pointer (some ⟨b, 0, none⟩)] W fun e w' => e = .returned (.bool r) ∧ ∃ q, w' = W.drewN q) ∧ (∀ args w, (callFunc y args).run Try.prog w = .ok (.enter y args) w)
set_option maxRecDepth 100000 in
theorem onWord_ok : OnOK 39 0 := ⟨fun {W b c i A l} h r hr => by
  have K : Hid (∀ W', Cur W' b A c l i → Calls Try.prog 35 #[.pointer (some ⟨b, 0, none⟩), .int .u8 0] W' fun e w' => e = .returned (.bool r) ∧ ∃ q, w' = W'.drewN q) := Lib.hid (fun W' h' => on_any h' 0 (by omega) r hr)
  have H := Lib.hid h
  clear h hr
  go_enter Try.func39, Try.ntmps39
  go_wp2_with (go_at_call 35; (with_reducible refine (K.out _ H.out).mono ?_); rintro e w' ⟨rfl, q, rfl⟩)
  go_ret
  exact ⟨rfl, _, rfl⟩, enters_of Try.func39 (by kernel_rfl) rfl⟩
set_option maxRecDepth 100000 in
theorem onBlank_ok : OnOK 31 1 := ⟨fun {W b c i A l} h r hr => by
  have K : Hid (∀ W', Cur W' b A c l i → Calls Try.prog 35 #[.pointer (some ⟨b, 0, none⟩), .int .u8 1] W' fun e w' => e = .returned (.bool r) ∧ ∃ q, w' = W'.drewN q) := Lib.hid (fun W' h' => on_any h' 1 (by omega) r hr)
  have H := Lib.hid h
  clear h hr
  go_enter Try.func31, Try.ntmps31
  go_wp2_with (go_at_call 35; (with_reducible refine (K.out _ H.out).mono ?_); rintro e w' ⟨rfl, q, rfl⟩)
  go_ret
  exact ⟨rfl, _, rfl⟩, enters_of Try.func31 (by kernel_rfl) rfl⟩
set_option maxRecDepth 100000 in
theorem onEnd_ok : OnOK 34 2 := ⟨fun {W b c i A l} h r hr => by
  have K : Hid (∀ W', Cur W' b A c l i → Calls Try.prog 35 #[.pointer (some ⟨b, 0, none⟩), .int .u8 2] W' fun e w' => e = .returned (.bool r) ∧ ∃ q, w' = W'.drewN q) := Lib.hid (fun W' h' => on_any h' 2 (by omega) r hr)
  have H := Lib.hid h
  clear h hr
  go_enter Try.func34, Try.ntmps34
  go_wp2_with (go_at_call 35; (with_reducible refine (K.out _ H.out).mono ?_); rintro e w' ⟨rfl, q, rfl⟩)
  go_ret
  exact ⟨rfl, _, rfl⟩, enters_of Try.func34 (by kernel_rfl) rfl⟩
set_option maxRecDepth 100000 in
theorem onBox_ok : OnOK 38 3 := ⟨fun {W b c i A l} h r hr => by
  have K : Hid (∀ W', Cur W' b A c l i → Calls Try.prog 35 #[.pointer (some ⟨b, 0, none⟩), .int .u8 3] W' fun e w' => e = .returned (.bool r) ∧ ∃ q, w' = W'.drewN q) := Lib.hid (fun W' h' => on_any h' 3 (by omega) r hr)
  have H := Lib.hid h
  clear h hr
  go_enter Try.func38, Try.ntmps38
  go_wp2_with (go_at_call 35; (with_reducible refine (K.out _ H.out).mono ?_); rintro e w' ⟨rfl, q, rfl⟩)
  go_ret
  exact ⟨rfl, _, rfl⟩, enters_of Try.func38 (by kernel_rfl) rfl⟩

/-- what stands in a block of a cursor, and nothing besides has turned -/
theorem Cur.moved {W W' : World} {b c i j : Nat} {A : Option Addr} {l : List It} (h : Cur W b A c l i) (hg : W.grownBy W' (some b)) (hj : j ≤ l.length)
    (hb : W'.heap[b]? = some (.cells #[.slice A l.length c, .int .i64 (j : Nat), .int .i64 (pre l j)] 56)) : Cur W' b A c l j :=
  ⟨hb, h.its.grown hg (fun hl b' off e e' => h.ne hl b' off e (by injection e' with e'; exact e'.symm)), h.ne, hj⟩
theorem grown_drewN (W : World) (q : Nat) (row : Option Nat) : W.grownBy (W.drewN q) row := ⟨rfl, rfl, rfl, Nat.le_refl _, fun _ _ _ => rfl⟩
theorem grown_drew' (W : World) (row : Option Nat) : W.grownBy W.drew row := ⟨rfl, rfl, rfl, Nat.le_refl _, fun _ _ _ => rfl⟩
theorem grown_cell (W : World) (b j : Nat) (v : Value) : W.grownBy (W.setCell ⟨b, j, none⟩ v) (some b) := ⟨rfl, rfl, rfl, by simp [World.setCell], fun k _ hk => by simp [World.setCell, Array.getElem?_modify, show b ≠ k from fun e => hk (by rw [e])]⟩

set_option maxRecDepth 100000 in
set_option maxHeartbeats 4000000 in
theorem step_any (y k : Nat) (Y : OnOK y k) {W : World} {b c i : Nat} {A : Option Addr} {l : List It} (h : Cur W b A c l i) (hn : l.length ≤ 4096) (hw : Within l 1099511627776) (hk : k ≤ 3) (r : Bool) (hr : decide (kd l i = k) = r) (j : Nat) (hj : (if r then i + 1 else i) = j) :
    Calls Try.prog 33 #[.pointer (some ⟨b, 0, none⟩), .func (.func y) #[.pointer (some ⟨b, 0, none⟩)] #[]] W fun e w' => e = .returned (.bool r) ∧ Cur w' b A c l j ∧ W.grownBy w' (some b) := by
  have K := Lib.hid (Y.1 h r hr)
  have KE := Y.2
  have H := Lib.hid h
  have HR := Lib.hid hr
  clear Y h hr
  cases r with
  | false =>
    obtain rfl : i = j := by simpa using hj
    go_enter Try.func33, Try.ntmps33
    go_wp2_with (go_at_fn y; (with_reducible refine (K.out).mono ?_); rintro e w' ⟨rfl, q, rfl⟩)
    go_ret
    exact ⟨rfl, H.out.drewN _, grown_drewN _ _ _⟩
  | true =>
    obtain rfl : i + 1 = j := by simpa using hj
    have KD := kd_lt (l := l) (i := i) (by have := HR.out; simp only [decide_eq_true_eq] at this; omega)
    obtain ⟨v, hv⟩ : ∃ v, wd l i = v := ⟨_, rfl⟩
    obtain ⟨s, hs⟩ : ∃ s, pre l i = s := ⟨_, rfl⟩
    have WS : IntKind.i64.wrap (s + v) = s + v := IntWalk.i64_in _ (by
      have h1 := pre_in hw hn i H.out.le
      have h2 := pre_in hw hn (i + 1) KD
      rw [pre_succ, hv, hs] at h2
      omega)
    have WI : IntKind.i64.wrap ((i : Int) + 1) = (i : Int) + 1 := IntWalk.i64_in _ (by omega)
    have PS : Hid (pre l (i + 1) = s + v) := Lib.hid (by rw [pre_succ, hv, hs])
    have CF : Hid (∀ q, ∃ W1, W1 = W.drewN q ∧ Cur W1 b A c l i ∧ W.grownBy W1 (some b)) := Lib.hid (fun q => ⟨_, rfl, H.out.drewN q, grown_drewN _ _ _⟩)
    have HW : Hid (∀ W1, Cur W1 b A c l i → ∃ b' off, A = some ⟨b', off, none⟩ ∧ b' ≠ b ∧ W1.cell? ⟨b, 0, none⟩ = some (.slice (some ⟨b', off, none⟩) l.length c) ∧ W1.cell? ⟨b, 1, none⟩ = some (.int .i64 (i : Nat)) ∧ W1.cell? ⟨b, 2, none⟩ = some (.int .i64 s) ∧ W1.frozen? ⟨b, 2, none⟩ = false ∧ W1.frozen? ⟨b, 1, none⟩ = false ∧ W1.cell? ⟨b', off + i * 2 + 1, none⟩ = some (.int .i64 v)) := Lib.hid (fun W1 h' => by
      obtain ⟨b', off, c', e, -, d1⟩ := h'.its.get KD
      injection e with e1 e2 e3
      have h2 := h'.c2
      rw [hs] at h2
      rw [hv] at d1
      exact ⟨b', off, e1, h'.ne (by intro e; rw [e] at KD; simp at KD) _ _ e1, by rw [h'.c0, e1], h'.c1, h2, h'.fro 2, h'.fro 1, d1⟩)
    obtain ⟨n, en⟩ : ∃ n, l.length = n := ⟨_, rfl⟩
    have hz : (i : Int) < n := by omega
    have hz0 : (0 : Int) ≤ i := by omega
    rw [en] at HW
    have EN := Lib.hid en
    have HS := Lib.hid hs
    have LE : Hid (i + 1 ≤ l.length) := Lib.hid KD
    clear hv hs en hw KD hk hj
    go_enter Try.func33, Try.ntmps33
    go_wp2_with (go_at_fn y; (with_reducible refine (K.out).mono ?_); rintro e w' ⟨rfl, q, hq⟩; obtain ⟨W1, e1, C1, G1⟩ := CF.out q; rw [← e1] at hq; subst hq; clear e1; obtain ⟨b', off, rfl, hne, c0, c1, c2, f2, f1, d1⟩ := HW.out _ C1)
    have HC1 := Lib.hid C1
    have HG1 := Lib.hid G1
    clear C1 G1 CF HW H K
    go_still_tail 16, (by kernel_rfl)
    go_wp2_with fail
    go_ret
    have G2 := (HG1.out.trans (grown_cell w' b 2 (.int .i64 (s + v)))).trans (grown_cell _ b 1 (.int .i64 ((i : Int) + 1)))
    refine ⟨rfl, HC1.out.moved (((grown_cell w' b 2 (.int .i64 (s + v))).trans (grown_cell _ b 1 (.int .i64 ((i : Int) + 1)))).trans (grown_drew' _ _)) LE.out ?_, G2.trans (grown_drew' _ _)⟩
    rw [PS.out]
    have h := HC1.out.blk
    rw [HS.out] at h
    simp [World.setCell, World.drew, Array.getElem?_modify, h]

def passT (l : List It) (k i : Nat) : Nat := if _h : i < l.length ∧ kd l i = k then passT l k (i + 1) else i
termination_by l.length - i
decreasing_by omega
theorem passT_go {l : List It} {k i : Nat} (h : kd l i = k) (hk : k ≤ 3) : passT l k i = passT l k (i + 1) := by
  rw [passT, dif_pos ⟨kd_lt (by omega), h⟩]
theorem passT_no {l : List It} {k i : Nat} (h : kd l i ≠ k) : passT l k i = i := by
  rw [passT, dif_neg (fun c => h c.2)]
theorem passT_le {l : List It} {k i : Nat} (hi : i ≤ l.length) : i ≤ passT l k i ∧ passT l k i ≤ l.length := by
  by_cases h : i < l.length ∧ kd l i = k
  · rw [passT, dif_pos h]
    have := passT_le (l := l) (k := k) (i := i + 1) (by omega)
    omega
  · rw [passT, dif_neg h]
    omega
termination_by l.length - i
decreasing_by omega
theorem passT_blank (l : List It) (i : Nat) : passT l 1 i = behind l i := by
  by_cases h : i < l.length ∧ kd l i = 1
  · rw [passT, dif_pos h, behind, dif_pos h]
    exact passT_blank l (i + 1)
  · rw [passT, dif_neg h, behind, dif_neg h]
termination_by l.length - i
decreasing_by omega
theorem passT_word (l : List It) (i : Nat) : passT l 0 i = wordsT l i := by
  by_cases h : i < l.length ∧ kd l i = 0
  · rw [passT, dif_pos h, wordsT, dif_pos h]
    exact passT_word l (i + 1)
  · rw [passT, dif_neg h, wordsT, dif_neg h]
termination_by l.length - i
decreasing_by omega

set_option maxRecDepth 100000 in
set_option maxHeartbeats 4000000 in
theorem pass_any (y k : Nat) (Y : OnOK y k) {W : World} {b c i : Nat} {A : Option Addr} {l : List It} (h : Cur W b A c l i) (hn : l.length ≤ 4096) (hw : Within l 1099511627776) (hk : k ≤ 3) (j : Nat) (hj : passT l k i = j) :
    Calls Try.prog 30 #[.pointer (some ⟨b, 0, none⟩), .func (.func y) #[.pointer (some ⟨b, 0, none⟩)] #[]] W fun e w' => (∃ v, e = .returned v) ∧ Cur w' b A c l j ∧ W.grownBy w' (some b) := by
  have K := Lib.hid (fun W' i (h' : Cur W' b A c l i) r hr j hj => step_any y k Y h' hn hw hk r hr j hj)
  have H := Lib.hid h
  have HJ := Lib.hid hj
  obtain ⟨n, en⟩ : ∃ n, l.length = n := ⟨_, rfl⟩
  have EN := Lib.hid en
  have HK := Lib.hid hk
  clear h hj Y hn hw en hk
  go_enter Try.func30, Try.ntmps30
  go_wp2_with fail
  go_loopg [] n (fun g1 wr => ∃ i', i' ≤ n ∧ n - i' ≤ g1 ∧ Hid (Cur wr b A c l i') ∧ Hid (W.grownBy wr (some b)) ∧ Hid (passT l k i' = j))
  case atStart => exact ⟨i, by have := H.out.le; have := EN.out; omega, by omega, H, Lib.hid ⟨rfl, rfl, rfl, Nat.le_refl _, fun _ _ _ => rfl⟩, HJ⟩
  case round =>
    obtain ⟨i', hi', hg1, HC, HG, HP⟩ := hrel
    obtain ⟨r, hr⟩ : ∃ r, decide (kd l i' = k) = r := ⟨_, rfl⟩
    have K1 := Lib.hid (K.out wr i' HC.out r hr _ rfl)
    have HR := Lib.hid hr
    clear hr
    cases r with
    | true =>
      have hh : kd l i' = k := by simpa using HR.out
      have LT : i' < n := by have := kd_lt (l := l) (i := i') (by have := HK.out; omega); have := EN.out; omega
      have HP2 : Hid (passT l k (i' + 1) = j) := Lib.hid (by rw [← passT_go hh HK.out]; exact HP.out)
      clear hh
      go_wp2_with (go_at_call 33; (with_reducible refine (K1.out).mono ?_); rintro e w' ⟨rfl, hc, hg⟩; have C2 := Lib.hid hc; have G2 := Lib.hid (HG.out.trans hg); clear hc hg)
      go_roundg (n - (i' + 1))
      case measure => omega
      case rel => exact ⟨i' + 1, by omega, Nat.le_refl _, C2, G2, HP2⟩
    | false =>
      have hh : kd l i' ≠ k := by simpa using HR.out
      have HP2 : Hid (i' = j) := Lib.hid (by rw [← passT_no hh]; exact HP.out)
      clear hh
      go_wp2_with (go_at_call 33; (with_reducible refine (K1.out).mono ?_); rintro e w' ⟨rfl, hc, hg⟩; have C2 := Lib.hid hc; have G2 := Lib.hid (HG.out.trans hg); clear hc hg)
      go_end0
      exact ⟨⟨_, rfl⟩, by rw [← HP2.out]; exact C2.out, G2.out⟩
end Go.Proofs.Ytpfeiiabplaghaa
