/-
  The landed fromBehind: its function value tells the fragments with their places, the last one first; lastOf.
-/
import Derived.Test.YtieaoebphlcmpaaArea19
import Derived.Test.YtieaoebphlcmpaaTellsC
import Derived.Shelf.Abstract
import Derived.Shelf.AbstractIn
import Derived.Shelf.RegionOpen
import Derived.OwnWalkIn
import Derived.TacticsInMore
import Derived.LoopNIn
import Derived.LoopIn
import Derived.RangeFuncCalls
import Derived.RangeFuncBox
namespace Go.Proofs.Ytieaoebphlcmpaa
open Go.RowKit Go.Shelf
attribute [local go_sem] Oper.semAt_some
theorem wide_fn19 (f : FuncId) : Fence.wide.fn f = True := rfl
attribute [local go_sem] wide_fn19

/-- no type: no variable of such a type turns -/
def noT : TypeId := 999999
theorem not_apart19 {cs : Array Value} {t : TypeId} {z : Nat × Nat} (h : t ≠ noT) : ¬ Apart noT (.cells cs t z) := by
  rintro (h1 | ⟨cs', z', h1⟩)
  · cases h1
  · cases h1; exact h rfl
theorem KeepC.of19 {S : Nat → Prop} {H : Nat} {X Y : World} {row : Option Nat} (hg : X.grownBy Y row) (hr : ∀ r, row = some r → ¬ S r ∧ ∀ o, X.heap[r]? = some o → ¬ Apart noT o) : KeepC noT S H X Y :=
  ⟨hg.size, fun k hk hi => hg.block k hk (fun e => by
    obtain ⟨h1, h2⟩ := hr k e.symm
    rcases hi with h | ⟨-, o, h3, h4⟩
    · exact h1 h
    · exact h2 o h3 h4)⟩
theorem KeepC.below19 {S : Nat → Prop} {H : Nat} {X Y : World} (h : Below X.heap.size X Y) : KeepC noT S H X Y := ⟨h.size, fun k hk _ => h.block k hk⟩
theorem boxed_cur19 {X Y : World} {B b : Nat} {t : TypeId} {v : Value} {row : Option Nat} (h : Boxed X b t v) (ht : t ≠ noT) (hg : X.grownBy Y row) (hr : ∀ r, row = some r → B ≤ r ∧ ∃ o : Obj, X.heap[r]? = some o ∧ Apart noT o) : Boxed Y b t v :=
  h.kept hg (fun e => by
    obtain ⟨-, o, h1, h2⟩ := hr b e.symm
    rw [show X.heap[b]? = _ from h] at h1
    cases h1
    exact not_apart19 ht h2)
def encB (x : Nat × Fr) : Array Value := #[.int .i64 (x.1 : Nat), frV x.2]
/-- what the function value reads -/
def Reads19 (B : Nat) (A : Option Addr) (n : Nat) (k : Nat) : Prop := k = B ∨ (0 < n ∧ ∃ off, A = some ⟨k, off, none⟩)
structure BhAt (S : Nat → Prop) (J : List (Nat × Fr) → World → Prop) (w : World) (d : List (Nat × Fr)) (W : World) : Prop where
  j : J d W
  same : ∀ k, S k → W.heap[k]? = w.heap[k]?
  size : w.heap.size ≤ W.heap.size
theorem BhAt.next {S : Nat → Prop} {J : List (Nat × Fr) → World → Prop} {w W W' : World} {d d' : List (Nat × Fr)} {H : Nat} (h : BhAt S J w d W) (hlt : ∀ k, S k → k < w.heap.size) (hj : J d' W') (hk : KeepC noT S H W W') : BhAt S J w d' W' :=
  ⟨hj, fun k h1 => (hk.same k (Nat.lt_of_lt_of_le (hlt k h1) h.size) (.inl h1)).trans (h.same k h1), Nat.le_trans h.size hk.size⟩
theorem behF_split {l : List Fr} {n k : Nat} {d : List (Nat × Fr)} (e : behF l n = d ++ behF l (k + 1)) : behF l n = (d ++ [(k, frA l k)]) ++ behF l k := by rw [e]; simp [behF]
set_option maxRecDepth 100000 in
set_option maxHeartbeats 8000000 in
theorem behind_tell (l : List Fr) (A : Option Addr) (n c : Nat) (B : Nat) (w : World) (h1 : w.cell? ⟨B, 0, none⟩ = some (.slice A n c)) (hF : FrIn w (.slice A n c) l) (hl : l.length = n) (hn : n ≤ 4096) :
    TellsC Try.prog noT 17 #[.pointer (some ⟨B, 0, none⟩)] encB (behF l n) (Reads19 B A n) w := by
  intro lp J Jx W hW hJ hJx hY h0
  have hlt : ∀ k, Reads19 B A n k → k < w.heap.size := by
    rintro k (rfl | ⟨hn0, off, rfl⟩)
    · exact World.block_lt_of_cell? w _ h1
    · obtain ⟨b', off', e, hb, -⟩ := hF.at_ (i := 0) (by omega)
      cases e
      exact hb
  have LT := Lib.hid hlt
  have HF := Lib.hid hF
  have HL := Lib.hid hl
  have C1 := Lib.hid h1
  have R0 := Lib.hid (show BhAt (Reads19 B A n) J w [] W from ⟨h0, fun k hk => hW.block k (hlt k hk), hW.size⟩)
  have HY := Lib.hid hY
  clear hY hJ hJx h0 h1 hF hl hlt
  refine (callsIn_wide (n := 4)).1 ?_
  refine callsIn_of_wp Try.func17 rfl trivial ?_ rfl
  simp only [Try.ntmps17, List.size_toArray, List.length_cons, List.length_nil, Nat.reduceAdd, Nat.reduceSub, Array.replicate_succ, Array.replicate_zero, List.push_toArray, List.append_toArray, List.nil_append, List.cons_append]
  have c0 : W.cell? ⟨B, 0, none⟩ = some (.slice A n c) := (World.cell?_of_block (w := w) (R0.out.same B (.inl rfl))).trans C1.out
  gi_wp2
  clear c0
  gi_loopw [3] (fun p wr => ∃ (k : Nat) (d : List (Nat × Fr)), p = .int .i64 ((k : Int) - 1) ∧ k ≤ n ∧ Hid (behF l n = d ++ behF l k) ∧ Hid (BhAt (Reads19 B A n) J w d wr)) (fun p _ => (intOf p + 1).toNat)
  case atStart => exact ⟨n, [], rfl, Nat.le_refl _, Lib.hid rfl, R0⟩
  case round =>
    obtain ⟨k, d, rfl, hk, HD, HR⟩ := hrel
    clear R0
    rcases k with _ | k
    · gi_wp2
      go_end0
      refine ⟨⟨_, rfl⟩, .inl ?_⟩
      have e := HD.out
      rw [show behF l 0 = [] from rfl, List.append_nil] at e
      rw [e]
      exact HR.out.j
    · have hkz : ((k + 1 : Nat) : Int) - 1 = k := by omega
      rw [hkz]
      have hk0 : (0 : Int) ≤ k := by omega
      have hkn : (k : Int) < n := by omega
      have c0 : wr.cell? ⟨B, 0, none⟩ = some (.slice A n c) := (World.cell?_of_block (w := w) (HR.out.same B (.inl rfl))).trans C1.out
      obtain ⟨b, off, rfl, hb, hc⟩ := HF.out.at_ (i := k) (by rw [HL.out]; omega)
      have keep : ∀ o : Nat, wr.cell? ⟨b, o, none⟩ = w.cell? ⟨b, o, none⟩ := fun o => World.cell?_of_block (w := w) (HR.out.same b (.inr ⟨by omega, off, rfl⟩))
      have HD2 := Lib.hid (behF_split HD.out)
      obtain ⟨fn, tmps, assign, body, hy, hRR⟩ := HY.out d (k, frA l k) wr (4 - 1) HR.out.j ⟨_, HD2.out.symm⟩
      dsimp only [encB] at hy
      unfold frV at hy
      obtain ⟨d0, d1, d2, d3, d4, d5, d6, d7⟩ := hc
      rw [← keep] at d0 d1 d2 d3 d4 d5 d6 d7
      clear hkz keep hb
      gi_wp2
      refine hRR.mono ?_
      rintro e W3 (⟨rfl, hJ3, hk3⟩ | ⟨rfl, hJx3⟩)
      · have HR3 := Lib.hid (HR.out.next LT.out hJ3 hk3)
        clear hy hRR hk3 hJ3 d0 d1 d2 d3 d4 d5 d6 d7 c0
        gi_wp2
        go_roundw
        case rel => exact ⟨k, _, by go_num, by omega, HD2, HR3⟩
        case measure => simp [intOf]
      · clear hy hRR
        gi_wp2
        refine bodyPost_ret (results_none rfl _ _ _) rfl ?_
        exact ⟨⟨_, rfl⟩, .inr ⟨_, ⟨_, HD2.out.symm⟩, hJx3⟩⟩
end Go.Proofs.Ytieaoebphlcmpaa
