/-
  The function value of flexline.split tells the lines.
-/
import Derived.Test.YtkakencndopgbaaLandFirst15
import Derived.Test.YtkakencndopgbaaTells
import Derived.Shelf.Abstract
import Derived.Shelf.RegionOpen
import Derived.OwnWalkIn
import Derived.TacticsInMore
import Derived.LoopNIn
import Derived.LoopIn
namespace Go.Proofs.Ytkakencndopgbaa
open Go.RowKit Go.Shelf
attribute [local go_sem] Oper.semAt_some
theorem wide_fn15 (f : FuncId) : Fence.wide.fn f = True := rfl
attribute [local go_sem] wide_fn15

def encLn15 (x : Nat × Nat) : Array Value := #[.agg #[.int .i64 (x.1 : Nat), .int .i64 (x.2 : Nat)]]
theorem grown_drewN15 (w : World) (q : Nat) (row : Option Nat) : w.grownBy (w.drewN q) row := ⟨rfl, rfl, rfl, Nat.le_refl _, fun _ _ _ => rfl⟩
/-- where the walk of the lines stands: the caller's words; the blocks that are read are as they were -/
structure SpAt (sbs : List Nat) (mine : World → Nat → Prop) (J : List (Nat × Nat) → World → Prop) (w : World) (d : List (Nat × Nat)) (W : World) : Prop where
  j : J d W
  same : ∀ k ∈ sbs, W.heap[k]? = w.heap[k]?
  nm : ∀ k ∈ sbs, ¬ mine W k
  size : w.heap.size ≤ W.heap.size
section
variable {sbs : List Nat} {mine : World → Nat → Prop} {J : List (Nat × Nat) → World → Prop} {w W W' : World} {d d' : List (Nat × Nat)}
theorem SpAt.cell (h : SpAt sbs mine J w d W) {k o : Nat} {v : Value} (hk : k ∈ sbs) (hc : w.cell? ⟨k, o, none⟩ = some v) : W.cell? ⟨k, o, none⟩ = some v := (World.cell?_of_block (w := w) (h.same k hk)).trans hc
theorem SpAt.ints (h : SpAt sbs mine J w d W) {A : Option Addr} {n : Nat} {f : Nat → Int} (hI : Ints w A n f) (hA : ∀ b off, A = some ⟨b, off, none⟩ → 0 < n → b ∈ sbs) : Ints W A n f :=
  ⟨hI.1, fun hn => by
    obtain ⟨b, off, e, h1, h2⟩ := hI.2 hn
    exact ⟨b, off, e, Nat.lt_of_lt_of_le h1 h.size, fun i hi => h.cell (hA b off e hn) (h2 i hi)⟩⟩
theorem SpAt.drewN (h : SpAt sbs mine J w d W) {B : Nat} {u8 : TypeId} (hJ : OwnFrom B J) (hM : MineOK u8 J mine B) (hlt : ∀ k ∈ sbs, k < w.heap.size) (q : Nat) : SpAt sbs mine J w d (W.drewN q) :=
  ⟨hJ d W _ none h.j (grown_drewN15 W q none) (fun r e => by cases e), h.same, fun k hk hm => h.nm k hk (hM.stay (row := none) h.j (grown_drewN15 W q none) (fun r e => by cases e) (Nat.lt_of_lt_of_le (hlt k hk) h.size) rfl hm), h.size⟩
theorem SpAt.next {H : Nat} (h : SpAt sbs mine J w d W) (hlt : ∀ k ∈ sbs, k < w.heap.size) (hj : J d' W') (hk : Keeps mine H sbs W W') : SpAt sbs mine J w d' W' :=
  ⟨hj, fun k h1 => (hk.same k (.inr h1) (Nat.lt_of_lt_of_le (hlt k h1) h.size) (h.nm k h1)).1.trans (h.same k h1), fun k h1 => (hk.same k (.inr h1) (Nat.lt_of_lt_of_le (hlt k h1) h.size) (h.nm k h1)).2, Nat.le_trans h.size hk.size⟩
end
theorem ends_prefix {α : Type} {l d : List α} {x : α} {r : List α} (e : l = d ++ x :: r) : d ++ [x] <+: l := ⟨r, by rw [e]; simp⟩
set_option maxRecDepth 100000 in
set_option maxHeartbeats 8000000 in
theorem split_tell (A : Option Addr) (n c : Nat) (f : Nat → Int) (gap room : Int) (sb gb rb : Nat) (w : World) (c1 : w.cell? ⟨sb, 0, none⟩ = some (.slice A n c)) (c2 : w.cell? ⟨gb, 0, none⟩ = some (.int .i64 gap)) (c3 : w.cell? ⟨rb, 0, none⟩ = some (.int .i64 room))
    (hI : Ints w A n f) (hn : n ≤ 2048) (hc : n ≤ c ∧ c ≤ 9223372036854775807) (hg : 0 ≤ gap ∧ gap ≤ 1099511627776) (hf : ∀ k, k < n → -1099511627776 ≤ f k ∧ f k ≤ 1099511627776) (hr : room ≠ -1)
    (sbs : List Nat) (h1 : sb ∈ sbs) (h2 : gb ∈ sbs) (h3 : rb ∈ sbs) (hA : ∀ b off, A = some ⟨b, off, none⟩ → 0 < n → b ∈ sbs) (hlt : ∀ k ∈ sbs, k < w.heap.size) :
    Tells Try.prog 5 30 #[.pointer (some ⟨sb, 0, none⟩), .pointer (some ⟨gb, 0, none⟩), .pointer (some ⟨rb, 0, none⟩)] encLn15 (linesA f gap room true n 0) sbs w := by
  intro l J mine W hW hJ hM hsm hY h0
  have R0 := Lib.hid (show SpAt sbs mine J w [] W from ⟨h0, fun k hk => hW.block k (hlt k hk), hsm, hW.size⟩)
  have HY := Lib.hid hY
  have HJ := Lib.hid hJ
  have HM := Lib.hid hM
  have LT := Lib.hid hlt
  have HI := Lib.hid hI
  have M := Lib.hid (show (sb ∈ sbs ∧ gb ∈ sbs ∧ rb ∈ sbs) ∧ ∀ b off, A = some ⟨b, off, none⟩ → 0 < n → b ∈ sbs from ⟨⟨h1, h2, h3⟩, hA⟩)
  have C := Lib.hid (show w.cell? ⟨sb, 0, none⟩ = some (.slice A n c) ∧ w.cell? ⟨gb, 0, none⟩ = some (.int .i64 gap) ∧ w.cell? ⟨rb, 0, none⟩ = some (.int .i64 room) from ⟨c1, c2, c3⟩)
  have GB := Lib.hid hg
  have FB := Lib.hid hf
  have RN := Lib.hid hr
  clear hY hJ hM hlt hI h1 h2 h3 hA c1 c2 c3 hg hf hr hsm h0 hW
  refine (callsIn_wide (n := 4)).1 ?_
  refine callsIn_of_wp Try.func30 rfl trivial ?_ rfl
  simp only [Try.ntmps30, List.size_toArray, List.length_cons, List.length_nil, Nat.reduceAdd, Nat.reduceSub, Array.replicate_succ, Array.replicate_zero, List.push_toArray, List.append_toArray, List.nil_append, List.cons_append]
  gi_wp2
  gi_loopw [5] (fun p wr => ∃ (k : Nat) (d : List (Nat × Nat)), p = .int .i64 k ∧ k ≤ n ∧ Hid (linesA f gap room true n 0 = d ++ linesA f gap room true n k) ∧ Hid (SpAt sbs mine J w d wr)) (fun p _ => n - (intOf p).toNat)
  case atStart => exact ⟨0, [], rfl, by omega, Lib.hid rfl, R0⟩
  case round =>
    obtain ⟨k, d, rfl, hk, hD, hR⟩ := hrel
    clear R0
    have x1 := hR.out.cell M.out.1.1 C.out.1
    by_cases hlt : k < n
    · have hz : (k : Int) < n := by omega
      have hz0 : (0 : Int) ≤ k := by omega
      have x2 := hR.out.cell M.out.1.2.1 C.out.2.1
      have x3 := hR.out.cell M.out.1.2.2 C.out.2.2
      have HIW := Lib.hid (hR.out.ints HI.out M.out.2)
      obtain ⟨b, off, rfl, -, -⟩ := HIW.out.at_ hlt
      obtain ⟨s, hs⟩ : ∃ s, stopA (fun x => f (k + x)) gap room true (n - k) 0 1 = s := ⟨_, rfl⟩
      obtain ⟨t, ht⟩ : ∃ t, stopA f gap room true n k (k + 1) = t := ⟨_, rfl⟩
      have es := stopA_shift (f := f) (gap := gap) (room := room) (wrap := true) (n := n) k 0 1 (by omega)
      rw [hs, Nat.add_zero, ht] at es
      have t1 := stopA_ge f gap room true n k (k + 1)
      have t2 := stopA_le (f := f) (gap := gap) (room := room) (wrap := true) (n := n) (i := k) (j := k + 1) (by omega)
      rw [ht] at t1 t2
      have KF := Lib.hid (fun q => first15_any b (off + k) (n - k) (c - k) (fun x => f (k + x)) gap room (wr.drewN q) ((HIW.out.part (by omega) (Nat.le_refl _)).drewN q) (by omega) (by omega) GB.out (fun x hx => FB.out _ (by omega)) RN.out s hs)
      have wa : IntKind.i64.wrap ((k : Int) + (s : Nat)) = (t : Nat) := by rw [IntWalk.i64_in _ (by omega)]; omega
      have HL := Lib.hid (show linesA f gap room true n 0 = d ++ (k, t) :: linesA f gap room true n t by rw [hD.out, linesA_cons hlt, ht])
      have hck : (c - k = 0) = False := by simp; omega
      have sl1 : (n : Int) ≤ c := by omega
      have sl2 : (k : Int) ≤ n := by omega
      clear hs ht es
      gi_wp2
      gi_quiet ((gi_at_call 31; exact CallsIn.quiet_of_same (callsIn_wide.2 ((KF.out _).mono (fun _ _ h => ⟨h.1, h.2.symm⟩)))))
      have HR3 := Lib.hid (hR.out.drewN HJ.out HM.out LT.out nq)
      generalize wr.drewN nq = wy at HR3 ⊢
      obtain ⟨fn, tmps, assign, body, hy, hRR⟩ := HY.out d (k, t) wy (4 - 1) HR3.out.j (ends_prefix HL.out)
      dsimp only [encLn15] at hy
      gi_wp2
      refine hRR.mono ?_
      rintro e W3 ⟨rfl, hJ3, hk3⟩
      have HR4 := Lib.hid (HR3.out.next LT.out hJ3 hk3)
      clear hy hRR hJ3 hk3
      gi_wp2
      go_roundw
      case rel => exact ⟨t, _, rfl, t2, Lib.hid (by rw [HL.out]; simp), HR4⟩
      case measure => simp [intOf]; omega
    · obtain rfl : k = n := by omega
      have hz : decide ((k : Int) < k) = false := decide_eq_false (by omega)
      gi_wp2
      go_end0
      exact ⟨⟨_, rfl⟩, by
        have e := hD.out
        rw [linesA_nil (Nat.le_refl _), List.append_nil] at e
        rw [e]
        exact hR.out.j⟩
end Go.Proofs.Ytkakencndopgbaa
