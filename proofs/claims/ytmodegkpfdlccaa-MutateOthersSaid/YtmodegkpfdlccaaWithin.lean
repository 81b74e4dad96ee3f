/-
  tree.within, tree.ahead: the function values that they hand back tell the places of a node's tree, and those ahead of it: contracts for a range over a function.
-/
import Derived.RangeFuncNested
import Derived.RangeFuncBound
import Derived.RangeFuncCalls
import Derived.RangeFuncLeaves
import Derived.Shelf.Abstract
import Derived.Shelf.RegionOpen
import Derived.WalkKit
import Derived.OwnWalkIn
import Derived.TacticsInMore
import Derived.LoopNIn
import Derived.LoopIn
import Derived.Lib.Hide
import Derived.Outline
import Derived.Test.YtmodegkpfdlccaaStillIn
import Derived.Test.YtmodegkpfdlccaaDeeper
import Derived.Test.YtmodegkpfdlccaaTreeOK
namespace Go.Proofs.Ytmodegkpfdlccaa
open Go.RowKit Go.Shelf
attribute [local go_sem] Oper.semAt_some

/-- the places of a node's tree -/
def withinL (N : Nat → RN) (n : Nat) (a : Int) : List Nat := if 0 ≤ a ∧ a < n then List.range' a.toNat (endOf (dps N) n a.toNat - a.toNat) else []
theorem withinL_no {N : Nat → RN} {n : Nat} {a : Int} (h : ¬ (0 ≤ a ∧ a < n)) : withinL N n a = [] := if_neg h
theorem withinL_yes {N : Nat → RN} {n i : Nat} (h : i < n) : withinL N n i = List.range' i (endOf (dps N) n i - i) := by
  unfold withinL
  rw [if_pos ⟨by omega, by omega⟩]
  rfl
/-- what an iterator over places reads -/
structure Seen (A : Option Addr) (n c : Nat) (a : Int) (N : Nat → RN) (Bn Ba : Nat) (W : World) : Prop where
  nodes : Nodes W A n N
  cn : W.cell? ⟨Bn, 0, none⟩ = some (.slice A n c)
  ca : W.cell? ⟨Ba, 0, none⟩ = some (.int .i64 a)
theorem Seen.drew {A : Option Addr} {n c : Nat} {a : Int} {N : Nat → RN} {Bn Ba : Nat} {W : World} (h : Seen A n c a N Bn Ba W) : Seen A n c a N Bn Ba W.drew :=
  ⟨h.nodes.keep (Nat.le_refl _) fun _ _ => rfl, h.cn, h.ca⟩
theorem grown_drew (w : World) (row : Option Nat) : w.grownBy w.drew row := ⟨rfl, rfl, rfl, Nat.le_refl _, fun _ _ _ => rfl⟩
theorem abides_drew {β : Type} {B : Nat} {J : β → World → Prop} (h : AbidesFrom B J) {s : β} {W : World} (hs : J s W) : J s W.drew := h s W _ none hs (grown_drew W none) (fun r e => by cases e)
theorem dp_cell {W : World} {A : Option Addr} {n : Nat} {N : Nat → RN} (h : Nodes W A n N) {j : Nat} (hj : j < n) : ∃ b off, A = some ⟨b, off, none⟩ ∧ b < W.heap.size ∧ W.cell? ⟨b, off + j * 51 + 1, none⟩ = some (.int .i64 (N j).depth) := by
  obtain ⟨b, off, e, hb, hc⟩ := h.2 (by omega)
  exact ⟨b, off, e, hb, (hc j hj 1 (by omega)).trans rfl⟩
/-- one of two ways on, told by a bool -/
def Went (J Jx : World → Prop) (Kp : World → World → Prop) (W : World) (e : Ending) (W' : World) : Prop := ∃ b : Bool, e = .returned (.bool b) ∧ (b = true → J W' ∧ Kp W W') ∧ (b = false → Jx W')

theorem upto_snoc (i k : Nat) : List.range' i k ++ [i + k] = List.range' i (k + 1) := by
  rw [List.range'_concat]; simp

set_option maxRecDepth 100000 in
set_option maxHeartbeats 4000000 in
theorem within1_in (n : Nat) (hn : 2 ≤ n) (l : Nat) (A : Option Addr) (len c : Nat) (a : Int) (N : Nat → RN) (Bn Ba : Nat) (B0 : Nat) (Kp : World → World → Prop) (hKp : ∀ {W W'}, Seen A len c a N Bn Ba W → Kp W W' → Seen A len c a N Bn Ba W')
    (hlen : len ≤ 140737488351232) (ha1 : -9223372036854775808 ≤ a) (ha2 : a ≤ 9223372036854775807)
    (J Jx : List Nat → World → Prop) (hJ : AbidesFrom B0 J)
    (hY : ∀ pre (x : Nat) W, x < len → J pre W → pre.length < (withinL N len a).length → YieldAt Fence.wide (n - 1) Try.prog l #[.int .i64 (x : Nat)] W fun e W' =>
      (e = .returned (.bool true) ∧ J (pre ++ [x]) W' ∧ Kp W W') ∨ (e = .returned (.bool false) ∧ Jx (pre ++ [x]) W'))
    (W : World) (hS : Seen A len c a N Bn Ba W) (h0 : J [] W) :
    CallsIn Fence.wide n Try.prog 86 #[.func (.yield l) #[] #[], .pointer (some ⟨Bn, 0, none⟩), .pointer (some ⟨Ba, 0, none⟩)] W fun e W' => (∃ v, e = .returned v) ∧
      ((∃ ys, ys = withinL N len a ∧ J ys W') ∨ (∃ pre, pre <+: withinL N len a ∧ Jx pre W')) := by
  have hn1 : 1 ≤ n := by omega
  have hn2 : 1 ≤ n - 1 := by omega
  have c1 := hS.cn
  have c2 := hS.ca
  refine callsIn_of_wp Try.func86 rfl trivial ?_ rfl
  simp only [Try.ntmps86, List.size_toArray, List.length_cons, List.length_nil, Nat.reduceAdd, Nat.reduceSub, Array.replicate_succ, Array.replicate_zero, List.push_toArray, List.append_toArray, List.nil_append, List.cons_append]
  by_cases hin : 0 ≤ a ∧ a < len
  · have hd : decide (0 ≤ a ∧ a < len) = true := by simpa using hin
    obtain ⟨i, rfl⟩ := Int.eq_ofNat_of_zero_le hin.1
    have hi : i < len := by omega
    have hg := endOf_gt (dps N) hi
    have WL : withinL N len i = List.range' i (endOf (dps N) len i - i) := withinL_yes hi
    obtain ⟨fn, tmps, assign, body, hy, hR⟩ := hY [] i W hi h0 (by rw [WL, List.length_range', List.length_nil]; omega)
    gi_wp2_with (refine ⟨trivial, ?_⟩; gi_at_call 87; refine (callsIn_wide.2 (isPlace_any A len c i W)).mono ?_; rintro e w' ⟨rfl, rfl⟩)
    have HW := Lib.hid WL
    clear WL
    refine hR.mono ?_
    rintro e W1 (⟨rfl, hJ1, hk1⟩ | ⟨rfl, hJx1⟩)
    · have S1 := hKp hS hk1
      have c11 := S1.cn
      have c12 := S1.ca
      have J1 := Lib.hid hJ1
      have T1 := Lib.hid S1
      clear hy hR hk1 hJ1 S1 hS h0 c1 c2 hd
      gi_wp2
      clear c11 c12
      gi_loopw [4] (fun p wr => ∃ k : Nat, p = .int .i64 k ∧ i + 1 ≤ k ∧ k ≤ endOf (dps N) len i ∧ Hid (J (List.range' i (k - i)) wr) ∧ Hid (Seen A len c i N Bn Ba wr)) (fun p wr => len - (intOf p).toNat)
      case atStart => exact ⟨i + 1, by go_num, by omega, by omega, Lib.hid (by rw [show i + 1 - i = 1 by omega]; exact J1.out), T1⟩
      case round =>
        obtain ⟨k, rfl, hk1, hk2, JK, TK⟩ := hrel
        clear J1 T1
        have c1 := TK.out.cn
        have c2 := TK.out.ca
        by_cases hlt : k < len
        · have hltz : (k : Int) < len := by omega
          obtain ⟨b, off, rfl, hb, d1⟩ := dp_cell TK.out.nodes hlt
          obtain ⟨b', off', e', hb', d2⟩ := dp_cell TK.out.nodes hi
          obtain ⟨rfl, rfl⟩ : b = b' ∧ off = off' := by
            simp only [Option.some.injEq, Addr.mk.injEq, and_true] at e'
            exact e'
          clear e'
          have hk0 : (0 : Int) ≤ k := by omega
          have hi0 : (0 : Int) ≤ i := by omega
          have hiz : (i : Int) < len := by omega
          by_cases hdp : (N k).depth ≤ (N i).depth
          · have hdd : decide ((N k).depth ≤ (N i).depth) = true := by simpa using hdp
            have EE : Hid (k = endOf (dps N) len i) := Lib.hid (by
              rcases Nat.lt_or_ge k (endOf (dps N) len i) with h | h
              · have := endOf_deep (dps N) hi (show i < k by omega) h
                unfold dps at this
                omega
              · omega)
            clear hdp
            gi_wp2
            refine wpIn_region_still_tail 14 (by kernel_rfl) (by kernel_rfl) (by kernel_rfl) ?_
            simp only [List.take_succ_cons, List.take_zero, List.drop_succ_cons, List.drop_zero]
            repeat still_step
            refine wpStill_nil ?_
            gi_wp2
            refine ⟨fun _ h => (by cases h), ?_⟩
            gi_wp2
            refine bodyPost_ret (results_none rfl _ _ _) rfl ?_
            exact ⟨⟨_, rfl⟩, .inl ⟨_, by rw [HW.out, EE.out], abides_drew hJ JK.out⟩⟩
          · have hdd : decide ((N k).depth ≤ (N i).depth) = false := by simpa using hdp
            have EE : Hid (k + 1 ≤ endOf (dps N) len i) := Lib.hid (by
              rcases endOf_stop (dps N) hi with h | h
              · omega
              · rcases Nat.lt_or_ge k (endOf (dps N) len i) with h2 | h2
                · omega
                · obtain rfl : k = endOf (dps N) len i := by omega
                  exact absurd h hdp)
            obtain ⟨fn, tmps, assign, body, hy, hR⟩ := hY (List.range' i (k - i)) k wr.drew hlt (abides_drew hJ JK.out) (by rw [HW.out, List.length_range', List.length_range']; have := EE.out; omega)
            have SD := Lib.hid TK.out.drew
            clear hdp
            gi_wp2
            refine wpIn_region_still_tail 14 (by kernel_rfl) (by kernel_rfl) (by kernel_rfl) ?_
            simp only [List.take_succ_cons, List.take_zero, List.drop_succ_cons, List.drop_zero]
            repeat still_step
            refine wpStill_nil ?_
            gi_wp2
            refine hR.mono ?_
            rintro e W3 (⟨rfl, hJ3, hk3⟩ | ⟨rfl, hJx3⟩)
            · have S3 := hKp SD.out hk3
              have c13 := S3.cn
              have c23 := S3.ca
              clear hy hR hk3 c1 c2
              gi_wp2
              go_roundw
              case rel => exact ⟨k + 1, by go_num, by omega, EE.out, Lib.hid (by rw [show k + 1 - i = (k - i) + 1 by omega, ← upto_snoc, show i + (k - i) = k by omega]; exact hJ3), Lib.hid S3⟩
              case measure => simp [intOf]; omega
            · clear hy hR
              gi_wp2
              refine bodyPost_ret (results_none rfl _ _ _) rfl ?_
              exact ⟨⟨_, rfl⟩, .inr ⟨_, ⟨List.range' (k + 1) (endOf (dps N) len i - (k + 1)), by
                rw [HW.out, show [k] = List.range' k 1 from rfl, List.append_assoc]
                have e1 : List.range' k 1 ++ List.range' (k + 1) (endOf (dps N) len i - (k + 1)) = List.range' k (endOf (dps N) len i - k) := by
                  rw [List.range'_append_1]; congr 1; have := EE.out; omega
                rw [e1]
                have e2 := List.range'_append_1 (s := i) (m := k - i) (n := endOf (dps N) len i - k)
                rw [show i + (k - i) = k by omega] at e2
                rw [e2]; congr 1; have := EE.out; omega⟩, hJx3⟩⟩
        · obtain rfl : k = len := by omega
          have EE : Hid (endOf (dps N) k i = k) := Lib.hid (by omega)
          gi_wp2
          go_end0
          exact ⟨⟨_, rfl⟩, .inl ⟨_, by rw [HW.out, EE.out], JK.out⟩⟩
    · clear hy hR
      gi_wp2
      refine bodyPost_ret (results_none rfl _ _ _) rfl ?_
      exact ⟨⟨_, rfl⟩, .inr ⟨_, ⟨List.range' (i + 1) (endOf (dps N) len i - (i + 1)), by
        rw [HW.out, List.nil_append, show [i] = List.range' i 1 from rfl, List.range'_append_1]; congr 1; omega⟩, hJx1⟩⟩
  · have hd : decide (0 ≤ a ∧ a < len) = false := by simpa using hin
    have HW := Lib.hid (withinL_no (N := N) hin)
    gi_wp2_with (refine ⟨trivial, ?_⟩; gi_at_call 87; refine (callsIn_wide.2 (isPlace_any A len c a W)).mono ?_; rintro e w' ⟨rfl, rfl⟩)
    refine ⟨fun _ h => (by cases h), ?_⟩
    gi_wp2
    refine bodyPost_ret (results_none rfl _ _ _) rfl ?_
    exact ⟨⟨_, rfl⟩, .inl ⟨[], HW.out.symm, h0⟩⟩

/-- the places ahead of a place, the nearest one first -/
def aheadL (n : Nat) (a : Int) : List Nat := if 0 ≤ a ∧ a < n then (List.range a.toNat).reverse else []
theorem aheadL_no {n : Nat} {a : Int} (h : ¬ (0 ≤ a ∧ a < n)) : aheadL n a = [] := if_neg h
theorem aheadL_yes {n i : Nat} (h : i < n) : aheadL n i = (List.range i).reverse := by
  unfold aheadL
  rw [if_pos ⟨by omega, by omega⟩]
  rfl
/-- the first so many of them -/
theorem ahead_take {i k : Nat} (hk : k < i) : (List.range i).reverse.take (i - (k + 1)) ++ [k] = (List.range i).reverse.take (i - k) := by
  have h : (List.range i).reverse[i - (k + 1)]? = some k := by
    rw [List.getElem?_reverse (by simp; omega), List.length_range, List.getElem?_range (by omega)]
    congr 1
    omega
  rw [show i - k = (i - (k + 1)) + 1 by omega, List.take_add_one, h]
  rfl

/-- the contracts of the two as a range over a function asks them: of places that there are -/
def finOf {len : Nat} (J : List (Fin len) → World → Prop) (pre : List Nat) (W : World) : Prop := ∃ pf : List (Fin len), pf.map (·.val) = pre ∧ J pf W
theorem finOf_abides {len B : Nat} {J : List (Fin len) → World → Prop} (h : AbidesFrom B J) : AbidesFrom B (finOf J) := fun _ W W' row ⟨pf, e, hj⟩ hg hr => ⟨pf, e, h pf W W' row hj hg hr⟩
theorem within_stops (n : Nat) (hn : 2 ≤ n) (A : Option Addr) (len c : Nat) (a : Int) (N : Nat → RN) (Bn Ba : Nat) (Kp : World → World → Prop) (hKp : ∀ {W W'}, Seen A len c a N Bn Ba W → Kp W W' → Seen A len c a N Bn Ba W')
    (hlen : len ≤ 140737488351232) (ha1 : -9223372036854775808 ≤ a) (ha2 : a ≤ 9223372036854775807) (w : World) (hS : ∀ W, Below w.heap.size w W → Seen A len c a N Bn Ba W) :
    SeqStopsK Fence.wide n Try.prog 86 #[.pointer (some ⟨Bn, 0, none⟩), .pointer (some ⟨Ba, 0, none⟩)] (fun p : Fin len => #[.int .i64 ((p.val : Nat) : Int)]) Kp (fun ys => ys.map (·.val) = withinL N len a) (fun pre => pre.map (·.val) <+: withinL N len a) (withinL N len a).length w := fun l J Jx W hW hJ _ hY h0 => by
  refine (within1_in n hn l A len c a N Bn Ba _ Kp hKp hlen ha1 ha2 (finOf J) (finOf Jx) (finOf_abides hJ) (fun pre x W1 hx hj hlt => ?_) W (hS W hW) ⟨[], rfl, h0⟩).mono ?_
  · obtain ⟨pf, rfl, hj⟩ := hj
    refine (hY pf ⟨x, hx⟩ W1 hj (by simpa using hlt)).mono ?_
    rintro e W' (⟨h1, h2, h3⟩ | ⟨h1, h2⟩)
    · exact .inl ⟨h1, ⟨_, by simp, h2⟩, h3⟩
    · exact .inr ⟨h1, ⟨_, by simp, h2⟩⟩
  · rintro e W' ⟨hv, (⟨ys, rfl, pf, hp, hj⟩ | ⟨pre, hp, pf, rfl, hj⟩)⟩
    · exact ⟨hv, .inl ⟨pf, hp, hj⟩⟩
    · exact ⟨hv, .inr ⟨pf, hp, hj⟩⟩
/-- what is kept by a loop's rounds: all that lay when it began, but for one block -/
structure KeepBut (B O : Nat) (W W' : World) : Prop where
  size : W.heap.size ≤ W'.heap.size
  block : ∀ k, k < B → k ≠ O → W'.heap[k]? = W.heap[k]?
theorem KeepBut.refl (B O : Nat) (W : World) : KeepBut B O W W := ⟨Nat.le_refl _, fun _ _ _ => rfl⟩
theorem KeepBut.trans {B O : Nat} {W W' W'' : World} (h : KeepBut B O W W') (h' : KeepBut B O W' W'') : KeepBut B O W W'' :=
  ⟨Nat.le_trans h.size h'.size, fun k h1 h2 => (h'.block k h1 h2).trans (h.block k h1 h2)⟩
theorem KeepBut.of_below {B O : Nat} {W W' : World} (h : Below B W W') : KeepBut B O W W' := ⟨h.size, fun k h1 _ => h.block k h1⟩
theorem KeepBut.drew (B O : Nat) (W : World) : KeepBut B O W W.drew := ⟨Nat.le_refl _, fun _ _ _ => rfl⟩
theorem KeepBut.setCell {B O : Nat} {W W' : World} (h : KeepBut B O W W') (x : Nat) (v : Value) : KeepBut B O W (W'.setCell ⟨O, x, none⟩ v) :=
  ⟨by simpa using h.size, fun k h1 h2 => (Below.heap_setCell _ _ _ _ h2).trans (h.block k h1 h2)⟩
theorem KeepBut.cell {B O : Nat} {W W' : World} (h : KeepBut B O W W') {b o : Nat} (hb : b < B) (ho : b ≠ O) : W'.cell? ⟨b, o, none⟩ = W.cell? ⟨b, o, none⟩ := World.cell?_of_block (w := W) (h.block b hb ho)
theorem KeepBut.book {B O : Nat} {w : World} (hB : B ≤ w.heap.size) (W : World) (l : Nat) (o o' : Obj) (hl : w.heap.size ≤ l) (h : W.heap[l]? = some o) (_ : o.isCells = false) (_ : o.isWalk = false) : KeepBut B O W (W.putObj l o') := by
  have := belowK_b (w := w) (n₀ := B) hB W l o o' hl h ‹_› ‹_›
  exact .of_below this
theorem Nodes.keepBut {W W' : World} {A : Option Addr} {n : Nat} {N : Nat → RN} {B O H : Nat} (h : Nodes W A n N) (hH : ∀ b off, A = some ⟨b, off, none⟩ → 0 < n → b < H) (hB : H ≤ B) (hO : H ≤ O) (hk : KeepBut B O W W') : Nodes W' A n N :=
  ⟨h.1, fun hn => by
    obtain ⟨b, off, e, hb, hc⟩ := h.2 hn
    have := hH b off e hn
    exact ⟨b, off, e, Nat.lt_of_lt_of_le hb hk.size, fun j hj => (hc j hj).keep fun o => hk.cell (by omega) (by omega)⟩⟩
theorem Nodes.block_lt {w : World} {A : Option Addr} {n : Nat} {N : Nat → RN} (h : Nodes w A n N) : ∀ b off, A = some ⟨b, off, none⟩ → 0 < n → b < w.heap.size := fun b off e hn => by
  obtain ⟨b', off', e', hb, -⟩ := h.2 hn
  rw [e] at e'
  cases e'
  exact hb
theorem Seen.keepBut {A : Option Addr} {n c : Nat} {a : Int} {N : Nat → RN} {Bn Ba B O H : Nat} (hH : ∀ b off, A = some ⟨b, off, none⟩ → 0 < n → b < H) (hHB : H ≤ B) (hHO : H ≤ O) (h1 : Bn < B ∧ Bn ≠ O) (h2 : Ba < B ∧ Ba ≠ O) {W W' : World} (h : Seen A n c a N Bn Ba W) (hk : KeepBut B O W W') : Seen A n c a N Bn Ba W' :=
  ⟨h.nodes.keepBut hH hHB hHO hk, (hk.cell h1.1 h1.2).trans h.cn, (hk.cell h2.1 h2.2).trans h.ca⟩

set_option maxRecDepth 100000 in
set_option maxHeartbeats 1000000 in
theorem within_any (A : Option Addr) (n c : Nat) (a : Int) (w : World) :
    Calls Try.prog 77 #[.slice A n c, .int .i64 a] w fun e w' => e = .returned (.func (.func 86) #[] #[.pointer (some ⟨w.heap.size, 0, none⟩), .pointer (some ⟨w.heap.size + 1, 0, none⟩)]) ∧
      w' = (w.alloc (.cells #[.slice A n c] 22)).alloc (.cells #[.int .i64 a] 3) := by
  go_enter Try.func77, Try.ntmps77
  go_wp2
  go_ret
  exact ⟨rfl, rfl⟩
end Go.Proofs.Ytmodegkpfdlccaa
