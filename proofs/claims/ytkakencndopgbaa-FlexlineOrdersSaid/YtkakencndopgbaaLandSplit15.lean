/-
  The landed flexline.Split.
-/
import Derived.Test.YtkakencndopgbaaLandTell15
import Derived.Deep.AppendLies
import Derived.RangeFuncBox
namespace Go.Proofs.Ytkakencndopgbaa
open Go.RowKit Go.Shelf
attribute [local go_sem] Oper.semAt_some
attribute [local go_sem] wide_fn15

set_option maxHeartbeats 1000000 in
theorem fitsN15 (b n : Nat) (f : Nat → Int) (w : World) (hn : n ≤ 1000) (hc : ∀ i, i < n → w.cell? ⟨b, i, none⟩ = some (.int .i64 (f i))) (r : Bool) (hr : decide (∀ i, i < n → Fit (f i)) = r) :
    Calls Try.prog 25 #[.slice (some ⟨b, 0, none⟩) n n] w fun e w' => e = .returned (.bool r) ∧ w = w' := by
  have HR := Lib.hid hr
  have HC := Lib.hid hc
  clear hr hc
  go_enter Try.func25, Try.ntmps25
  go_wp2
  go_loop [7] (fun i => ∃ k : Nat, k ≤ n ∧ Hid (∀ j, j < k → Fit (f j)) ∧ i = .int .i64 k) (fun i => n - (intOf i).toNat)
  case atStart => exact ⟨0, Nat.zero_le _, Lib.hid (fun j h => absurd h (by omega)), rfl⟩
  case round =>
    obtain ⟨k, hk, hf, rfl⟩ := hrel
    by_cases hlt : k < n
    · have hz : (k : Int) < n := by omega
      have hz0 : (0 : Int) ≤ k := by omega
      have c0 := HC.out k hlt
      have KK : Hid (∀ y, f k = y → ¬ Fit y → r = false) := Lib.hid (fun y e h => by rw [← HR.out]; exact decide_eq_false (fun h' => h (by rw [← e]; exact h' k hlt)))
      have K2 : Hid (∀ y, f k = y → Fit y → ∀ j, j < k + 1 → Fit (f j)) := Lib.hid (fun y e h j hj => by
        by_cases e' : j = k
        · rw [e', e]; exact h
        · exact hf.out j (by omega))
      obtain ⟨x, hx⟩ : ∃ x, f k = x := ⟨_, rfl⟩
      rw [hx] at c0
      have EX := Lib.hid hx
      clear hx hf
      by_cases h1 : x < -1099511627776
      · have R : Hid (r = false) := Lib.hid (KK.out x EX.out (fun h => by unfold Fit at h; omega))
        clear KK K2
        go_wp2
        go_ret
        exact ⟨by rw [R.out]; rfl, rfl⟩
      · by_cases h2 : 1099511627776 < x
        · have R : Hid (r = false) := Lib.hid (KK.out x EX.out (fun h => by unfold Fit at h; omega))
          clear KK K2
          go_wp2
          go_ret
          exact ⟨by rw [R.out]; rfl, rfl⟩
        · have HF : Hid (∀ j, j < k + 1 → Fit (f j)) := Lib.hid (K2.out x EX.out (by unfold Fit; omega))
          clear KK K2
          go_wp2
          go_round
          case rel => exact ⟨k + 1, by omega, HF, by go_num⟩
          case measure => simp [intOf]; omega
    · obtain rfl : k = n := by omega
      have hz : ¬ (k : Int) < k := by omega
      have R : Hid (r = true) := Lib.hid (by rw [← HR.out]; exact decide_eq_true hf.out)
      clear hf
      go_wp2
      go_ret
      exact ⟨by rw [R.out]; rfl, rfl⟩
theorem fits2_15 (b : Nat) (x y : Int) (w : World) (h0 : w.cell? ⟨b, 0, none⟩ = some (.int .i64 x)) (h1 : w.cell? ⟨b, 1, none⟩ = some (.int .i64 y)) (r : Bool) (hr : decide (Fit x ∧ Fit y) = r) :
    Calls Try.prog 25 #[.slice (some ⟨b, 0, none⟩) 2 2] w fun e w' => e = .returned (.bool r) ∧ w = w' := by
  refine fitsN15 b 2 (fun i => if i = 0 then x else y) w (by omega) (fun i hi => ?_) r ?_
  · have : i = 0 ∨ i = 1 := by omega
    rcases this with rfl | rfl
    · exact h0
    · exact h1
  · rw [← hr]
    refine decide_eq_decide.2 ⟨fun h => ⟨h 0 (by omega), h 1 (by omega)⟩, fun h i _ => ?_⟩
    split
    · exact h.1
    · exact h.2
theorem split_call (A : Option Addr) (n c : Nat) (gap room : Int) (w : World) :
    Calls Try.prog 26 #[.slice A n c, .int .i64 gap, .int .i64 room] w fun e w' => e = .returned (.func (.func 30) #[] #[.pointer (some ⟨w.heap.size, 0, none⟩), .pointer (some ⟨w.heap.size + 1, 0, none⟩), .pointer (some ⟨w.heap.size + 1 + 1, 0, none⟩)]) ∧
      w' = ((w.alloc (.cells #[.slice A n c] 22)).alloc (.cells #[.int .i64 gap] 3)).alloc (.cells #[.int .i64 room] 3) := by
  go_enter Try.func26, Try.ntmps26
  go_wp2
  go_ret
  exact ⟨rfl, rfl⟩
/-- where Split's loop stands: its variable, the row -/
def SplAt (w : World) (tb : Nat) (d : List (Nat × Nat)) (X : World) : Prop := ∃ v, Boxed X tb 26 v ∧ ownsL15 X w.heap.size v (castL d) ∧ Below w.heap.size w X ∧ tb < X.heap.size
/-- Split's own blocks: its variable's, and the row's -/
def mineS (tb : Nat) (X : World) (k : Nat) : Prop := k = tb ∨ ∃ v, Boxed X tb 26 v ∧ v.ownBlock = some k
theorem boxed_uniq15 {X : World} {B : Nat} {t : TypeId} {v u : Value} (h : Boxed X B t v) (k : Boxed X B t u) : v = u := by
  have e := (show X.heap[B]? = _ from h).symm.trans k
  cases e
  rfl
theorem boxed_lt15 {W : World} {B : Nat} {t : TypeId} {v : Value} (h : Boxed W B t v) : B < W.heap.size := (Array.getElem?_eq_some_iff.1 (show W.heap[B]? = _ from h)).1
theorem owns_cells15 {X : World} {base : Nat} {v : Value} {d : List Mg} (h : ownsL15 X base v d) {k : Nat} (hk : v.ownBlock = some k) : base ≤ k ∧ ∃ c fz, X.heap[k]? = some (.cells c 34 fz) := by
  rcases h.2 with ⟨rfl, _⟩ | ⟨g, cap, cur, rfl, hb, hg, _⟩
  · cases hk
  · cases hk
    exact ⟨hb, _, _, hg⟩
theorem SplAt.own {w : World} {tb B : Nat} (hB : w.heap.size ≤ B) : OwnFrom B (SplAt w tb) := fun _ X Y row ⟨v, h1, h2, h3, h4⟩ hg hr => by
  have ne : ∀ (k : Nat) (c : Array Value) (T : TypeId) (fz : Nat × Nat), X.heap[k]? = some (.cells c T fz) → some k ≠ row := fun k c T fz hk e => by
    obtain ⟨o, q1, q2⟩ := (hr k e.symm).2
    rw [hk] at q1
    cases q1
    cases q2
  refine ⟨v, h1.kept hg (ne _ _ _ _ h1), World.ownsRow.kept h2 hg ?_, h3.grown hg h3.size (fun k e => Nat.le_trans hB (hr k e).1), Nat.lt_of_lt_of_le h4 hg.size⟩
  cases hv : v.ownBlock with
  | none => exact .inl rfl
  | some g =>
    obtain ⟨-, c, fz, hc⟩ := owns_cells15 h2 hv
    exact .inr (ne g _ _ _ hc)
theorem mineS_ok {w : World} {tb H : Nat} : MineOK 5 (SplAt w tb) (mineS tb) H :=
  ⟨fun {pre W k} ⟨v, h1, h2, _, _⟩ hm => by
    rcases hm with rfl | ⟨u, q1, q2⟩
    · exact ⟨_, h1, rfl⟩
    · obtain rfl := boxed_uniq15 h1 q1
      obtain ⟨-, c, fz, hc⟩ := owns_cells15 h2 q2
      exact ⟨_, hc, rfl⟩,
  fun {pre W W' row} ⟨v, h1, h2, _, _⟩ hg hr k _ _ hm => by
    rcases hm with e | ⟨u, q1, q2⟩
    · exact .inl e
    · refine .inr ⟨v, h1, ?_⟩
      have h1' : Boxed W' tb 26 v := h1.kept hg (fun e => by
        obtain ⟨o, e1, e2⟩ := (hr _ e.symm).2
        rw [show W.heap[tb]? = _ from h1] at e1
        cases e1
        cases e2)
      rw [boxed_uniq15 h1' q1]
      exact q2,
  fun {pre W} c T z ⟨v, h1, h2, _, h4⟩ _ hm => by
    rcases hm with e | ⟨u, q1, q2⟩
    · omega
    · obtain rfl := boxed_uniq15 (h1.alloc _) q1
      obtain ⟨-, c, fz, hc⟩ := owns_cells15 h2 q2
      have := (Array.getElem?_eq_some_iff.1 hc).1
      omega⟩
theorem keeps_new15 {α : Type} {mine : World → Nat → Prop} {J : List α → World → Prop} {u8 : TypeId} {B H : Nat} {sbs : List Nat} (hM : MineOK u8 J mine B) {d : List α} {W W' : World} (hj : J d W) (hg : W.grownBy W' none) : Keeps mine H sbs W W' :=
  ⟨hg.size, fun k _ hl hm => ⟨hg.block k hl (fun e => by cases e), fun hm' => hm (hM.stay hj hg (fun r e => by cases e) hl (hg.block k hl (fun e => by cases e)) hm')⟩⟩
theorem grown_alloc15 (W : World) (o : Obj) : W.grownBy (W.alloc o) none := ⟨rfl, rfl, rfl, by simp, fun k hk _ => Below.heap_alloc _ _ _ hk⟩
theorem wpListIn_append_ln15 {F : Fence} {n : Nat} {w : World} {ops : Array Oper} {rest : List Oper} {o : Oper} {a : Act} {Q : Exit → Act → World → Prop} (hg : o.guard = none) (s x : Operand)
    (hop : o.op = .call { callee := .builtin .append, args := #[s, x], argTypes := #[26, 26] })
    (base : Nat) (v : Value) (ps : List Mg) (hs : a.eval s = v) (hown : ownsL15 w base v ps) (p : Mg) (ad : Addr) (hx : a.eval x = .slice (some ad) 1 1) (hc : ∀ j u, (cellsL15 [p])[j]? = some u → w.cell? (ad.add j) = some u)
    (hb : ps.length ≤ 100000) (hbase : base ≤ w.heap.size)
    (hK : ∀ g cap w', ownsL15 w' base (.slice (some ⟨g, 0, none⟩) (ps.length + 1) cap) (ps ++ [p]) → w.grownBy w' v.ownBlock → (v.ownBlock = some g ∨ g = w.heap.size) → g < w'.heap.size → wpListIn F n Try.prog ops Q rest (a.put o.dst (.slice (some ⟨g, 0, none⟩) (ps.length + 1) cap)) w') :
    wpListIn F n Try.prog ops Q (o :: rest) a w := by
  obtain ⟨i0, hi, hz0, hz1, hz2⟩ := info_parts10 Try.infoLn15
  obtain ⟨g, cap, w', hrun, r1, r2, r3, r4⟩ := run_append_lies (P := Try.prog) w 26 o.type base 34 i0 _ 2 16 Try.underlying26 hi hz0 hz1 hz2 rfl (by decide) v ps.length _ hown ad 1 1 (cellsL15 [p]) (cellsL15_len [p]) hc (cellsL15_one [p]) (by decide) (by unfold maxLen; omega) (by omega) hbase _ rfl
  refine wpListIn_plain hg fun K hK' => ?_
  unfold Oper.wpIn
  refine ⟨?_, ?_⟩
  · simp [Oper.about, hop, resolve, Target.leads, Sem.run_pure]
  · rw [Oper.semAt_plain F _ _ (by rw [hop]; intro c hc'; cases hc')]
    simp [execOp, hop, resolve, invoke, builtin, hs, hx, hrun, Result.andThen]
    exact hK' _ _ (hK g cap w' (by unfold ownsL15; rw [cellsL15_append, List.length_append]; exact r1) r2 r3 r4)
theorem spl_keeps {X X1 : World} {tmp : Obj} {lb H g cap : Nat} {sbs : List Nat} {v : Value} {n : Nat} (h1 : Boxed X lb 26 v) (hg : (X.alloc tmp).grownBy X1 v.ownBlock) (hl : v.ownBlock = some g ∨ g = (X.alloc tmp).heap.size)
    (hv : Boxed (X1.setCell ⟨lb, 0, none⟩ (.slice (some ⟨g, 0, none⟩) n cap)) lb 26 (.slice (some ⟨g, 0, none⟩) n cap)) :
    Keeps (mineS lb) H sbs X (X1.setCell ⟨lb, 0, none⟩ (.slice (some ⟨g, 0, none⟩) n cap)) := by
  have hs : X.heap.size + 1 ≤ X1.heap.size := by have := hg.size; rw [World.size_alloc] at this; exact this
  refine ⟨by rw [World.size_setCell]; omega, fun k _ hk hm => ⟨?_, ?_⟩⟩
  · rw [Below.heap_setCell _ _ _ _ (show k ≠ lb from fun e => hm (.inl e)), hg.block k (by rw [World.size_alloc]; omega) (fun e => hm (.inr ⟨v, h1, e.symm⟩)), Below.heap_alloc _ _ _ hk]
  · rintro (e | ⟨u, q1, q2⟩)
    · exact hm (.inl e)
    · obtain rfl := boxed_uniq15 hv q1
      have e : g = k := by simpa [Value.ownBlock] using q2
      subst e
      rcases hl with hl | hl
      · exact hm (.inr ⟨v, h1, hl⟩)
      · rw [World.size_alloc] at hl; omega
/-- the block that a row lies in -/
def blockOf15 (A : Option Addr) (n : Nat) : List Nat := match A with | some a => if 0 < n then [a.block] else [] | none => []
theorem blockOf15_lt {w : World} {A : Option Addr} {n k : Nat} {f : Nat → Int} (h : Ints w A n f) (hk : k ∈ blockOf15 A n) : k < w.heap.size := by
  unfold blockOf15 at hk
  cases A with
  | none => cases hk
  | some a =>
    dsimp only at hk
    split at hk
    · rename_i hn0
      obtain ⟨b, off, e, h1, -⟩ := h.2 hn0
      injection e with e
      subst e
      have : k = b := by simpa using hk
      omega
    · cases hk
theorem blockOf15_mem {A : Option Addr} {n b off : Nat} (e : A = some ⟨b, off, none⟩) (hn : 0 < n) : b ∈ blockOf15 A n := by
  subst e
  unfold blockOf15
  simp [hn]
/-- the lines, where nothing is wrong -/
theorem splitL_room {f : Nat → Int} {n : Nat} {gap room : Int} {wrap : Bool} (h : splitE f n gap room = 0) (hn : n ≤ 2048) (hg : 0 ≤ gap ∧ gap ≤ 1099511627776) (hf : ∀ k, k < n → -1099511627776 ≤ f k ∧ f k ≤ 1099511627776) :
    splitL f n gap room wrap = linesA f gap (roomR room wrap) true n 0 := by
  unfold splitL
  rw [if_pos h, linesA_roomR hn hg hf]
set_option maxRecDepth 100000 in
set_option maxHeartbeats 8000000 in
theorem split_No (A : Option Addr) (n c : Nat) (f : Nat → Int) (gap room : Int) (w : World) (h : Ints w A n f) (hn : n ≤ 2048) (hc : n ≤ c ∧ c ≤ 9223372036854775807) (hg : 0 ≤ gap ∧ gap ≤ 1099511627776) (hr : -1 ≤ room ∧ room ≤ 1099511627776)
    (hf : ∀ k, k < n → -1099511627776 ≤ f k ∧ f k ≤ 1099511627776) (L : List (Nat × Nat)) (hL : linesA f gap 9223372036854775807 true n 0 = L) :
    Calls Try.prog 14 #[.slice A n c, .int .i64 gap, .int .i64 room, .bool false] w fun e w' => ∃ v, e = .returned (.tuple #[v, .int .i64 0]) ∧ ownsL15 w' w.heap.size v (castL L) ∧ Below w.heap.size w w' := by
  have K1 := Lib.hid (fits_any A n c f w h (by omega) true (by unfold allFit; exact decide_eq_true hf))
  have K2 := Lib.hid (fun g W h0 h1 => fits2_15 g gap room W h0 h1 true (decide_eq_true ⟨by unfold Fit; omega, by unfold Fit; omega⟩))
  have KS := Lib.hid (fun W => split_call A n c gap 9223372036854775807 W)
  have TL := Lib.hid (fun sb gb rb W c1 c2 c3 (hI : Ints W A n f) sbs h1 h2 h3 hA hlt => split_tell A n c f gap 9223372036854775807 sb gb rb W c1 c2 c3 hI hn hc hg hf (by decide) sbs h1 h2 h3 hA hlt)
  have LL := Lib.hid (linesA_len (f := f) (gap := gap) (room := 9223372036854775807) (wrap := true) (n := n) 0)
  have n1 : ¬ (2048 : Int) < n := by omega
  have n2 : ¬ gap < 0 := by omega
  have n3 : ¬ room < -1 := by omega
  have HI := Lib.hid h
  have HN := Lib.hid hn
  have HL := Lib.hid hL
  clear h hc hg hf hL hr hn
  refine (callsIn_wide (n := 6)).1 ?_
  refine callsIn_of_wp_marks Try.func14 rfl trivial ?_ rfl
  simp only [Try.ntmps14, List.size_toArray, List.length_cons, List.length_nil, Nat.reduceAdd, Nat.reduceSub, Array.replicate_succ, Array.replicate_zero, List.push_toArray, List.append_toArray, List.nil_append, List.cons_append]
  gi_wp2_with (first
    | (gi_at_call 25; refine (callsIn_wide.2 K1.out).mono ?_; rintro e w1 ⟨rfl, rfl⟩; clear K1)
    | (gi_at_call 25; refine (callsIn_wide.2 (K2.out _ _ (by simp) (by simp))).mono ?_; rintro e w2 ⟨rfl, rfl⟩; clear K2)
    | (gi_at_call 26; (with_reducible refine (callsIn_wide.2 (KS.out _)).mono ?_); rintro e w4 ⟨rfl, hw⟩; have HW4 := Lib.hid hw; clear hw))
  obtain ⟨w3, hw3⟩ : ∃ w3, (w.alloc (.cells #[.int .i64 gap, .int .i64 room] 3)).alloc (.cells #[.slice none 0 0] 26) = w3 := ⟨_, rfl⟩
  have s3 : w3.heap.size = w.heap.size + 1 + 1 := by rw [← hw3, World.size_alloc, World.size_alloc]
  have B0 : Boxed w3 (w.heap.size + 1) 26 (.slice none 0 0) := by
    rw [← hw3]
    have := Boxed.new (w.alloc (.cells #[.int .i64 gap, .int .i64 room] 3)) 26 (.slice none 0 0)
    rwa [World.size_alloc] at this
  have b3 : Below w.heap.size w w3 := by rw [← hw3]; exact ((Below.refl _ w).alloc (Nat.le_refl _) _).alloc (by simp) _
  have E4 := HW4.out
  rw [hw3] at E4
  have s4 : w4.heap.size = w.heap.size + 1 + 1 + 1 + 1 + 1 := by rw [E4, World.size_alloc, World.size_alloc, World.size_alloc, s3]
  have q1 := Boxed.new w3 22 (.slice A n c)
  have q2 := Boxed.new (w3.alloc (.cells #[.slice A n c] 22)) 3 (.int .i64 gap)
  have q3 := Boxed.new ((w3.alloc (.cells #[.slice A n c] 22)).alloc (.cells #[.int .i64 gap] 3)) 3 (.int .i64 9223372036854775807)
  simp only [World.size_alloc, s3] at q1 q2 q3
  have Q0 : Boxed w4 (w.heap.size + 1) 26 (.slice none 0 0) := by rw [E4]; exact ((B0.alloc _).alloc _).alloc _
  have Q1 : Boxed w4 (w.heap.size + 1 + 1) 22 (.slice A n c) := by rw [E4]; exact (q1.alloc _).alloc _
  have Q2 : Boxed w4 (w.heap.size + 1 + 1 + 1) 3 (.int .i64 gap) := by rw [E4]; exact q2.alloc _
  have Q3 : Boxed w4 (w.heap.size + 1 + 1 + 1 + 1) 3 (.int .i64 9223372036854775807) := by rw [E4]; exact q3
  have b4 : Below w.heap.size w w4 := by
    rw [E4]
    exact ((b3.alloc b3.size _).alloc (by rw [World.size_alloc]; have := b3.size; omega) _).alloc (by rw [World.size_alloc, World.size_alloc]; have := b3.size; omega) _
  clear E4 q1 q2 q3 B0 b3
  try simp only [World.size_alloc]
  obtain ⟨sbs, hsbs⟩ : ∃ sbs : List Nat, sbs = [w.heap.size + 1 + 1, w.heap.size + 1 + 1 + 1, w.heap.size + 1 + 1 + 1 + 1] ++ blockOf15 A n := ⟨_, rfl⟩
  have SB : ∀ k ∈ sbs, k < w4.heap.size ∧ k ≠ w.heap.size + 1 := by
    intro k hk
    rw [hsbs] at hk
    rcases List.mem_append.1 hk with h | h
    · simp only [List.mem_cons, List.not_mem_nil, or_false] at h
      omega
    · have := blockOf15_lt HI.out h
      omega
  have TELL := TL.out (w.heap.size + 1 + 1) (w.heap.size + 1 + 1 + 1) (w.heap.size + 1 + 1 + 1 + 1) w4 Q1.cell Q2.cell Q3.cell (HI.out.below b4) sbs (by rw [hsbs]; simp) (by rw [hsbs]; simp) (by rw [hsbs]; simp) (fun b off e hn0 => by rw [hsbs]; exact List.mem_append.2 (.inr (blockOf15_mem e hn0))) (fun k hk => (SB k hk).1)
  have ST := Lib.hid (show SplAt w (w.heap.size + 1) [] w4 from ⟨_, Q0, ownsL15.nil _ _, b4, by omega⟩)
  have hsm : ∀ k ∈ sbs, ¬ mineS (w.heap.size + 1) w4 k := fun k hk hm => by
    rcases hm with e | ⟨u, q1, q2⟩
    · exact (SB k hk).2 e
    · obtain rfl := boxed_uniq15 Q0 q1
      cases q2
  have hz0 : w.heap.size + 1 ≤ w4.heap.size := by omega
  rw [HL.out] at TELL LL
  clear HW4 TL
  refine wpIn_tells (k := 3) (u8 := 5) (w := w4) (w0 := w4) (gf := 30) (lb := #[.pointer (some ⟨w.heap.size + 1 + 1, 0, none⟩), .pointer (some ⟨w.heap.size + 1 + 1 + 1, 0, none⟩), .pointer (some ⟨w.heap.size + 1 + 1 + 1 + 1, 0, none⟩)]) rfl (enters_of Try.func30 (by kernel_rfl) rfl) TELL (Below.refl _ _) (fun k hk => (SB k hk).1) (fun _ => rfl)
    (SplAt w (w.heap.size + 1)) (mineS (w.heap.size + 1)) (SplAt.own (by omega)) mineS_ok hsm ST.out
    (fun pre x a' X => SplAt w (w.heap.size + 1) pre X ∧ ∃ Bp, ¬ mineS (w.heap.size + 1) X Bp ∧ X.heap[Bp]? = some (.cells #[.int .i64 (x.1 : Nat), .int .i64 (x.2 : Nat)] 34 (0, 0)) ∧ a' = { tmps := #[.slice A n c, .int .i64 gap, .int .i64 9223372036854775807, .bool false, undef, undef, undef, undef, .slice none 0 0, .int .i64 0, .pointer (some ⟨w.heap.size + 1, 0, none⟩), .pointer (some ⟨Bp, 0, none⟩), .slice A n c, .int .i64 (n : Nat), .bool false, .bool false, .int .i64 gap, .bool false, .bool false, .bool false, .int .i64 room, .bool false, .bool false, .slice A n c, .bool true, .bool false, .bool false, .int .i64 gap, .int .i64 room, .slice (some ⟨w.heap.size, 0, none⟩) 2 2, .bool true, .bool false, .bool false, .bool false, .bool true, .bool true, undef, undef, .bool true, .slice A n c, .int .i64 gap, .int .i64 9223372036854775807, .func (.func 30) #[] #[.pointer (some ⟨w.heap.size + 1 + 1, 0, none⟩), .pointer (some ⟨w.heap.size + 1 + 1 + 1, 0, none⟩), .pointer (some ⟨w.heap.size + 1 + 1 + 1 + 1, 0, none⟩)], .agg #[.int .i64 (x.1 : Nat), .int .i64 (x.2 : Nat)], undef, undef, undef, undef, undef], defers := [] })
    (fun pre x a' => ?ax) ?assign ?body ?done
  case ax =>
    rintro _ X Y row ⟨h0, Bp, h1, h2, h3⟩ hg hr
    have he : Y.heap[Bp]? = X.heap[Bp]? := hg.block Bp (Array.getElem?_eq_some_iff.1 h2).1 (fun e => by
      obtain ⟨o, q1, q2⟩ := (hr Bp e.symm).2
      rw [h2] at q1
      cases q1
      cases q2)
    exact ⟨SplAt.own (B := w4.heap.size) (by omega) _ _ _ _ h0 hg hr, Bp, fun hm => h1 (mineS_ok.stay h0 hg hr (Array.getElem?_eq_some_iff.1 h2).1 he hm), he.trans h2, h3⟩
  case assign =>
    intro l' pre x X K hi hpre hK
    have hi2 := (SplAt.own (w := w) (tb := w.heap.size + 1) (Nat.le_refl _)).alloc (.cells #[.int .i64 (x.1 : Nat), .int .i64 (x.2 : Nat)] 34) hi
    have KK := hK _ _ (keeps_new15 (mineS_ok (H := w4.heap.size)) hi (grown_alloc15 X (.cells #[.int .i64 (x.1 : Nat), .int .i64 (x.2 : Nat)] 34))) hi2 ⟨hi2, X.heap.size, (mineS_ok (H := 0)).fresh _ _ _ hi (by decide), World.alloc_heap_new X _, rfl⟩
    dsimp only [encLn15]
    gi_wp2
    simpa using KK
  case body =>
    rintro l' pre ⟨p, q⟩ a' X hl - ⟨hi, Bp, hnm, hp, rfl⟩ hpre
    have DL : pre.length ≤ 8192 := by
      have h1 := hpre.length_le
      rw [List.length_append] at h1
      have h2 := LL.out
      have h3 := HN.out
      omega
    obtain ⟨v, hv, ho, hb, ht⟩ := hi
    have c0 : X.cell? ⟨Bp, 0, none⟩ = some (.int .i64 (p : Nat)) := by simp [World.cell?, hp]
    have c1 : X.cell? ⟨Bp, 1, none⟩ = some (.int .i64 (q : Nat)) := by simp [World.cell?, hp]
    have cv := hv.cell
    have hXs : w.heap.size ≤ X.heap.size := hb.size
    obtain ⟨Av, cc, ev, -, -, -⟩ := own_form ho
    have DC : (castL pre).length ≤ 8192 := by rw [castL_len]; exact DL
    have V1 := Lib.hid hv
    have O1 := Lib.hid ho
    have O2 := Lib.hid (show ownsL15 (X.alloc (.cells #[.int .i64 (p : Nat), .int .i64 (q : Nat)] 34)) w.heap.size v (castL pre) from ho.keep ((Below.refl _ X).alloc (Nat.le_refl _) _))
    have HB := Lib.hid hb
    have HI2 := Lib.hid (show SplAt w (w.heap.size + 1) pre X from ⟨v, hv, ho, hb, ht⟩)
    clear hpre hv ho hb hnm hp hsm TELL hsbs ev
    gi_wp2_with (gi_at_builtin; (with_reducible change wpListIn _ _ _ _ _ (Oper.mk (some 47) _ _ _ _ _ :: _) _ _); refine wpListIn_append_ln15 rfl _ _ rfl w.heap.size v (castL pre) rfl O2.out ((p : Int), (q : Int)) ⟨X.heap.size, 0, none⟩ rfl (fun j u h => ln_cells15 ((p : Int), (q : Int)) j u h) (by omega) (by rw [World.size_alloc]; omega) ?_; intro g cap w5 hown' hgrow hlies hlt; obtain ⟨hv1, hv2, hr2, hk2, hb2⟩ := Boxed.appended V1.out (by decide) O1.out hXs (by omega) hown' hgrow; have CK := Lib.hid (spl_keeps (H := w4.heap.size) (sbs := sbs) V1.out hgrow hlies hv2); have hc1 := hv1.cell; have hf1 := hv1.frozen; have V2 := Lib.hid hv2; have R2 := Lib.hid hr2; have B2 := Lib.hid hb2; clear hv1 hv2 hr2 hk2 hb2 hown' hgrow hlies hlt)
    exact ⟨CK.out, _, V2.out, by rw [show castL (pre ++ [(p, q)]) = castL pre ++ [((p : Int), (q : Int))] by simp [castL]]; exact R2.out, HB.out.trans B2.out, boxed_lt15 V2.out⟩
  case done =>
    rintro D X hD ⟨v, hv, ho, hb, ht⟩ hK
    have hc := hv.cell
    obtain ⟨Av, cc, ev, -, -, -⟩ := own_form ho
    subst ev
    have DM : Hid (w.heap.size ≤ D) := Lib.hid (by omega)
    gi_wp2
    refine ⟨by simp, .inl ⟨_, _, rfl, run_takeDeferred hK, ?_⟩⟩
    exact ⟨_, results_tmp2 rfl _ _ _, _, rfl, ownsRow_putObj ho _ hK rfl, hb.trans (belowK_b (w := w) (Nat.le_refl _) X D _ _ DM.out hK rfl rfl)⟩
set_option maxRecDepth 100000 in
set_option maxHeartbeats 8000000 in
theorem split_Free (A : Option Addr) (n c : Nat) (f : Nat → Int) (gap room : Int) (w : World) (h : Ints w A n f) (hn : n ≤ 2048) (hc : n ≤ c ∧ c ≤ 9223372036854775807) (hg : 0 ≤ gap ∧ gap ≤ 1099511627776) (hr : -1 ≤ room ∧ room ≤ 1099511627776) (hq : room = -1)
    (hf : ∀ k, k < n → -1099511627776 ≤ f k ∧ f k ≤ 1099511627776) (L : List (Nat × Nat)) (hL : linesA f gap 9223372036854775807 true n 0 = L) :
    Calls Try.prog 14 #[.slice A n c, .int .i64 gap, .int .i64 room, .bool true] w fun e w' => ∃ v, e = .returned (.tuple #[v, .int .i64 0]) ∧ ownsL15 w' w.heap.size v (castL L) ∧ Below w.heap.size w w' := by
  have hq1 : (room == -1) = true := by simp [hq]
  have hq2 := Lib.hid hq
  clear hq
  have K1 := Lib.hid (fits_any A n c f w h (by omega) true (by unfold allFit; exact decide_eq_true hf))
  have K2 := Lib.hid (fun g W h0 h1 => fits2_15 g gap room W h0 h1 true (decide_eq_true ⟨by unfold Fit; omega, by unfold Fit; omega⟩))
  have KS := Lib.hid (fun W => split_call A n c gap 9223372036854775807 W)
  have TL := Lib.hid (fun sb gb rb W c1 c2 c3 (hI : Ints W A n f) sbs h1 h2 h3 hA hlt => split_tell A n c f gap 9223372036854775807 sb gb rb W c1 c2 c3 hI hn hc hg hf (by decide) sbs h1 h2 h3 hA hlt)
  have LL := Lib.hid (linesA_len (f := f) (gap := gap) (room := 9223372036854775807) (wrap := true) (n := n) 0)
  have n1 : ¬ (2048 : Int) < n := by omega
  have n2 : ¬ gap < 0 := by omega
  have n3 : ¬ room < -1 := by omega
  have HI := Lib.hid h
  have HN := Lib.hid hn
  have HL := Lib.hid hL
  clear h hc hg hf hL hr hn
  refine (callsIn_wide (n := 6)).1 ?_
  refine callsIn_of_wp_marks Try.func14 rfl trivial ?_ rfl
  simp only [Try.ntmps14, List.size_toArray, List.length_cons, List.length_nil, Nat.reduceAdd, Nat.reduceSub, Array.replicate_succ, Array.replicate_zero, List.push_toArray, List.append_toArray, List.nil_append, List.cons_append]
  gi_wp2_with (first
    | (gi_at_call 25; refine (callsIn_wide.2 K1.out).mono ?_; rintro e w1 ⟨rfl, rfl⟩; clear K1)
    | (gi_at_call 25; refine (callsIn_wide.2 (K2.out _ _ (by simp) (by simp))).mono ?_; rintro e w2 ⟨rfl, rfl⟩; clear K2)
    | (gi_at_call 26; (with_reducible refine (callsIn_wide.2 (KS.out _)).mono ?_); rintro e w4 ⟨rfl, hw⟩; have HW4 := Lib.hid hw; clear hw))
  obtain ⟨w3, hw3⟩ : ∃ w3, (w.alloc (.cells #[.int .i64 gap, .int .i64 room] 3)).alloc (.cells #[.slice none 0 0] 26) = w3 := ⟨_, rfl⟩
  have s3 : w3.heap.size = w.heap.size + 1 + 1 := by rw [← hw3, World.size_alloc, World.size_alloc]
  have B0 : Boxed w3 (w.heap.size + 1) 26 (.slice none 0 0) := by
    rw [← hw3]
    have := Boxed.new (w.alloc (.cells #[.int .i64 gap, .int .i64 room] 3)) 26 (.slice none 0 0)
    rwa [World.size_alloc] at this
  have b3 : Below w.heap.size w w3 := by rw [← hw3]; exact ((Below.refl _ w).alloc (Nat.le_refl _) _).alloc (by simp) _
  have E4 := HW4.out
  rw [hw3] at E4
  have s4 : w4.heap.size = w.heap.size + 1 + 1 + 1 + 1 + 1 := by rw [E4, World.size_alloc, World.size_alloc, World.size_alloc, s3]
  have q1 := Boxed.new w3 22 (.slice A n c)
  have q2 := Boxed.new (w3.alloc (.cells #[.slice A n c] 22)) 3 (.int .i64 gap)
  have q3 := Boxed.new ((w3.alloc (.cells #[.slice A n c] 22)).alloc (.cells #[.int .i64 gap] 3)) 3 (.int .i64 9223372036854775807)
  simp only [World.size_alloc, s3] at q1 q2 q3
  have Q0 : Boxed w4 (w.heap.size + 1) 26 (.slice none 0 0) := by rw [E4]; exact ((B0.alloc _).alloc _).alloc _
  have Q1 : Boxed w4 (w.heap.size + 1 + 1) 22 (.slice A n c) := by rw [E4]; exact (q1.alloc _).alloc _
  have Q2 : Boxed w4 (w.heap.size + 1 + 1 + 1) 3 (.int .i64 gap) := by rw [E4]; exact q2.alloc _
  have Q3 : Boxed w4 (w.heap.size + 1 + 1 + 1 + 1) 3 (.int .i64 9223372036854775807) := by rw [E4]; exact q3
  have b4 : Below w.heap.size w w4 := by
    rw [E4]
    exact ((b3.alloc b3.size _).alloc (by rw [World.size_alloc]; have := b3.size; omega) _).alloc (by rw [World.size_alloc, World.size_alloc]; have := b3.size; omega) _
  clear E4 q1 q2 q3 B0 b3
  try simp only [World.size_alloc]
  obtain ⟨sbs, hsbs⟩ : ∃ sbs : List Nat, sbs = [w.heap.size + 1 + 1, w.heap.size + 1 + 1 + 1, w.heap.size + 1 + 1 + 1 + 1] ++ blockOf15 A n := ⟨_, rfl⟩
  have SB : ∀ k ∈ sbs, k < w4.heap.size ∧ k ≠ w.heap.size + 1 := by
    intro k hk
    rw [hsbs] at hk
    rcases List.mem_append.1 hk with h | h
    · simp only [List.mem_cons, List.not_mem_nil, or_false] at h
      omega
    · have := blockOf15_lt HI.out h
      omega
  have TELL := TL.out (w.heap.size + 1 + 1) (w.heap.size + 1 + 1 + 1) (w.heap.size + 1 + 1 + 1 + 1) w4 Q1.cell Q2.cell Q3.cell (HI.out.below b4) sbs (by rw [hsbs]; simp) (by rw [hsbs]; simp) (by rw [hsbs]; simp) (fun b off e hn0 => by rw [hsbs]; exact List.mem_append.2 (.inr (blockOf15_mem e hn0))) (fun k hk => (SB k hk).1)
  have ST := Lib.hid (show SplAt w (w.heap.size + 1) [] w4 from ⟨_, Q0, ownsL15.nil _ _, b4, by omega⟩)
  have hsm : ∀ k ∈ sbs, ¬ mineS (w.heap.size + 1) w4 k := fun k hk hm => by
    rcases hm with e | ⟨u, q1, q2⟩
    · exact (SB k hk).2 e
    · obtain rfl := boxed_uniq15 Q0 q1
      cases q2
  have hz0 : w.heap.size + 1 ≤ w4.heap.size := by omega
  rw [HL.out] at TELL LL
  clear HW4 TL
  refine wpIn_tells (k := 3) (u8 := 5) (w := w4) (w0 := w4) (gf := 30) (lb := #[.pointer (some ⟨w.heap.size + 1 + 1, 0, none⟩), .pointer (some ⟨w.heap.size + 1 + 1 + 1, 0, none⟩), .pointer (some ⟨w.heap.size + 1 + 1 + 1 + 1, 0, none⟩)]) rfl (enters_of Try.func30 (by kernel_rfl) rfl) TELL (Below.refl _ _) (fun k hk => (SB k hk).1) (fun _ => rfl)
    (SplAt w (w.heap.size + 1)) (mineS (w.heap.size + 1)) (SplAt.own (by omega)) mineS_ok hsm ST.out
    (fun pre x a' X => SplAt w (w.heap.size + 1) pre X ∧ ∃ Bp, ¬ mineS (w.heap.size + 1) X Bp ∧ X.heap[Bp]? = some (.cells #[.int .i64 (x.1 : Nat), .int .i64 (x.2 : Nat)] 34 (0, 0)) ∧ a' = { tmps := #[.slice A n c, .int .i64 gap, .int .i64 9223372036854775807, .bool true, undef, undef, undef, undef, .slice none 0 0, .int .i64 0, .pointer (some ⟨w.heap.size + 1, 0, none⟩), .pointer (some ⟨Bp, 0, none⟩), .slice A n c, .int .i64 (n : Nat), .bool false, .bool false, .int .i64 gap, .bool false, .bool false, .bool false, .int .i64 room, .bool false, .bool false, .slice A n c, .bool true, .bool false, .bool false, .int .i64 gap, .int .i64 room, .slice (some ⟨w.heap.size, 0, none⟩) 2 2, .bool true, .bool false, .bool false, .bool true, .bool false, .bool false, .int .i64 room, .bool true, .bool true, .slice A n c, .int .i64 gap, .int .i64 9223372036854775807, .func (.func 30) #[] #[.pointer (some ⟨w.heap.size + 1 + 1, 0, none⟩), .pointer (some ⟨w.heap.size + 1 + 1 + 1, 0, none⟩), .pointer (some ⟨w.heap.size + 1 + 1 + 1 + 1, 0, none⟩)], .agg #[.int .i64 (x.1 : Nat), .int .i64 (x.2 : Nat)], undef, undef, undef, undef, undef], defers := [] })
    (fun pre x a' => ?ax) ?assign ?body ?done
  case ax =>
    rintro _ X Y row ⟨h0, Bp, h1, h2, h3⟩ hg hr
    have he : Y.heap[Bp]? = X.heap[Bp]? := hg.block Bp (Array.getElem?_eq_some_iff.1 h2).1 (fun e => by
      obtain ⟨o, q1, q2⟩ := (hr Bp e.symm).2
      rw [h2] at q1
      cases q1
      cases q2)
    exact ⟨SplAt.own (B := w4.heap.size) (by omega) _ _ _ _ h0 hg hr, Bp, fun hm => h1 (mineS_ok.stay h0 hg hr (Array.getElem?_eq_some_iff.1 h2).1 he hm), he.trans h2, h3⟩
  case assign =>
    intro l' pre x X K hi hpre hK
    have hi2 := (SplAt.own (w := w) (tb := w.heap.size + 1) (Nat.le_refl _)).alloc (.cells #[.int .i64 (x.1 : Nat), .int .i64 (x.2 : Nat)] 34) hi
    have KK := hK _ _ (keeps_new15 (mineS_ok (H := w4.heap.size)) hi (grown_alloc15 X (.cells #[.int .i64 (x.1 : Nat), .int .i64 (x.2 : Nat)] 34))) hi2 ⟨hi2, X.heap.size, (mineS_ok (H := 0)).fresh _ _ _ hi (by decide), World.alloc_heap_new X _, rfl⟩
    dsimp only [encLn15]
    gi_wp2
    simpa using KK
  case body =>
    rintro l' pre ⟨p, q⟩ a' X hl - ⟨hi, Bp, hnm, hp, rfl⟩ hpre
    have DL : pre.length ≤ 8192 := by
      have h1 := hpre.length_le
      rw [List.length_append] at h1
      have h2 := LL.out
      have h3 := HN.out
      omega
    obtain ⟨v, hv, ho, hb, ht⟩ := hi
    have c0 : X.cell? ⟨Bp, 0, none⟩ = some (.int .i64 (p : Nat)) := by simp [World.cell?, hp]
    have c1 : X.cell? ⟨Bp, 1, none⟩ = some (.int .i64 (q : Nat)) := by simp [World.cell?, hp]
    have cv := hv.cell
    have hXs : w.heap.size ≤ X.heap.size := hb.size
    obtain ⟨Av, cc, ev, -, -, -⟩ := own_form ho
    have DC : (castL pre).length ≤ 8192 := by rw [castL_len]; exact DL
    have V1 := Lib.hid hv
    have O1 := Lib.hid ho
    have O2 := Lib.hid (show ownsL15 (X.alloc (.cells #[.int .i64 (p : Nat), .int .i64 (q : Nat)] 34)) w.heap.size v (castL pre) from ho.keep ((Below.refl _ X).alloc (Nat.le_refl _) _))
    have HB := Lib.hid hb
    have HI2 := Lib.hid (show SplAt w (w.heap.size + 1) pre X from ⟨v, hv, ho, hb, ht⟩)
    clear hpre hv ho hb hnm hp hsm TELL hsbs ev
    gi_wp2_with (gi_at_builtin; (with_reducible change wpListIn _ _ _ _ _ (Oper.mk (some 47) _ _ _ _ _ :: _) _ _); refine wpListIn_append_ln15 rfl _ _ rfl w.heap.size v (castL pre) rfl O2.out ((p : Int), (q : Int)) ⟨X.heap.size, 0, none⟩ rfl (fun j u h => ln_cells15 ((p : Int), (q : Int)) j u h) (by omega) (by rw [World.size_alloc]; omega) ?_; intro g cap w5 hown' hgrow hlies hlt; obtain ⟨hv1, hv2, hr2, hk2, hb2⟩ := Boxed.appended V1.out (by decide) O1.out hXs (by omega) hown' hgrow; have CK := Lib.hid (spl_keeps (H := w4.heap.size) (sbs := sbs) V1.out hgrow hlies hv2); have hc1 := hv1.cell; have hf1 := hv1.frozen; have V2 := Lib.hid hv2; have R2 := Lib.hid hr2; have B2 := Lib.hid hb2; clear hv1 hv2 hr2 hk2 hb2 hown' hgrow hlies hlt)
    exact ⟨CK.out, _, V2.out, by rw [show castL (pre ++ [(p, q)]) = castL pre ++ [((p : Int), (q : Int))] by simp [castL]]; exact R2.out, HB.out.trans B2.out, boxed_lt15 V2.out⟩
  case done =>
    rintro D X hD ⟨v, hv, ho, hb, ht⟩ hK
    have hc := hv.cell
    obtain ⟨Av, cc, ev, -, -, -⟩ := own_form ho
    subst ev
    have DM : Hid (w.heap.size ≤ D) := Lib.hid (by omega)
    gi_wp2
    refine ⟨by simp, .inl ⟨_, _, rfl, run_takeDeferred hK, ?_⟩⟩
    exact ⟨_, results_tmp2 rfl _ _ _, _, rfl, ownsRow_putObj ho _ hK rfl, hb.trans (belowK_b (w := w) (Nat.le_refl _) X D _ _ DM.out hK rfl rfl)⟩
set_option maxRecDepth 100000 in
set_option maxHeartbeats 8000000 in
theorem split_Room (A : Option Addr) (n c : Nat) (f : Nat → Int) (gap room : Int) (w : World) (h : Ints w A n f) (hn : n ≤ 2048) (hc : n ≤ c ∧ c ≤ 9223372036854775807) (hg : 0 ≤ gap ∧ gap ≤ 1099511627776) (hr : -1 ≤ room ∧ room ≤ 1099511627776) (hq : room ≠ -1)
    (hf : ∀ k, k < n → -1099511627776 ≤ f k ∧ f k ≤ 1099511627776) (L : List (Nat × Nat)) (hL : linesA f gap room true n 0 = L) :
    Calls Try.prog 14 #[.slice A n c, .int .i64 gap, .int .i64 room, .bool true] w fun e w' => ∃ v, e = .returned (.tuple #[v, .int .i64 0]) ∧ ownsL15 w' w.heap.size v (castL L) ∧ Below w.heap.size w w' := by
  have hq1 : (room == -1) = false := by simp [hq]
  have hq2 := Lib.hid hq
  clear hq
  have K1 := Lib.hid (fits_any A n c f w h (by omega) true (by unfold allFit; exact decide_eq_true hf))
  have K2 := Lib.hid (fun g W h0 h1 => fits2_15 g gap room W h0 h1 true (decide_eq_true ⟨by unfold Fit; omega, by unfold Fit; omega⟩))
  have KS := Lib.hid (fun W => split_call A n c gap room W)
  have TL := Lib.hid (fun sb gb rb W c1 c2 c3 (hI : Ints W A n f) sbs h1 h2 h3 hA hlt => split_tell A n c f gap room sb gb rb W c1 c2 c3 hI hn hc hg hf (hq2.out) sbs h1 h2 h3 hA hlt)
  have LL := Lib.hid (linesA_len (f := f) (gap := gap) (room := room) (wrap := true) (n := n) 0)
  have n1 : ¬ (2048 : Int) < n := by omega
  have n2 : ¬ gap < 0 := by omega
  have n3 : ¬ room < -1 := by omega
  have HI := Lib.hid h
  have HN := Lib.hid hn
  have HL := Lib.hid hL
  clear h hc hg hf hL hr hn
  refine (callsIn_wide (n := 6)).1 ?_
  refine callsIn_of_wp_marks Try.func14 rfl trivial ?_ rfl
  simp only [Try.ntmps14, List.size_toArray, List.length_cons, List.length_nil, Nat.reduceAdd, Nat.reduceSub, Array.replicate_succ, Array.replicate_zero, List.push_toArray, List.append_toArray, List.nil_append, List.cons_append]
  gi_wp2_with (first
    | (gi_at_call 25; refine (callsIn_wide.2 K1.out).mono ?_; rintro e w1 ⟨rfl, rfl⟩; clear K1)
    | (gi_at_call 25; refine (callsIn_wide.2 (K2.out _ _ (by simp) (by simp))).mono ?_; rintro e w2 ⟨rfl, rfl⟩; clear K2)
    | (gi_at_call 26; (with_reducible refine (callsIn_wide.2 (KS.out _)).mono ?_); rintro e w4 ⟨rfl, hw⟩; have HW4 := Lib.hid hw; clear hw))
  obtain ⟨w3, hw3⟩ : ∃ w3, (w.alloc (.cells #[.int .i64 gap, .int .i64 room] 3)).alloc (.cells #[.slice none 0 0] 26) = w3 := ⟨_, rfl⟩
  have s3 : w3.heap.size = w.heap.size + 1 + 1 := by rw [← hw3, World.size_alloc, World.size_alloc]
  have B0 : Boxed w3 (w.heap.size + 1) 26 (.slice none 0 0) := by
    rw [← hw3]
    have := Boxed.new (w.alloc (.cells #[.int .i64 gap, .int .i64 room] 3)) 26 (.slice none 0 0)
    rwa [World.size_alloc] at this
  have b3 : Below w.heap.size w w3 := by rw [← hw3]; exact ((Below.refl _ w).alloc (Nat.le_refl _) _).alloc (by simp) _
  have E4 := HW4.out
  rw [hw3] at E4
  have s4 : w4.heap.size = w.heap.size + 1 + 1 + 1 + 1 + 1 := by rw [E4, World.size_alloc, World.size_alloc, World.size_alloc, s3]
  have q1 := Boxed.new w3 22 (.slice A n c)
  have q2 := Boxed.new (w3.alloc (.cells #[.slice A n c] 22)) 3 (.int .i64 gap)
  have q3 := Boxed.new ((w3.alloc (.cells #[.slice A n c] 22)).alloc (.cells #[.int .i64 gap] 3)) 3 (.int .i64 room)
  simp only [World.size_alloc, s3] at q1 q2 q3
  have Q0 : Boxed w4 (w.heap.size + 1) 26 (.slice none 0 0) := by rw [E4]; exact ((B0.alloc _).alloc _).alloc _
  have Q1 : Boxed w4 (w.heap.size + 1 + 1) 22 (.slice A n c) := by rw [E4]; exact (q1.alloc _).alloc _
  have Q2 : Boxed w4 (w.heap.size + 1 + 1 + 1) 3 (.int .i64 gap) := by rw [E4]; exact q2.alloc _
  have Q3 : Boxed w4 (w.heap.size + 1 + 1 + 1 + 1) 3 (.int .i64 room) := by rw [E4]; exact q3
  have b4 : Below w.heap.size w w4 := by
    rw [E4]
    exact ((b3.alloc b3.size _).alloc (by rw [World.size_alloc]; have := b3.size; omega) _).alloc (by rw [World.size_alloc, World.size_alloc]; have := b3.size; omega) _
  clear E4 q1 q2 q3 B0 b3
  try simp only [World.size_alloc]
  obtain ⟨sbs, hsbs⟩ : ∃ sbs : List Nat, sbs = [w.heap.size + 1 + 1, w.heap.size + 1 + 1 + 1, w.heap.size + 1 + 1 + 1 + 1] ++ blockOf15 A n := ⟨_, rfl⟩
  have SB : ∀ k ∈ sbs, k < w4.heap.size ∧ k ≠ w.heap.size + 1 := by
    intro k hk
    rw [hsbs] at hk
    rcases List.mem_append.1 hk with h | h
    · simp only [List.mem_cons, List.not_mem_nil, or_false] at h
      omega
    · have := blockOf15_lt HI.out h
      omega
  have TELL := TL.out (w.heap.size + 1 + 1) (w.heap.size + 1 + 1 + 1) (w.heap.size + 1 + 1 + 1 + 1) w4 Q1.cell Q2.cell Q3.cell (HI.out.below b4) sbs (by rw [hsbs]; simp) (by rw [hsbs]; simp) (by rw [hsbs]; simp) (fun b off e hn0 => by rw [hsbs]; exact List.mem_append.2 (.inr (blockOf15_mem e hn0))) (fun k hk => (SB k hk).1)
  have ST := Lib.hid (show SplAt w (w.heap.size + 1) [] w4 from ⟨_, Q0, ownsL15.nil _ _, b4, by omega⟩)
  have hsm : ∀ k ∈ sbs, ¬ mineS (w.heap.size + 1) w4 k := fun k hk hm => by
    rcases hm with e | ⟨u, q1, q2⟩
    · exact (SB k hk).2 e
    · obtain rfl := boxed_uniq15 Q0 q1
      cases q2
  have hz0 : w.heap.size + 1 ≤ w4.heap.size := by omega
  rw [HL.out] at TELL LL
  clear HW4 TL
  refine wpIn_tells (k := 3) (u8 := 5) (w := w4) (w0 := w4) (gf := 30) (lb := #[.pointer (some ⟨w.heap.size + 1 + 1, 0, none⟩), .pointer (some ⟨w.heap.size + 1 + 1 + 1, 0, none⟩), .pointer (some ⟨w.heap.size + 1 + 1 + 1 + 1, 0, none⟩)]) rfl (enters_of Try.func30 (by kernel_rfl) rfl) TELL (Below.refl _ _) (fun k hk => (SB k hk).1) (fun _ => rfl)
    (SplAt w (w.heap.size + 1)) (mineS (w.heap.size + 1)) (SplAt.own (by omega)) mineS_ok hsm ST.out
    (fun pre x a' X => SplAt w (w.heap.size + 1) pre X ∧ ∃ Bp, ¬ mineS (w.heap.size + 1) X Bp ∧ X.heap[Bp]? = some (.cells #[.int .i64 (x.1 : Nat), .int .i64 (x.2 : Nat)] 34 (0, 0)) ∧ a' = { tmps := #[.slice A n c, .int .i64 gap, .int .i64 room, .bool true, undef, undef, undef, undef, .slice none 0 0, .int .i64 0, .pointer (some ⟨w.heap.size + 1, 0, none⟩), .pointer (some ⟨Bp, 0, none⟩), .slice A n c, .int .i64 (n : Nat), .bool false, .bool false, .int .i64 gap, .bool false, .bool false, .bool false, .int .i64 room, .bool false, .bool false, .slice A n c, .bool true, .bool false, .bool false, .int .i64 gap, .int .i64 room, .slice (some ⟨w.heap.size, 0, none⟩) 2 2, .bool true, .bool false, .bool false, .bool true, .bool false, .bool false, .int .i64 room, .bool false, .bool false, .slice A n c, .int .i64 gap, .int .i64 room, .func (.func 30) #[] #[.pointer (some ⟨w.heap.size + 1 + 1, 0, none⟩), .pointer (some ⟨w.heap.size + 1 + 1 + 1, 0, none⟩), .pointer (some ⟨w.heap.size + 1 + 1 + 1 + 1, 0, none⟩)], .agg #[.int .i64 (x.1 : Nat), .int .i64 (x.2 : Nat)], undef, undef, undef, undef, undef], defers := [] })
    (fun pre x a' => ?ax) ?assign ?body ?done
  case ax =>
    rintro _ X Y row ⟨h0, Bp, h1, h2, h3⟩ hg hr
    have he : Y.heap[Bp]? = X.heap[Bp]? := hg.block Bp (Array.getElem?_eq_some_iff.1 h2).1 (fun e => by
      obtain ⟨o, q1, q2⟩ := (hr Bp e.symm).2
      rw [h2] at q1
      cases q1
      cases q2)
    exact ⟨SplAt.own (B := w4.heap.size) (by omega) _ _ _ _ h0 hg hr, Bp, fun hm => h1 (mineS_ok.stay h0 hg hr (Array.getElem?_eq_some_iff.1 h2).1 he hm), he.trans h2, h3⟩
  case assign =>
    intro l' pre x X K hi hpre hK
    have hi2 := (SplAt.own (w := w) (tb := w.heap.size + 1) (Nat.le_refl _)).alloc (.cells #[.int .i64 (x.1 : Nat), .int .i64 (x.2 : Nat)] 34) hi
    have KK := hK _ _ (keeps_new15 (mineS_ok (H := w4.heap.size)) hi (grown_alloc15 X (.cells #[.int .i64 (x.1 : Nat), .int .i64 (x.2 : Nat)] 34))) hi2 ⟨hi2, X.heap.size, (mineS_ok (H := 0)).fresh _ _ _ hi (by decide), World.alloc_heap_new X _, rfl⟩
    dsimp only [encLn15]
    gi_wp2
    simpa using KK
  case body =>
    rintro l' pre ⟨p, q⟩ a' X hl - ⟨hi, Bp, hnm, hp, rfl⟩ hpre
    have DL : pre.length ≤ 8192 := by
      have h1 := hpre.length_le
      rw [List.length_append] at h1
      have h2 := LL.out
      have h3 := HN.out
      omega
    obtain ⟨v, hv, ho, hb, ht⟩ := hi
    have c0 : X.cell? ⟨Bp, 0, none⟩ = some (.int .i64 (p : Nat)) := by simp [World.cell?, hp]
    have c1 : X.cell? ⟨Bp, 1, none⟩ = some (.int .i64 (q : Nat)) := by simp [World.cell?, hp]
    have cv := hv.cell
    have hXs : w.heap.size ≤ X.heap.size := hb.size
    obtain ⟨Av, cc, ev, -, -, -⟩ := own_form ho
    have DC : (castL pre).length ≤ 8192 := by rw [castL_len]; exact DL
    have V1 := Lib.hid hv
    have O1 := Lib.hid ho
    have O2 := Lib.hid (show ownsL15 (X.alloc (.cells #[.int .i64 (p : Nat), .int .i64 (q : Nat)] 34)) w.heap.size v (castL pre) from ho.keep ((Below.refl _ X).alloc (Nat.le_refl _) _))
    have HB := Lib.hid hb
    have HI2 := Lib.hid (show SplAt w (w.heap.size + 1) pre X from ⟨v, hv, ho, hb, ht⟩)
    clear hpre hv ho hb hnm hp hsm TELL hsbs ev
    gi_wp2_with (gi_at_builtin; (with_reducible change wpListIn _ _ _ _ _ (Oper.mk (some 47) _ _ _ _ _ :: _) _ _); refine wpListIn_append_ln15 rfl _ _ rfl w.heap.size v (castL pre) rfl O2.out ((p : Int), (q : Int)) ⟨X.heap.size, 0, none⟩ rfl (fun j u h => ln_cells15 ((p : Int), (q : Int)) j u h) (by omega) (by rw [World.size_alloc]; omega) ?_; intro g cap w5 hown' hgrow hlies hlt; obtain ⟨hv1, hv2, hr2, hk2, hb2⟩ := Boxed.appended V1.out (by decide) O1.out hXs (by omega) hown' hgrow; have CK := Lib.hid (spl_keeps (H := w4.heap.size) (sbs := sbs) V1.out hgrow hlies hv2); have hc1 := hv1.cell; have hf1 := hv1.frozen; have V2 := Lib.hid hv2; have R2 := Lib.hid hr2; have B2 := Lib.hid hb2; clear hv1 hv2 hr2 hk2 hb2 hown' hgrow hlies hlt)
    exact ⟨CK.out, _, V2.out, by rw [show castL (pre ++ [(p, q)]) = castL pre ++ [((p : Int), (q : Int))] by simp [castL]]; exact R2.out, HB.out.trans B2.out, boxed_lt15 V2.out⟩
  case done =>
    rintro D X hD ⟨v, hv, ho, hb, ht⟩ hK
    have hc := hv.cell
    obtain ⟨Av, cc, ev, -, -, -⟩ := own_form ho
    subst ev
    have DM : Hid (w.heap.size ≤ D) := Lib.hid (by omega)
    gi_wp2
    refine ⟨by simp, .inl ⟨_, _, rfl, run_takeDeferred hK, ?_⟩⟩
    exact ⟨_, results_tmp2 rfl _ _ _, _, rfl, ownsRow_putObj ho _ hK rfl, hb.trans (belowK_b (w := w) (Nat.le_refl _) X D _ _ DM.out hK rfl rfl)⟩
theorem split_main (A : Option Addr) (n c : Nat) (f : Nat → Int) (gap room : Int) (wrap : Bool) (w : World) (h : Ints w A n f) (hn : n ≤ 2048) (hc : n ≤ c ∧ c ≤ 9223372036854775807) (hg : 0 ≤ gap ∧ gap ≤ 1099511627776) (hr : -1 ≤ room ∧ room ≤ 1099511627776)
    (hf : ∀ k, k < n → -1099511627776 ≤ f k ∧ f k ≤ 1099511627776) (L : List (Nat × Nat)) (hL : linesA f gap (roomR room wrap) true n 0 = L) :
    Calls Try.prog 14 #[.slice A n c, .int .i64 gap, .int .i64 room, .bool wrap] w fun e w' => ∃ v, e = .returned (.tuple #[v, .int .i64 0]) ∧ ownsL15 w' w.heap.size v (castL L) ∧ Below w.heap.size w w' := by
  unfold roomR at hL
  cases wrap with
  | false => exact split_No A n c f gap room w h hn hc hg hr hf L (by rw [if_pos (.inl rfl)] at hL; exact hL)
  | true =>
    by_cases hq : room = -1
    · exact split_Free A n c f gap room w h hn hc hg hr hq hf L (by rw [if_pos (.inr hq)] at hL; exact hL)
    · exact split_Room A n c f gap room w h hn hc hg hr hq hf L (by rw [if_neg (by rintro (h | h); cases h; exact hq h)] at hL; exact hL)
end Go.Proofs.Ytkakencndopgbaa
