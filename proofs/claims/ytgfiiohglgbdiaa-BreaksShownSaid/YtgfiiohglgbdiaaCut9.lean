/-
  breaks.pieces, Cut, Shown: contracts of the landed calls.
-/
import Derived.Test.YtgfiiohglgbdiaaJoined9
import Derived.Test.YtgfiiohglgbdiaaSame9
namespace Go.Proofs.Ytgfiiohglgbdiaa
open Go.RowKit Go.Shelf
attribute [local go_sem] Oper.semAt_some
attribute [local go_sem] wide_fn

set_option maxRecDepth 100000 in
theorem wordsAndBlanks_any (s : ByteArray) (w : World) : Calls Try.prog 20 #[.string s] w fun e w' => e = .returned (.func (.func 27) #[] #[.pointer (some ⟨w.heap.size, 0, none⟩)]) ∧ w' = w.alloc (.cells #[.string s] 9) := by
  go_enter Try.func20, Try.ntmps20
  go_wp2
  go_ret
  exact ⟨rfl, rfl⟩
set_option maxRecDepth 100000 in
theorem wordsAndEnds_any (s : ByteArray) (w : World) : Calls Try.prog 22 #[.string s] w fun e w' => e = .returned (.func (.func 30) #[] #[.pointer (some ⟨w.heap.size, 0, none⟩)]) ∧ w' = w.alloc (.cells #[.string s] 9) := by
  go_enter Try.func22, Try.ntmps22
  go_wp2
  go_ret
  exact ⟨rfl, rfl⟩
set_option maxRecDepth 100000 in
theorem oneWord_any (s : ByteArray) (w : World) : Calls Try.prog 21 #[.string s] w fun e w' => e = .returned (.func (.func 29) #[] #[.pointer (some ⟨w.heap.size, 0, none⟩)]) ∧ w' = w.alloc (.cells #[.string s] 9) := by
  go_enter Try.func21, Try.ntmps21
  go_wp2
  go_ret
  exact ⟨rfl, rfl⟩
theorem grown_below9 {W X : World} (h : Below W.heap.size W X) : W.grownBy X none := ⟨h.os, h.tape, h.output, h.size, fun k hk _ => h.block k hk⟩
theorem joined_N (s : ByteArray) (W : World) (hs : s.size ≤ 8192) :
    Calls Try.prog 18 #[.func (.func 27) #[] #[.pointer (some ⟨W.heap.size, 0, none⟩)]] (W.alloc (.cells #[.string s] 9)) fun e w' => e = .returned (.string ⟨(squeeze s.data.toList).toArray⟩) ∧ Below W.heap.size W w' := by
  have hc : (W.alloc (.cells #[.string s] 9)).cell? ⟨W.heap.size, 0, none⟩ = some (.string s) := (Boxed.new W 9 (.string s)).cell
  have SZ : s.data.toList.length = s.size := by simp
  refine (joined_any _ _ _ _ _ (enters_of Try.func27 (by kernel_rfl) rfl) (wordsN_tell s W.heap.size _ hc hs) (fun k hk => ?_) (fun k hk => ?_) ?_).mono ?_
  · obtain rfl : k = W.heap.size := by simpa using hk
    rw [World.size_alloc]; omega
  · obtain rfl : k = W.heap.size := by simpa using hk
    rintro ⟨c, fz, e⟩
    rw [World.alloc_heap_new] at e
    cases e
  · rw [shown_N]
    have := squeeze_len s.data.toList
    omega
  · rintro e w' ⟨rfl, hb⟩
    rw [shown_N]
    exact ⟨rfl, ((Below.refl _ W).alloc (Nat.le_refl _) _).trans (hb.mono (by rw [World.size_alloc]; omega))⟩

set_option maxRecDepth 100000 in
set_option maxHeartbeats 4000000 in
theorem one_tell (s : ByteArray) (sb : Nat) (w : World) (h1 : w.cell? ⟨sb, 0, none⟩ = some (.string s)) (hs : s.size ≤ 8192) :
    Tells Try.prog 5 29 #[.pointer (some ⟨sb, 0, none⟩)] encP (cutS s.data.toList) [sb] w := by
  intro l J mine W hW hJ hM hsm hY h0
  have c1 : W.cell? ⟨sb, 0, none⟩ = some (.string s) := (hW.cell (p := ⟨sb, 0, none⟩) (lt_of_cell9 h1)).trans h1
  have HY := Lib.hid hY
  have HJ := Lib.hid hJ
  have H0 := Lib.hid h0
  clear hY hJ hM hsm h0 h1 hW
  refine (callsIn_wide (n := 6)).1 ?_
  refine callsIn_of_wp Try.func29 rfl trivial ?_ rfl
  simp only [Try.ntmps29, List.size_toArray, List.length_cons, List.length_nil, Nat.reduceAdd, Nat.reduceSub, Array.replicate_succ, Array.replicate_zero, List.push_toArray, List.append_toArray, List.nil_append, List.cons_append]
  by_cases he : s.data.toList = []
  · obtain rfl : s = ⟨#[]⟩ := by
      apply ByteArray.ext
      apply Array.ext'
      simpa using he
    gi_wp2
    go_end0
    exact ⟨⟨_, rfl⟩, H0.out⟩
  · have C : cutS s.data.toList = [(0, squeeze s.data.toList)] := by
      cases h : s.data.toList with
      | nil => exact absurd h he
      | cons b t => rfl
    have JN := Lib.hid (joined_N s W hs)
    have hne : s.toList.isEmpty = false := by
      rw [Lib.toList_data]
      cases h : s.data.toList with
      | nil => exact absurd h he
      | cons b t => rfl
    obtain ⟨q, hq⟩ : ∃ q, squeeze s.data.toList = q := ⟨_, rfl⟩
    rw [hq] at C JN
    have HC := Lib.hid C
    clear he C hq
    gi_wp2_with (first
      | (gi_at_call 20; refine (callsIn_wide.2 (wordsAndBlanks_any s W)).mono ?_; rintro e w' ⟨rfl, rfl⟩)
      | (gi_at_call 18; (with_reducible refine (callsIn_wide.2 JN.out).mono ?_); rintro e X1 ⟨rfl, hX⟩; clear JN; have J1 := HJ.out [] W X1 none H0.out (grown_below9 hX) (fun r e => by cases e); obtain ⟨fn, tmps, assign, body, hy, hRR⟩ := HY.out [] (0, q) X1 (6 - 1) J1 ⟨[], by rw [HC.out]; rfl⟩; replace hy : (Instr.yield l #[.agg #[.int .u8 0, .string ⟨q.toArray⟩]]).run Try.prog X1 = .ok (.round l fn tmps assign body) X1 := hy))
    refine hRR.mono ?_
    rintro e W3 ⟨rfl, hj3, hk3⟩
    clear hy hRR
    gi_wp2
    go_end0
    exact ⟨⟨_, rfl⟩, by rw [HC.out]; exact hj3⟩

theorem none_tell (w : World) : Tells Try.prog 5 23 #[] encP [] [] w := by
  intro l J mine W _ _ _ _ _ h0
  refine (callsIn_wide (n := 6)).1 ?_
  refine callsIn_of_wp Try.func23 rfl trivial ?_ rfl
  simp only [Try.ntmps23, List.size_toArray, List.length_cons, List.length_nil, Nat.reduceAdd, Nat.reduceSub, Array.replicate_succ, Array.replicate_zero, List.push_toArray, List.append_toArray, List.nil_append, List.cons_append]
  gi_wp2
  go_end0
  exact ⟨⟨_, rfl⟩, h0⟩
/-- what breaks.pieces hands back -/
structure PiecesFn (s : ByteArray) (ws : Int) (w w' : World) (gf : Nat) (lb : Array Value) (sbs : List Nat) : Prop where
  tell : Tells Try.prog 5 gf lb encP (cutP ws s.data.toList) sbs w'
  enters : ∀ args w, (callFunc gf args).run Try.prog w = .ok (.enter gf args) w
  sbs : ∀ k ∈ sbs, w.heap.size ≤ k ∧ k < w'.heap.size ∧ ¬ ∃ c fz, w'.heap[k]? = some (.cells c 5 fz)
  below : Below w.heap.size w w'
theorem sb_fact (w : World) (s : ByteArray) : ∀ k ∈ [w.heap.size], w.heap.size ≤ k ∧ k < (w.alloc (.cells #[.string s] 9)).heap.size ∧ ¬ ∃ c fz, (w.alloc (.cells #[.string s] 9)).heap[k]? = some (.cells c 5 fz) := fun k hk => by
  obtain rfl : k = w.heap.size := by simpa using hk
  refine ⟨Nat.le_refl _, by rw [World.size_alloc]; omega, ?_⟩
  rintro ⟨c, fz, e⟩
  rw [World.alloc_heap_new] at e
  cases e
set_option maxRecDepth 100000 in
set_option maxHeartbeats 4000000 in
theorem pieces_any (s : ByteArray) (ws : Int) (w : World) (hs : s.size ≤ 8192) : Calls Try.prog 16 #[.string s, .int .u8 ws] w fun e w' => ∃ gf lb sbs, e = .returned (.func (.func gf) #[] lb) ∧ PiecesFn s ws w w' gf lb sbs := by
  have hc : (w.alloc (.cells #[.string s] 9)).cell? ⟨w.heap.size, 0, none⟩ = some (.string s) := (Boxed.new w 9 (.string s)).cell
  have BL : Below w.heap.size w (w.alloc (.cells #[.string s] 9)) := (Below.refl _ w).alloc (Nat.le_refl _) _
  by_cases h0 : ws = 0
  · subst h0
    have P := Lib.hid (show PiecesFn s 0 w (w.alloc (.cells #[.string s] 9)) 27 #[.pointer (some ⟨w.heap.size, 0, none⟩)] [w.heap.size] from
      ⟨wordsN_tell s _ _ hc hs, enters_of Try.func27 (by kernel_rfl) rfl, sb_fact w s, BL⟩)
    clear hc BL
    go_enter Try.func16, Try.ntmps16
    go_wp2_with (go_at_call 20; refine (wordsAndBlanks_any s w).mono ?_; rintro e w' ⟨rfl, rfl⟩)
    go_ret
    exact ⟨_, _, _, rfl, P.out⟩
  · by_cases h1 : ws = 1
    · subst h1
      have P := Lib.hid (show PiecesFn s 1 w (w.alloc (.cells #[.string s] 9)) 29 #[.pointer (some ⟨w.heap.size, 0, none⟩)] [w.heap.size] from
        ⟨one_tell s _ _ hc hs, enters_of Try.func29 (by kernel_rfl) rfl, sb_fact w s, BL⟩)
      clear hc BL
      go_enter Try.func16, Try.ntmps16
      go_wp2_with (go_at_call 21; refine (oneWord_any s w).mono ?_; rintro e w' ⟨rfl, rfl⟩)
      go_ret
      exact ⟨_, _, _, rfl, P.out⟩
    · by_cases h2 : ws = 2
      · subst h2
        have P := Lib.hid (show PiecesFn s 2 w (w.alloc (.cells #[.string s] 9)) 30 #[.pointer (some ⟨w.heap.size, 0, none⟩)] [w.heap.size] from
          ⟨wordsK_tell s _ _ hc hs, enters_of Try.func30 (by kernel_rfl) rfl, sb_fact w s, BL⟩)
        clear hc BL
        go_enter Try.func16, Try.ntmps16
        go_wp2_with (go_at_call 22; refine (wordsAndEnds_any s w).mono ?_; rintro e w' ⟨rfl, rfl⟩)
        go_ret
        exact ⟨_, _, _, rfl, P.out⟩
      · have P := Lib.hid (show PiecesFn s ws w w 23 #[] [] from
          ⟨by rw [show cutP ws s.data.toList = [] by simp [cutP, h0, h1, h2]]; exact none_tell w, enters_of Try.func23 (by kernel_rfl) rfl, (fun k hk => by cases hk), Below.refl _ _⟩)
        have e0 : ((ws : Int) == (0 : Int)) = false := by simpa using h0
        have e1 : ((ws : Int) == (1 : Int)) = false := by simpa using h1
        have e2 : ((ws : Int) == (2 : Int)) = false := by simpa using h2
        clear hc BL h0 h1 h2
        go_enter Try.func16, Try.ntmps16
        go_wp2
        go_ret
        exact ⟨_, _, _, rfl, P.out⟩
set_option maxRecDepth 100000 in
set_option maxHeartbeats 4000000 in
theorem shown_ok : ShownOK 11 := by
  intro s ws w hs _
  have SL := shown_len ws s.data.toList
  have SZ : s.data.toList.length = s.size := by simp
  have K := Lib.hid (pieces_any s ws w hs)
  go_enter Try.func11, Try.ntmps11
  go_wp2_with (first
    | (go_at_call 16; (with_reducible refine K.out.mono ?_); rintro e w1 ⟨gf, lb, sbs, rfl, P⟩; clear K; have B := Lib.hid P.below; have J := Lib.hid (joined_any gf lb _ sbs w1 P.enters P.tell (fun k hk => (P.sbs k hk).2.1) (fun k hk => (P.sbs k hk).2.2) (by unfold shownP at SL; omega)); clear P)
    | (go_at_call 18; (with_reducible refine J.out.mono ?_); rintro e w2 ⟨rfl, hb⟩; clear J))
  go_ret
  exact ⟨rfl, B.out.trans (hb.mono B.out.size)⟩
end Go.Proofs.Ytgfiiohglgbdiaa
