/-
  lines.filled: the function value that it hands back tells the lines, by a cursor of its own.
-/
import Derived.Test.YtpfeiiabplaghaaCursor10c
import Derived.Test.YtpfeiiabplaghaaTellsC
import Derived.RangeFuncLeaves
import Derived.Shelf.RegionOpen
import Derived.TacticsInMore
import Derived.LoopNIn
import Derived.LoopIn
import Derived.BigQuiet
namespace Go.Proofs.Ytpfeiiabplaghaa
open Go.RowKit Go.Shelf
attribute [local go_sem] Oper.semAt_some
theorem wide_fn10 (f : FuncId) : Fence.wide.fn f = True := rfl
attribute [local go_sem] wide_fn10

theorem lt_of_cell10 {W : World} {b o : Nat} {v : Value} (h : W.cell? ⟨b, o, none⟩ = some v) : b < W.heap.size := by
  rcases Nat.lt_or_ge b W.heap.size with h' | h'
  · exact h'
  · simp [World.cell?, Array.getElem?_eq_none h'] at h
def encL (y : Ln) : Array Value := #[.agg #[.int .i64 (y.1 : Nat), .int .i64 (y.2.1 : Nat), .int .i64 y.2.2]]
/-- the blocks that the function reads: its two captured variables, the items -/
def Reads (B1 B2 : Nat) (A : Option Addr) (l : List It) (k : Nat) : Prop := k = B1 ∨ k = B2 ∨ (l ≠ [] ∧ ∃ off, A = some ⟨k, off, none⟩)
/-- where the walk of it stands -/
structure FAt (X b B1 B2 : Nat) (A : Option Addr) (c : Nat) (l : List It) (x : Int) (J : List Ln → World → Prop) (d : List Ln) (i : Nat) (W : World) : Prop where
  cur : Cur W b A c l i
  c1 : W.cell? ⟨B1, 0, none⟩ = some (.slice A l.length c)
  c2 : W.cell? ⟨B2, 0, none⟩ = some (.int .i64 x)
  j : J d W
  n1 : B1 ≠ b
  n2 : B2 ≠ b
  lo : X ≤ b
theorem FAt.step {X b B1 B2 c i i' : Nat} {A : Option Addr} {l : List It} {x : Int} {J : List Ln → World → Prop} {d : List Ln} {W W' : World} (h : FAt X b B1 B2 A c l x J d i W) (hJ : CurFrom 56 X J)
    (hg : W.grownBy W' (some b)) (hc : Cur W' b A c l i') : FAt X b B1 B2 A c l x J d i' W' :=
  ⟨hc, (World.cell?_of_block (a := ⟨B1, 0, none⟩) (hg.block B1 (lt_of_cell10 h.c1) (fun e => h.n1 (by injection e)))).trans h.c1,
    (World.cell?_of_block (a := ⟨B2, 0, none⟩) (hg.block B2 (lt_of_cell10 h.c2) (fun e => h.n2 (by injection e)))).trans h.c2,
    hJ d W W' (some b) h.j hg (fun r e => by cases e; exact ⟨h.lo, _, h.cur.blk, .inr ⟨_, _, rfl⟩⟩), h.n1, h.n2, h.lo⟩
theorem FAt.drewN {X b B1 B2 c i : Nat} {A : Option Addr} {l : List It} {x : Int} {J : List Ln → World → Prop} {d : List Ln} {W : World} (h : FAt X b B1 B2 A c l x J d i W) (hJ : CurFrom 56 X J) (q : Nat) : FAt X b B1 B2 A c l x J d i (W.drewN q) :=
  h.step hJ (grown_drewN _ _ _) (h.cur.drewN q)
theorem FAt.next {X b B1 B2 c i : Nat} {A : Option Addr} {l : List It} {x : Int} {J : List Ln → World → Prop} {d d' : List Ln} {W W' : World} (h : FAt X b B1 B2 A c l x J d i W)
    (hj : J d' W') (hk : KeepC 56 (Reads B1 B2 A l) X W W') : FAt X b B1 B2 A c l x J d' i W' := by
  have e1 := hk.same B1 (lt_of_cell10 h.c1) (.inl (.inl rfl))
  have e2 := hk.same B2 (lt_of_cell10 h.c2) (.inl (.inr (.inl rfl)))
  have e3 := hk.same b h.cur.lt (.inr ⟨h.lo, _, h.cur.blk, .inr ⟨_, _, rfl⟩⟩)
  refine ⟨⟨e3.trans h.cur.blk, ?_, h.cur.ne, h.cur.le⟩, (World.cell?_of_block (w := W) e1).trans h.c1, (World.cell?_of_block (w := W) e2).trans h.c2, hj, h.n1, h.n2, h.lo⟩
  obtain ⟨A', c', e, hc, hq⟩ := h.cur.its
  injection e with e4 e5 e6
  subst e4 e6
  refine ⟨_, _, rfl, hc, fun hl => ?_⟩
  obtain ⟨b', off, h1, h2, h3⟩ := hq hl
  have hb := hk.same b' h2 (.inl (.inr (.inr ⟨hl, off, h1⟩)))
  refine ⟨b', off, h1, Nat.lt_of_lt_of_le h2 hk.size, fun j hj => ?_⟩
  rw [World.cell?_of_block (a := ⟨b', off + j * 2, none⟩) hb, World.cell?_of_block (a := ⟨b', off + j * 2 + 1, none⟩) hb]
  exact h3 j hj
/-- the place that the cursor's block tells -/
def placeOf (b : Nat) (W : World) : Nat := match W.cell? ⟨b, 1, none⟩ with | some (.int _ i) => i.toNat | _ => 0
theorem FAt.place {X b B1 B2 c i : Nat} {A : Option Addr} {l : List It} {x : Int} {J : List Ln → World → Prop} {d : List Ln} {W : World} (h : FAt X b B1 B2 A c l x J d i W) : placeOf b W = i := by
  unfold placeOf
  rw [h.cur.c1]
  simp

set_option maxHeartbeats 1000000 in
theorem filled_any (A : Option Addr) (n c : Nat) (x : Int) (w : World) :
    Calls Try.prog 26 #[.slice A n c, .int .i64 x] w fun e w' => e = .returned (.func (.func 29) #[] #[.pointer (some ⟨w.heap.size, 0, none⟩), .pointer (some ⟨w.heap.size + 1, 0, none⟩)]) ∧ w' = (w.alloc (.cells #[.slice A n c] 22)).alloc (.cells #[.int .i64 x] 3) := by
  go_enter Try.func26, Try.ntmps26
  go_wp2
  go_ret
  exact ⟨rfl, rfl⟩

set_option maxRecDepth 100000 in
set_option maxHeartbeats 8000000 in
theorem filled_tell (l : List It) (A : Option Addr) (c : Nat) (x : Int) (B1 B2 : Nat) (w : World) (h1 : w.cell? ⟨B1, 0, none⟩ = some (.slice A l.length c)) (h2 : w.cell? ⟨B2, 0, none⟩ = some (.int .i64 x)) (hI : ItIn w (.slice A l.length c) l)
    (hn : l.length ≤ 4096) (hg : Good l) (hw : Within l 1099511627776) :
    TellsC Try.prog 56 29 #[.pointer (some ⟨B1, 0, none⟩), .pointer (some ⟨B2, 0, none⟩)] encL (linesT l x) (Reads B1 B2 A l) w := by
  intro lp J Jx W hW hJ hJx hY h0
  have hl1 := lt_of_cell10 h1
  have hl2 := lt_of_cell10 h2
  have c1 := (hW.cell (p := ⟨B1, 0, none⟩) hl1).trans h1
  have c2 := (hW.cell (p := ⟨B2, 0, none⟩) hl2).trans h2
  have hz := hW.size
  have F0 : Hid (FAt W.heap.size W.heap.size B1 B2 A c l x J [] 0 (W.alloc (.cells #[.slice A l.length c, .int .i64 (0 : Nat), .int .i64 (pre l 0)] 56))) := Lib.hid (by
    have g := World.grownBy_alloc W (.cells #[.slice A l.length c, .int .i64 (0 : Nat), .int .i64 (pre l 0)] 56) (none : Option Nat)
    have hI2 : ItIn W (.slice A l.length c) l := hI.keep hW
    refine ⟨⟨heap_alloc_new W _, hI2.grown g (fun _ _ _ _ e => by cases e), fun hl b' off e => ?_, Nat.zero_le _⟩, ?_, ?_, hJ _ _ _ none h0 g (fun r e => by cases e), ?_, ?_, Nat.le_refl _⟩
    · have := hI2.block_lt hl e; omega
    · exact (World.cell?_alloc_lt _ _ _ (by show B1 < _; have : B1 < w.heap.size := hl1; omega)).trans c1
    · exact (World.cell?_alloc_lt _ _ _ (by show B2 < _; have : B2 < w.heap.size := hl2; omega)).trans c2
    · have : B1 < w.heap.size := hl1; omega
    · have : B2 < w.heap.size := hl2; omega)
  have HY := Lib.hid hY
  have HJ := Lib.hid hJ
  have KP := Lib.hid (fun V b i (h' : Cur V b A c l i) => pass_any _ 1 onBlank_ok h' hn hw (by omega) _ rfl)
  have KS := Lib.hid (fun V b i (h' : Cur V b A c l i) r hr => step_any _ 2 onEnd_ok h' hn hw (by omega) r hr _ rfl)
  have KL := Lib.hid (fun V b i (h' : Cur V b A c l i) => line_any h' hn hw x)
  obtain ⟨n, en⟩ : ∃ n, l.length = n := ⟨_, rfl⟩
  have EN := Lib.hid en
  have HG := Lib.hid hg
  rw [en] at c1 F0 hn
  rw [pre_zero, show ((0 : Nat) : Int) = 0 from rfl] at F0
  clear hY hJ hJx h0 h1 h2 hW hl1 hl2 hg hw en hI hz
  refine (callsIn_wide (n := 4)).1 ?_
  refine callsIn_of_wp Try.func29 rfl trivial ?_ rfl
  simp only [Try.ntmps29, List.size_toArray, List.length_cons, List.length_nil, Nat.reduceAdd, Nat.reduceSub, Array.replicate_succ, Array.replicate_zero, List.push_toArray, List.append_toArray, List.nil_append, List.cons_append]
  gi_wp2_with (gi_at_call 30; refine (callsIn_wide.2 (KP.out _ _ _ F0.out.cur)).mono ?_; rintro e w1 ⟨⟨v, rfl⟩, hc, hg⟩; have F1 := Lib.hid (F0.out.step HJ.out hg hc); clear hc hg)
  rw [passT_blank] at F1
  clear c1 c2 F0
  gi_loopw [] (fun wr => ∃ (a : Nat) (d : List Ln), Hid (FAt W.heap.size W.heap.size B1 B2 A c l x J d a wr) ∧ Hid (St l a) ∧ Hid (d ++ fillT l x a = linesT l x)) (fun wr => n - placeOf W.heap.size wr)
  case atStart => exact ⟨_, [], F1, Lib.hid (st_first l), Lib.hid rfl⟩
  case round =>
    obtain ⟨a, d, FA, HS, HE⟩ := hrel
    have ck := FA.out.cur.c1
    have cn := FA.out.c1
    rw [EN.out] at cn
    have cx := FA.out.c2
    have hal : a ≤ n := by have := FA.out.cur.le; have := EN.out; omega
    have PL := Lib.hid FA.out.place
    clear F1
    by_cases hlt : a < n
    · have hz : (a : Int) < n := by omega
      have E0 := Lib.hid (ends_T HG.out x HS.out.no (show a < l.length by have := EN.out; omega))
      have NF := Lib.hid (next_facts E0.out)
      have FC := Lib.hid (fill_cons HG.out x HS.out.no (show a < l.length by have := EN.out; omega))
      have PF : Hid (d ++ [lineT l x a] <+: linesT l x) := Lib.hid ⟨fillT l x (nextT l (toT l x a)), by rw [← HE.out, FC.out]; simp⟩
      have HE2 : Hid ((d ++ [lineT l x a]) ++ fillT l x (nextT l (toT l x a)) = linesT l x) := Lib.hid (by rw [← HE.out, FC.out]; simp)
      obtain ⟨p, hp⟩ : ∃ p, behind l (toT l x a) = p := ⟨_, rfl⟩
      obtain ⟨r, hr⟩ : ∃ r, decide (kd l p = 2) = r := ⟨_, rfl⟩
      have HP := Lib.hid hp
      have HR := Lib.hid hr
      have NX : Hid (behind l (if r = true then p + 1 else p) = nextT l (toT l x a)) := Lib.hid (by
        unfold nextT
        rw [hp]
        by_cases h : kd l p = 2
        · obtain rfl : r = true := by rw [← hr]; exact decide_eq_true h
          rw [if_pos h, if_pos rfl]
        · obtain rfl : r = false := by rw [← hr]; exact decide_eq_false h
          rw [if_neg h, if_neg (by decide)]
          have h3 := (behind_facts l (toT l x a)).2.2
          rw [hp] at h3
          exact behind_self h3)
      clear hp hr
      gi_wp2
      gi_quiet (fail)
      have FA1 := Lib.hid (FA.out.drewN HJ.out nq)
      have cx1 := FA1.out.c2
      clear ck cn cx
      generalize wr.drewN nq = wo at FA1 cx1 ⊢
      gi_wp2_with (gi_at_call 32; refine (callsIn_wide.2 (KL.out _ _ _ FA1.out.cur)).mono ?_; rintro e w2 ⟨rfl, hc, hg⟩; have FA2 := Lib.hid (FA1.out.step HJ.out hg hc); clear hc hg; obtain ⟨fn, tmps, assign, body, hy, hRR⟩ := HY.out d (lineT l x a) w2 (4 - 1) FA2.out.j PF.out; dsimp only [encL, lineT] at hy)
      refine hRR.mono ?_
      rintro e W3 (⟨rfl, hJ3, hk3⟩ | ⟨rfl, hJx3⟩)
      · have FA3 := Lib.hid (FA2.out.next hJ3 hk3)
        clear hy hRR hJ3 hk3 cx1 FA2 FA1
        gi_wp2_with (first
          | (gi_at_call 33; refine (callsIn_wide.2 (KS.out _ _ _ FA4.out.cur r HR.out)).mono ?_; rintro e w5 ⟨rfl, hc, hg⟩; have FA5 := Lib.hid (FA4.out.step HJ.out hg hc); clear hc hg)
          | (gi_at_call 30; refine (callsIn_wide.2 (KP.out _ _ _ FA5.out.cur)).mono ?_; rintro e w6 ⟨⟨v6, rfl⟩, hc, hg⟩; have FA6 := Lib.hid (FA5.out.step HJ.out hg hc); clear hc hg)
          | (gi_at_call 30; refine (callsIn_wide.2 (KP.out _ _ _ FA3.out.cur)).mono ?_; rintro e w4 ⟨⟨v4, rfl⟩, hc, hg⟩; have FA4 := Lib.hid (FA3.out.step HJ.out hg hc); rw [passT_blank, HP.out] at FA4; clear hc hg))
        rw [passT_blank, NX.out] at FA6
        have PL6 := Lib.hid FA6.out.place
        go_roundw
        case rel => exact ⟨_, _, FA6, Lib.hid NF.out.2.2.2.1, HE2⟩
        case measure => have h1 := PL.out; have h2 := PL6.out; have h3 := NF.out.1; have h4 := NF.out.2.2.1; have h5 := EN.out; omega
      · clear hy hRR
        gi_wp2
        refine bodyPost_ret (results_none rfl _ _ _) rfl ?_
        exact ⟨⟨_, rfl⟩, .inr ⟨_, PF.out, hJx3⟩⟩
    · obtain rfl : a = n := by omega
      have hz : ¬ (a : Int) < a := by omega
      gi_wp2
      gi_quiet (fail)
      have FA1 := Lib.hid (FA.out.drewN HJ.out nq)
      clear ck cn cx
      generalize wr.drewN nq = wo at FA1 ⊢
      gi_wp2
      go_end0
      refine ⟨⟨_, rfl⟩, .inl ?_⟩
      have e := HE.out
      rw [fill_end (by have := EN.out; omega), List.append_nil] at e
      rw [← e]
      exact FA1.out.j
end Go.Proofs.Ytpfeiiabplaghaa
