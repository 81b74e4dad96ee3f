/-
  The landed Of answers as the chapter says.
-/
import Derived.Test.YtdadlhkbngopaaaRefOf12
import Derived.Test.YtdadlhkbngopaaaOr12
namespace Go.Proofs.Ytdadlhkbngopaaa
open Go.RowKit

structure OfB (w W : World) (X : Array Value) : Prop where
  below : Below w.heap.size w W
  box : Box27 W w.heap.size X
  res : AskAt W (w.heap.size + 1) zeroA
theorem OfB.of {w W W' : World} {X : Array Value} (h : OfB w W X) (hb : Below W.heap.size W W') : OfB w W' X :=
  ⟨h.below.trans (hb.mono h.below.size), h.box.below hb, h.res.keep hb⟩
theorem ofb_end {w W : World} {X : Array Value} (h : OfB w W X) (is : Bool) (width least most left right : Int) (al ar : Bool) (edges : Int) :
    (((((((((W.setCell ⟨w.heap.size + 1, 0, none⟩ (.bool is)).setCell ⟨w.heap.size + 1, 1, none⟩ (.int .i64 width)).setCell ⟨w.heap.size + 1, 2, none⟩ (.int .i64 least)).setCell ⟨w.heap.size + 1, 3, none⟩ (.int .i64 most)).setCell ⟨w.heap.size + 1, 4, none⟩ (.int .i64 left)).setCell ⟨w.heap.size + 1, 5, none⟩ (.int .i64 right)).setCell ⟨w.heap.size + 1, 6, none⟩ (.bool al)).setCell ⟨w.heap.size + 1, 7, none⟩ (.bool ar)).setCell ⟨w.heap.size + 1, 8, none⟩ (.int .i64 edges)).heap[w.heap.size + 1]? = some (.cells #[.bool is, .int .i64 width, .int .i64 least, .int .i64 most, .int .i64 left, .int .i64 right, .bool al, .bool ar, .int .i64 edges] 29) ∧
    Below w.heap.size w (((((((((W.setCell ⟨w.heap.size + 1, 0, none⟩ (.bool is)).setCell ⟨w.heap.size + 1, 1, none⟩ (.int .i64 width)).setCell ⟨w.heap.size + 1, 2, none⟩ (.int .i64 least)).setCell ⟨w.heap.size + 1, 3, none⟩ (.int .i64 most)).setCell ⟨w.heap.size + 1, 4, none⟩ (.int .i64 left)).setCell ⟨w.heap.size + 1, 5, none⟩ (.int .i64 right)).setCell ⟨w.heap.size + 1, 6, none⟩ (.bool al)).setCell ⟨w.heap.size + 1, 7, none⟩ (.bool ar)).setCell ⟨w.heap.size + 1, 8, none⟩ (.int .i64 edges)) :=
  ⟨h.res.whole is width least most left right al ar edges, ((((((((h.below.setCell (by show w.heap.size ≤ w.heap.size + 1; omega) _).setCell (by show w.heap.size ≤ w.heap.size + 1; omega) _).setCell (by show w.heap.size ≤ w.heap.size + 1; omega) _).setCell (by show w.heap.size ≤ w.heap.size + 1; omega) _).setCell (by show w.heap.size ≤ w.heap.size + 1; omega) _).setCell (by show w.heap.size ≤ w.heap.size + 1; omega) _).setCell (by show w.heap.size ≤ w.heap.size + 1; omega) _).setCell (by show w.heap.size ≤ w.heap.size + 1; omega) _).setCell (by show w.heap.size ≤ w.heap.size + 1; omega) _⟩
/-- the first error of five -/
def or5 (a b c d e : Int) : Int := if a ≠ 0 then a else if b ≠ 0 then b else if c ≠ 0 then c else if d ≠ 0 then d else if e ≠ 0 then e else 0
theorem or5_or (a b c d e : Int) : orI (pickI [a, b, c, d, e]) 5 0 = or5 a b c d e := rfl
theorem of_told (s : RS) (x : Int) : ofA s x = (if or5 (edgesR s).2.2 (widthR s x).2.2 (widthsR s x).2.2 (resolveR (s.margin 3) x).2.2 (resolveR (s.margin 1) x).2.2 ≠ 0 then (zeroA, or5 (edgesR s).2.2 (widthR s x).2.2 (widthsR s x).2.2 (resolveR (s.margin 3) x).2.2 (resolveR (s.margin 1) x).2.2)
    else (⟨(widthR s x).2.1, (widthR s x).1, (widthsR s x).1, (widthsR s x).2.1, (resolveR (s.margin 3) x).1, (resolveR (s.margin 1) x).1, !(resolveR (s.margin 3) x).2.1, !(resolveR (s.margin 1) x).2.1, (edgesR s).1⟩, 0)) := by
  unfold ofA
  by_cases hm : mayB s = true
  · rw [if_pos hm]
    have e0 : edgesR s = (acrossV s, upV s, 0) := by unfold edgesR; rw [if_pos hm]
    rw [e0]
    dsimp only
    unfold or5
    rw [if_neg (show ¬ ((0 : Int) ≠ 0) from fun c => c rfl)]
    by_cases h1 : (widthR s x).2.2 ≠ 0
    · rw [if_pos h1, if_pos h1, if_pos h1]
    · rw [if_neg h1, if_neg h1]
      by_cases h2 : (widthsR s x).2.2 ≠ 0
      · rw [if_pos h2, if_pos h2, if_pos h2]
      · rw [if_neg h2, if_neg h2]
        by_cases h3 : (resolveR (s.margin 3) x).2.2 ≠ 0
        · rw [if_pos h3, if_pos h3, if_pos h3]
        · rw [if_neg h3, if_neg h3]
          by_cases h4 : (resolveR (s.margin 1) x).2.2 ≠ 0
          · rw [if_pos h4, if_pos h4, if_pos h4]
          · rw [if_neg h4, if_neg h4, if_neg (show ¬ ((0 : Int) ≠ 0) from fun c => c rfl)]
  · rw [if_neg hm]
    have e0 : edgesR s = (0, 0, 60) := by unfold edgesR; rw [if_neg hm]
    rw [e0]
    dsimp only
    have : or5 60 (widthR s x).2.2 (widthsR s x).2.2 (resolveR (s.margin 3) x).2.2 (resolveR (s.margin 1) x).2.2 = 60 := by unfold or5; rw [if_pos (by decide)]
    rw [this, if_pos (by decide)]
def Few (y : Int) : Prop := y = 0 ∨ y = 2 ∨ y = 10 ∨ y = 60
theorem resolve_few (l : RL) (x : Int) : Few (resolveR l x).2.2 := by
  unfold resolveR Few
  by_cases h1 : l.kind = 1
  · rw [if_pos h1]
    by_cases h2 : Fit l.n
    · rw [if_pos h2]; exact .inl rfl
    · rw [if_neg h2]; exact .inr (.inr (.inl rfl))
  · rw [if_neg h1]
    by_cases h2 : l.kind = 2
    · rw [if_pos h2]
      rcases partRes_err l.n x with h | ⟨-, h | h⟩
      · exact .inl h
      · exact .inr (.inl h)
      · exact .inr (.inr (.inl h))
    · rw [if_neg h2]; exact .inl rfl
theorem content_few (wh : Bool) (l : RL) (x ed : Int) : Few (contentR wh l x ed).2.2 := by
  unfold contentR
  split
  · exact .inl rfl
  · exact resolve_few l x
theorem limits_few (wh : Bool) (a b : RL) (x ed : Int) : Few (limitsR wh a b x ed).2.2 := by
  unfold limitsR
  split
  · exact content_few wh a x ed
  · split
    · exact content_few wh b x ed
    · exact .inl rfl
theorem of_errs (s : RS) (x : Int) : ∀ y ∈ [(edgesR s).2.2, (widthR s x).2.2, (widthsR s x).2.2, (resolveR ⟨(s.margin 3).kind, (s.margin 3).n⟩ x).2.2, (resolveR ⟨(s.margin 1).kind, (s.margin 1).n⟩ x).2.2], -9223372036854775808 ≤ y ∧ y ≤ 9223372036854775807 := fun y hy => by
  have h : Few y := by
    simp only [List.mem_cons, List.not_mem_nil, or_false] at hy
    rcases hy with rfl | rfl | rfl | rfl | rfl
    · unfold edgesR; split
      · exact .inl rfl
      · exact .inr (.inr (.inr rfl))
    · unfold widthR; split
      · exact content_few _ _ _ _
      · exact .inr (.inr (.inr rfl))
    · unfold widthsR; split
      · exact limits_few _ _ _ _ _
      · exact .inr (.inr (.inr rfl))
    · exact resolve_few _ _
    · exact resolve_few _ _
  unfold Few at h
  omega
set_option maxRecDepth 100000 in
set_option maxHeartbeats 3000000 in
theorem of_ok : OfOK 10 := by
  intro s x w hs hx
  have BX := Lib.hid (Box27.new w s.cells.toArray)
  have SZ : Hid ((Try.prog.info? 27).map (·.size) = some s.cells.toArray.size) := Lib.hid style_size
  have D := Lib.hid (fun W => edges_any s hs W _ rfl)
  have C1 := Lib.hid (fun W => width_any s hs x hx W _ rfl)
  have C2 := Lib.hid (fun W => widths_any s hs x hx W _ rfl)
  have C3 := Lib.hid (fun W => resolve_any (s.margin 3).kind (s.margin 3).n x (hs.margin 3 (by omega)) hx W _ rfl)
  have C4 := Lib.hid (fun W => resolve_any (s.margin 1).kind (s.margin 1).n x (hs.margin 1 (by omega)) hx W _ rfl)
  have OA := Lib.hid (of_told s x)
  have ER : Hid (∀ y ∈ [(edgesR s).2.2, (widthR s x).2.2, (widthsR s x).2.2, (resolveR ⟨(s.margin 3).kind, (s.margin 3).n⟩ x).2.2, (resolveR ⟨(s.margin 1).kind, (s.margin 1).n⟩ x).2.2], -9223372036854775808 ≤ y ∧ y ≤ 9223372036854775807) := Lib.hid (of_errs s x)
  obtain ⟨R, hR⟩ : ∃ R, ofA s x = R := ⟨_, rfl⟩
  rw [hR] at OA ⊢
  have x20 : Hid (s.cells.toArray[20]? = some (.int .u8 (s.margin 3).kind)) := Lib.hid rfl
  have x21 : Hid (s.cells.toArray[21]? = some (.int .i64 (s.margin 3).n)) := Lib.hid rfl
  have x16 : Hid (s.cells.toArray[16]? = some (.int .u8 (s.margin 1).kind)) := Lib.hid rfl
  have x17 : Hid (s.cells.toArray[17]? = some (.int .i64 (s.margin 1).n)) := Lib.hid rfl
  have g3 : s.margin 3 = ⟨(s.margin 3).kind, (s.margin 3).n⟩ := rfl
  have g1 : s.margin 1 = ⟨(s.margin 1).kind, (s.margin 1).n⟩ := rfl
  rw [g3, g1] at OA
  clear hR hs hx g3 g1
  generalize edgesR s = p0 at *
  generalize widthR s x = p1 at *
  generalize widthsR s x = p2 at *
  generalize resolveR ⟨(s.margin 3).kind, (s.margin 3).n⟩ x = p3 at *
  generalize resolveR ⟨(s.margin 1).kind, (s.margin 1).n⟩ x = p4 at *
  generalize s.cells.toArray = X at *
  generalize (s.margin 3).kind = k3 at *
  generalize (s.margin 3).n = n3 at *
  generalize (s.margin 1).kind = k1 at *
  generalize (s.margin 1).n = n1 at *
  obtain ⟨ac, up, e0⟩ := p0
  obtain ⟨v1, i1, e1⟩ := p1
  obtain ⟨v2, m2, e2⟩ := p2
  obtain ⟨v3, i3, e3⟩ := p3
  obtain ⟨v4, i4, e4⟩ := p4
  dsimp only at D C1 C2 C3 C4 OA ER
  obtain ⟨a, er⟩ := R
  dsimp only
  obtain ⟨o, ho⟩ : ∃ o, or5 e0 e1 e2 e3 e4 = o := ⟨_, rfl⟩
  rw [ho] at OA
  have HO := Lib.hid ho
  clear ho
  go_enter Try.func10, Try.ntmps10
  go_upto_region 1 with fail
  have O1 : Hid (OfB w ((w.alloc (.cells X 27)).alloc (.cells zeroA.cells.toArray 29)) X) := Lib.hid ⟨((Below.refl _ w).alloc (Nat.le_refl _) _).alloc (by rw [World.size_alloc]; omega) _, BX.out.alloc (.cells zeroA.cells.toArray 29), by
    have h := AskAt.new (w.alloc (.cells X 27)) zeroA
    rwa [World.size_alloc] at h⟩
  unfold RA.cells at O1
  dsimp only [zeroA] at O1
  generalize (w.alloc (.cells X 27)).alloc (.cells #[.bool false, .int .i64 0, .int .i64 0, .int .i64 0, .int .i64 0, .int .i64 0, .bool false, .bool false, .int .i64 0] 29) = w1 at O1 ⊢
  clear BX
  go_wp2_with (refine wpList_load_row (o := ⟨some 23, _, _, _, _, _⟩) rfl 27 _ rfl w.heap.size rfl _ X _ _ O1.out.box.2 Try.underlying27 rfl SZ.out ?_)
  refine (D.out _).mono ?_
  rintro e w2 ⟨rfl, hb⟩
  have O2 := Lib.hid (O1.out.of hb)
  clear hb O1 D
  go_wp2_with (refine wpList_load_row (o := ⟨some 29, _, _, _, _, _⟩) rfl 27 _ rfl w.heap.size rfl _ X _ _ O2.out.box.2 Try.underlying27 rfl SZ.out ?_)
  refine (C1.out _).mono ?_
  rintro e w3 ⟨rfl, hb⟩
  have O3 := Lib.hid (O2.out.of hb)
  clear hb O2 C1
  go_wp2_with (refine wpList_load_row (o := ⟨some 36, _, _, _, _, _⟩) rfl 27 _ rfl w.heap.size rfl _ X _ _ O3.out.box.2 Try.underlying27 rfl SZ.out ?_)
  refine (C2.out _).mono ?_
  rintro e w4 ⟨rfl, hb⟩
  have O4 := Lib.hid (O3.out.of hb)
  clear hb O3 C2
  have c20 := O4.out.box.cell x20.out
  have c21 := O4.out.box.cell x21.out
  go_upto_region 5 with (go_at_call 20; refine (C3.out _).mono ?_; rintro e w5 ⟨rfl, hb⟩; have O5 := Lib.hid (O4.out.of hb); clear hb)
  clear O4 C3 c20 c21
  have c16 := O5.out.box.cell x16.out
  have c17 := O5.out.box.cell x17.out
  go_upto_region 6 with (go_at_call 20; refine (C4.out _).mono ?_; rintro e w6 ⟨rfl, hb⟩; have O6 := Lib.hid (O5.out.of hb); clear hb)
  clear O5 C4 c16 c17
  have I5 := Lib.hid (picked_new w6 30 [e0, e1, e2, e3, e4] ER.out)
  have K5 := Lib.hid (or_any _ 5 5 _ _ I5.out (by omega) o ((or5_or e0 e1 e2 e3 e4).trans HO.out))
  have O7 : Hid (OfB w (w6.alloc (.cells #[.int .i64 e0, .int .i64 e1, .int .i64 e2, .int .i64 e3, .int .i64 e4] 30)) X) := Lib.hid (O6.out.of ((Below.refl _ _).alloc (Nat.le_refl _) _))
  go_upto_region 7 with (go_at_call 21; refine K5.out.mono ?_; rintro e w7 ⟨rfl, hw'⟩; have O8 : Hid (OfB w w7 X) := Lib.hid (by rw [← hw']; exact O7.out); clear hw')
  clear I5 K5 O7 O6 ER HO
  obtain ⟨r0, r1, r2, r3, r4, r5, r6, r7, r8⟩ := O8.out.res.cells
  unfold zeroA at r0 r1 r2 r3 r4 r5 r6 r7 r8
  dsimp only at r0 r1 r2 r3 r4 r5 r6 r7 r8
  have f0 := O8.out.res.fro 0
  have f1 := O8.out.res.fro 1
  have f2 := O8.out.res.fro 2
  have f3 := O8.out.res.fro 3
  have f4 := O8.out.res.fro 4
  have f5 := O8.out.res.fro 5
  have f6 := O8.out.res.fro 6
  have f7 := O8.out.res.fro 7
  have f8 := O8.out.res.fro 8
  by_cases h1 : o ≠ 0
  · have _ := OA
    have EQ : Hid (a = zeroA ∧ er = o) := Lib.hid (by
      have h := OA.out
      rw [if_pos h1] at h
      exact Prod.mk.inj h)
    have n1 : (o == 0) = false := by simp [h1]
    have n2 : (o != 0) = true := by simp [h1]
    have FE := Lib.hid (ofb_end O8.out false 0 0 0 0 0 false false 0)
    clear OA h1
    go_wp2_with fail
    refine bodyPost_ret (results_row_tmp12 rfl _ _ (w.heap.size + 1) _ _ _ _ rfl FE.out.1 Try.underlying29 rfl (by kernel_rfl)) rfl ?_
    obtain ⟨rfl, rfl⟩ := EQ.out
    exact ⟨rfl, FE.out.2⟩
  · have OA := Lib.hid (by have h := OA.out; rwa [if_neg h1] at h)
    obtain rfl : o = 0 := by omega
    have EQ := Lib.hid (Prod.mk.inj OA.out)
    have FE := Lib.hid (ofb_end O8.out i1 v1 v2 m2 v3 v4 (!i3) (!i4) ac)
    clear OA h1
    go_wp2_with fail
    refine bodyPost_ret (results_row_tmp12 rfl _ _ (w.heap.size + 1) _ _ _ _ rfl FE.out.1 Try.underlying29 rfl (by kernel_rfl)) rfl ?_
    obtain ⟨rfl, rfl⟩ := EQ.out
    exact ⟨rfl, FE.out.2⟩
end Go.Proofs.Ytdadlhkbngopaaa
