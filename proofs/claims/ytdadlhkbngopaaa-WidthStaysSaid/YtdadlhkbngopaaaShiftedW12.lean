/-
  The law WidthShifted: of any Solve that answers as is asked.
-/
import Derived.Test.YtdadlhkbngopaaaAskAt12
import Derived.Deep.LoopGhost
import Derived.Deep.Cut
import Derived.Deep.RegionHeld3
namespace Go.Proofs.Ytdadlhkbngopaaa
open Go.RowKit

/-- numbers that are small -/
structure Small12 (x : Int) (a : RA) (z : Int) : Prop where
  x : 0 ≤ x ∧ x ≤ 1073741824
  width : 0 ≤ a.width ∧ a.width ≤ 1073741824
  least : 0 ≤ a.least ∧ a.least ≤ 1073741824
  most : 0 ≤ a.most ∧ a.most ≤ 1073741824
  edges : 0 ≤ a.edges ∧ a.edges ≤ 1073741824
  z : 0 ≤ z ∧ z ≤ 1073741824
  left : -1073741824 ≤ a.left ∧ a.left ≤ 1073741824
  right : -1073741824 ≤ a.right ∧ a.right ≤ 1073741824
/-- small numbers, up to twice as great, are solved -/
theorem small_solve {x : Int} {a : RA} (hx : 0 ≤ x ∧ x ≤ 2147483648) (hw : 0 ≤ a.width ∧ a.width ≤ 1073741824) (hl : 0 ≤ a.least ∧ a.least ≤ 1073741824) (hm : 0 ≤ a.most ∧ a.most ≤ 1073741824) (he : 0 ≤ a.edges ∧ a.edges ≤ 2147483648) (h1 : -1073741824 ≤ a.left ∧ a.left ≤ 1073741824) (h2 : -1073741824 ≤ a.right ∧ a.right ≤ 1073741824) :
    solveA x a = (leftA x a, wideA x a, rightA x a, 0) ∧ (-17179869184 ≤ rightA x a ∧ rightA x a ≤ 17179869184) := by
  have G : Good12 x a := ⟨by omega, by omega, by omega, by omega, by omega, by omega, fun _ => by omega⟩
  have l0 : -1073741824 ≤ left0 a ∧ left0 a ≤ 1073741824 := by unfold left0; split <;> omega
  have r0 : -1073741824 ≤ right0 a ∧ right0 a ≤ 1073741824 := by unfold right0; split <;> omega
  have w1 : 0 ≤ wideA x a ∧ wideA x a ≤ 1073741824 := by unfold wideA clampV; split <;> omega
  have fr : -8589934592 ≤ freeA x a ∧ freeA x a ≤ 8589934592 := by unfold freeA; omega
  have la : -8589934592 ≤ leftA x a ∧ leftA x a ≤ 8589934592 := by
    unfold leftA
    repeat' split
    all_goals omega
  have ra : -17179869184 ≤ rightA x a ∧ rightA x a ≤ 17179869184 := by
    unfold rightA
    repeat' split
    all_goals omega
  exact ⟨solve_good G ⟨by unfold Fit; omega, by unfold Fit; omega, by unfold Fit; omega⟩, ra⟩
theorem shift_same (x z : Int) (is : Bool) (width least most left right : Int) (al ar : Bool) (edges : Int) : wideA (x + z) (⟨is, width, least, most, left, right, al, ar, edges + z⟩ : RA) = wideA x (⟨is, width, least, most, left, right, al, ar, edges⟩ : RA) ∧ leftA (x + z) (⟨is, width, least, most, left, right, al, ar, edges + z⟩ : RA) = leftA x (⟨is, width, least, most, left, right, al, ar, edges⟩ : RA) ∧ rightA (x + z) (⟨is, width, least, most, left, right, al, ar, edges + z⟩ : RA) = rightA x (⟨is, width, least, most, left, right, al, ar, edges⟩ : RA) := by
  have e1 : left0 (⟨is, width, least, most, left, right, al, ar, edges + z⟩ : RA) = left0 (⟨is, width, least, most, left, right, al, ar, edges⟩ : RA) := rfl
  have e2 : right0 (⟨is, width, least, most, left, right, al, ar, edges + z⟩ : RA) = right0 (⟨is, width, least, most, left, right, al, ar, edges⟩ : RA) := rfl
  have w0 : wide0 (x + z) (⟨is, width, least, most, left, right, al, ar, edges + z⟩ : RA) = wide0 x (⟨is, width, least, most, left, right, al, ar, edges⟩ : RA) := by
    unfold wide0
    rw [e1, e2]
    dsimp only
    split
    · rfl
    · omega
  have wa : wideA (x + z) (⟨is, width, least, most, left, right, al, ar, edges + z⟩ : RA) = wideA x (⟨is, width, least, most, left, right, al, ar, edges⟩ : RA) := by
    unfold wideA
    rw [w0]
  have fr : freeA (x + z) (⟨is, width, least, most, left, right, al, ar, edges + z⟩ : RA) = freeA x (⟨is, width, least, most, left, right, al, ar, edges⟩ : RA) := by
    unfold freeA
    rw [wa, e1, e2]
    dsimp only
    omega
  refine ⟨wa, ?_, ?_⟩
  · unfold leftA
    rw [fr, e1]
  · unfold rightA
    rw [fr, e2]
theorem shift_more (x z : Int) (width least most left right edges : Int) : wideA (x + z) (⟨true, width, least, most, left, right, false, false, edges⟩ : RA) = wideA x (⟨true, width, least, most, left, right, false, false, edges⟩ : RA) ∧ leftA (x + z) (⟨true, width, least, most, left, right, false, false, edges⟩ : RA) = leftA x (⟨true, width, least, most, left, right, false, false, edges⟩ : RA) ∧ rightA (x + z) (⟨true, width, least, most, left, right, false, false, edges⟩ : RA) = rightA x (⟨true, width, least, most, left, right, false, false, edges⟩ : RA) + z := by
  have wa : wideA (x + z) (⟨true, width, least, most, left, right, false, false, edges⟩ : RA) = wideA x (⟨true, width, least, most, left, right, false, false, edges⟩ : RA) := rfl
  have la : ∀ y, leftA y (⟨true, width, least, most, left, right, false, false, edges⟩ : RA) = left := fun y => by
    unfold leftA
    rw [if_pos (.inr ⟨rfl, rfl⟩)]
    rfl
  have ra : ∀ y, rightA y (⟨true, width, least, most, left, right, false, false, edges⟩ : RA) = right + (y - left - edges - wideA y (⟨true, width, least, most, left, right, false, false, edges⟩ : RA) - right) := fun y => by
    unfold rightA
    rw [if_pos (.inr ⟨rfl, rfl⟩)]
    rfl
  refine ⟨wa, by rw [la, la], ?_⟩
  rw [ra, ra, wa]
  omega
set_option maxRecDepth 100000 in
set_option maxHeartbeats 8000000 in
theorem shifted12 (hS : SolveOK 12) (hA : AwakeOK12 16) (x : Int) (a : RA) (z : Int) (w : World) (hx : big x) (ha : a.ok) (hz : big z) :
    Calls Try.prog 8 #[.int .i64 x, askedV a, .int .i64 z] w fun e w' => e = .returned (.bool true) ∧ Below w.heap.size w w' := by
  have B0 : Hid (Below w.heap.size w (w.alloc (.cells a.cells.toArray 29))) := Lib.hid ((Below.refl _ w).alloc (Nat.le_refl _) _)
  have A0 := Lib.hid (AskAt.new w a)
  have KA := Lib.hid (fun W => hA W)
  obtain ⟨is, width, least, most, left, right, al, ar, edges⟩ := a
  have HO := Lib.hid ha
  have KS := Lib.hid (fun y (b : RA) (hy : big y) (hb : b.ok) l m r e (h : solveA y b = (l, m, r, e)) W => solve_lets hS hy hb h W)
  have I0 := Lib.hid (fun W => picked_new W 3 [x, width, least, most, edges, z] (by
    intro y hy
    simp only [List.mem_cons, List.not_mem_nil, or_false] at hy
    rcases hy with rfl | rfl | rfl | rfl | rfl | rfl
    · exact hx
    · exact ha.width
    · exact ha.least
    · exact ha.most
    · exact ha.edges
    · exact hz))
  clear hS hA ha hx hz
  unfold askedV at KS ⊢
  unfold RA.cells at B0 A0
  dsimp only at B0 A0 ⊢
  go_enter Try.func8, Try.ntmps8
  go_upto_region 1 with fail
  generalize w.alloc (.cells #[.bool is, .int .i64 width, .int .i64 least, .int .i64 most, .int .i64 left, .int .i64 right, .bool al, .bool ar, .int .i64 edges] 29) = w0 at B0 A0 ⊢
  go_upto_region 3 with (go_at_call 16; (with_reducible refine (KA.out _).mono ?_); rintro e w1 ⟨rfl, hb⟩; have B1 : Hid (Below w.heap.size w w1) := Lib.hid (B0.out.trans (hb.mono B0.out.size)); have Q1 : Hid (AskAt w1 w.heap.size (⟨is, width, least, most, left, right, al, ar, edges⟩ : RA)) := Lib.hid (AskAt.keep A0.out hb); clear hb)
  obtain ⟨y0, y1, y2, y3, y4, y5, y6, y7, y8⟩ := Q1.out.cells
  dsimp only at y0 y1 y2 y3 y4 y5 y6 y7 y8
  clear KA A0 B0
  go_upto_region 4 with fail
  have I1 := Lib.hid (I0.out w1)
  have B2 : Hid (Below w.heap.size w (w1.alloc (.cells #[.int .i64 x, .int .i64 width, .int .i64 least, .int .i64 most, .int .i64 edges, .int .i64 z] 3))) := Lib.hid (B1.out.alloc B1.out.size _)
  have Q2 : Hid (AskAt (w1.alloc (.cells #[.int .i64 x, .int .i64 width, .int .i64 least, .int .i64 most, .int .i64 edges, .int .i64 z] 3)) w.heap.size (⟨is, width, least, most, left, right, al, ar, edges⟩ : RA)) := Lib.hid (Q1.out.put _)
  have I2 : Hid (∀ k, k < 6 → (w1.alloc (.cells #[.int .i64 x, .int .i64 width, .int .i64 least, .int .i64 most, .int .i64 edges, .int .i64 z] 3)).cell? ⟨w1.heap.size, k, none⟩ = some (.int .i64 (pickI [x, width, least, most, edges, z] k))) := Lib.hid (fun k hk => by
    obtain ⟨b, off, e, -, h⟩ := I1.out.at_ (k := k) (by simpa using hk)
    rw [World.cell?_alloc_new]
    have := pickI_at [x, width, least, most, edges, z] k (by simpa using hk)
    simp only [List.getElem?_toArray]
    have e : ([x, width, least, most, edges, z].map (Value.int .i64))[k]? = some (.int .i64 (pickI [x, width, least, most, edges, z] k)) := by rw [List.getElem?_map, this]; rfl
    exact e)
  generalize w1.alloc (.cells #[.int .i64 x, .int .i64 width, .int .i64 least, .int .i64 most, .int .i64 edges, .int .i64 z] 3) = w2 at B2 Q2 I2 ⊢
  generalize w1.heap.size = g at I2 ⊢
  clear y0 y1 y2 y3 y4 y5 y6 y7 y8 I0 I1 B1 Q1
  go_wp2_with fail
  go_loopg [8] 6 (fun g1 vi wr => ∃ k : Nat, vi = .int .i64 k ∧ k ≤ 6 ∧ 6 - k ≤ g1 ∧ Hid (∀ j, j < k → 0 ≤ pickI [x, width, least, most, edges, z] j ∧ pickI [x, width, least, most, edges, z] j ≤ 1073741824) ∧ w2 = wr)
  case atStart => exact ⟨0, rfl, by omega, by omega, Lib.hid (fun j hj => absurd hj (by omega)), rfl⟩
  case round =>
    obtain ⟨k, rfl, hk, hg1, HK, rfl⟩ := hrel
    by_cases hlt : k < 6
    · have hz1 : (k : Int) < 6 := by omega
      have hz0 : (0 : Int) ≤ k := by omega
      have wi : IntKind.i64.wrap ((k : Int) + 1) = (k : Int) + 1 := IntWalk.i64_in _ (by omega)
      have c0 := I2.out k hlt
      have HK2 : Hid (0 ≤ pickI [x, width, least, most, edges, z] k → pickI [x, width, least, most, edges, z] k ≤ 1073741824 → ∀ j, j < k + 1 → 0 ≤ pickI [x, width, least, most, edges, z] j ∧ pickI [x, width, least, most, edges, z] j ≤ 1073741824) := Lib.hid (fun h1 h2 j hj => by
        by_cases e : j = k
        · rw [e]; exact ⟨h1, h2⟩
        · exact HK.out j (by omega))
      generalize pickI [x, width, least, most, edges, z] k = y at c0 HK2
      by_cases h1 : y < 0
      · clear HK2 HK
        go_wp2_with fail
        go_ret
        exact ⟨rfl, B2.out⟩
      · by_cases h2 : 1073741824 < y
        · clear HK2 HK
          go_wp2_with fail
          go_ret
          exact ⟨rfl, B2.out⟩
        · have HK3 := Lib.hid (HK2.out (by omega) (by omega))
          clear HK2 HK
          go_wp2_with fail
          go_roundg (6 - (k + 1))
          case measure => omega
          case rel => exact ⟨k + 1, by go_num, by omega, Nat.le_refl _, HK3, rfl⟩
    · obtain rfl : k = 6 := by omega
      have p0 := HK.out 0 (by omega)
      have p1 := HK.out 1 (by omega)
      have p2 := HK.out 2 (by omega)
      have p3 := HK.out 3 (by omega)
      have p4 := HK.out 4 (by omega)
      have p5 := HK.out 5 (by omega)
      have PP : Hid ((0 ≤ x ∧ x ≤ 1073741824) ∧ (0 ≤ width ∧ width ≤ 1073741824) ∧ (0 ≤ least ∧ least ≤ 1073741824) ∧ (0 ≤ most ∧ most ≤ 1073741824) ∧ (0 ≤ edges ∧ edges ≤ 1073741824) ∧ (0 ≤ z ∧ z ≤ 1073741824)) := Lib.hid ⟨p0, p1, p2, p3, p4, p5⟩
      clear p0 p1 p2 p3 p4 p5 HK I2
      obtain ⟨y0, y1, y2, y3, y4, y5, y6, y7, y8⟩ := Q2.out.cells
      dsimp only at y0 y1 y2 y3 y4 y5 y6 y7 y8
      by_cases h1 : left < -1073741824
      · go_wp2_with fail
        go_ret
        exact ⟨rfl, B2.out⟩
      · by_cases h2 : 1073741824 < left
        · go_wp2_with fail
          go_ret
          exact ⟨rfl, B2.out⟩
        · by_cases h3 : right < -1073741824
          · go_wp2_with fail
            go_ret
            exact ⟨rfl, B2.out⟩
          · by_cases h4 : 1073741824 < right
            · go_wp2_with fail
              go_ret
              exact ⟨rfl, B2.out⟩
            · go_upto_region 11 with fail
              go_cut [9, 10] from 19 (fun p9 p10 wx => ∃ g9 g10 : Nat, p9 = .pointer (some ⟨g9, 0, none⟩) ∧ p10 = .pointer (some ⟨g10, 0, none⟩) ∧ g9 ≠ g10 ∧ w.heap.size < g9 ∧ w.heap.size < g10 ∧ Hid (AskAt wx w.heap.size (⟨is, width, least, most, left, right, al, ar, edges⟩ : RA)) ∧ Hid (AskAt wx g9 (⟨is, width, least, most, left, right, al, ar, edges⟩ : RA)) ∧ Hid (AskAt wx g10 (⟨is, width, least, most, left, right, al, ar, edges⟩ : RA)) ∧ Hid (Below w.heap.size w wx))
              case first =>
                have hlt0 := Q2.out.lt
                have N0 : Hid (AskAt ((w2.alloc (.cells #[.bool is, .int .i64 width, .int .i64 least, .int .i64 most, .int .i64 left, .int .i64 right, .bool al, .bool ar, .int .i64 edges] 29)).alloc (.cells #[.bool is, .int .i64 width, .int .i64 least, .int .i64 most, .int .i64 left, .int .i64 right, .bool al, .bool ar, .int .i64 edges] 29)).drew w.heap.size (⟨is, width, least, most, left, right, al, ar, edges⟩ : RA)) := Lib.hid ((Q2.out.put _).put _)
                have N1 : Hid (AskAt ((w2.alloc (.cells #[.bool is, .int .i64 width, .int .i64 least, .int .i64 most, .int .i64 left, .int .i64 right, .bool al, .bool ar, .int .i64 edges] 29)).alloc (.cells #[.bool is, .int .i64 width, .int .i64 least, .int .i64 most, .int .i64 left, .int .i64 right, .bool al, .bool ar, .int .i64 edges] 29)).drew w2.heap.size (⟨is, width, least, most, left, right, al, ar, edges⟩ : RA)) := Lib.hid ((AskAt.new w2 (⟨is, width, least, most, left, right, al, ar, edges⟩ : RA)).put _)
                have N2 : Hid (AskAt ((w2.alloc (.cells #[.bool is, .int .i64 width, .int .i64 least, .int .i64 most, .int .i64 left, .int .i64 right, .bool al, .bool ar, .int .i64 edges] 29)).alloc (.cells #[.bool is, .int .i64 width, .int .i64 least, .int .i64 most, .int .i64 left, .int .i64 right, .bool al, .bool ar, .int .i64 edges] 29)).drew (w2.heap.size + 1) (⟨is, width, least, most, left, right, al, ar, edges⟩ : RA)) := Lib.hid (by
                  have h := AskAt.new (w2.alloc (.cells #[.bool is, .int .i64 width, .int .i64 least, .int .i64 most, .int .i64 left, .int .i64 right, .bool al, .bool ar, .int .i64 edges] 29)) (⟨is, width, least, most, left, right, al, ar, edges⟩ : RA)
                  rw [World.size_alloc] at h
                  exact h)
                have NB : Hid (Below w.heap.size w ((w2.alloc (.cells #[.bool is, .int .i64 width, .int .i64 least, .int .i64 most, .int .i64 left, .int .i64 right, .bool al, .bool ar, .int .i64 edges] 29)).alloc (.cells #[.bool is, .int .i64 width, .int .i64 least, .int .i64 most, .int .i64 left, .int .i64 right, .bool al, .bool ar, .int .i64 edges] 29)).drew) := Lib.hid (((B2.out.alloc B2.out.size _).alloc (by rw [World.size_alloc]; have := B2.out.size; omega) _).drew)
                clear PP HO KS Q2 B2
                go_region
                all_goals (
                  go_wp2_with fail
                  go_meet
                  first
                    | exact ⟨_, _, rfl, rfl, by omega, by omega, by omega, N0, N1, N2, NB⟩
                    | exact ⟨_, _, rfl, rfl, by omega, by omega, by omega, N0, N2, N1, NB⟩)
              case rest =>
                obtain ⟨g9, g10, rfl, rfl, hn, hl9, hl10, N0, N9, N10, NB⟩ := hcut
                obtain ⟨w3, hw3⟩ : ∃ w3, w3 = wc := ⟨_, rfl⟩
                subst hw3
                clear y0 y1 y2 y3 y4 y5 y6 y7 y8 Q2 B2
                obtain ⟨q0, q1, q2, q3, q4, q5⟩ := PP.out
                have s1 := small_solve (x := x) (a := (⟨is, width, least, most, left, right, al, ar, edges⟩ : RA)) ⟨q0.1, by omega⟩ q1 q2 q3 ⟨q4.1, by show edges ≤ _; omega⟩ ⟨by show (-1073741824 : Int) ≤ left; omega, by show left ≤ 1073741824; omega⟩ ⟨by show (-1073741824 : Int) ≤ right; omega, by show right ≤ 1073741824; omega⟩
                have s2 := small_solve (x := x + z) (a := (⟨is, width, least, most, left, right, al, ar, edges + z⟩ : RA)) ⟨by omega, by omega⟩ q1 q2 q3 ⟨by show 0 ≤ edges + z; omega, by show edges + z ≤ _; omega⟩ ⟨by show (-1073741824 : Int) ≤ left; omega, by show left ≤ 1073741824; omega⟩ ⟨by show (-1073741824 : Int) ≤ right; omega, by show right ≤ 1073741824; omega⟩
                have s3 := small_solve (x := x) (a := (⟨true, width, least, most, left, right, false, false, edges⟩ : RA)) ⟨q0.1, by omega⟩ q1 q2 q3 ⟨q4.1, by show edges ≤ _; omega⟩ ⟨by show (-1073741824 : Int) ≤ left; omega, by show left ≤ 1073741824; omega⟩ ⟨by show (-1073741824 : Int) ≤ right; omega, by show right ≤ 1073741824; omega⟩
                have s4 := small_solve (x := x + z) (a := (⟨true, width, least, most, left, right, false, false, edges⟩ : RA)) ⟨by omega, by omega⟩ q1 q2 q3 ⟨q4.1, by show edges ≤ _; omega⟩ ⟨by show (-1073741824 : Int) ≤ left; omega, by show left ≤ 1073741824; omega⟩ ⟨by show (-1073741824 : Int) ≤ right; omega, by show right ≤ 1073741824; omega⟩
                have r3 := s3.2
                obtain ⟨e1, e2, e3⟩ := shift_same x z is width least most left right al ar edges
                obtain ⟨e4, e5, e6⟩ := shift_more x z width least most left right edges
                replace s1 := s1.1
                replace s2 := s2.1
                replace s3 := s3.1
                replace s4 := s4.1
                rw [e1, e2, e3] at s2
                rw [e4, e5, e6] at s4
                have bgx : big x := ⟨by omega, by omega⟩
                have bgy : big (x + z) := ⟨by omega, by omega⟩
                have ok1 := HO.out
                have ok2 : RA.ok (⟨is, width, least, most, left, right, al, ar, edges + z⟩ : RA) := ⟨ok1.width, ok1.least, ok1.most, ok1.left, ok1.right, ⟨by show (-9223372036854775808 : Int) ≤ edges + z; omega, by show edges + z ≤ 9223372036854775807; omega⟩⟩
                have ok3 : RA.ok (⟨true, width, least, most, left, right, false, false, edges⟩ : RA) := ⟨ok1.width, ok1.least, ok1.most, ok1.left, ok1.right, ok1.edges⟩
                generalize leftA x (⟨is, width, least, most, left, right, al, ar, edges⟩ : RA) = l1 at s1 s2
                generalize wideA x (⟨is, width, least, most, left, right, al, ar, edges⟩ : RA) = m1 at s1 s2
                generalize rightA x (⟨is, width, least, most, left, right, al, ar, edges⟩ : RA) = r1 at s1 s2
                generalize leftA x (⟨true, width, least, most, left, right, false, false, edges⟩ : RA) = l3 at s3 s4
                generalize wideA x (⟨true, width, least, most, left, right, false, false, edges⟩ : RA) = m3 at s3 s4
                generalize rightA x (⟨true, width, least, most, left, right, false, false, edges⟩ : RA) = r3' at s3 s4 r3
                have K1 := Lib.hid (KS.out x (⟨is, width, least, most, left, right, al, ar, edges⟩ : RA) bgx ok1 _ _ _ _ s1)
                have K2 := Lib.hid (KS.out (x + z) (⟨is, width, least, most, left, right, al, ar, edges + z⟩ : RA) bgy ok2 _ _ _ _ s2)
                have K3 := Lib.hid (KS.out x (⟨true, width, least, most, left, right, false, false, edges⟩ : RA) bgx ok3 _ _ _ _ s3)
                have K4 := Lib.hid (KS.out (x + z) (⟨true, width, least, most, left, right, false, false, edges⟩ : RA) bgy ok3 _ _ _ _ s4)
                have b1 : IntKind.i64.wrap (edges + z) = edges + z := IntWalk.i64_in _ (by omega)
                have b2 : IntKind.i64.wrap (x + z) = x + z := IntWalk.i64_in _ (by omega)
                have b3 : IntKind.i64.wrap (r3' + z) = r3' + z := IntWalk.i64_in _ (by omega)
                clear KS HO PP s1 s2 s3 s4 e1 e2 e3 e4 e5 e6 ok1 ok2 ok3 bgx bgy r3 q0 q1 q2 q3 q4 q5 h1 h2 h3 h4
                obtain ⟨-, -, -, -, -, -, -, -, y8⟩ := N0.out.cells
                obtain ⟨-, -, -, -, -, -, -, -, v8⟩ := N9.out.cells
                dsimp only at y8 v8 K1 K2 K3 K4
                have z8 := N9.out.fro 8
                go_upto_region 13 with fail
                have M9 : Hid (AskAt (w3.setCell ⟨g9, 8, none⟩ (.int .i64 (edges + z))) g9 (⟨is, width, least, most, left, right, al, ar, edges + z⟩ : RA)) := Lib.hid (N9.out.set 8 _ _ rfl)
                have M0 : Hid (AskAt (w3.setCell ⟨g9, 8, none⟩ (.int .i64 (edges + z))) w.heap.size (⟨is, width, least, most, left, right, al, ar, edges⟩ : RA)) := Lib.hid (N0.out.off (by omega))
                have M10 : Hid (AskAt (w3.setCell ⟨g9, 8, none⟩ (.int .i64 (edges + z))) g10 (⟨is, width, least, most, left, right, al, ar, edges⟩ : RA)) := Lib.hid (N10.out.off hn)
                have MB : Hid (Below w.heap.size w (w3.setCell ⟨g9, 8, none⟩ (.int .i64 (edges + z)))) := Lib.hid (NB.out.setCell (by show w.heap.size ≤ g9; omega) _)
                clear y8 v8 z8 N0 N9 N10 NB b1
                generalize w3.setCell ⟨g9, 8, none⟩ (.int .i64 (edges + z)) = w4 at M9 M0 M10 MB ⊢
                obtain ⟨y0, y1, y2, y3, y4, y5, y6, y7, y8⟩ := M0.out.cells
                dsimp only at y0 y1 y2 y3 y4 y5 y6 y7 y8
                go_upto_region 14 with (go_at_call 12; (with_reducible refine (K1.out _).mono ?_); rintro e w5 ⟨rfl, hb⟩; have P9 : Hid (AskAt w5 g9 (⟨is, width, least, most, left, right, al, ar, edges + z⟩ : RA)) := Lib.hid (M9.out.keep hb); have P10 : Hid (AskAt w5 g10 (⟨is, width, least, most, left, right, al, ar, edges⟩ : RA)) := Lib.hid (M10.out.keep hb); have PB : Hid (Below w.heap.size w w5) := Lib.hid (MB.out.trans (hb.mono MB.out.size)); clear hb)
                clear y0 y1 y2 y3 y4 y5 y6 y7 y8 M0 M9 M10 MB K1
                obtain ⟨y0, y1, y2, y3, y4, y5, y6, y7, y8⟩ := P9.out.cells
                dsimp only at y0 y1 y2 y3 y4 y5 y6 y7 y8
                go_upto_region 15 with (go_at_call 12; (with_reducible refine (K2.out _).mono ?_); rintro e w6 ⟨rfl, hb⟩; have R10 : Hid (AskAt w6 g10 (⟨is, width, least, most, left, right, al, ar, edges⟩ : RA)) := Lib.hid (P10.out.keep hb); have RB : Hid (Below w.heap.size w w6) := Lib.hid (PB.out.trans (hb.mono PB.out.size)); clear hb)
                clear y0 y1 y2 y3 y4 y5 y6 y7 y8 P9 P10 PB K2
                obtain ⟨y0, -, -, -, -, -, y6, y7, -⟩ := R10.out.cells
                dsimp only at y0 y6 y7
                have z0 := R10.out.fro 0
                have z6 := R10.out.fro 6
                have z7 := R10.out.fro 7
                go_upto_region 18 with fail
                have T10 : Hid (AskAt (((w6.setCell ⟨g10, 0, none⟩ (.bool true)).setCell ⟨g10, 6, none⟩ (.bool false)).setCell ⟨g10, 7, none⟩ (.bool false)) g10 (⟨true, width, least, most, left, right, false, false, edges⟩ : RA)) := Lib.hid (((R10.out.set 0 _ (⟨true, width, least, most, left, right, al, ar, edges⟩ : RA) rfl).set 6 _ (⟨true, width, least, most, left, right, false, ar, edges⟩ : RA) rfl).set 7 _ _ rfl)
                have TB : Hid (Below w.heap.size w (((w6.setCell ⟨g10, 0, none⟩ (.bool true)).setCell ⟨g10, 6, none⟩ (.bool false)).setCell ⟨g10, 7, none⟩ (.bool false))) := Lib.hid (((RB.out.setCell (by show w.heap.size ≤ g10; omega) _).setCell (by show w.heap.size ≤ g10; omega) _).setCell (by show w.heap.size ≤ g10; omega) _)
                clear y0 y6 y7 z0 z6 z7 R10 RB
                generalize ((w6.setCell ⟨g10, 0, none⟩ (.bool true)).setCell ⟨g10, 6, none⟩ (.bool false)).setCell ⟨g10, 7, none⟩ (.bool false) = w7 at T10 TB ⊢
                obtain ⟨y0, y1, y2, y3, y4, y5, y6, y7, y8⟩ := T10.out.cells
                dsimp only at y0 y1 y2 y3 y4 y5 y6 y7 y8
                go_upto_region 19 with (go_at_call 12; (with_reducible refine (K3.out _).mono ?_); rintro e w8 ⟨rfl, hb⟩; have U10 : Hid (AskAt w8 g10 (⟨true, width, least, most, left, right, false, false, edges⟩ : RA)) := Lib.hid (T10.out.keep hb); have UB : Hid (Below w.heap.size w w8) := Lib.hid (TB.out.trans (hb.mono TB.out.size)); clear hb)
                clear y0 y1 y2 y3 y4 y5 y6 y7 y8 T10 TB K3
                obtain ⟨y0, y1, y2, y3, y4, y5, y6, y7, y8⟩ := U10.out.cells
                dsimp only at y0 y1 y2 y3 y4 y5 y6 y7 y8
                go_wp2_with (go_at_call 12; (with_reducible refine (K4.out _).mono ?_); rintro e w9 ⟨rfl, hb⟩; have VB : Hid (Below w.heap.size w w9) := Lib.hid (UB.out.trans (hb.mono UB.out.size)); clear hb)
                go_ret
                exact ⟨by first | rfl | simp, VB.out⟩
end Go.Proofs.Ytdadlhkbngopaaa
