/-
  A style that came in, opened.
-/
import Derived.Test.YtdadlhkbngopaaaStyles
import Derived.OpenShut
namespace Go.Proofs.Ytdadlhkbngopaaa
open Go.RowKit Go.ChangeShapes Go.WideShapes
section
variable {H : Type} {enc : TypeId × Value → H} {w : World} {held : Bool} {base : Nat} {sp : Nat → Bool}
set_option maxRecDepth 100000 in
theorem open_sides {fuel : Nat} {cs : List Value} {y : DataW H × List MemPlace} (h : DataW.trod enc Try.prog w base sp held fuel 24 cs = some y) :
    ∃ m : Nat → RL, cs = ((m 0).lits ++ (m 1).lits ++ (m 2).lits ++ (m 3).lits).map Lit.toCell ∧ ∀ i, i < 4 → (m i).ok := by
  obtain ⟨xs, m, rfl, rfl, hlen, hxl, hf⟩ := DataW.trod_array Try.underlying24 h
  have c1 : Try.prog.cellsOf 23 = 2 := by kernel_rfl
  have hl : cs.length = 8 := hlen.trans (by kernel_rfl)
  have each : ∀ i, i < 4 → ∃ l : RL, (cs.drop (i * 2)).take 2 = l.lits.map Lit.toCell ∧ l.ok := fun i hi => by
    have g := (hf i hi).trans (List.getElem?_eq_getElem (by omega))
    rw [c1] at g
    exact open_length g
  obtain ⟨N, hN⟩ := Go.Deep.choose_lt each
  refine ⟨N, ?_, fun i hi => (hN i hi).2⟩
  have t0 : cs.drop 0 = (N 0).lits.map Lit.toCell ++ cs.drop 2 := take_chain (hN 0 (by omega)).1
  have t1 : cs.drop 2 = (N 1).lits.map Lit.toCell ++ cs.drop 4 := take_chain (hN 1 (by omega)).1
  have t2 : cs.drop 4 = (N 2).lits.map Lit.toCell ++ cs.drop 6 := take_chain (hN 2 (by omega)).1
  have t3 : cs.drop 6 = (N 3).lits.map Lit.toCell ++ cs.drop 8 := take_chain (hN 3 (by omega)).1
  have te : cs.drop 8 = [] := List.drop_of_length_le (by omega)
  rw [te] at t3; rw [t3] at t2; rw [t2] at t1; rw [t1] at t0
  rw [List.drop_zero] at t0
  rw [t0]
  simp
set_option maxRecDepth 100000 in
theorem open_four {fuel : Nat} {cs : List Value} {y : DataW H × List MemPlace} (h : DataW.trod enc Try.prog w base sp held fuel 25 cs = some y) :
    ∃ m : Nat → Int, cs = [.int .i64 (m 0), .int .i64 (m 1), .int .i64 (m 2), .int .i64 (m 3)] ∧ ∀ i, i < 4 → -9223372036854775808 ≤ m i ∧ m i ≤ 9223372036854775807 := by
  obtain ⟨xs, m, rfl, rfl, hlen, hxl, hf⟩ := DataW.trod_array Try.underlying25 h
  have c1 : Try.prog.cellsOf 3 = 1 := by kernel_rfl
  have hl : cs.length = 4 := hlen.trans (by kernel_rfl)
  have each : ∀ i, i < 4 → ∃ l : Int, (cs.drop (i * 1)).take 1 = [.int .i64 l] ∧ -9223372036854775808 ≤ l ∧ l ≤ 9223372036854775807 := fun i hi => by
    have g := (hf i hi).trans (List.getElem?_eq_getElem (by omega))
    rw [c1] at g
    obtain ⟨n, e, -, wn⟩ := DataW.trod_int Try.underlying3 g
    exact ⟨n, e, i64_in wn⟩
  obtain ⟨N, hN⟩ := Go.Deep.choose_lt each
  refine ⟨N, ?_, fun i hi => (hN i hi).2⟩
  have t0 : cs.drop 0 = [.int .i64 (N 0)] ++ cs.drop 1 := take_chain (hN 0 (by omega)).1
  have t1 : cs.drop 1 = [.int .i64 (N 1)] ++ cs.drop 2 := take_chain (hN 1 (by omega)).1
  have t2 : cs.drop 2 = [.int .i64 (N 2)] ++ cs.drop 3 := take_chain (hN 2 (by omega)).1
  have t3 : cs.drop 3 = [.int .i64 (N 3)] ++ cs.drop 4 := take_chain (hN 3 (by omega)).1
  have te : cs.drop 4 = [] := List.drop_of_length_le (by omega)
  rw [te] at t3; rw [t3] at t2; rw [t2] at t1; rw [t1] at t0
  rw [List.drop_zero] at t0
  rw [t0]
  simp

set_option maxRecDepth 100000 in
theorem open_style {fuel : Nat} {cs : List Value} {y : DataW H × List MemPlace} (h : DataW.trod enc Try.prog w base sp held fuel 27 cs = some y) : ∃ s : RS, cs = s.lits.map Lit.toCell ∧ s.ok := by
  obtain ⟨xs, m, rfl, rfl, hlen, hxl, hf⟩ := DataW.trod_struct Try.underlying27 h
  have c1 : Try.prog.cellsOf 3 = 1 := by kernel_rfl
  have c2 : Try.prog.cellsOf 5 = 1 := by kernel_rfl
  have c3 : Try.prog.cellsOf 4 = 1 := by kernel_rfl
  have c4 : Try.prog.cellsOf 23 = 2 := by kernel_rfl
  have c5 : Try.prog.cellsOf 24 = 8 := by kernel_rfl
  have c6 : Try.prog.cellsOf 25 = 4 := by kernel_rfl
  have hl : cs.length = 47 := hlen.trans style_cells
  have hx : xs.length = 27 := hxl.trans (by kernel_rfl)
  have e : ∀ k (hk : k < 27), xs[k]? = some (xs[k]'(by omega)) := fun k hk => List.getElem?_eq_getElem _
  have g0 : DataW.trod enc Try.prog w base sp held m 5 ((cs.drop 0).take (Try.prog.cellsOf 5)) = some (xs[0]'(by omega)) := (hf 0 _ rfl).trans (e 0 (by omega))
  rw [c2] at g0
  obtain ⟨n0, e0, -, w0⟩ := DataW.trod_int Try.underlying5 g0
  have t0 : cs.drop 0 = [.int .u8 n0] ++ cs.drop 1 := take_chain e0
  clear g0 e0
  have g1 : DataW.trod enc Try.prog w base sp held m 4 ((cs.drop 1).take (Try.prog.cellsOf 4)) = some (xs[1]'(by omega)) := (hf 1 _ rfl).trans (e 1 (by omega))
  rw [c3] at g1
  obtain ⟨n1, e1, -⟩ := DataW.trod_bool Try.underlying4 g1
  have t1 : cs.drop 1 = [.bool n1] ++ cs.drop 2 := take_chain e1
  clear g1 e1
  have g2 : DataW.trod enc Try.prog w base sp held m 23 ((cs.drop 2).take (Try.prog.cellsOf 23)) = some (xs[2]'(by omega)) := (hf 2 _ rfl).trans (e 2 (by omega))
  rw [c4] at g2
  obtain ⟨n2, e2, w2⟩ := open_length g2
  have t2 : cs.drop 2 = n2.lits.map Lit.toCell ++ cs.drop 4 := take_chain e2
  clear g2 e2
  have g3 : DataW.trod enc Try.prog w base sp held m 23 ((cs.drop 4).take (Try.prog.cellsOf 23)) = some (xs[3]'(by omega)) := (hf 3 _ rfl).trans (e 3 (by omega))
  rw [c4] at g3
  obtain ⟨n3, e3, w3⟩ := open_length g3
  have t3 : cs.drop 4 = n3.lits.map Lit.toCell ++ cs.drop 6 := take_chain e3
  clear g3 e3
  have g4 : DataW.trod enc Try.prog w base sp held m 23 ((cs.drop 6).take (Try.prog.cellsOf 23)) = some (xs[4]'(by omega)) := (hf 4 _ rfl).trans (e 4 (by omega))
  rw [c4] at g4
  obtain ⟨n4, e4, w4⟩ := open_length g4
  have t4 : cs.drop 6 = n4.lits.map Lit.toCell ++ cs.drop 8 := take_chain e4
  clear g4 e4
  have g5 : DataW.trod enc Try.prog w base sp held m 23 ((cs.drop 8).take (Try.prog.cellsOf 23)) = some (xs[5]'(by omega)) := (hf 5 _ rfl).trans (e 5 (by omega))
  rw [c4] at g5
  obtain ⟨n5, e5, w5⟩ := open_length g5
  have t5 : cs.drop 8 = n5.lits.map Lit.toCell ++ cs.drop 10 := take_chain e5
  clear g5 e5
  have g6 : DataW.trod enc Try.prog w base sp held m 23 ((cs.drop 10).take (Try.prog.cellsOf 23)) = some (xs[6]'(by omega)) := (hf 6 _ rfl).trans (e 6 (by omega))
  rw [c4] at g6
  obtain ⟨n6, e6, w6⟩ := open_length g6
  have t6 : cs.drop 10 = n6.lits.map Lit.toCell ++ cs.drop 12 := take_chain e6
  clear g6 e6
  have g7 : DataW.trod enc Try.prog w base sp held m 23 ((cs.drop 12).take (Try.prog.cellsOf 23)) = some (xs[7]'(by omega)) := (hf 7 _ rfl).trans (e 7 (by omega))
  rw [c4] at g7
  obtain ⟨n7, e7, w7⟩ := open_length g7
  have t7 : cs.drop 12 = n7.lits.map Lit.toCell ++ cs.drop 14 := take_chain e7
  clear g7 e7
  have g8 : DataW.trod enc Try.prog w base sp held m 24 ((cs.drop 14).take (Try.prog.cellsOf 24)) = some (xs[8]'(by omega)) := (hf 8 _ rfl).trans (e 8 (by omega))
  rw [c5] at g8
  obtain ⟨n8, e8, w8⟩ := open_sides g8
  have t8 : cs.drop 14 = ((n8 0).lits ++ (n8 1).lits ++ (n8 2).lits ++ (n8 3).lits).map Lit.toCell ++ cs.drop 22 := take_chain e8
  clear g8 e8
  have g9 : DataW.trod enc Try.prog w base sp held m 25 ((cs.drop 22).take (Try.prog.cellsOf 25)) = some (xs[9]'(by omega)) := (hf 9 _ rfl).trans (e 9 (by omega))
  rw [c6] at g9
  obtain ⟨n9, e9, w9⟩ := open_four g9
  have t9 : cs.drop 22 = [.int .i64 (n9 0), .int .i64 (n9 1), .int .i64 (n9 2), .int .i64 (n9 3)] ++ cs.drop 26 := take_chain e9
  clear g9 e9
  have g10 : DataW.trod enc Try.prog w base sp held m 25 ((cs.drop 26).take (Try.prog.cellsOf 25)) = some (xs[10]'(by omega)) := (hf 10 _ rfl).trans (e 10 (by omega))
  rw [c6] at g10
  obtain ⟨n10, e10, w10⟩ := open_four g10
  have t10 : cs.drop 26 = [.int .i64 (n10 0), .int .i64 (n10 1), .int .i64 (n10 2), .int .i64 (n10 3)] ++ cs.drop 30 := take_chain e10
  clear g10 e10
  have g11 : DataW.trod enc Try.prog w base sp held m 3 ((cs.drop 30).take (Try.prog.cellsOf 3)) = some (xs[11]'(by omega)) := (hf 11 _ rfl).trans (e 11 (by omega))
  rw [c1] at g11
  obtain ⟨n11, e11, -, w11⟩ := DataW.trod_int Try.underlying3 g11
  have t11 : cs.drop 30 = [.int .i64 n11] ++ cs.drop 31 := take_chain e11
  clear g11 e11
  have g12 : DataW.trod enc Try.prog w base sp held m 3 ((cs.drop 31).take (Try.prog.cellsOf 3)) = some (xs[12]'(by omega)) := (hf 12 _ rfl).trans (e 12 (by omega))
  rw [c1] at g12
  obtain ⟨n12, e12, -, w12⟩ := DataW.trod_int Try.underlying3 g12
  have t12 : cs.drop 31 = [.int .i64 n12] ++ cs.drop 32 := take_chain e12
  clear g12 e12
  have g13 : DataW.trod enc Try.prog w base sp held m 3 ((cs.drop 32).take (Try.prog.cellsOf 3)) = some (xs[13]'(by omega)) := (hf 13 _ rfl).trans (e 13 (by omega))
  rw [c1] at g13
  obtain ⟨n13, e13, -, w13⟩ := DataW.trod_int Try.underlying3 g13
  have t13 : cs.drop 32 = [.int .i64 n13] ++ cs.drop 33 := take_chain e13
  clear g13 e13
  have g14 : DataW.trod enc Try.prog w base sp held m 5 ((cs.drop 33).take (Try.prog.cellsOf 5)) = some (xs[14]'(by omega)) := (hf 14 _ rfl).trans (e 14 (by omega))
  rw [c2] at g14
  obtain ⟨n14, e14, -, w14⟩ := DataW.trod_int Try.underlying5 g14
  have t14 : cs.drop 33 = [.int .u8 n14] ++ cs.drop 34 := take_chain e14
  clear g14 e14
  have g15 : DataW.trod enc Try.prog w base sp held m 5 ((cs.drop 34).take (Try.prog.cellsOf 5)) = some (xs[15]'(by omega)) := (hf 15 _ rfl).trans (e 15 (by omega))
  rw [c2] at g15
  obtain ⟨n15, e15, -, w15⟩ := DataW.trod_int Try.underlying5 g15
  have t15 : cs.drop 34 = [.int .u8 n15] ++ cs.drop 35 := take_chain e15
  clear g15 e15
  have g16 : DataW.trod enc Try.prog w base sp held m 5 ((cs.drop 35).take (Try.prog.cellsOf 5)) = some (xs[16]'(by omega)) := (hf 16 _ rfl).trans (e 16 (by omega))
  rw [c2] at g16
  obtain ⟨n16, e16, -, w16⟩ := DataW.trod_int Try.underlying5 g16
  have t16 : cs.drop 35 = [.int .u8 n16] ++ cs.drop 36 := take_chain e16
  clear g16 e16
  have g17 : DataW.trod enc Try.prog w base sp held m 5 ((cs.drop 36).take (Try.prog.cellsOf 5)) = some (xs[17]'(by omega)) := (hf 17 _ rfl).trans (e 17 (by omega))
  rw [c2] at g17
  obtain ⟨n17, e17, -, w17⟩ := DataW.trod_int Try.underlying5 g17
  have t17 : cs.drop 36 = [.int .u8 n17] ++ cs.drop 37 := take_chain e17
  clear g17 e17
  have g18 : DataW.trod enc Try.prog w base sp held m 5 ((cs.drop 37).take (Try.prog.cellsOf 5)) = some (xs[18]'(by omega)) := (hf 18 _ rfl).trans (e 18 (by omega))
  rw [c2] at g18
  obtain ⟨n18, e18, -, w18⟩ := DataW.trod_int Try.underlying5 g18
  have t18 : cs.drop 37 = [.int .u8 n18] ++ cs.drop 38 := take_chain e18
  clear g18 e18
  have g19 : DataW.trod enc Try.prog w base sp held m 4 ((cs.drop 38).take (Try.prog.cellsOf 4)) = some (xs[19]'(by omega)) := (hf 19 _ rfl).trans (e 19 (by omega))
  rw [c3] at g19
  obtain ⟨n19, e19, -⟩ := DataW.trod_bool Try.underlying4 g19
  have t19 : cs.drop 38 = [.bool n19] ++ cs.drop 39 := take_chain e19
  clear g19 e19
  have g20 : DataW.trod enc Try.prog w base sp held m 5 ((cs.drop 39).take (Try.prog.cellsOf 5)) = some (xs[20]'(by omega)) := (hf 20 _ rfl).trans (e 20 (by omega))
  rw [c2] at g20
  obtain ⟨n20, e20, -, w20⟩ := DataW.trod_int Try.underlying5 g20
  have t20 : cs.drop 39 = [.int .u8 n20] ++ cs.drop 40 := take_chain e20
  clear g20 e20
  have g21 : DataW.trod enc Try.prog w base sp held m 3 ((cs.drop 40).take (Try.prog.cellsOf 3)) = some (xs[21]'(by omega)) := (hf 21 _ rfl).trans (e 21 (by omega))
  rw [c1] at g21
  obtain ⟨n21, e21, -, w21⟩ := DataW.trod_int Try.underlying3 g21
  have t21 : cs.drop 40 = [.int .i64 n21] ++ cs.drop 41 := take_chain e21
  clear g21 e21
  have g22 : DataW.trod enc Try.prog w base sp held m 3 ((cs.drop 41).take (Try.prog.cellsOf 3)) = some (xs[22]'(by omega)) := (hf 22 _ rfl).trans (e 22 (by omega))
  rw [c1] at g22
  obtain ⟨n22, e22, -, w22⟩ := DataW.trod_int Try.underlying3 g22
  have t22 : cs.drop 41 = [.int .i64 n22] ++ cs.drop 42 := take_chain e22
  clear g22 e22
  have g23 : DataW.trod enc Try.prog w base sp held m 3 ((cs.drop 42).take (Try.prog.cellsOf 3)) = some (xs[23]'(by omega)) := (hf 23 _ rfl).trans (e 23 (by omega))
  rw [c1] at g23
  obtain ⟨n23, e23, -, w23⟩ := DataW.trod_int Try.underlying3 g23
  have t23 : cs.drop 42 = [.int .i64 n23] ++ cs.drop 43 := take_chain e23
  clear g23 e23
  have g24 : DataW.trod enc Try.prog w base sp held m 3 ((cs.drop 43).take (Try.prog.cellsOf 3)) = some (xs[24]'(by omega)) := (hf 24 _ rfl).trans (e 24 (by omega))
  rw [c1] at g24
  obtain ⟨n24, e24, -, w24⟩ := DataW.trod_int Try.underlying3 g24
  have t24 : cs.drop 43 = [.int .i64 n24] ++ cs.drop 44 := take_chain e24
  clear g24 e24
  have g25 : DataW.trod enc Try.prog w base sp held m 23 ((cs.drop 44).take (Try.prog.cellsOf 23)) = some (xs[25]'(by omega)) := (hf 25 _ rfl).trans (e 25 (by omega))
  rw [c4] at g25
  obtain ⟨n25, e25, w25⟩ := open_length g25
  have t25 : cs.drop 44 = n25.lits.map Lit.toCell ++ cs.drop 46 := take_chain e25
  clear g25 e25
  have g26 : DataW.trod enc Try.prog w base sp held m 3 ((cs.drop 46).take (Try.prog.cellsOf 3)) = some (xs[26]'(by omega)) := (hf 26 _ rfl).trans (e 26 (by omega))
  rw [c1] at g26
  obtain ⟨n26, e26, -, w26⟩ := DataW.trod_int Try.underlying3 g26
  have t26 : cs.drop 46 = [.int .i64 n26] ++ cs.drop 47 := take_chain e26
  clear g26 e26
  have te : cs.drop 47 = [] := List.drop_of_length_le (by omega)
  have t : cs = cs.drop 0 := rfl
  rw [t0, t1, t2, t3, t4, t5, t6, t7, t8, t9, t10, t11, t12, t13, t14, t15, t16, t17, t18, t19, t20, t21, t22, t23, t24, t25, t26, te] at t
  refine ⟨⟨n0, n1, n2, n3, n4, n5, n6, n7, n8, n9, n10, n11, n12, n13, n14, n15, n16, n17, n18, n19, n20, n21, n22, n23, n24, n25, n26⟩, ?_, ⟨u8_in w0, w2, w3, w4, w5, w6, w7, w8, w9, w10, i64_in w11, i64_in w12, i64_in w13, u8_in w14, u8_in w15, u8_in w16, u8_in w17, u8_in w18, u8_in w20, i64_in w21, i64_in w22, i64_in w23, i64_in w24, w25, i64_in w26⟩⟩
  rw [t]
  simp only [RS.lits, List.map_append, List.map_cons, List.map_nil, Lit.toCell, List.append_nil]
end
end Go.Proofs.Ytdadlhkbngopaaa
