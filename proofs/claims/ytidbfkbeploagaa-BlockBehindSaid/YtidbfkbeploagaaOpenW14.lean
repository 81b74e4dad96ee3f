/-
  The law BlockOpen: of any Stack, Join, Value that answer as is asked.
-/
import Derived.Test.YtidbfkbeploagaaOpenM14
import Derived.Test.YtidbfkbeploagaaThroughW14
namespace Go.Proofs.Ytidbfkbeploagaa
open Go.RowKit

/-- three rows of places, three blocks of what is told -/
structure Open3 (W : World) (g1 g2 g3 r1 r2 r3 n c1 c2 c3 : Nat) (P Q : List Int) (R1 R2 R3 : Sk) : Prop where
  a : SkAt W g1 (.slice (some ⟨r1, 0, none⟩) n c1) R1
  b : SkAt W g2 (.slice (some ⟨r2, 0, none⟩) n c2) R2
  c : SkAt W g3 (.slice (some ⟨r3, 0, none⟩) n c3) R3
  p : ∀ (i : Nat) (y : Int), P[i]? = some y → W.cell? ⟨r1, i, none⟩ = some (.int .i64 y)
  q : ∀ (i : Nat) (y : Int), Q[i]? = some y → W.cell? ⟨r2, i, none⟩ = some (.int .i64 y)
  r : ∀ (i : Nat) (y : Int), P[i]? = some y → W.cell? ⟨r3, i, none⟩ = some (.int .i64 y)
theorem cells_keep14 {W W' : World} {g : Nat} {P : List Int} (h : ∀ (i : Nat) (y : Int), P[i]? = some y → W.cell? ⟨g, i, none⟩ = some (.int .i64 y)) (hb : Below W.heap.size W W') : ∀ (i : Nat) (y : Int), P[i]? = some y → W'.cell? ⟨g, i, none⟩ = some (.int .i64 y) := fun i y hy =>
  (hb.cell (p := ⟨g, i, none⟩) (World.block_lt_of_cell? W _ (h i y hy))).trans (h i y hy)
theorem Open3.keep {W W' : World} {g1 g2 g3 r1 r2 r3 n c1 c2 c3 : Nat} {P Q : List Int} {R1 R2 R3 : Sk} (h : Open3 W g1 g2 g3 r1 r2 r3 n c1 c2 c3 P Q R1 R2 R3) (hb : Below W.heap.size W W') : Open3 W' g1 g2 g3 r1 r2 r3 n c1 c2 c3 P Q R1 R2 R3 :=
  ⟨h.a.keep hb, h.b.keep hb, h.c.keep hb, cells_keep14 h.p hb, cells_keep14 h.q hb, cells_keep14 h.r hb⟩
theorem max_or (x : Int) : ∃ y : Int, (if 0 < x then x else 0) = y ∧ ((0 < x ∧ y = x) ∨ ((0 < x) = False ∧ y = 0)) := by
  by_cases h : 0 < x
  · exact ⟨x, if_pos h, .inl ⟨h, rfl⟩⟩
  · exact ⟨0, if_neg h, .inr ⟨by simp only [h], rfl⟩⟩
set_option maxRecDepth 100000 in
set_option maxHeartbeats 8000000 in
theorem open14 (hS : StackOK 10) (hJ : JoinOK 15) (hV : ValueOK 16) (hM : MayOK13 38) (hA : AwakeOK14 12) (A : Option Addr) (n c : Nat) (l : List Kd) (w : World) (hv : KdIn w (.slice A n c) l) (hl : l.length = n) (hn : n ≤ 140737488351232) :
    Calls Try.prog 6 #[.slice A n c] w fun e w' => e = .returned (.bool true) ∧ Below w.heap.size w w' := by
  have KA := Lib.hid (fun W => hA W)
  have HV := Lib.hid hv
  have HL := Lib.hid hl
  have KN := Lib.hid (fun W (hW : KdIn W (.slice A n c) l) => near_any hM l _ W hW (by omega))
  have HS0 := Lib.hid hS
  have HJ0 := Lib.hid hJ
  have HV0 := Lib.hid hV
  clear hA hM hS hJ hV hl hv
  go_enter Try.func6, Try.ntmps6
  go_wp2_with (go_at_call 12; (with_reducible refine (KA.out _).mono ?_); rintro e w1 ⟨rfl, hb⟩; have B1 := Lib.hid hb; clear hb)
  clear KA
  go_loopg [3] n (fun g1 v3 wr => ∃ k : Nat, v3 = .int .i64 k ∧ k ≤ n ∧ n - k ≤ g1 ∧ Hid (thrB l k = true) ∧ w1 = wr)
  case atStart => exact ⟨0, rfl, by omega, by omega, Lib.hid (by simp [thrB]), rfl⟩
  case round =>
    obtain ⟨k, rfl, hk, hg1, HT, rfl⟩ := hrel
    by_cases hlt : k < n
    case neg =>
      obtain rfl : k = n := by omega
      have hz1 : ¬ (k : Int) < k := by omega
      have kk : ((k : Int) == k) = true := by simp
      by_cases hnear : NearK l
      · rw [decide_eq_true hnear] at KN
        clear hnear
        go_wp2_with (go_at_call 13; (with_reducible refine (KN.out _ (HV.out.keep B1.out)).mono ?_); rintro e w2 ⟨rfl, hb⟩; have B2 := Lib.hid (b_next B1.out hb); clear hb)
        go_ret
        exact ⟨rfl, B2.out⟩
      · rw [decide_eq_false hnear] at KN
        clear hnear
        go_wp2_with (go_at_call 13; (with_reducible refine (KN.out _ (HV.out.keep B1.out)).mono ?_); rintro e w2 ⟨rfl, hb⟩; have B2 := Lib.hid (b_next B1.out hb); clear hb)
        go_ret
        exact ⟨rfl, B2.out⟩
    have hz1 : (k : Int) < n := by omega
    have hz0 : (0 : Int) ≤ k := by omega
    have wi : IntKind.i64.wrap ((k : Int) + 1) = (k : Int) + 1 := IntWalk.i64_in _ (by omega)
    obtain ⟨b, off, c1, e', -, -, -⟩ := HV.out.get (i := k) (by have := HL.out; omega)
    injection e' with e1 e2 e3
    subst e1 e3
    clear e2
    have VK := Lib.hid ((KdIn.later (HV.out.keep B1.out) (k := k) (by have := HL.out; omega)) w1 (Below.refl _ _))
    obtain ⟨-, -, -, -, -, a5⟩ := VK.out
    obtain ⟨tb, htb⟩ : ∃ tb, (kAt l k).thr = tb := ⟨_, rfl⟩
    rw [htb] at a5
    have HTB := Lib.hid htb
    clear htb VK
    cases tb with
    | true =>
      go_wp2_with fail
      go_roundg (n - (k + 1))
      case measure => omega
      case rel => exact ⟨k + 1, by go_num, by omega, Nat.le_refl _, Lib.hid (by rw [thrB_succ (by have := HL.out; omega), HT.out, HTB.out]; rfl), rfl⟩
    | false =>
    have kk : ((k : Int) == n) = false := by simp; omega
    by_cases hnear : NearK l
    case neg =>
      rw [decide_eq_false hnear] at KN
      clear hnear
      go_wp2_with (go_at_call 13; (with_reducible refine (KN.out _ (HV.out.keep B1.out)).mono ?_); rintro e w2 ⟨rfl, hb⟩; have B2 := Lib.hid (b_next B1.out hb); clear hb)
      go_ret
      exact ⟨rfl, B2.out⟩
    rw [decide_eq_true hnear] at KN
    have F := Lib.hid (FirstK.mk (by have := HL.out; omega) HT.out HTB.out : FirstK l k)
    have hn2 : n ≤ 200 := by have := hnear.1; have := HL.out; omega
    have NA := Lib.hid (near_all hnear)
    have KB1 := Lib.hid (fun W (hW : KdIn W (.slice (some ⟨b, off, none⟩) n c) l) => HS0.out l _ false false W hW (by have := HL.out; omega) (near_big hnear))
    have KB2 := Lib.hid (fun W (hW : KdIn W (.slice (some ⟨b, off, none⟩) n c) l) => HS0.out l _ true false W hW (by have := HL.out; omega) (near_big hnear))
    have KB3 := Lib.hid (fun W (hW : KdIn W (.slice (some ⟨b, off, none⟩) n c) l) => HS0.out l _ false true W hW (by have := HL.out; omega) (near_big hnear))
    rw [near_told14 NA.out (by have := HL.out; omega) false false] at KB1
    rw [near_told14 NA.out (by have := HL.out; omega) true false] at KB2
    rw [near_told14 NA.out (by have := HL.out; omega) false true] at KB3
    have T1 := Lib.hid (told_shut l)
    have T2 := Lib.hid (told_above F.out)
    have T3 := Lib.hid (told_half l)
    have T4 := Lib.hid (told_half_h l)
    have OP := Lib.hid (fun i (hi : i < n) => open_ats F.out (i := i) (by have := HL.out; omega))
    have TS := Lib.hid (topT_small NA.out F.out.lt)
    have SN := Lib.hid (run_n2 NA.out (by have := HL.out; omega) false l.length)
    rw [List.take_length] at SN
    have LK := Lib.hid (fun i (hi : i < n) hk ht => last_kid NA.out (i := i) (by have := HL.out; omega) hk ht false)
    have YI := Lib.hid (fun i (hi : i < n) => ats_get (l := l) false (k := i) (by have := HL.out; omega))
    have YB := Lib.hid (ats_n NA.out (by have := HL.out; omega) false)
    have TT := Lib.hid (fun i (hi : i < n) => tailT_at (l := l) (k := i) (by have := HL.out; omega))
    have TE : Hid (tailT l n = mgZ) := Lib.hid (by rw [← HL.out]; exact tailT_end l)
    have AL : Hid ((atsS (startS false) l).length = n) := Lib.hid (by rw [atsS_len]; exact HL.out)
    have AM : Hid ((atsS (startS true) l).length = n) := Lib.hid (by rw [atsS_len]; exact HL.out)
    obtain ⟨R1, hR1⟩ : ∃ R, toldS l false false = R := ⟨_, rfl⟩
    obtain ⟨R2, hR2⟩ : ∃ R, toldS l true false = R := ⟨_, rfl⟩
    obtain ⟨R3, hR3⟩ : ∃ R, toldS l false true = R := ⟨_, rfl⟩
    rw [hR1] at KB1 T1
    rw [hR2] at KB2 T2
    rw [hR3] at KB3 T3 T4
    obtain ⟨sE, hsE⟩ : ∃ s, runS (startS false) l = s := ⟨_, rfl⟩
    rw [hsE] at T1 T3 T4 SN LK
    generalize atsS (startS false) l = P at T1 T3 AL OP YI YB
    generalize atsS (startS true) l = Q at T2 AM OP
    obtain ⟨T, hT⟩ : ∃ T, topT l k = T := ⟨_, rfl⟩
    rw [hT] at T2 OP TS
    obtain ⟨ats1, H1, ⟨p1, p2⟩, ⟨p3, p4⟩, p5⟩ := R1
    obtain ⟨ats2, H2, ⟨t1, t2⟩, ⟨r3, r4⟩, r5⟩ := R2
    obtain ⟨ats3, H3, ⟨m5, m6⟩, ⟨s1, s2⟩, u5⟩ := R3
    unfold skV at KB1 KB2 KB3
    dsimp only at KB1 KB2 KB3 T1 T2 T3 T4
    obtain ⟨eA, rfl, EH1⟩ := T1.out
    obtain rfl := eA.symm
    obtain ⟨eA, e2, rfl⟩ := T2.out
    obtain rfl := eA.symm
    obtain ⟨eA, e3, rfl⟩ := T3.out
    obtain rfl := eA.symm
    obtain rfl := e2.symm
    have EB := Lib.hid e3
    have EH3 := Lib.hid T4.out
    replace EH1 := Lib.hid EH1
    dsimp only at OP
    clear hnear hR1 hR2 hR3 hsE hT T1 T2 T3 T4 e3 HS0
    obtain ⟨V, hV⟩ : ∃ V, t1 + t2 = V := ⟨_, rfl⟩
    rw [hV] at OP
    have KV1 := Lib.hid (fun W => HV0.out (t1, t2) W)
    have v1 : valueM (t1, t2) = t1 + t2 := IntWalk.i64_in _ (by have := TS.out; unfold SmallM MayM at this; dsimp only at this ⊢; omega)
    rw [v1, hV] at KV1
    unfold mgV at KV1
    dsimp only at KV1
    have HVB : Hid (-536870912 ≤ V ∧ V ≤ 536870912) := Lib.hid (by have := TS.out; unfold SmallM MayM at this; dsimp only at this; omega)
    clear v1 hV TS
    go_upto_region 9 with (first
      | (go_at_call 13; (with_reducible refine (KN.out _ (HV.out.keep B1.out)).mono ?_); rintro e w2 ⟨rfl, hb⟩; have B2 := Lib.hid (b_next B1.out hb); clear hb)
      | (go_at_call 10; (with_reducible refine (KB1.out _ (HV.out.keep B2.out)).mono ?_); rintro e w3 ⟨vA, rfl, hO, hb⟩; obtain ⟨gr1, cr1, er1, -, -, hcr1⟩ := own_cell14 hO (by intro e; have := AL.out; rw [e] at this; simp at this; omega); rw [AL.out] at er1; subst er1; have O3 := Lib.hid hcr1; have B3 := Lib.hid (b_next B2.out hb); clear hO hb hcr1))
    have X4 : Hid (SkAt (w3.alloc (.cells #[.slice (some ⟨gr1, 0, none⟩) n cr1, .int .i64 H1, .int .i64 p1, .int .i64 p2, .int .i64 p3, .int .i64 p4, .bool false] 27)) w3.heap.size (.slice (some ⟨gr1, 0, none⟩) n cr1) ⟨P, H1, (p1, p2), (p3, p4), false⟩) := Lib.hid (SkAt.new w3 (.slice (some ⟨gr1, 0, none⟩) n cr1) ⟨P, H1, (p1, p2), (p3, p4), false⟩)
    have C4 : Hid (Below w3.heap.size w3 (w3.alloc (.cells #[.slice (some ⟨gr1, 0, none⟩) n cr1, .int .i64 H1, .int .i64 p1, .int .i64 p2, .int .i64 p3, .int .i64 p4, .bool false] 27))) := Lib.hid ((Below.refl _ _).alloc (Nat.le_refl _) _)
    have B4 := Lib.hid (b_next B3.out C4.out)
    have O4 := Lib.hid (cells_keep14 O3.out C4.out)
    clear C4 B3 O3 KB1 KN B1 B2
    generalize w3.alloc (.cells #[.slice (some ⟨gr1, 0, none⟩) n cr1, .int .i64 H1, .int .i64 p1, .int .i64 p2, .int .i64 p3, .int .i64 p4, .bool false] 27) = w4 at X4 B4 O4 ⊢
    generalize w3.heap.size = g1 at X4 ⊢
    go_upto_region 10 with (go_at_call 10; (with_reducible refine (KB2.out _ (HV.out.keep B4.out)).mono ?_); rintro e w5 ⟨vA, rfl, hO, hb⟩; obtain ⟨gr2, cr2, er2, -, -, hcr2⟩ := own_cell14 hO (by intro e; have := AM.out; rw [e] at this; simp at this; omega); rw [AM.out] at er2; subst er2; have P5 := Lib.hid hcr2; have O5 := Lib.hid (cells_keep14 O4.out hb); have X5 := Lib.hid (X4.out.keep hb); have B5 := Lib.hid (b_next B4.out hb); clear hO hb hcr2)
    have Y6 : Hid (SkAt (w5.alloc (.cells #[.slice (some ⟨gr2, 0, none⟩) n cr2, .int .i64 H2, .int .i64 t1, .int .i64 t2, .int .i64 r3, .int .i64 r4, .bool false] 27)) w5.heap.size (.slice (some ⟨gr2, 0, none⟩) n cr2) ⟨Q, H2, (t1, t2), (r3, r4), false⟩) := Lib.hid (SkAt.new w5 (.slice (some ⟨gr2, 0, none⟩) n cr2) ⟨Q, H2, (t1, t2), (r3, r4), false⟩)
    have C6 : Hid (Below w5.heap.size w5 (w5.alloc (.cells #[.slice (some ⟨gr2, 0, none⟩) n cr2, .int .i64 H2, .int .i64 t1, .int .i64 t2, .int .i64 r3, .int .i64 r4, .bool false] 27))) := Lib.hid ((Below.refl _ _).alloc (Nat.le_refl _) _)
    have B6 := Lib.hid (b_next B5.out C6.out)
    have O6 := Lib.hid (cells_keep14 O5.out C6.out)
    have P6 := Lib.hid (cells_keep14 P5.out C6.out)
    have X6 := Lib.hid (X5.out.keep C6.out)
    clear C6 B5 O5 P5 X5 KB2 B4 O4 X4
    generalize w5.alloc (.cells #[.slice (some ⟨gr2, 0, none⟩) n cr2, .int .i64 H2, .int .i64 t1, .int .i64 t2, .int .i64 r3, .int .i64 r4, .bool false] 27) = w6 at Y6 B6 O6 P6 X6 ⊢
    generalize w5.heap.size = g2 at Y6 ⊢
    go_upto_region 11 with (go_at_call 10; (with_reducible refine (KB3.out _ (HV.out.keep B6.out)).mono ?_); rintro e w7 ⟨vA, rfl, hO, hb⟩; obtain ⟨gr3, cr3, er3, -, -, hcr3⟩ := own_cell14 hO (by intro e; have := AL.out; rw [e] at this; simp at this; omega); rw [AL.out] at er3; subst er3; have Q7 := Lib.hid hcr3; have O7 := Lib.hid (cells_keep14 O6.out hb); have P7 := Lib.hid (cells_keep14 P6.out hb); have X7 := Lib.hid (X6.out.keep hb); have Y7 := Lib.hid (Y6.out.keep hb); have B7 := Lib.hid (b_next B6.out hb); clear hO hb hcr3)
    have Z8 : Hid (SkAt (w7.alloc (.cells #[.slice (some ⟨gr3, 0, none⟩) n cr3, .int .i64 H3, .int .i64 m5, .int .i64 m6, .int .i64 s1, .int .i64 s2, .bool false] 27)) w7.heap.size (.slice (some ⟨gr3, 0, none⟩) n cr3) ⟨P, H3, (m5, m6), (s1, s2), false⟩) := Lib.hid (SkAt.new w7 (.slice (some ⟨gr3, 0, none⟩) n cr3) ⟨P, H3, (m5, m6), (s1, s2), false⟩)
    have C8 : Hid (Below w7.heap.size w7 (w7.alloc (.cells #[.slice (some ⟨gr3, 0, none⟩) n cr3, .int .i64 H3, .int .i64 m5, .int .i64 m6, .int .i64 s1, .int .i64 s2, .bool false] 27))) := Lib.hid ((Below.refl _ _).alloc (Nat.le_refl _) _)
    have B8 := Lib.hid (b_next B7.out C8.out)
    have D8 := Lib.hid (Open3.mk (X7.out.keep C8.out) (Y7.out.keep C8.out) Z8.out (cells_keep14 O7.out C8.out) (cells_keep14 P7.out C8.out) (cells_keep14 Q7.out C8.out))
    clear C8 B7 O7 P7 Q7 X7 Y7 Z8 KB3 B6 O6 P6 X6 Y6
    generalize w7.alloc (.cells #[.slice (some ⟨gr3, 0, none⟩) n cr3, .int .i64 H3, .int .i64 m5, .int .i64 m6, .int .i64 s1, .int .i64 s2, .bool false] 27) = w8 at D8 B8 ⊢
    generalize w7.heap.size = g3 at D8 ⊢
    have nn : ((n : Int) != n) = (!true) := by simp
    have CL := Lib.hid (fun i (hi : i < n) => KdIn.later (HV.out.keep B8.out) (k := i) (by have := HL.out; omega))
    clear HV a5 kk hz0 hz1 wi
    obtain ⟨j, hj⟩ : ∃ j, k = j := ⟨_, rfl⟩
    subst hj
    obtain ⟨x0, -⟩ := D8.out.a.cells
    obtain ⟨y0, -⟩ := D8.out.b.cells
    obtain ⟨z0, -⟩ := D8.out.c.cells
    go_upto_region 13 with fail
    clear x0 y0 z0
    go_wp2_with fail
    go_loopg [10] n (fun g' vi wr => ∃ i : Nat, vi = .int .i64 i ∧ i ≤ n ∧ n - i ≤ g' ∧ Hid (Below w8.heap.size w8 wr))
    case atStart => exact ⟨0, rfl, by omega, by omega, Lib.hid (Below.refl _ _)⟩
    case round =>
      obtain ⟨i, rfl, hi, hg2, HB⟩ := hrel
      obtain ⟨wo, hwo⟩ : ∃ wo, wo = wr := ⟨_, rfl⟩
      subst hwo
      have HS : Hid (∀ W, Below wo.heap.size wo W → Below w8.heap.size w8 W) := Lib.hid (fun W hW => HB.out.trans (hW.mono HB.out.size))
      by_cases hlt2 : i < n
      · have hz1 : (i : Int) < n := by omega
        have hz0 : (0 : Int) ≤ i := by omega
        have wi : IntKind.i64.wrap ((i : Int) + 1) = (i : Int) + 1 := IntWalk.i64_in _ (by omega)
        obtain ⟨y, z, h1, h2, h3, h4, -⟩ := OP.out i hlt2
        have CT : Hid (∀ W, Below wo.heap.size wo W → (W.cell? ⟨g1, 0, none⟩ = some (.slice (some ⟨gr1, 0, none⟩) n cr1) ∧ W.cell? ⟨g2, 0, none⟩ = some (.slice (some ⟨gr2, 0, none⟩) n cr2) ∧ W.cell? ⟨g3, 0, none⟩ = some (.slice (some ⟨gr3, 0, none⟩) n cr3)) ∧ (W.cell? ⟨g2, 2, none⟩ = some (.int .i64 t1) ∧ W.cell? ⟨g2, 3, none⟩ = some (.int .i64 t2)) ∧ W.cell? ⟨gr1, i, none⟩ = some (.int .i64 y) ∧ W.cell? ⟨gr2, i, none⟩ = some (.int .i64 z) ∧ W.cell? ⟨gr3, i, none⟩ = some (.int .i64 y)) := Lib.hid (fun W hW => by
          have d := D8.out.keep (HS.out W hW)
          exact ⟨⟨d.a.cells.1, d.b.cells.1, d.c.cells.1⟩, ⟨d.b.cells.2.2.1, d.b.cells.2.2.2.1⟩, d.p i y h1, d.q i z h2, d.r i y h1⟩)
        have yy : (y != y) = (!true) := by simp
        have HY : Hid (-1099511627776 ≤ y ∧ y ≤ 1099511627776) := Lib.hid (YB.out y (List.mem_of_getElem? h1))
        go_upto_region 16 with fail
        by_cases hj1 : i < k
        · obtain rfl : z = 0 := h3 hj1
          have hd1 : decide ((i : Int) < k) = true := decide_eq_true (by omega)
          have hd2 : decide ((k : Int) ≤ i) = false := decide_eq_false (by omega)
          clear h1 h2 h3 h4
          refine' wp_region_below [opV _, opV _, opV _, opV _, opV _, opV _, opV _, opV _, opV _, opV _, opV _, opV _, opV _, opV _, opV _, opV _, opV _, opV _, opV _, opV _, opV _, opV _, opV _, opV _, opV _, opV _, opV _, opV _, opV _, opV _, opV _, opV _, opV _, opV _, opV _, opV _, opV _, opV _, opV _, opV _, opV _, opV _, opV _, opV _, opV _, opV _] rfl (by kernel_rfl) ⟨?s0, ?s1, ?s2, ?s3, ?s4, ?s5, ?s6, ?s7, ?s8, ?s9, ?s10, ?s11, ?s12, ?s13, ?s14, ?s15, ?s16, ?s17, ?s18, ?s19, ?s20, ?s21, ?s22, ?s23, ?s24, ?s25, ?s26, ?s27, ?s28, ?s29, ?s30, ?s31, ?s32, ?s33, ?s34, ?s35, ?s36, ?s37, ?s38, ?s39, ?s40, ?s41, ?s42, ?s43, ?s44, ?s45, trivial⟩ ?fin
          case s0 =>
            refine BStep.of [] [] (opV _) (by kernel_rfl) (fun _ _ => by kernel_rfl) rfl ?_
            intro vs wv hB hA
            clear hA
            simp only [fillP]
            have ct := CT.out wv hB; have c1 := ct.1.1; have c2 := ct.1.2.1; have c3 := ct.1.2.2; have c4 := ct.2.1.1; have c5 := ct.2.1.2; have c6 := ct.2.2.1; have c7 := ct.2.2.2.1; have c8 := ct.2.2.2.2; clear ct; go_wp2_with fail
            refine postB_val ?_ (Below.refl _ _)
            simp only [List.getElem?_cons_succ, List.getElem?_cons_zero]
            rfl
          case s1 =>
            refine BStep.of [0] [(93, 0)] (opV _) (by kernel_rfl) (fun _ _ => by kernel_rfl) rfl ?_
            intro vs wv hB hA
            have h0 : vs 0 = _ := hA.1
            clear hA
            simp only [fillP, List.setIfInBounds_toArray, List.set_cons_zero, List.set_cons_succ, h0]
            have ct := CT.out wv hB; have c1 := ct.1.1; have c2 := ct.1.2.1; have c3 := ct.1.2.2; have c4 := ct.2.1.1; have c5 := ct.2.1.2; have c6 := ct.2.2.1; have c7 := ct.2.2.2.1; have c8 := ct.2.2.2.2; clear ct; go_wp2_with fail
            refine postB_val ?_ (Below.refl _ _)
            simp only [List.getElem?_cons_succ, List.getElem?_cons_zero]
            rfl
          case s2 =>
            refine BStep.of [] [] (opV _) (by kernel_rfl) (fun _ _ => by kernel_rfl) rfl ?_
            intro vs wv hB hA
            clear hA
            simp only [fillP]
            have ct := CT.out wv hB; have c1 := ct.1.1; have c2 := ct.1.2.1; have c3 := ct.1.2.2; have c4 := ct.2.1.1; have c5 := ct.2.1.2; have c6 := ct.2.2.1; have c7 := ct.2.2.2.1; have c8 := ct.2.2.2.2; clear ct; go_wp2_with fail
            refine postB_val ?_ (Below.refl _ _)
            simp only [List.getElem?_cons_succ, List.getElem?_cons_zero]
            rfl
          case s3 =>
            refine BStep.of [1, 2] [(94, 1), (95, 2)] (opV _) (by kernel_rfl) (fun _ _ => by kernel_rfl) rfl ?_
            intro vs wv hB hA
            have h1 : vs 1 = _ := hA.1
            have h2 : vs 2 = _ := hA.2.1
            clear hA
            simp only [fillP, List.setIfInBounds_toArray, List.set_cons_zero, List.set_cons_succ, h1, h2]
            have ct := CT.out wv hB; have c1 := ct.1.1; have c2 := ct.1.2.1; have c3 := ct.1.2.2; have c4 := ct.2.1.1; have c5 := ct.2.1.2; have c6 := ct.2.2.1; have c7 := ct.2.2.2.1; have c8 := ct.2.2.2.2; clear ct; go_wp2_with fail
            refine postB_val ?_ (Below.refl _ _)
            simp only [List.getElem?_cons_succ, List.getElem?_cons_zero]
            rfl
          case s4 =>
            refine BStep.of [3] [(96, 3)] (opV _) (by kernel_rfl) (fun _ _ => by kernel_rfl) rfl ?_
            intro vs wv hB hA
            have h3 : vs 3 = _ := hA.1
            clear hA
            simp only [fillP, List.setIfInBounds_toArray, List.set_cons_zero, List.set_cons_succ, h3]
            have ct := CT.out wv hB; have c1 := ct.1.1; have c2 := ct.1.2.1; have c3 := ct.1.2.2; have c4 := ct.2.1.1; have c5 := ct.2.1.2; have c6 := ct.2.2.1; have c7 := ct.2.2.2.1; have c8 := ct.2.2.2.2; clear ct; go_wp2_with fail
            refine postB_val ?_ (Below.refl _ _)
            simp only [List.getElem?_cons_succ, List.getElem?_cons_zero]
            rfl
          case s5 =>
            refine BStep.of [] [] (opV _) (by kernel_rfl) (fun _ _ => by kernel_rfl) rfl ?_
            intro vs wv hB hA
            clear hA
            simp only [fillP]
            have ct := CT.out wv hB; have c1 := ct.1.1; have c2 := ct.1.2.1; have c3 := ct.1.2.2; have c4 := ct.2.1.1; have c5 := ct.2.1.2; have c6 := ct.2.2.1; have c7 := ct.2.2.2.1; have c8 := ct.2.2.2.2; clear ct; go_wp2_with fail
            refine postB_val ?_ (Below.refl _ _)
            simp only [List.getElem?_cons_succ, List.getElem?_cons_zero]
            rfl
          case s6 =>
            refine BStep.of [5] [(98, 5)] (opV _) (by kernel_rfl) (fun _ _ => by kernel_rfl) rfl ?_
            intro vs wv hB hA
            have h5 : vs 5 = _ := hA.1
            clear hA
            simp only [fillP, List.setIfInBounds_toArray, List.set_cons_zero, List.set_cons_succ, h5]
            have ct := CT.out wv hB; have c1 := ct.1.1; have c2 := ct.1.2.1; have c3 := ct.1.2.2; have c4 := ct.2.1.1; have c5 := ct.2.1.2; have c6 := ct.2.2.1; have c7 := ct.2.2.2.1; have c8 := ct.2.2.2.2; clear ct; go_wp2_with fail
            refine postB_val ?_ (Below.refl _ _)
            simp only [List.getElem?_cons_succ, List.getElem?_cons_zero]
            rfl
          case s7 =>
            refine BStep.of [] [] (opV _) (by kernel_rfl) (fun _ _ => by kernel_rfl) rfl ?_
            intro vs wv hB hA
            clear hA
            simp only [fillP]
            have ct := CT.out wv hB; have c1 := ct.1.1; have c2 := ct.1.2.1; have c3 := ct.1.2.2; have c4 := ct.2.1.1; have c5 := ct.2.1.2; have c6 := ct.2.2.1; have c7 := ct.2.2.2.1; have c8 := ct.2.2.2.2; clear ct; go_wp2_with fail
            refine postB_val ?_ (Below.refl _ _)
            simp only [List.getElem?_cons_succ, List.getElem?_cons_zero]
            rfl
          case s8 =>
            refine BStep.of [6, 7] [(99, 6), (100, 7)] (opV _) (by kernel_rfl) (fun _ _ => by kernel_rfl) rfl ?_
            intro vs wv hB hA
            have h6 : vs 6 = _ := hA.1
            have h7 : vs 7 = _ := hA.2.1
            clear hA
            simp only [fillP, List.setIfInBounds_toArray, List.set_cons_zero, List.set_cons_succ, h6, h7]
            have ct := CT.out wv hB; have c1 := ct.1.1; have c2 := ct.1.2.1; have c3 := ct.1.2.2; have c4 := ct.2.1.1; have c5 := ct.2.1.2; have c6 := ct.2.2.1; have c7 := ct.2.2.2.1; have c8 := ct.2.2.2.2; clear ct; go_wp2_with fail
            refine postB_val ?_ (Below.refl _ _)
            simp only [List.getElem?_cons_succ, List.getElem?_cons_zero]
            rfl
          case s9 =>
            refine BStep.of [8] [(101, 8)] (opV _) (by kernel_rfl) (fun _ _ => by kernel_rfl) rfl ?_
            intro vs wv hB hA
            have h8 : vs 8 = _ := hA.1
            clear hA
            simp only [fillP, List.setIfInBounds_toArray, List.set_cons_zero, List.set_cons_succ, h8]
            have ct := CT.out wv hB; have c1 := ct.1.1; have c2 := ct.1.2.1; have c3 := ct.1.2.2; have c4 := ct.2.1.1; have c5 := ct.2.1.2; have c6 := ct.2.2.1; have c7 := ct.2.2.2.1; have c8 := ct.2.2.2.2; clear ct; go_wp2_with fail
            refine postB_val ?_ (Below.refl _ _)
            simp only [List.getElem?_cons_succ, List.getElem?_cons_zero]
            rfl
          case s10 =>
            refine BStep.of [4, 9] [(97, 4), (102, 9)] (opV _) (by kernel_rfl) (fun _ _ => by kernel_rfl) rfl ?_
            intro vs wv hB hA
            have h4 : vs 4 = _ := hA.1
            have h9 : vs 9 = _ := hA.2.1
            clear hA
            simp only [fillP, List.setIfInBounds_toArray, List.set_cons_zero, List.set_cons_succ, h4, h9]
            have ct := CT.out wv hB; have c1 := ct.1.1; have c2 := ct.1.2.1; have c3 := ct.1.2.2; have c4 := ct.2.1.1; have c5 := ct.2.1.2; have c6 := ct.2.2.1; have c7 := ct.2.2.2.1; have c8 := ct.2.2.2.2; clear ct; go_wp2_with fail
            refine postB_val ?_ (Below.refl _ _)
            simp only [List.getElem?_cons_succ, List.getElem?_cons_zero]
            rfl
          case s11 =>
            refine BStep.of [10] [(103, 10)] (opV _) (by kernel_rfl) (fun _ _ => by kernel_rfl) rfl ?_
            intro vs wv hB hA
            have h10 : vs 10 = _ := hA.1
            clear hA
            simp only [fillP, List.setIfInBounds_toArray, List.set_cons_zero, List.set_cons_succ, h10]
            have ct := CT.out wv hB; have c1 := ct.1.1; have c2 := ct.1.2.1; have c3 := ct.1.2.2; have c4 := ct.2.1.1; have c5 := ct.2.1.2; have c6 := ct.2.2.1; have c7 := ct.2.2.2.1; have c8 := ct.2.2.2.2; clear ct; go_wp2_with fail
            refine postB_val ?_ (Below.refl _ _)
            simp only [List.getElem?_cons_succ, List.getElem?_cons_zero]
            rfl
          case s12 =>
            refine BStep.of [11] [(104, 11)] (opV _) (by kernel_rfl) (fun _ _ => by kernel_rfl) rfl ?_
            intro vs wv hB hA
            have h11 : vs 11 = _ := hA.1
            clear hA
            simp only [fillP, List.setIfInBounds_toArray, List.set_cons_zero, List.set_cons_succ, h11]
            have ct := CT.out wv hB; have c1 := ct.1.1; have c2 := ct.1.2.1; have c3 := ct.1.2.2; have c4 := ct.2.1.1; have c5 := ct.2.1.2; have c6 := ct.2.2.1; have c7 := ct.2.2.2.1; have c8 := ct.2.2.2.2; clear ct; go_wp2_with fail
            refine postB_val ?_ (Below.refl _ _)
            simp only [List.getElem?_cons_succ, List.getElem?_cons_zero]
            rfl
          case s13 =>
            refine BStep.of [11] [(104, 11)] (opV _) (by kernel_rfl) (fun _ _ => by kernel_rfl) rfl ?_
            intro vs wv hB hA
            have h11 : vs 11 = _ := hA.1
            clear hA
            simp only [fillP, List.setIfInBounds_toArray, List.set_cons_zero, List.set_cons_succ, h11]
            have ct := CT.out wv hB; have c1 := ct.1.1; have c2 := ct.1.2.1; have c3 := ct.1.2.2; have c4 := ct.2.1.1; have c5 := ct.2.1.2; have c6 := ct.2.2.1; have c7 := ct.2.2.2.1; have c8 := ct.2.2.2.2; clear ct; go_wp2_with fail
            refine postB_val ?_ (Below.refl _ _)
            simp only [List.getElem?_cons_succ, List.getElem?_cons_zero]
            rfl
          case s14 =>
            refine BStep.of [11, 12, 13] [(104, 11), (105, 12), (106, 13)] (opV _) (by kernel_rfl) (fun _ _ => by kernel_rfl) rfl ?_
            intro vs wv hB hA
            have h11 : vs 11 = _ := hA.1
            have h12 : vs 12 = _ := hA.2.1
            have h13 : vs 13 = _ := hA.2.2.1
            clear hA
            simp only [fillP, List.setIfInBounds_toArray, List.set_cons_zero, List.set_cons_succ, h11, h12, h13]
            have ct := CT.out wv hB; have c1 := ct.1.1; have c2 := ct.1.2.1; have c3 := ct.1.2.2; have c4 := ct.2.1.1; have c5 := ct.2.1.2; have c6 := ct.2.2.1; have c7 := ct.2.2.2.1; have c8 := ct.2.2.2.2; clear ct; go_wp2_with fail
            refine postB_val ?_ (Below.refl _ _)
            simp only [List.getElem?_cons_succ, List.getElem?_cons_zero]
            rfl
          case s15 =>
            refine BStep.of [11, 14] [(104, 11), (107, 14)] (opV _) (by kernel_rfl) (fun _ _ => by kernel_rfl) rfl ?_
            intro vs wv hB hA
            have h11 : vs 11 = _ := hA.1
            have h14 : vs 14 = _ := hA.2.1
            clear hA
            simp only [fillP, List.setIfInBounds_toArray, List.set_cons_zero, List.set_cons_succ, h11, h14]
            have ct := CT.out wv hB; have c1 := ct.1.1; have c2 := ct.1.2.1; have c3 := ct.1.2.2; have c4 := ct.2.1.1; have c5 := ct.2.1.2; have c6 := ct.2.2.1; have c7 := ct.2.2.2.1; have c8 := ct.2.2.2.2; clear ct; go_wp2_with fail
            refine postB_val ?_ (Below.refl _ _)
            simp only [List.getElem?_cons_succ, List.getElem?_cons_zero]
            rfl
          case s16 =>
            refine BStep.of [15] [(108, 15)] (opV _) (by kernel_rfl) (fun _ _ => by kernel_rfl) rfl ?_
            intro vs wv hB hA
            have h15 : vs 15 = _ := hA.1
            clear hA
            simp only [fillP, List.setIfInBounds_toArray, List.set_cons_zero, List.set_cons_succ, h15]
            have ct := CT.out wv hB; have c1 := ct.1.1; have c2 := ct.1.2.1; have c3 := ct.1.2.2; have c4 := ct.2.1.1; have c5 := ct.2.1.2; have c6 := ct.2.2.1; have c7 := ct.2.2.2.1; have c8 := ct.2.2.2.2; clear ct; go_wp2_with fail
            refine postB_val ?_ (Below.refl _ _)
            simp only [List.getElem?_cons_succ, List.getElem?_cons_zero]
            rfl
          case s17 =>
            refine BStep.of [15, 16] [(108, 15), (109, 16)] (opV _) (by kernel_rfl) (fun _ _ => by kernel_rfl) rfl ?_
            intro vs wv hB hA
            have h15 : vs 15 = _ := hA.1
            have h16 : vs 16 = _ := hA.2.1
            clear hA
            simp only [fillP, List.setIfInBounds_toArray, List.set_cons_zero, List.set_cons_succ, h15, h16]
            have ct := CT.out wv hB; have c1 := ct.1.1; have c2 := ct.1.2.1; have c3 := ct.1.2.2; have c4 := ct.2.1.1; have c5 := ct.2.1.2; have c6 := ct.2.2.1; have c7 := ct.2.2.2.1; have c8 := ct.2.2.2.2; clear ct; go_wp2_with fail
            refine postB_val ?_ (Below.refl _ _)
            simp only [List.getElem?_cons_succ, List.getElem?_cons_zero]
            rfl
          case s18 =>
            refine BStep.of [15] [(108, 15)] (opV _) (by kernel_rfl) (fun _ _ => by kernel_rfl) rfl ?_
            intro vs wv hB hA
            have h15 : vs 15 = _ := hA.1
            clear hA
            simp only [fillP, List.setIfInBounds_toArray, List.set_cons_zero, List.set_cons_succ, h15]
            have ct := CT.out wv hB; have c1 := ct.1.1; have c2 := ct.1.2.1; have c3 := ct.1.2.2; have c4 := ct.2.1.1; have c5 := ct.2.1.2; have c6 := ct.2.2.1; have c7 := ct.2.2.2.1; have c8 := ct.2.2.2.2; clear ct; go_wp2_with fail
            refine postB_val ?_ (Below.refl _ _)
            simp only [List.getElem?_cons_succ, List.getElem?_cons_zero]
            rfl
          case s19 =>
            refine BStep.of [15, 17, 18] [(108, 15), (110, 17), (111, 18)] (opV _) (by kernel_rfl) (fun _ _ => by kernel_rfl) rfl ?_
            intro vs wv hB hA
            have h15 : vs 15 = _ := hA.1
            have h17 : vs 17 = _ := hA.2.1
            have h18 : vs 18 = _ := hA.2.2.1
            clear hA
            simp only [fillP, List.setIfInBounds_toArray, List.set_cons_zero, List.set_cons_succ, h15, h17, h18]
            have ct := CT.out wv hB; have c1 := ct.1.1; have c2 := ct.1.2.1; have c3 := ct.1.2.2; have c4 := ct.2.1.1; have c5 := ct.2.1.2; have c6 := ct.2.2.1; have c7 := ct.2.2.2.1; have c8 := ct.2.2.2.2; clear ct; go_wp2_with fail
            refine postB_val ?_ (Below.refl _ _)
            simp only [List.getElem?_cons_succ, List.getElem?_cons_zero]
            rfl
          case s20 =>
            refine BStep.of [15, 19] [(108, 15), (112, 19)] (opV _) (by kernel_rfl) (fun _ _ => by kernel_rfl) rfl ?_
            intro vs wv hB hA
            have h15 : vs 15 = _ := hA.1
            have h19 : vs 19 = _ := hA.2.1
            clear hA
            simp only [fillP, List.setIfInBounds_toArray, List.set_cons_zero, List.set_cons_succ, h15, h19]
            have ct := CT.out wv hB; have c1 := ct.1.1; have c2 := ct.1.2.1; have c3 := ct.1.2.2; have c4 := ct.2.1.1; have c5 := ct.2.1.2; have c6 := ct.2.2.1; have c7 := ct.2.2.2.1; have c8 := ct.2.2.2.2; clear ct; go_wp2_with fail
            refine postB_val ?_ (Below.refl _ _)
            simp only [List.getElem?_cons_succ, List.getElem?_cons_zero]
            rfl
          case s21 =>
            refine BStep.of [15] [(108, 15)] (opV _) (by kernel_rfl) (fun _ _ => by kernel_rfl) rfl ?_
            intro vs wv hB hA
            have h15 : vs 15 = _ := hA.1
            clear hA
            simp only [fillP, List.setIfInBounds_toArray, List.set_cons_zero, List.set_cons_succ, h15]
            have ct := CT.out wv hB; have c1 := ct.1.1; have c2 := ct.1.2.1; have c3 := ct.1.2.2; have c4 := ct.2.1.1; have c5 := ct.2.1.2; have c6 := ct.2.2.1; have c7 := ct.2.2.2.1; have c8 := ct.2.2.2.2; clear ct; go_wp2_with fail
            refine postB_val ?_ (Below.refl _ _)
            simp only [List.getElem?_cons_succ, List.getElem?_cons_zero]
            rfl
          case s22 =>
            refine BStep.of [15, 21] [(108, 15), (114, 21)] (opV _) (by kernel_rfl) (fun _ _ => by kernel_rfl) rfl ?_
            intro vs wv hB hA
            have h15 : vs 15 = _ := hA.1
            have h21 : vs 21 = _ := hA.2.1
            clear hA
            simp only [fillP, List.setIfInBounds_toArray, List.set_cons_zero, List.set_cons_succ, h15, h21]
            have ct := CT.out wv hB; have c1 := ct.1.1; have c2 := ct.1.2.1; have c3 := ct.1.2.2; have c4 := ct.2.1.1; have c5 := ct.2.1.2; have c6 := ct.2.2.1; have c7 := ct.2.2.2.1; have c8 := ct.2.2.2.2; clear ct; go_wp2_with fail
            refine postB_val ?_ (Below.refl _ _)
            simp only [List.getElem?_cons_succ, List.getElem?_cons_zero]
            rfl
          case s23 =>
            refine BStep.of [15] [(108, 15)] (opV _) (by kernel_rfl) (fun _ _ => by kernel_rfl) rfl ?_
            intro vs wv hB hA
            have h15 : vs 15 = _ := hA.1
            clear hA
            simp only [fillP, List.setIfInBounds_toArray, List.set_cons_zero, List.set_cons_succ, h15]
            have ct := CT.out wv hB; have c1 := ct.1.1; have c2 := ct.1.2.1; have c3 := ct.1.2.2; have c4 := ct.2.1.1; have c5 := ct.2.1.2; have c6 := ct.2.2.1; have c7 := ct.2.2.2.1; have c8 := ct.2.2.2.2; clear ct; go_wp2_with fail
            refine postB_val ?_ (Below.refl _ _)
            simp only [List.getElem?_cons_succ, List.getElem?_cons_zero]
            rfl
          case s24 =>
            refine BStep.of [15, 22, 23] [(108, 15), (115, 22), (116, 23)] (opV _) (by kernel_rfl) (fun _ _ => by kernel_rfl) rfl ?_
            intro vs wv hB hA
            have h15 : vs 15 = _ := hA.1
            have h22 : vs 22 = _ := hA.2.1
            have h23 : vs 23 = _ := hA.2.2.1
            clear hA
            simp only [fillP, List.setIfInBounds_toArray, List.set_cons_zero, List.set_cons_succ, h15, h22, h23]
            have ct := CT.out wv hB; have c1 := ct.1.1; have c2 := ct.1.2.1; have c3 := ct.1.2.2; have c4 := ct.2.1.1; have c5 := ct.2.1.2; have c6 := ct.2.2.1; have c7 := ct.2.2.2.1; have c8 := ct.2.2.2.2; clear ct; go_wp2_with fail
            refine postB_val ?_ (Below.refl _ _)
            simp only [List.getElem?_cons_succ, List.getElem?_cons_zero]
            rfl
          case s25 =>
            refine BStep.of [15, 24] [(108, 15), (117, 24)] (opV _) (by kernel_rfl) (fun _ _ => by kernel_rfl) rfl ?_
            intro vs wv hB hA
            have h15 : vs 15 = _ := hA.1
            have h24 : vs 24 = _ := hA.2.1
            clear hA
            simp only [fillP, List.setIfInBounds_toArray, List.set_cons_zero, List.set_cons_succ, h15, h24]
            have ct := CT.out wv hB; have c1 := ct.1.1; have c2 := ct.1.2.1; have c3 := ct.1.2.2; have c4 := ct.2.1.1; have c5 := ct.2.1.2; have c6 := ct.2.2.1; have c7 := ct.2.2.2.1; have c8 := ct.2.2.2.2; clear ct; go_wp2_with fail
            refine postB_val ?_ (Below.refl _ _)
            simp only [List.getElem?_cons_succ, List.getElem?_cons_zero]
            rfl
          case s26 =>
            refine BStep.of [15] [(108, 15)] (opV _) (by kernel_rfl) (fun _ _ => by kernel_rfl) rfl ?_
            intro vs wv hB hA
            have h15 : vs 15 = _ := hA.1
            clear hA
            simp only [fillP, List.setIfInBounds_toArray, List.set_cons_zero, List.set_cons_succ, h15]
            have ct := CT.out wv hB; have c1 := ct.1.1; have c2 := ct.1.2.1; have c3 := ct.1.2.2; have c4 := ct.2.1.1; have c5 := ct.2.1.2; have c6 := ct.2.2.1; have c7 := ct.2.2.2.1; have c8 := ct.2.2.2.2; clear ct; go_wp2_with fail
            refine postB_val ?_ (Below.refl _ _)
            simp only [List.getElem?_cons_succ, List.getElem?_cons_zero]
            rfl
          case s27 =>
            refine BStep.of [15, 26] [(108, 15), (119, 26)] (opV _) (by kernel_rfl) (fun _ _ => by kernel_rfl) rfl ?_
            intro vs wv hB hA
            have h15 : vs 15 = _ := hA.1
            have h26 : vs 26 = _ := hA.2.1
            clear hA
            simp only [fillP, List.setIfInBounds_toArray, List.set_cons_zero, List.set_cons_succ, h15, h26]
            have ct := CT.out wv hB; have c1 := ct.1.1; have c2 := ct.1.2.1; have c3 := ct.1.2.2; have c4 := ct.2.1.1; have c5 := ct.2.1.2; have c6 := ct.2.2.1; have c7 := ct.2.2.2.1; have c8 := ct.2.2.2.2; clear ct; go_wp2_with fail
            refine postB_val ?_ (Below.refl _ _)
            simp only [List.getElem?_cons_succ, List.getElem?_cons_zero]
            rfl
          case s28 =>
            refine BStep.of [15, 27] [(108, 15), (120, 27)] (opV _) (by kernel_rfl) (fun _ _ => by kernel_rfl) rfl ?_
            intro vs wv hB hA
            have h15 : vs 15 = _ := hA.1
            have h27 : vs 27 = _ := hA.2.1
            clear hA
            simp only [fillP, List.setIfInBounds_toArray, List.set_cons_zero, List.set_cons_succ, h15, h27]
            have ct := CT.out wv hB; have c1 := ct.1.1; have c2 := ct.1.2.1; have c3 := ct.1.2.2; have c4 := ct.2.1.1; have c5 := ct.2.1.2; have c6 := ct.2.2.1; have c7 := ct.2.2.2.1; have c8 := ct.2.2.2.2; clear ct; go_wp2_with fail
            refine postB_val ?_ (Below.refl _ _)
            simp only [List.getElem?_cons_succ, List.getElem?_cons_zero]
            rfl
          case s29 =>
            refine BStep.of [15, 25, 28] [(108, 15), (118, 25), (121, 28)] (opV _) (by kernel_rfl) (fun _ _ => by kernel_rfl) rfl ?_
            intro vs wv hB hA
            have h15 : vs 15 = _ := hA.1
            have h25 : vs 25 = _ := hA.2.1
            have h28 : vs 28 = _ := hA.2.2.1
            clear hA
            simp only [fillP, List.setIfInBounds_toArray, List.set_cons_zero, List.set_cons_succ, h15, h25, h28]
            have ct := CT.out wv hB; have c1 := ct.1.1; have c2 := ct.1.2.1; have c3 := ct.1.2.2; have c4 := ct.2.1.1; have c5 := ct.2.1.2; have c6 := ct.2.2.1; have c7 := ct.2.2.2.1; have c8 := ct.2.2.2.2; clear ct; go_wp2_with fail
            refine postB_val ?_ (Below.refl _ _)
            simp only [List.getElem?_cons_succ, List.getElem?_cons_zero]
            rfl
          case s30 =>
            refine BStep.of [15, 20, 29] [(108, 15), (113, 20), (122, 29)] (opV _) (by kernel_rfl) (fun _ _ => by kernel_rfl) rfl ?_
            intro vs wv hB hA
            have h15 : vs 15 = _ := hA.1
            have h20 : vs 20 = _ := hA.2.1
            have h29 : vs 29 = _ := hA.2.2.1
            clear hA
            simp only [fillP, List.setIfInBounds_toArray, List.set_cons_zero, List.set_cons_succ, h15, h20, h29]
            have ct := CT.out wv hB; have c1 := ct.1.1; have c2 := ct.1.2.1; have c3 := ct.1.2.2; have c4 := ct.2.1.1; have c5 := ct.2.1.2; have c6 := ct.2.2.1; have c7 := ct.2.2.2.1; have c8 := ct.2.2.2.2; clear ct; go_wp2_with fail
            refine postB_val ?_ (Below.refl _ _)
            simp only [List.getElem?_cons_succ, List.getElem?_cons_zero]
            rfl
          case s31 =>
            refine BStep.of [11, 15, 30] [(104, 11), (108, 15), (123, 30)] (opV _) (by kernel_rfl) (fun _ _ => by kernel_rfl) rfl ?_
            intro vs wv hB hA
            have h11 : vs 11 = _ := hA.1
            have h15 : vs 15 = _ := hA.2.1
            have h30 : vs 30 = _ := hA.2.2.1
            clear hA
            simp only [fillP, List.setIfInBounds_toArray, List.set_cons_zero, List.set_cons_succ, h11, h15, h30]
            have ct := CT.out wv hB; have c1 := ct.1.1; have c2 := ct.1.2.1; have c3 := ct.1.2.2; have c4 := ct.2.1.1; have c5 := ct.2.1.2; have c6 := ct.2.2.1; have c7 := ct.2.2.2.1; have c8 := ct.2.2.2.2; clear ct; go_wp2_with fail
            refine postB_val ?_ (Below.refl _ _)
            simp only [List.getElem?_cons_succ, List.getElem?_cons_zero]
            rfl
          case s32 =>
            refine BStep.of [11, 31] [(104, 11), (124, 31)] (opV _) (by kernel_rfl) (fun _ _ => by kernel_rfl) rfl ?_
            intro vs wv hB hA
            have h11 : vs 11 = _ := hA.1
            have h31 : vs 31 = _ := hA.2.1
            clear hA
            simp only [fillP, List.setIfInBounds_toArray, List.set_cons_zero, List.set_cons_succ, h11, h31]
            have ct := CT.out wv hB; have c1 := ct.1.1; have c2 := ct.1.2.1; have c3 := ct.1.2.2; have c4 := ct.2.1.1; have c5 := ct.2.1.2; have c6 := ct.2.2.1; have c7 := ct.2.2.2.1; have c8 := ct.2.2.2.2; clear ct; go_wp2_with fail
            refine postB_val ?_ (Below.refl _ _)
            simp only [List.getElem?_cons_succ, List.getElem?_cons_zero]
            rfl
          case s33 =>
            refine BStep.of [28, 32] [(121, 28), (125, 32)] (opV _) (by kernel_rfl) (fun _ _ => by kernel_rfl) rfl ?_
            intro vs wv hB hA
            have h28 : vs 28 = _ := hA.1
            have h32 : vs 32 = _ := hA.2.1
            clear hA
            simp only [fillP, List.setIfInBounds_toArray, List.set_cons_zero, List.set_cons_succ, h28, h32]
            have ct := CT.out wv hB; have c1 := ct.1.1; have c2 := ct.1.2.1; have c3 := ct.1.2.2; have c4 := ct.2.1.1; have c5 := ct.2.1.2; have c6 := ct.2.2.1; have c7 := ct.2.2.2.1; have c8 := ct.2.2.2.2; clear ct; go_wp2_with fail
            refine postB_val ?_ (Below.refl _ _)
            simp only [List.getElem?_cons_succ, List.getElem?_cons_zero]
            rfl
          case s34 =>
            refine BStep.of [33] [(126, 33)] (opV _) (by kernel_rfl) (fun _ _ => by kernel_rfl) rfl ?_
            intro vs wv hB hA
            have h33 : vs 33 = _ := hA.1
            clear hA
            simp only [fillP, List.setIfInBounds_toArray, List.set_cons_zero, List.set_cons_succ, h33]
            have ct := CT.out wv hB; have c1 := ct.1.1; have c2 := ct.1.2.1; have c3 := ct.1.2.2; have c4 := ct.2.1.1; have c5 := ct.2.1.2; have c6 := ct.2.2.1; have c7 := ct.2.2.2.1; have c8 := ct.2.2.2.2; clear ct; go_wp2_with fail
            refine postB_val ?_ (Below.refl _ _)
            simp only [List.getElem?_cons_succ, List.getElem?_cons_zero]
            rfl
          case s35 =>
            refine BStep.of [33] [(126, 33)] (opV _) (by kernel_rfl) (fun _ _ => by kernel_rfl) rfl ?_
            intro vs wv hB hA
            have h33 : vs 33 = _ := hA.1
            clear hA
            simp only [fillP, List.setIfInBounds_toArray, List.set_cons_zero, List.set_cons_succ, h33]
            have ct := CT.out wv hB; have c1 := ct.1.1; have c2 := ct.1.2.1; have c3 := ct.1.2.2; have c4 := ct.2.1.1; have c5 := ct.2.1.2; have c6 := ct.2.2.1; have c7 := ct.2.2.2.1; have c8 := ct.2.2.2.2; clear ct; go_wp2_with fail
            refine postB_val ?_ (Below.refl _ _)
            simp only [List.getElem?_cons_succ, List.getElem?_cons_zero]
            rfl
          case s36 =>
            refine BStep.of [33, 34, 35] [(126, 33), (127, 34), (128, 35)] (opV _) (by kernel_rfl) (fun _ _ => by kernel_rfl) rfl ?_
            intro vs wv hB hA
            have h33 : vs 33 = _ := hA.1
            have h34 : vs 34 = _ := hA.2.1
            have h35 : vs 35 = _ := hA.2.2.1
            clear hA
            simp only [fillP, List.setIfInBounds_toArray, List.set_cons_zero, List.set_cons_succ, h33, h34, h35]
            have ct := CT.out wv hB; have c1 := ct.1.1; have c2 := ct.1.2.1; have c3 := ct.1.2.2; have c4 := ct.2.1.1; have c5 := ct.2.1.2; have c6 := ct.2.2.1; have c7 := ct.2.2.2.1; have c8 := ct.2.2.2.2; clear ct; go_wp2_with fail
            refine postB_val ?_ (Below.refl _ _)
            simp only [List.getElem?_cons_succ, List.getElem?_cons_zero]
            rfl
          case s37 =>
            refine BStep.of [33, 36] [(126, 33), (129, 36)] (opV _) (by kernel_rfl) (fun _ _ => by kernel_rfl) rfl ?_
            intro vs wv hB hA
            have h33 : vs 33 = _ := hA.1
            have h36 : vs 36 = _ := hA.2.1
            clear hA
            simp only [fillP, List.setIfInBounds_toArray, List.set_cons_zero, List.set_cons_succ, h33, h36]
            have ct := CT.out wv hB; have c1 := ct.1.1; have c2 := ct.1.2.1; have c3 := ct.1.2.2; have c4 := ct.2.1.1; have c5 := ct.2.1.2; have c6 := ct.2.2.1; have c7 := ct.2.2.2.1; have c8 := ct.2.2.2.2; clear ct; go_wp2_with fail
            refine postB_val ?_ (Below.refl _ _)
            simp only [List.getElem?_cons_succ, List.getElem?_cons_zero]
            rfl
          case s38 =>
            refine BStep.of [37] [(130, 37)] (opV _) (by kernel_rfl) (fun _ _ => by kernel_rfl) rfl ?_
            intro vs wv hB hA
            have h37 : vs 37 = _ := hA.1
            clear hA
            simp only [fillP, List.setIfInBounds_toArray, List.set_cons_zero, List.set_cons_succ, h37]
            have ct := CT.out wv hB; have c1 := ct.1.1; have c2 := ct.1.2.1; have c3 := ct.1.2.2; have c4 := ct.2.1.1; have c5 := ct.2.1.2; have c6 := ct.2.2.1; have c7 := ct.2.2.2.1; have c8 := ct.2.2.2.2; clear ct; go_wp2_with fail
            refine postB_val ?_ (Below.refl _ _)
            simp only [List.getElem?_cons_succ, List.getElem?_cons_zero]
            rfl
          case s39 =>
            refine BStep.of [37, 38] [(130, 37), (131, 38)] (opV _) (by kernel_rfl) (fun _ _ => by kernel_rfl) rfl ?_
            intro vs wv hB hA
            have h37 : vs 37 = _ := hA.1
            have h38 : vs 38 = _ := hA.2.1
            clear hA
            simp only [fillP, List.setIfInBounds_toArray, List.set_cons_zero, List.set_cons_succ, h37, h38]
            have ct := CT.out wv hB; have c1 := ct.1.1; have c2 := ct.1.2.1; have c3 := ct.1.2.2; have c4 := ct.2.1.1; have c5 := ct.2.1.2; have c6 := ct.2.2.1; have c7 := ct.2.2.2.1; have c8 := ct.2.2.2.2; clear ct; go_wp2_with fail
            refine postB_val ?_ (Below.refl _ _)
            simp only [List.getElem?_cons_succ, List.getElem?_cons_zero]
            rfl
          case s40 =>
            refine BStep.of [37] [(130, 37)] (opV _) (by kernel_rfl) (fun _ _ => by kernel_rfl) rfl ?_
            intro vs wv hB hA
            have h37 : vs 37 = _ := hA.1
            clear hA
            simp only [fillP, List.setIfInBounds_toArray, List.set_cons_zero, List.set_cons_succ, h37]
            have ct := CT.out wv hB; have c1 := ct.1.1; have c2 := ct.1.2.1; have c3 := ct.1.2.2; have c4 := ct.2.1.1; have c5 := ct.2.1.2; have c6 := ct.2.2.1; have c7 := ct.2.2.2.1; have c8 := ct.2.2.2.2; clear ct; go_wp2_with fail
            refine postB_val ?_ (Below.refl _ _)
            simp only [List.getElem?_cons_succ, List.getElem?_cons_zero]
            rfl
          case s41 =>
            refine BStep.of [37, 39, 40] [(130, 37), (132, 39), (133, 40)] (opV _) (by kernel_rfl) (fun _ _ => by kernel_rfl) rfl ?_
            intro vs wv hB hA
            have h37 : vs 37 = _ := hA.1
            have h39 : vs 39 = _ := hA.2.1
            have h40 : vs 40 = _ := hA.2.2.1
            clear hA
            simp only [fillP, List.setIfInBounds_toArray, List.set_cons_zero, List.set_cons_succ, h37, h39, h40]
            have ct := CT.out wv hB; have c1 := ct.1.1; have c2 := ct.1.2.1; have c3 := ct.1.2.2; have c4 := ct.2.1.1; have c5 := ct.2.1.2; have c6 := ct.2.2.1; have c7 := ct.2.2.2.1; have c8 := ct.2.2.2.2; clear ct; go_wp2_with fail
            refine postB_val ?_ (Below.refl _ _)
            simp only [List.getElem?_cons_succ, List.getElem?_cons_zero]
            rfl
          case s42 =>
            refine BStep.of [37, 41] [(130, 37), (134, 41)] (opV _) (by kernel_rfl) (fun _ _ => by kernel_rfl) rfl ?_
            intro vs wv hB hA
            have h37 : vs 37 = _ := hA.1
            have h41 : vs 41 = _ := hA.2.1
            clear hA
            simp only [fillP, List.setIfInBounds_toArray, List.set_cons_zero, List.set_cons_succ, h37, h41]
            have ct := CT.out wv hB; have c1 := ct.1.1; have c2 := ct.1.2.1; have c3 := ct.1.2.2; have c4 := ct.2.1.1; have c5 := ct.2.1.2; have c6 := ct.2.2.1; have c7 := ct.2.2.2.1; have c8 := ct.2.2.2.2; clear ct; go_wp2_with fail
            refine postB_val ?_ (Below.refl _ _)
            simp only [List.getElem?_cons_succ, List.getElem?_cons_zero]
            rfl
          case s43 =>
            refine BStep.of [37, 42] [(130, 37), (135, 42)] (opV _) (by kernel_rfl) (fun _ _ => by kernel_rfl) rfl ?_
            intro vs wv hB hA
            have h37 : vs 37 = _ := hA.1
            have h42 : vs 42 = _ := hA.2.1
            clear hA
            simp only [fillP, List.setIfInBounds_toArray, List.set_cons_zero, List.set_cons_succ, h37, h42]
            have ct := CT.out wv hB; have c1 := ct.1.1; have c2 := ct.1.2.1; have c3 := ct.1.2.2; have c4 := ct.2.1.1; have c5 := ct.2.1.2; have c6 := ct.2.2.1; have c7 := ct.2.2.2.1; have c8 := ct.2.2.2.2; clear ct; go_wp2_with fail
            refine postB_val ?_ (Below.refl _ _)
            simp only [List.getElem?_cons_succ, List.getElem?_cons_zero]
            rfl
          case s44 =>
            refine BStep.of [33, 37, 43] [(126, 33), (130, 37), (136, 43)] (opV _) (by kernel_rfl) (fun _ _ => by kernel_rfl) rfl ?_
            intro vs wv hB hA
            have h33 : vs 33 = _ := hA.1
            have h37 : vs 37 = _ := hA.2.1
            have h43 : vs 43 = _ := hA.2.2.1
            clear hA
            simp only [fillP, List.setIfInBounds_toArray, List.set_cons_zero, List.set_cons_succ, h33, h37, h43]
            have ct := CT.out wv hB; have c1 := ct.1.1; have c2 := ct.1.2.1; have c3 := ct.1.2.2; have c4 := ct.2.1.1; have c5 := ct.2.1.2; have c6 := ct.2.2.1; have c7 := ct.2.2.2.1; have c8 := ct.2.2.2.2; clear ct; go_wp2_with fail
            refine postB_val ?_ (Below.refl _ _)
            simp only [List.getElem?_cons_succ, List.getElem?_cons_zero]
            rfl
          case s45 =>
            refine BStep.of [33, 44] [(126, 33), (137, 44)] (opV _) (by kernel_rfl) (fun _ _ => by kernel_rfl) rfl ?_
            intro vs wv hB hA
            have h33 : vs 33 = _ := hA.1
            have h44 : vs 44 = _ := hA.2.1
            clear hA
            simp only [fillP, List.setIfInBounds_toArray, List.set_cons_zero, List.set_cons_succ, h33, h44]
            have ct := CT.out wv hB; have c1 := ct.1.1; have c2 := ct.1.2.1; have c3 := ct.1.2.2; have c4 := ct.2.1.1; have c5 := ct.2.1.2; have c6 := ct.2.2.1; have c7 := ct.2.2.2.1; have c8 := ct.2.2.2.2; clear ct; go_wp2_with fail
            refine postB_val ?_ (Below.refl _ _)
            simp only [List.getElem?_cons_succ, List.getElem?_cons_zero]
            rfl
          case fin =>
            refine fin_of [0, 1, 2, 3, 4, 5, 6, 7, 8, 9, 10, 11, 12, 13, 14, 15, 16, 17, 18, 19, 20, 21, 22, 23, 24, 25, 26, 27, 28, 29, 30, 31, 32, 33, 34, 35, 36, 37, 38, 39, 40, 41, 42, 43, 44, 45] [(93, 0), (94, 1), (95, 2), (96, 3), (97, 4), (98, 5), (99, 6), (100, 7), (101, 8), (102, 9), (103, 10), (104, 11), (105, 12), (106, 13), (107, 14), (108, 15), (109, 16), (110, 17), (111, 18), (112, 19), (113, 20), (114, 21), (115, 22), (116, 23), (117, 24), (118, 25), (119, 26), (120, 27), (121, 28), (122, 29), (123, 30), (124, 31), (125, 32), (126, 33), (127, 34), (128, 35), (129, 36), (130, 37), (131, 38), (132, 39), (133, 40), (134, 41), (135, 42), (136, 43), (137, 44), (138, 45)] (by kernel_rfl) (fun _ _ => by kernel_rfl) ?_
            intro vs wv hB hA
            have h0 : vs 0 = _ := hA.1
            have h1 : vs 1 = _ := hA.2.1
            have h2 : vs 2 = _ := hA.2.2.1
            have h3 : vs 3 = _ := hA.2.2.2.1
            have h4 : vs 4 = _ := hA.2.2.2.2.1
            have h5 : vs 5 = _ := hA.2.2.2.2.2.1
            have h6 : vs 6 = _ := hA.2.2.2.2.2.2.1
            have h7 : vs 7 = _ := hA.2.2.2.2.2.2.2.1
            have h8 : vs 8 = _ := hA.2.2.2.2.2.2.2.2.1
            have h9 : vs 9 = _ := hA.2.2.2.2.2.2.2.2.2.1
            have h10 : vs 10 = _ := hA.2.2.2.2.2.2.2.2.2.2.1
            have h11 : vs 11 = _ := hA.2.2.2.2.2.2.2.2.2.2.2.1
            have h12 : vs 12 = _ := hA.2.2.2.2.2.2.2.2.2.2.2.2.1
            have h13 : vs 13 = _ := hA.2.2.2.2.2.2.2.2.2.2.2.2.2.1
            have h14 : vs 14 = _ := hA.2.2.2.2.2.2.2.2.2.2.2.2.2.2.1
            have h15 : vs 15 = _ := hA.2.2.2.2.2.2.2.2.2.2.2.2.2.2.2.1
            have h16 : vs 16 = _ := hA.2.2.2.2.2.2.2.2.2.2.2.2.2.2.2.2.1
            have h17 : vs 17 = _ := hA.2.2.2.2.2.2.2.2.2.2.2.2.2.2.2.2.2.1
            have h18 : vs 18 = _ := hA.2.2.2.2.2.2.2.2.2.2.2.2.2.2.2.2.2.2.1
            have h19 : vs 19 = _ := hA.2.2.2.2.2.2.2.2.2.2.2.2.2.2.2.2.2.2.2.1
            have h20 : vs 20 = _ := hA.2.2.2.2.2.2.2.2.2.2.2.2.2.2.2.2.2.2.2.2.1
            have h21 : vs 21 = _ := hA.2.2.2.2.2.2.2.2.2.2.2.2.2.2.2.2.2.2.2.2.2.1
            have h22 : vs 22 = _ := hA.2.2.2.2.2.2.2.2.2.2.2.2.2.2.2.2.2.2.2.2.2.2.1
            have h23 : vs 23 = _ := hA.2.2.2.2.2.2.2.2.2.2.2.2.2.2.2.2.2.2.2.2.2.2.2.1
            have h24 : vs 24 = _ := hA.2.2.2.2.2.2.2.2.2.2.2.2.2.2.2.2.2.2.2.2.2.2.2.2.1
            have h25 : vs 25 = _ := hA.2.2.2.2.2.2.2.2.2.2.2.2.2.2.2.2.2.2.2.2.2.2.2.2.2.1
            have h26 : vs 26 = _ := hA.2.2.2.2.2.2.2.2.2.2.2.2.2.2.2.2.2.2.2.2.2.2.2.2.2.2.1
            have h27 : vs 27 = _ := hA.2.2.2.2.2.2.2.2.2.2.2.2.2.2.2.2.2.2.2.2.2.2.2.2.2.2.2.1
            have h28 : vs 28 = _ := hA.2.2.2.2.2.2.2.2.2.2.2.2.2.2.2.2.2.2.2.2.2.2.2.2.2.2.2.2.1
            have h29 : vs 29 = _ := hA.2.2.2.2.2.2.2.2.2.2.2.2.2.2.2.2.2.2.2.2.2.2.2.2.2.2.2.2.2.1
            have h30 : vs 30 = _ := hA.2.2.2.2.2.2.2.2.2.2.2.2.2.2.2.2.2.2.2.2.2.2.2.2.2.2.2.2.2.2.1
            have h31 : vs 31 = _ := hA.2.2.2.2.2.2.2.2.2.2.2.2.2.2.2.2.2.2.2.2.2.2.2.2.2.2.2.2.2.2.2.1
            have h32 : vs 32 = _ := hA.2.2.2.2.2.2.2.2.2.2.2.2.2.2.2.2.2.2.2.2.2.2.2.2.2.2.2.2.2.2.2.2.1
            have h33 : vs 33 = _ := hA.2.2.2.2.2.2.2.2.2.2.2.2.2.2.2.2.2.2.2.2.2.2.2.2.2.2.2.2.2.2.2.2.2.1
            have h34 : vs 34 = _ := hA.2.2.2.2.2.2.2.2.2.2.2.2.2.2.2.2.2.2.2.2.2.2.2.2.2.2.2.2.2.2.2.2.2.2.1
            have h35 : vs 35 = _ := hA.2.2.2.2.2.2.2.2.2.2.2.2.2.2.2.2.2.2.2.2.2.2.2.2.2.2.2.2.2.2.2.2.2.2.2.1
            have h36 : vs 36 = _ := hA.2.2.2.2.2.2.2.2.2.2.2.2.2.2.2.2.2.2.2.2.2.2.2.2.2.2.2.2.2.2.2.2.2.2.2.2.1
            have h37 : vs 37 = _ := hA.2.2.2.2.2.2.2.2.2.2.2.2.2.2.2.2.2.2.2.2.2.2.2.2.2.2.2.2.2.2.2.2.2.2.2.2.2.1
            have h38 : vs 38 = _ := hA.2.2.2.2.2.2.2.2.2.2.2.2.2.2.2.2.2.2.2.2.2.2.2.2.2.2.2.2.2.2.2.2.2.2.2.2.2.2.1
            have h39 : vs 39 = _ := hA.2.2.2.2.2.2.2.2.2.2.2.2.2.2.2.2.2.2.2.2.2.2.2.2.2.2.2.2.2.2.2.2.2.2.2.2.2.2.2.1
            have h40 : vs 40 = _ := hA.2.2.2.2.2.2.2.2.2.2.2.2.2.2.2.2.2.2.2.2.2.2.2.2.2.2.2.2.2.2.2.2.2.2.2.2.2.2.2.2.1
            have h41 : vs 41 = _ := hA.2.2.2.2.2.2.2.2.2.2.2.2.2.2.2.2.2.2.2.2.2.2.2.2.2.2.2.2.2.2.2.2.2.2.2.2.2.2.2.2.2.1
            have h42 : vs 42 = _ := hA.2.2.2.2.2.2.2.2.2.2.2.2.2.2.2.2.2.2.2.2.2.2.2.2.2.2.2.2.2.2.2.2.2.2.2.2.2.2.2.2.2.2.1
            have h43 : vs 43 = _ := hA.2.2.2.2.2.2.2.2.2.2.2.2.2.2.2.2.2.2.2.2.2.2.2.2.2.2.2.2.2.2.2.2.2.2.2.2.2.2.2.2.2.2.2.1
            have h44 : vs 44 = _ := hA.2.2.2.2.2.2.2.2.2.2.2.2.2.2.2.2.2.2.2.2.2.2.2.2.2.2.2.2.2.2.2.2.2.2.2.2.2.2.2.2.2.2.2.2.1
            have h45 : vs 45 = _ := hA.2.2.2.2.2.2.2.2.2.2.2.2.2.2.2.2.2.2.2.2.2.2.2.2.2.2.2.2.2.2.2.2.2.2.2.2.2.2.2.2.2.2.2.2.2.1
            clear hA
            simp only [fillP, List.setIfInBounds_toArray, List.set_cons_zero, List.set_cons_succ, h0, h1, h2, h3, h4, h5, h6, h7, h8, h9, h10, h11, h12, h13, h14, h15, h16, h17, h18, h19, h20, h21, h22, h23, h24, h25, h26, h27, h28, h29, h30, h31, h32, h33, h34, h35, h36, h37, h38, h39, h40, h41, h42, h43, h44, h45]
            go_wp2_with fail
            go_roundg (n - (i + 1))
            case measure => omega
            case rel => exact ⟨i + 1, by go_num, by omega, Nat.le_refl _, Lib.hid (HS.out wv hB)⟩
        · have hz := h4 (by omega)
          have hd1 : decide ((i : Int) < k) = false := decide_eq_false (by omega)
          have hd2 : decide ((k : Int) ≤ i) = true := decide_eq_true (by omega)
          have wz : IntKind.i64.wrap (y - V) = z := by rw [hz]; exact IntWalk.i64_in _ (by have := HY.out; have := HVB.out; omega)
          have zz : (z != z) = (!true) := by simp
          clear h1 h2 h3 h4 hz
          refine' wp_region_below [opV _, opV _, opV _, opV _, opV _, opV _, opV _, opV _, opV _, opV _, opV _, opV _, opV _, opV _, opV _, opV _, opV _, opV _, opV _, opV _, opV _, opV _, opV _, opV _, opV _, opV _, opV _, opV _, opV (.int .i64 V), opV _, opV _, opV _, opV _, opV _, opV _, opV _, opV _, opV _, opV _, opV _, opV _, opV _, opV _, opV _, opV _, opV _] rfl (by kernel_rfl) ⟨?s0, ?s1, ?s2, ?s3, ?s4, ?s5, ?s6, ?s7, ?s8, ?s9, ?s10, ?s11, ?s12, ?s13, ?s14, ?s15, ?s16, ?s17, ?s18, ?s19, ?s20, ?s21, ?s22, ?s23, ?s24, ?s25, ?s26, ?s27, ?s28, ?s29, ?s30, ?s31, ?s32, ?s33, ?s34, ?s35, ?s36, ?s37, ?s38, ?s39, ?s40, ?s41, ?s42, ?s43, ?s44, ?s45, trivial⟩ ?fin
          case s0 =>
            refine BStep.of [] [] (opV _) (by kernel_rfl) (fun _ _ => by kernel_rfl) rfl ?_
            intro vs wv hB hA
            clear hA
            simp only [fillP]
            have ct := CT.out wv hB; have c1 := ct.1.1; have c2 := ct.1.2.1; have c3 := ct.1.2.2; have c4 := ct.2.1.1; have c5 := ct.2.1.2; have c6 := ct.2.2.1; have c7 := ct.2.2.2.1; have c8 := ct.2.2.2.2; clear ct; go_wp2_with fail
            refine postB_val ?_ (Below.refl _ _)
            simp only [List.getElem?_cons_succ, List.getElem?_cons_zero]
            rfl
          case s1 =>
            refine BStep.of [0] [(93, 0)] (opV _) (by kernel_rfl) (fun _ _ => by kernel_rfl) rfl ?_
            intro vs wv hB hA
            have h0 : vs 0 = _ := hA.1
            clear hA
            simp only [fillP, List.setIfInBounds_toArray, List.set_cons_zero, List.set_cons_succ, h0]
            have ct := CT.out wv hB; have c1 := ct.1.1; have c2 := ct.1.2.1; have c3 := ct.1.2.2; have c4 := ct.2.1.1; have c5 := ct.2.1.2; have c6 := ct.2.2.1; have c7 := ct.2.2.2.1; have c8 := ct.2.2.2.2; clear ct; go_wp2_with fail
            refine postB_val ?_ (Below.refl _ _)
            simp only [List.getElem?_cons_succ, List.getElem?_cons_zero]
            rfl
          case s2 =>
            refine BStep.of [] [] (opV _) (by kernel_rfl) (fun _ _ => by kernel_rfl) rfl ?_
            intro vs wv hB hA
            clear hA
            simp only [fillP]
            have ct := CT.out wv hB; have c1 := ct.1.1; have c2 := ct.1.2.1; have c3 := ct.1.2.2; have c4 := ct.2.1.1; have c5 := ct.2.1.2; have c6 := ct.2.2.1; have c7 := ct.2.2.2.1; have c8 := ct.2.2.2.2; clear ct; go_wp2_with fail
            refine postB_val ?_ (Below.refl _ _)
            simp only [List.getElem?_cons_succ, List.getElem?_cons_zero]
            rfl
          case s3 =>
            refine BStep.of [1, 2] [(94, 1), (95, 2)] (opV _) (by kernel_rfl) (fun _ _ => by kernel_rfl) rfl ?_
            intro vs wv hB hA
            have h1 : vs 1 = _ := hA.1
            have h2 : vs 2 = _ := hA.2.1
            clear hA
            simp only [fillP, List.setIfInBounds_toArray, List.set_cons_zero, List.set_cons_succ, h1, h2]
            have ct := CT.out wv hB; have c1 := ct.1.1; have c2 := ct.1.2.1; have c3 := ct.1.2.2; have c4 := ct.2.1.1; have c5 := ct.2.1.2; have c6 := ct.2.2.1; have c7 := ct.2.2.2.1; have c8 := ct.2.2.2.2; clear ct; go_wp2_with fail
            refine postB_val ?_ (Below.refl _ _)
            simp only [List.getElem?_cons_succ, List.getElem?_cons_zero]
            rfl
          case s4 =>
            refine BStep.of [3] [(96, 3)] (opV _) (by kernel_rfl) (fun _ _ => by kernel_rfl) rfl ?_
            intro vs wv hB hA
            have h3 : vs 3 = _ := hA.1
            clear hA
            simp only [fillP, List.setIfInBounds_toArray, List.set_cons_zero, List.set_cons_succ, h3]
            have ct := CT.out wv hB; have c1 := ct.1.1; have c2 := ct.1.2.1; have c3 := ct.1.2.2; have c4 := ct.2.1.1; have c5 := ct.2.1.2; have c6 := ct.2.2.1; have c7 := ct.2.2.2.1; have c8 := ct.2.2.2.2; clear ct; go_wp2_with fail
            refine postB_val ?_ (Below.refl _ _)
            simp only [List.getElem?_cons_succ, List.getElem?_cons_zero]
            rfl
          case s5 =>
            refine BStep.of [] [] (opV _) (by kernel_rfl) (fun _ _ => by kernel_rfl) rfl ?_
            intro vs wv hB hA
            clear hA
            simp only [fillP]
            have ct := CT.out wv hB; have c1 := ct.1.1; have c2 := ct.1.2.1; have c3 := ct.1.2.2; have c4 := ct.2.1.1; have c5 := ct.2.1.2; have c6 := ct.2.2.1; have c7 := ct.2.2.2.1; have c8 := ct.2.2.2.2; clear ct; go_wp2_with fail
            refine postB_val ?_ (Below.refl _ _)
            simp only [List.getElem?_cons_succ, List.getElem?_cons_zero]
            rfl
          case s6 =>
            refine BStep.of [5] [(98, 5)] (opV _) (by kernel_rfl) (fun _ _ => by kernel_rfl) rfl ?_
            intro vs wv hB hA
            have h5 : vs 5 = _ := hA.1
            clear hA
            simp only [fillP, List.setIfInBounds_toArray, List.set_cons_zero, List.set_cons_succ, h5]
            have ct := CT.out wv hB; have c1 := ct.1.1; have c2 := ct.1.2.1; have c3 := ct.1.2.2; have c4 := ct.2.1.1; have c5 := ct.2.1.2; have c6 := ct.2.2.1; have c7 := ct.2.2.2.1; have c8 := ct.2.2.2.2; clear ct; go_wp2_with fail
            refine postB_val ?_ (Below.refl _ _)
            simp only [List.getElem?_cons_succ, List.getElem?_cons_zero]
            rfl
          case s7 =>
            refine BStep.of [] [] (opV _) (by kernel_rfl) (fun _ _ => by kernel_rfl) rfl ?_
            intro vs wv hB hA
            clear hA
            simp only [fillP]
            have ct := CT.out wv hB; have c1 := ct.1.1; have c2 := ct.1.2.1; have c3 := ct.1.2.2; have c4 := ct.2.1.1; have c5 := ct.2.1.2; have c6 := ct.2.2.1; have c7 := ct.2.2.2.1; have c8 := ct.2.2.2.2; clear ct; go_wp2_with fail
            refine postB_val ?_ (Below.refl _ _)
            simp only [List.getElem?_cons_succ, List.getElem?_cons_zero]
            rfl
          case s8 =>
            refine BStep.of [6, 7] [(99, 6), (100, 7)] (opV _) (by kernel_rfl) (fun _ _ => by kernel_rfl) rfl ?_
            intro vs wv hB hA
            have h6 : vs 6 = _ := hA.1
            have h7 : vs 7 = _ := hA.2.1
            clear hA
            simp only [fillP, List.setIfInBounds_toArray, List.set_cons_zero, List.set_cons_succ, h6, h7]
            have ct := CT.out wv hB; have c1 := ct.1.1; have c2 := ct.1.2.1; have c3 := ct.1.2.2; have c4 := ct.2.1.1; have c5 := ct.2.1.2; have c6 := ct.2.2.1; have c7 := ct.2.2.2.1; have c8 := ct.2.2.2.2; clear ct; go_wp2_with fail
            refine postB_val ?_ (Below.refl _ _)
            simp only [List.getElem?_cons_succ, List.getElem?_cons_zero]
            rfl
          case s9 =>
            refine BStep.of [8] [(101, 8)] (opV _) (by kernel_rfl) (fun _ _ => by kernel_rfl) rfl ?_
            intro vs wv hB hA
            have h8 : vs 8 = _ := hA.1
            clear hA
            simp only [fillP, List.setIfInBounds_toArray, List.set_cons_zero, List.set_cons_succ, h8]
            have ct := CT.out wv hB; have c1 := ct.1.1; have c2 := ct.1.2.1; have c3 := ct.1.2.2; have c4 := ct.2.1.1; have c5 := ct.2.1.2; have c6 := ct.2.2.1; have c7 := ct.2.2.2.1; have c8 := ct.2.2.2.2; clear ct; go_wp2_with fail
            refine postB_val ?_ (Below.refl _ _)
            simp only [List.getElem?_cons_succ, List.getElem?_cons_zero]
            rfl
          case s10 =>
            refine BStep.of [4, 9] [(97, 4), (102, 9)] (opV _) (by kernel_rfl) (fun _ _ => by kernel_rfl) rfl ?_
            intro vs wv hB hA
            have h4 : vs 4 = _ := hA.1
            have h9 : vs 9 = _ := hA.2.1
            clear hA
            simp only [fillP, List.setIfInBounds_toArray, List.set_cons_zero, List.set_cons_succ, h4, h9]
            have ct := CT.out wv hB; have c1 := ct.1.1; have c2 := ct.1.2.1; have c3 := ct.1.2.2; have c4 := ct.2.1.1; have c5 := ct.2.1.2; have c6 := ct.2.2.1; have c7 := ct.2.2.2.1; have c8 := ct.2.2.2.2; clear ct; go_wp2_with fail
            refine postB_val ?_ (Below.refl _ _)
            simp only [List.getElem?_cons_succ, List.getElem?_cons_zero]
            rfl
          case s11 =>
            refine BStep.of [10] [(103, 10)] (opV _) (by kernel_rfl) (fun _ _ => by kernel_rfl) rfl ?_
            intro vs wv hB hA
            have h10 : vs 10 = _ := hA.1
            clear hA
            simp only [fillP, List.setIfInBounds_toArray, List.set_cons_zero, List.set_cons_succ, h10]
            have ct := CT.out wv hB; have c1 := ct.1.1; have c2 := ct.1.2.1; have c3 := ct.1.2.2; have c4 := ct.2.1.1; have c5 := ct.2.1.2; have c6 := ct.2.2.1; have c7 := ct.2.2.2.1; have c8 := ct.2.2.2.2; clear ct; go_wp2_with fail
            refine postB_val ?_ (Below.refl _ _)
            simp only [List.getElem?_cons_succ, List.getElem?_cons_zero]
            rfl
          case s12 =>
            refine BStep.of [11] [(104, 11)] (opV _) (by kernel_rfl) (fun _ _ => by kernel_rfl) rfl ?_
            intro vs wv hB hA
            have h11 : vs 11 = _ := hA.1
            clear hA
            simp only [fillP, List.setIfInBounds_toArray, List.set_cons_zero, List.set_cons_succ, h11]
            have ct := CT.out wv hB; have c1 := ct.1.1; have c2 := ct.1.2.1; have c3 := ct.1.2.2; have c4 := ct.2.1.1; have c5 := ct.2.1.2; have c6 := ct.2.2.1; have c7 := ct.2.2.2.1; have c8 := ct.2.2.2.2; clear ct; go_wp2_with fail
            refine postB_val ?_ (Below.refl _ _)
            simp only [List.getElem?_cons_succ, List.getElem?_cons_zero]
            rfl
          case s13 =>
            refine BStep.of [11] [(104, 11)] (opV _) (by kernel_rfl) (fun _ _ => by kernel_rfl) rfl ?_
            intro vs wv hB hA
            have h11 : vs 11 = _ := hA.1
            clear hA
            simp only [fillP, List.setIfInBounds_toArray, List.set_cons_zero, List.set_cons_succ, h11]
            have ct := CT.out wv hB; have c1 := ct.1.1; have c2 := ct.1.2.1; have c3 := ct.1.2.2; have c4 := ct.2.1.1; have c5 := ct.2.1.2; have c6 := ct.2.2.1; have c7 := ct.2.2.2.1; have c8 := ct.2.2.2.2; clear ct; go_wp2_with fail
            refine postB_val ?_ (Below.refl _ _)
            simp only [List.getElem?_cons_succ, List.getElem?_cons_zero]
            rfl
          case s14 =>
            refine BStep.of [11, 12, 13] [(104, 11), (105, 12), (106, 13)] (opV _) (by kernel_rfl) (fun _ _ => by kernel_rfl) rfl ?_
            intro vs wv hB hA
            have h11 : vs 11 = _ := hA.1
            have h12 : vs 12 = _ := hA.2.1
            have h13 : vs 13 = _ := hA.2.2.1
            clear hA
            simp only [fillP, List.setIfInBounds_toArray, List.set_cons_zero, List.set_cons_succ, h11, h12, h13]
            have ct := CT.out wv hB; have c1 := ct.1.1; have c2 := ct.1.2.1; have c3 := ct.1.2.2; have c4 := ct.2.1.1; have c5 := ct.2.1.2; have c6 := ct.2.2.1; have c7 := ct.2.2.2.1; have c8 := ct.2.2.2.2; clear ct; go_wp2_with fail
            refine postB_val ?_ (Below.refl _ _)
            simp only [List.getElem?_cons_succ, List.getElem?_cons_zero]
            rfl
          case s15 =>
            refine BStep.of [11, 14] [(104, 11), (107, 14)] (opV _) (by kernel_rfl) (fun _ _ => by kernel_rfl) rfl ?_
            intro vs wv hB hA
            have h11 : vs 11 = _ := hA.1
            have h14 : vs 14 = _ := hA.2.1
            clear hA
            simp only [fillP, List.setIfInBounds_toArray, List.set_cons_zero, List.set_cons_succ, h11, h14]
            have ct := CT.out wv hB; have c1 := ct.1.1; have c2 := ct.1.2.1; have c3 := ct.1.2.2; have c4 := ct.2.1.1; have c5 := ct.2.1.2; have c6 := ct.2.2.1; have c7 := ct.2.2.2.1; have c8 := ct.2.2.2.2; clear ct; go_wp2_with fail
            refine postB_val ?_ (Below.refl _ _)
            simp only [List.getElem?_cons_succ, List.getElem?_cons_zero]
            rfl
          case s16 =>
            refine BStep.of [15] [(108, 15)] (opV _) (by kernel_rfl) (fun _ _ => by kernel_rfl) rfl ?_
            intro vs wv hB hA
            have h15 : vs 15 = _ := hA.1
            clear hA
            simp only [fillP, List.setIfInBounds_toArray, List.set_cons_zero, List.set_cons_succ, h15]
            have ct := CT.out wv hB; have c1 := ct.1.1; have c2 := ct.1.2.1; have c3 := ct.1.2.2; have c4 := ct.2.1.1; have c5 := ct.2.1.2; have c6 := ct.2.2.1; have c7 := ct.2.2.2.1; have c8 := ct.2.2.2.2; clear ct; go_wp2_with fail
            refine postB_val ?_ (Below.refl _ _)
            simp only [List.getElem?_cons_succ, List.getElem?_cons_zero]
            rfl
          case s17 =>
            refine BStep.of [15, 16] [(108, 15), (109, 16)] (opV _) (by kernel_rfl) (fun _ _ => by kernel_rfl) rfl ?_
            intro vs wv hB hA
            have h15 : vs 15 = _ := hA.1
            have h16 : vs 16 = _ := hA.2.1
            clear hA
            simp only [fillP, List.setIfInBounds_toArray, List.set_cons_zero, List.set_cons_succ, h15, h16]
            have ct := CT.out wv hB; have c1 := ct.1.1; have c2 := ct.1.2.1; have c3 := ct.1.2.2; have c4 := ct.2.1.1; have c5 := ct.2.1.2; have c6 := ct.2.2.1; have c7 := ct.2.2.2.1; have c8 := ct.2.2.2.2; clear ct; go_wp2_with fail
            refine postB_val ?_ (Below.refl _ _)
            simp only [List.getElem?_cons_succ, List.getElem?_cons_zero]
            rfl
          case s18 =>
            refine BStep.of [15] [(108, 15)] (opV _) (by kernel_rfl) (fun _ _ => by kernel_rfl) rfl ?_
            intro vs wv hB hA
            have h15 : vs 15 = _ := hA.1
            clear hA
            simp only [fillP, List.setIfInBounds_toArray, List.set_cons_zero, List.set_cons_succ, h15]
            have ct := CT.out wv hB; have c1 := ct.1.1; have c2 := ct.1.2.1; have c3 := ct.1.2.2; have c4 := ct.2.1.1; have c5 := ct.2.1.2; have c6 := ct.2.2.1; have c7 := ct.2.2.2.1; have c8 := ct.2.2.2.2; clear ct; go_wp2_with fail
            refine postB_val ?_ (Below.refl _ _)
            simp only [List.getElem?_cons_succ, List.getElem?_cons_zero]
            rfl
          case s19 =>
            refine BStep.of [15, 17, 18] [(108, 15), (110, 17), (111, 18)] (opV _) (by kernel_rfl) (fun _ _ => by kernel_rfl) rfl ?_
            intro vs wv hB hA
            have h15 : vs 15 = _ := hA.1
            have h17 : vs 17 = _ := hA.2.1
            have h18 : vs 18 = _ := hA.2.2.1
            clear hA
            simp only [fillP, List.setIfInBounds_toArray, List.set_cons_zero, List.set_cons_succ, h15, h17, h18]
            have ct := CT.out wv hB; have c1 := ct.1.1; have c2 := ct.1.2.1; have c3 := ct.1.2.2; have c4 := ct.2.1.1; have c5 := ct.2.1.2; have c6 := ct.2.2.1; have c7 := ct.2.2.2.1; have c8 := ct.2.2.2.2; clear ct; go_wp2_with fail
            refine postB_val ?_ (Below.refl _ _)
            simp only [List.getElem?_cons_succ, List.getElem?_cons_zero]
            rfl
          case s20 =>
            refine BStep.of [15, 19] [(108, 15), (112, 19)] (opV _) (by kernel_rfl) (fun _ _ => by kernel_rfl) rfl ?_
            intro vs wv hB hA
            have h15 : vs 15 = _ := hA.1
            have h19 : vs 19 = _ := hA.2.1
            clear hA
            simp only [fillP, List.setIfInBounds_toArray, List.set_cons_zero, List.set_cons_succ, h15, h19]
            have ct := CT.out wv hB; have c1 := ct.1.1; have c2 := ct.1.2.1; have c3 := ct.1.2.2; have c4 := ct.2.1.1; have c5 := ct.2.1.2; have c6 := ct.2.2.1; have c7 := ct.2.2.2.1; have c8 := ct.2.2.2.2; clear ct; go_wp2_with fail
            refine postB_val ?_ (Below.refl _ _)
            simp only [List.getElem?_cons_succ, List.getElem?_cons_zero]
            rfl
          case s21 =>
            refine BStep.of [15] [(108, 15)] (opV _) (by kernel_rfl) (fun _ _ => by kernel_rfl) rfl ?_
            intro vs wv hB hA
            have h15 : vs 15 = _ := hA.1
            clear hA
            simp only [fillP, List.setIfInBounds_toArray, List.set_cons_zero, List.set_cons_succ, h15]
            have ct := CT.out wv hB; have c1 := ct.1.1; have c2 := ct.1.2.1; have c3 := ct.1.2.2; have c4 := ct.2.1.1; have c5 := ct.2.1.2; have c6 := ct.2.2.1; have c7 := ct.2.2.2.1; have c8 := ct.2.2.2.2; clear ct; go_wp2_with fail
            refine postB_val ?_ (Below.refl _ _)
            simp only [List.getElem?_cons_succ, List.getElem?_cons_zero]
            rfl
          case s22 =>
            refine BStep.of [15, 21] [(108, 15), (114, 21)] (opV _) (by kernel_rfl) (fun _ _ => by kernel_rfl) rfl ?_
            intro vs wv hB hA
            have h15 : vs 15 = _ := hA.1
            have h21 : vs 21 = _ := hA.2.1
            clear hA
            simp only [fillP, List.setIfInBounds_toArray, List.set_cons_zero, List.set_cons_succ, h15, h21]
            have ct := CT.out wv hB; have c1 := ct.1.1; have c2 := ct.1.2.1; have c3 := ct.1.2.2; have c4 := ct.2.1.1; have c5 := ct.2.1.2; have c6 := ct.2.2.1; have c7 := ct.2.2.2.1; have c8 := ct.2.2.2.2; clear ct; go_wp2_with fail
            refine postB_val ?_ (Below.refl _ _)
            simp only [List.getElem?_cons_succ, List.getElem?_cons_zero]
            rfl
          case s23 =>
            refine BStep.of [15] [(108, 15)] (opV _) (by kernel_rfl) (fun _ _ => by kernel_rfl) rfl ?_
            intro vs wv hB hA
            have h15 : vs 15 = _ := hA.1
            clear hA
            simp only [fillP, List.setIfInBounds_toArray, List.set_cons_zero, List.set_cons_succ, h15]
            have ct := CT.out wv hB; have c1 := ct.1.1; have c2 := ct.1.2.1; have c3 := ct.1.2.2; have c4 := ct.2.1.1; have c5 := ct.2.1.2; have c6 := ct.2.2.1; have c7 := ct.2.2.2.1; have c8 := ct.2.2.2.2; clear ct; go_wp2_with fail
            refine postB_val ?_ (Below.refl _ _)
            simp only [List.getElem?_cons_succ, List.getElem?_cons_zero]
            rfl
          case s24 =>
            refine BStep.of [15, 22, 23] [(108, 15), (115, 22), (116, 23)] (opV _) (by kernel_rfl) (fun _ _ => by kernel_rfl) rfl ?_
            intro vs wv hB hA
            have h15 : vs 15 = _ := hA.1
            have h22 : vs 22 = _ := hA.2.1
            have h23 : vs 23 = _ := hA.2.2.1
            clear hA
            simp only [fillP, List.setIfInBounds_toArray, List.set_cons_zero, List.set_cons_succ, h15, h22, h23]
            have ct := CT.out wv hB; have c1 := ct.1.1; have c2 := ct.1.2.1; have c3 := ct.1.2.2; have c4 := ct.2.1.1; have c5 := ct.2.1.2; have c6 := ct.2.2.1; have c7 := ct.2.2.2.1; have c8 := ct.2.2.2.2; clear ct; go_wp2_with fail
            refine postB_val ?_ (Below.refl _ _)
            simp only [List.getElem?_cons_succ, List.getElem?_cons_zero]
            rfl
          case s25 =>
            refine BStep.of [15, 24] [(108, 15), (117, 24)] (opV _) (by kernel_rfl) (fun _ _ => by kernel_rfl) rfl ?_
            intro vs wv hB hA
            have h15 : vs 15 = _ := hA.1
            have h24 : vs 24 = _ := hA.2.1
            clear hA
            simp only [fillP, List.setIfInBounds_toArray, List.set_cons_zero, List.set_cons_succ, h15, h24]
            have ct := CT.out wv hB; have c1 := ct.1.1; have c2 := ct.1.2.1; have c3 := ct.1.2.2; have c4 := ct.2.1.1; have c5 := ct.2.1.2; have c6 := ct.2.2.1; have c7 := ct.2.2.2.1; have c8 := ct.2.2.2.2; clear ct; go_wp2_with fail
            refine postB_val ?_ (Below.refl _ _)
            simp only [List.getElem?_cons_succ, List.getElem?_cons_zero]
            rfl
          case s26 =>
            refine BStep.of [15] [(108, 15)] (opV _) (by kernel_rfl) (fun _ _ => by kernel_rfl) rfl ?_
            intro vs wv hB hA
            have h15 : vs 15 = _ := hA.1
            clear hA
            simp only [fillP, List.setIfInBounds_toArray, List.set_cons_zero, List.set_cons_succ, h15]
            have ct := CT.out wv hB; have c1 := ct.1.1; have c2 := ct.1.2.1; have c3 := ct.1.2.2; have c4 := ct.2.1.1; have c5 := ct.2.1.2; have c6 := ct.2.2.1; have c7 := ct.2.2.2.1; have c8 := ct.2.2.2.2; clear ct; go_wp2_with fail
            refine postB_val ?_ (Below.refl _ _)
            simp only [List.getElem?_cons_succ, List.getElem?_cons_zero]
            rfl
          case s27 =>
            refine BStep.of [15, 26] [(108, 15), (119, 26)] (opV _) (by kernel_rfl) (fun _ _ => by kernel_rfl) rfl ?_
            intro vs wv hB hA
            have h15 : vs 15 = _ := hA.1
            have h26 : vs 26 = _ := hA.2.1
            clear hA
            simp only [fillP, List.setIfInBounds_toArray, List.set_cons_zero, List.set_cons_succ, h15, h26]
            have ct := CT.out wv hB; have c1 := ct.1.1; have c2 := ct.1.2.1; have c3 := ct.1.2.2; have c4 := ct.2.1.1; have c5 := ct.2.1.2; have c6 := ct.2.2.1; have c7 := ct.2.2.2.1; have c8 := ct.2.2.2.2; clear ct; go_wp2_with fail
            refine postB_val ?_ (Below.refl _ _)
            simp only [List.getElem?_cons_succ, List.getElem?_cons_zero]
            rfl
          case s28 =>
            refine BStep.of [15, 27] [(108, 15), (120, 27)] (opV (.int .i64 V)) (by kernel_rfl) (fun _ _ => by kernel_rfl) rfl ?_
            intro vs wv hB hA
            have h15 : vs 15 = _ := hA.1
            have h27 : vs 27 = _ := hA.2.1
            clear hA
            simp only [fillP, List.setIfInBounds_toArray, List.set_cons_zero, List.set_cons_succ, h15, h27]
            have ct := CT.out wv hB; have c4 := ct.2.1.1; have c5 := ct.2.1.2; clear ct; (go_wp2_with (go_at_call 16; (with_reducible refine (KV1.out _).mono ?_); rintro e w7 ⟨rfl, hb⟩)); exact postB_val rfl hb
          case s29 =>
            refine BStep.of [15, 25, 28] [(108, 15), (118, 25), (121, 28)] (opV _) (by kernel_rfl) (fun _ _ => by kernel_rfl) rfl ?_
            intro vs wv hB hA
            have h15 : vs 15 = _ := hA.1
            have h25 : vs 25 = _ := hA.2.1
            have h28 : vs 28 = _ := hA.2.2.1
            clear hA
            simp only [fillP, List.setIfInBounds_toArray, List.set_cons_zero, List.set_cons_succ, h15, h25, h28]
            have ct := CT.out wv hB; have c1 := ct.1.1; have c2 := ct.1.2.1; have c3 := ct.1.2.2; have c4 := ct.2.1.1; have c5 := ct.2.1.2; have c6 := ct.2.2.1; have c7 := ct.2.2.2.1; have c8 := ct.2.2.2.2; clear ct; go_wp2_with fail
            refine postB_val ?_ (Below.refl _ _)
            simp only [List.getElem?_cons_succ, List.getElem?_cons_zero]
            rfl
          case s30 =>
            refine BStep.of [15, 20, 29] [(108, 15), (113, 20), (122, 29)] (opV _) (by kernel_rfl) (fun _ _ => by kernel_rfl) rfl ?_
            intro vs wv hB hA
            have h15 : vs 15 = _ := hA.1
            have h20 : vs 20 = _ := hA.2.1
            have h29 : vs 29 = _ := hA.2.2.1
            clear hA
            simp only [fillP, List.setIfInBounds_toArray, List.set_cons_zero, List.set_cons_succ, h15, h20, h29]
            have ct := CT.out wv hB; have c1 := ct.1.1; have c2 := ct.1.2.1; have c3 := ct.1.2.2; have c4 := ct.2.1.1; have c5 := ct.2.1.2; have c6 := ct.2.2.1; have c7 := ct.2.2.2.1; have c8 := ct.2.2.2.2; clear ct; go_wp2_with fail
            refine postB_val ?_ (Below.refl _ _)
            simp only [List.getElem?_cons_succ, List.getElem?_cons_zero]
            rfl
          case s31 =>
            refine BStep.of [11, 15, 30] [(104, 11), (108, 15), (123, 30)] (opV _) (by kernel_rfl) (fun _ _ => by kernel_rfl) rfl ?_
            intro vs wv hB hA
            have h11 : vs 11 = _ := hA.1
            have h15 : vs 15 = _ := hA.2.1
            have h30 : vs 30 = _ := hA.2.2.1
            clear hA
            simp only [fillP, List.setIfInBounds_toArray, List.set_cons_zero, List.set_cons_succ, h11, h15, h30]
            have ct := CT.out wv hB; have c1 := ct.1.1; have c2 := ct.1.2.1; have c3 := ct.1.2.2; have c4 := ct.2.1.1; have c5 := ct.2.1.2; have c6 := ct.2.2.1; have c7 := ct.2.2.2.1; have c8 := ct.2.2.2.2; clear ct; go_wp2_with fail
            refine postB_val ?_ (Below.refl _ _)
            simp only [List.getElem?_cons_succ, List.getElem?_cons_zero]
            rfl
          case s32 =>
            refine BStep.of [11, 31] [(104, 11), (124, 31)] (opV _) (by kernel_rfl) (fun _ _ => by kernel_rfl) rfl ?_
            intro vs wv hB hA
            have h11 : vs 11 = _ := hA.1
            have h31 : vs 31 = _ := hA.2.1
            clear hA
            simp only [fillP, List.setIfInBounds_toArray, List.set_cons_zero, List.set_cons_succ, h11, h31]
            have ct := CT.out wv hB; have c1 := ct.1.1; have c2 := ct.1.2.1; have c3 := ct.1.2.2; have c4 := ct.2.1.1; have c5 := ct.2.1.2; have c6 := ct.2.2.1; have c7 := ct.2.2.2.1; have c8 := ct.2.2.2.2; clear ct; go_wp2_with fail
            refine postB_val ?_ (Below.refl _ _)
            simp only [List.getElem?_cons_succ, List.getElem?_cons_zero]
            rfl
          case s33 =>
            refine BStep.of [28, 32] [(121, 28), (125, 32)] (opV _) (by kernel_rfl) (fun _ _ => by kernel_rfl) rfl ?_
            intro vs wv hB hA
            have h28 : vs 28 = _ := hA.1
            have h32 : vs 32 = _ := hA.2.1
            clear hA
            simp only [fillP, List.setIfInBounds_toArray, List.set_cons_zero, List.set_cons_succ, h28, h32]
            have ct := CT.out wv hB; have c1 := ct.1.1; have c2 := ct.1.2.1; have c3 := ct.1.2.2; have c4 := ct.2.1.1; have c5 := ct.2.1.2; have c6 := ct.2.2.1; have c7 := ct.2.2.2.1; have c8 := ct.2.2.2.2; clear ct; go_wp2_with fail
            refine postB_val ?_ (Below.refl _ _)
            simp only [List.getElem?_cons_succ, List.getElem?_cons_zero]
            rfl
          case s34 =>
            refine BStep.of [33] [(126, 33)] (opV _) (by kernel_rfl) (fun _ _ => by kernel_rfl) rfl ?_
            intro vs wv hB hA
            have h33 : vs 33 = _ := hA.1
            clear hA
            simp only [fillP, List.setIfInBounds_toArray, List.set_cons_zero, List.set_cons_succ, h33]
            have ct := CT.out wv hB; have c1 := ct.1.1; have c2 := ct.1.2.1; have c3 := ct.1.2.2; have c4 := ct.2.1.1; have c5 := ct.2.1.2; have c6 := ct.2.2.1; have c7 := ct.2.2.2.1; have c8 := ct.2.2.2.2; clear ct; go_wp2_with fail
            refine postB_val ?_ (Below.refl _ _)
            simp only [List.getElem?_cons_succ, List.getElem?_cons_zero]
            rfl
          case s35 =>
            refine BStep.of [33] [(126, 33)] (opV _) (by kernel_rfl) (fun _ _ => by kernel_rfl) rfl ?_
            intro vs wv hB hA
            have h33 : vs 33 = _ := hA.1
            clear hA
            simp only [fillP, List.setIfInBounds_toArray, List.set_cons_zero, List.set_cons_succ, h33]
            have ct := CT.out wv hB; have c1 := ct.1.1; have c2 := ct.1.2.1; have c3 := ct.1.2.2; have c4 := ct.2.1.1; have c5 := ct.2.1.2; have c6 := ct.2.2.1; have c7 := ct.2.2.2.1; have c8 := ct.2.2.2.2; clear ct; go_wp2_with fail
            refine postB_val ?_ (Below.refl _ _)
            simp only [List.getElem?_cons_succ, List.getElem?_cons_zero]
            rfl
          case s36 =>
            refine BStep.of [33, 34, 35] [(126, 33), (127, 34), (128, 35)] (opV _) (by kernel_rfl) (fun _ _ => by kernel_rfl) rfl ?_
            intro vs wv hB hA
            have h33 : vs 33 = _ := hA.1
            have h34 : vs 34 = _ := hA.2.1
            have h35 : vs 35 = _ := hA.2.2.1
            clear hA
            simp only [fillP, List.setIfInBounds_toArray, List.set_cons_zero, List.set_cons_succ, h33, h34, h35]
            have ct := CT.out wv hB; have c1 := ct.1.1; have c2 := ct.1.2.1; have c3 := ct.1.2.2; have c4 := ct.2.1.1; have c5 := ct.2.1.2; have c6 := ct.2.2.1; have c7 := ct.2.2.2.1; have c8 := ct.2.2.2.2; clear ct; go_wp2_with fail
            refine postB_val ?_ (Below.refl _ _)
            simp only [List.getElem?_cons_succ, List.getElem?_cons_zero]
            rfl
          case s37 =>
            refine BStep.of [33, 36] [(126, 33), (129, 36)] (opV _) (by kernel_rfl) (fun _ _ => by kernel_rfl) rfl ?_
            intro vs wv hB hA
            have h33 : vs 33 = _ := hA.1
            have h36 : vs 36 = _ := hA.2.1
            clear hA
            simp only [fillP, List.setIfInBounds_toArray, List.set_cons_zero, List.set_cons_succ, h33, h36]
            have ct := CT.out wv hB; have c1 := ct.1.1; have c2 := ct.1.2.1; have c3 := ct.1.2.2; have c4 := ct.2.1.1; have c5 := ct.2.1.2; have c6 := ct.2.2.1; have c7 := ct.2.2.2.1; have c8 := ct.2.2.2.2; clear ct; go_wp2_with fail
            refine postB_val ?_ (Below.refl _ _)
            simp only [List.getElem?_cons_succ, List.getElem?_cons_zero]
            rfl
          case s38 =>
            refine BStep.of [37] [(130, 37)] (opV _) (by kernel_rfl) (fun _ _ => by kernel_rfl) rfl ?_
            intro vs wv hB hA
            have h37 : vs 37 = _ := hA.1
            clear hA
            simp only [fillP, List.setIfInBounds_toArray, List.set_cons_zero, List.set_cons_succ, h37]
            have ct := CT.out wv hB; have c1 := ct.1.1; have c2 := ct.1.2.1; have c3 := ct.1.2.2; have c4 := ct.2.1.1; have c5 := ct.2.1.2; have c6 := ct.2.2.1; have c7 := ct.2.2.2.1; have c8 := ct.2.2.2.2; clear ct; go_wp2_with fail
            refine postB_val ?_ (Below.refl _ _)
            simp only [List.getElem?_cons_succ, List.getElem?_cons_zero]
            rfl
          case s39 =>
            refine BStep.of [37, 38] [(130, 37), (131, 38)] (opV _) (by kernel_rfl) (fun _ _ => by kernel_rfl) rfl ?_
            intro vs wv hB hA
            have h37 : vs 37 = _ := hA.1
            have h38 : vs 38 = _ := hA.2.1
            clear hA
            simp only [fillP, List.setIfInBounds_toArray, List.set_cons_zero, List.set_cons_succ, h37, h38]
            have ct := CT.out wv hB; have c1 := ct.1.1; have c2 := ct.1.2.1; have c3 := ct.1.2.2; have c4 := ct.2.1.1; have c5 := ct.2.1.2; have c6 := ct.2.2.1; have c7 := ct.2.2.2.1; have c8 := ct.2.2.2.2; clear ct; go_wp2_with fail
            refine postB_val ?_ (Below.refl _ _)
            simp only [List.getElem?_cons_succ, List.getElem?_cons_zero]
            rfl
          case s40 =>
            refine BStep.of [37] [(130, 37)] (opV _) (by kernel_rfl) (fun _ _ => by kernel_rfl) rfl ?_
            intro vs wv hB hA
            have h37 : vs 37 = _ := hA.1
            clear hA
            simp only [fillP, List.setIfInBounds_toArray, List.set_cons_zero, List.set_cons_succ, h37]
            have ct := CT.out wv hB; have c1 := ct.1.1; have c2 := ct.1.2.1; have c3 := ct.1.2.2; have c4 := ct.2.1.1; have c5 := ct.2.1.2; have c6 := ct.2.2.1; have c7 := ct.2.2.2.1; have c8 := ct.2.2.2.2; clear ct; go_wp2_with fail
            refine postB_val ?_ (Below.refl _ _)
            simp only [List.getElem?_cons_succ, List.getElem?_cons_zero]
            rfl
          case s41 =>
            refine BStep.of [37, 39, 40] [(130, 37), (132, 39), (133, 40)] (opV _) (by kernel_rfl) (fun _ _ => by kernel_rfl) rfl ?_
            intro vs wv hB hA
            have h37 : vs 37 = _ := hA.1
            have h39 : vs 39 = _ := hA.2.1
            have h40 : vs 40 = _ := hA.2.2.1
            clear hA
            simp only [fillP, List.setIfInBounds_toArray, List.set_cons_zero, List.set_cons_succ, h37, h39, h40]
            have ct := CT.out wv hB; have c1 := ct.1.1; have c2 := ct.1.2.1; have c3 := ct.1.2.2; have c4 := ct.2.1.1; have c5 := ct.2.1.2; have c6 := ct.2.2.1; have c7 := ct.2.2.2.1; have c8 := ct.2.2.2.2; clear ct; go_wp2_with fail
            refine postB_val ?_ (Below.refl _ _)
            simp only [List.getElem?_cons_succ, List.getElem?_cons_zero]
            rfl
          case s42 =>
            refine BStep.of [37, 41] [(130, 37), (134, 41)] (opV _) (by kernel_rfl) (fun _ _ => by kernel_rfl) rfl ?_
            intro vs wv hB hA
            have h37 : vs 37 = _ := hA.1
            have h41 : vs 41 = _ := hA.2.1
            clear hA
            simp only [fillP, List.setIfInBounds_toArray, List.set_cons_zero, List.set_cons_succ, h37, h41]
            have ct := CT.out wv hB; have c1 := ct.1.1; have c2 := ct.1.2.1; have c3 := ct.1.2.2; have c4 := ct.2.1.1; have c5 := ct.2.1.2; have c6 := ct.2.2.1; have c7 := ct.2.2.2.1; have c8 := ct.2.2.2.2; clear ct; go_wp2_with fail
            refine postB_val ?_ (Below.refl _ _)
            simp only [List.getElem?_cons_succ, List.getElem?_cons_zero]
            rfl
          case s43 =>
            refine BStep.of [37, 42] [(130, 37), (135, 42)] (opV _) (by kernel_rfl) (fun _ _ => by kernel_rfl) rfl ?_
            intro vs wv hB hA
            have h37 : vs 37 = _ := hA.1
            have h42 : vs 42 = _ := hA.2.1
            clear hA
            simp only [fillP, List.setIfInBounds_toArray, List.set_cons_zero, List.set_cons_succ, h37, h42]
            have ct := CT.out wv hB; have c1 := ct.1.1; have c2 := ct.1.2.1; have c3 := ct.1.2.2; have c4 := ct.2.1.1; have c5 := ct.2.1.2; have c6 := ct.2.2.1; have c7 := ct.2.2.2.1; have c8 := ct.2.2.2.2; clear ct; go_wp2_with fail
            refine postB_val ?_ (Below.refl _ _)
            simp only [List.getElem?_cons_succ, List.getElem?_cons_zero]
            rfl
          case s44 =>
            refine BStep.of [33, 37, 43] [(126, 33), (130, 37), (136, 43)] (opV _) (by kernel_rfl) (fun _ _ => by kernel_rfl) rfl ?_
            intro vs wv hB hA
            have h33 : vs 33 = _ := hA.1
            have h37 : vs 37 = _ := hA.2.1
            have h43 : vs 43 = _ := hA.2.2.1
            clear hA
            simp only [fillP, List.setIfInBounds_toArray, List.set_cons_zero, List.set_cons_succ, h33, h37, h43]
            have ct := CT.out wv hB; have c1 := ct.1.1; have c2 := ct.1.2.1; have c3 := ct.1.2.2; have c4 := ct.2.1.1; have c5 := ct.2.1.2; have c6 := ct.2.2.1; have c7 := ct.2.2.2.1; have c8 := ct.2.2.2.2; clear ct; go_wp2_with fail
            refine postB_val ?_ (Below.refl _ _)
            simp only [List.getElem?_cons_succ, List.getElem?_cons_zero]
            rfl
          case s45 =>
            refine BStep.of [33, 44] [(126, 33), (137, 44)] (opV _) (by kernel_rfl) (fun _ _ => by kernel_rfl) rfl ?_
            intro vs wv hB hA
            have h33 : vs 33 = _ := hA.1
            have h44 : vs 44 = _ := hA.2.1
            clear hA
            simp only [fillP, List.setIfInBounds_toArray, List.set_cons_zero, List.set_cons_succ, h33, h44]
            have ct := CT.out wv hB; have c1 := ct.1.1; have c2 := ct.1.2.1; have c3 := ct.1.2.2; have c4 := ct.2.1.1; have c5 := ct.2.1.2; have c6 := ct.2.2.1; have c7 := ct.2.2.2.1; have c8 := ct.2.2.2.2; clear ct; go_wp2_with fail
            refine postB_val ?_ (Below.refl _ _)
            simp only [List.getElem?_cons_succ, List.getElem?_cons_zero]
            rfl
          case fin =>
            refine fin_of [0, 1, 2, 3, 4, 5, 6, 7, 8, 9, 10, 11, 12, 13, 14, 15, 16, 17, 18, 19, 20, 21, 22, 23, 24, 25, 26, 27, 28, 29, 30, 31, 32, 33, 34, 35, 36, 37, 38, 39, 40, 41, 42, 43, 44, 45] [(93, 0), (94, 1), (95, 2), (96, 3), (97, 4), (98, 5), (99, 6), (100, 7), (101, 8), (102, 9), (103, 10), (104, 11), (105, 12), (106, 13), (107, 14), (108, 15), (109, 16), (110, 17), (111, 18), (112, 19), (113, 20), (114, 21), (115, 22), (116, 23), (117, 24), (118, 25), (119, 26), (120, 27), (121, 28), (122, 29), (123, 30), (124, 31), (125, 32), (126, 33), (127, 34), (128, 35), (129, 36), (130, 37), (131, 38), (132, 39), (133, 40), (134, 41), (135, 42), (136, 43), (137, 44), (138, 45)] (by kernel_rfl) (fun _ _ => by kernel_rfl) ?_
            intro vs wv hB hA
            have h0 : vs 0 = _ := hA.1
            have h1 : vs 1 = _ := hA.2.1
            have h2 : vs 2 = _ := hA.2.2.1
            have h3 : vs 3 = _ := hA.2.2.2.1
            have h4 : vs 4 = _ := hA.2.2.2.2.1
            have h5 : vs 5 = _ := hA.2.2.2.2.2.1
            have h6 : vs 6 = _ := hA.2.2.2.2.2.2.1
            have h7 : vs 7 = _ := hA.2.2.2.2.2.2.2.1
            have h8 : vs 8 = _ := hA.2.2.2.2.2.2.2.2.1
            have h9 : vs 9 = _ := hA.2.2.2.2.2.2.2.2.2.1
            have h10 : vs 10 = _ := hA.2.2.2.2.2.2.2.2.2.2.1
            have h11 : vs 11 = _ := hA.2.2.2.2.2.2.2.2.2.2.2.1
            have h12 : vs 12 = _ := hA.2.2.2.2.2.2.2.2.2.2.2.2.1
            have h13 : vs 13 = _ := hA.2.2.2.2.2.2.2.2.2.2.2.2.2.1
            have h14 : vs 14 = _ := hA.2.2.2.2.2.2.2.2.2.2.2.2.2.2.1
            have h15 : vs 15 = _ := hA.2.2.2.2.2.2.2.2.2.2.2.2.2.2.2.1
            have h16 : vs 16 = _ := hA.2.2.2.2.2.2.2.2.2.2.2.2.2.2.2.2.1
            have h17 : vs 17 = _ := hA.2.2.2.2.2.2.2.2.2.2.2.2.2.2.2.2.2.1
            have h18 : vs 18 = _ := hA.2.2.2.2.2.2.2.2.2.2.2.2.2.2.2.2.2.2.1
            have h19 : vs 19 = _ := hA.2.2.2.2.2.2.2.2.2.2.2.2.2.2.2.2.2.2.2.1
            have h20 : vs 20 = _ := hA.2.2.2.2.2.2.2.2.2.2.2.2.2.2.2.2.2.2.2.2.1
            have h21 : vs 21 = _ := hA.2.2.2.2.2.2.2.2.2.2.2.2.2.2.2.2.2.2.2.2.2.1
            have h22 : vs 22 = _ := hA.2.2.2.2.2.2.2.2.2.2.2.2.2.2.2.2.2.2.2.2.2.2.1
            have h23 : vs 23 = _ := hA.2.2.2.2.2.2.2.2.2.2.2.2.2.2.2.2.2.2.2.2.2.2.2.1
            have h24 : vs 24 = _ := hA.2.2.2.2.2.2.2.2.2.2.2.2.2.2.2.2.2.2.2.2.2.2.2.2.1
            have h25 : vs 25 = _ := hA.2.2.2.2.2.2.2.2.2.2.2.2.2.2.2.2.2.2.2.2.2.2.2.2.2.1
            have h26 : vs 26 = _ := hA.2.2.2.2.2.2.2.2.2.2.2.2.2.2.2.2.2.2.2.2.2.2.2.2.2.2.1
            have h27 : vs 27 = _ := hA.2.2.2.2.2.2.2.2.2.2.2.2.2.2.2.2.2.2.2.2.2.2.2.2.2.2.2.1
            have h28 : vs 28 = _ := hA.2.2.2.2.2.2.2.2.2.2.2.2.2.2.2.2.2.2.2.2.2.2.2.2.2.2.2.2.1
            have h29 : vs 29 = _ := hA.2.2.2.2.2.2.2.2.2.2.2.2.2.2.2.2.2.2.2.2.2.2.2.2.2.2.2.2.2.1
            have h30 : vs 30 = _ := hA.2.2.2.2.2.2.2.2.2.2.2.2.2.2.2.2.2.2.2.2.2.2.2.2.2.2.2.2.2.2.1
            have h31 : vs 31 = _ := hA.2.2.2.2.2.2.2.2.2.2.2.2.2.2.2.2.2.2.2.2.2.2.2.2.2.2.2.2.2.2.2.1
            have h32 : vs 32 = _ := hA.2.2.2.2.2.2.2.2.2.2.2.2.2.2.2.2.2.2.2.2.2.2.2.2.2.2.2.2.2.2.2.2.1
            have h33 : vs 33 = _ := hA.2.2.2.2.2.2.2.2.2.2.2.2.2.2.2.2.2.2.2.2.2.2.2.2.2.2.2.2.2.2.2.2.2.1
            have h34 : vs 34 = _ := hA.2.2.2.2.2.2.2.2.2.2.2.2.2.2.2.2.2.2.2.2.2.2.2.2.2.2.2.2.2.2.2.2.2.2.1
            have h35 : vs 35 = _ := hA.2.2.2.2.2.2.2.2.2.2.2.2.2.2.2.2.2.2.2.2.2.2.2.2.2.2.2.2.2.2.2.2.2.2.2.1
            have h36 : vs 36 = _ := hA.2.2.2.2.2.2.2.2.2.2.2.2.2.2.2.2.2.2.2.2.2.2.2.2.2.2.2.2.2.2.2.2.2.2.2.2.1
            have h37 : vs 37 = _ := hA.2.2.2.2.2.2.2.2.2.2.2.2.2.2.2.2.2.2.2.2.2.2.2.2.2.2.2.2.2.2.2.2.2.2.2.2.2.1
            have h38 : vs 38 = _ := hA.2.2.2.2.2.2.2.2.2.2.2.2.2.2.2.2.2.2.2.2.2.2.2.2.2.2.2.2.2.2.2.2.2.2.2.2.2.2.1
            have h39 : vs 39 = _ := hA.2.2.2.2.2.2.2.2.2.2.2.2.2.2.2.2.2.2.2.2.2.2.2.2.2.2.2.2.2.2.2.2.2.2.2.2.2.2.2.1
            have h40 : vs 40 = _ := hA.2.2.2.2.2.2.2.2.2.2.2.2.2.2.2.2.2.2.2.2.2.2.2.2.2.2.2.2.2.2.2.2.2.2.2.2.2.2.2.2.1
            have h41 : vs 41 = _ := hA.2.2.2.2.2.2.2.2.2.2.2.2.2.2.2.2.2.2.2.2.2.2.2.2.2.2.2.2.2.2.2.2.2.2.2.2.2.2.2.2.2.1
            have h42 : vs 42 = _ := hA.2.2.2.2.2.2.2.2.2.2.2.2.2.2.2.2.2.2.2.2.2.2.2.2.2.2.2.2.2.2.2.2.2.2.2.2.2.2.2.2.2.2.1
            have h43 : vs 43 = _ := hA.2.2.2.2.2.2.2.2.2.2.2.2.2.2.2.2.2.2.2.2.2.2.2.2.2.2.2.2.2.2.2.2.2.2.2.2.2.2.2.2.2.2.2.1
            have h44 : vs 44 = _ := hA.2.2.2.2.2.2.2.2.2.2.2.2.2.2.2.2.2.2.2.2.2.2.2.2.2.2.2.2.2.2.2.2.2.2.2.2.2.2.2.2.2.2.2.2.1
            have h45 : vs 45 = _ := hA.2.2.2.2.2.2.2.2.2.2.2.2.2.2.2.2.2.2.2.2.2.2.2.2.2.2.2.2.2.2.2.2.2.2.2.2.2.2.2.2.2.2.2.2.2.1
            clear hA
            simp only [fillP, List.setIfInBounds_toArray, List.set_cons_zero, List.set_cons_succ, h0, h1, h2, h3, h4, h5, h6, h7, h8, h9, h10, h11, h12, h13, h14, h15, h16, h17, h18, h19, h20, h21, h22, h23, h24, h25, h26, h27, h28, h29, h30, h31, h32, h33, h34, h35, h36, h37, h38, h39, h40, h41, h42, h43, h44, h45]
            go_wp2_with fail
            go_roundg (n - (i + 1))
            case measure => omega
            case rel => exact ⟨i + 1, by go_num, by omega, Nat.le_refl _, Lib.hid (HS.out wv hB)⟩
      · obtain rfl : i = n := by omega
        have hz1 : ¬ (i : Int) < i := by omega
        have wm : IntKind.i64.wrap ((i : Int) - 1) = ((i - 1 : Nat) : Int) := by rw [IntWalk.i64_in _ (by omega)]; omega
        have BO := Lib.hid (b_next B8.out HB.out)
        have D9 := Lib.hid (D8.out.keep HB.out)
        have CL9 := Lib.hid (fun x (hx : x < i) W (hW : Below wo.heap.size wo W) => CL.out x hx W (HS.out W hW))
        clear HB HS D8 CL B8
        generalize wo = w9 at BO D9 CL9 ⊢
        go_upto_region 18 with fail
        clear hz1
        have C7 : Hid (Below w9.heap.size w9 (w9.alloc (.cells #[.int .i64 0, .int .i64 0] 25))) := Lib.hid ((Below.refl _ _).alloc (Nat.le_refl _) _)
        have M7 : Hid (MgAt (w9.alloc (.cells #[.int .i64 0, .int .i64 0] 25)) w9.heap.size mgZ) := Lib.hid (MgAt.new w9 mgZ)
        go_wp2_with fail
        generalize w9.alloc (.cells #[.int .i64 0, .int .i64 0] 25) = w10 at C7 M7 ⊢
        obtain ⟨q, hq⟩ : ∃ q, w9.heap.size = q := ⟨_, rfl⟩
        rw [hq] at C7 M7 ⊢
        have HQ := Lib.hid hq
        clear hq
        have E0 : Hid (tailT l (i - 1 + 1) = mgZ) := Lib.hid (by rw [show i - 1 + 1 = i by omega]; exact TE.out)
        generalize hm : i - 1 = m at E0 ⊢
        go_loopg [11] m (fun g' vl wr => ∃ x : Nat, vl = .int .i64 x ∧ k ≤ x ∧ x < i ∧ x ≤ g' ∧ Hid (∀ z, x < z → z < l.length → (kAt l z).thr = true) ∧ Hid (Below q w9 wr) ∧ Hid (MgAt wr q (tailT l (x + 1))))
        case atStart => exact ⟨m, rfl, by omega, by omega, Nat.le_refl _, Lib.hid (fun z h1 h2 => by have := HL.out; omega), C7, by rw [E0.out]; exact M7⟩
        case round =>
          obtain ⟨x, rfl, hkx, hxn, hg3, HT2, HB, HW⟩ := hrel
          obtain ⟨wo, hwo⟩ : ∃ wo, wo = wr := ⟨_, rfl⟩
          subst hwo
          have HS : Hid (∀ W, Below wo.heap.size wo W → Below q w9 W) := Lib.hid (fun W hW => HB.out.trans (hW.mono (by have := HB.out.size; have := HQ.out; omega)))
          have hz1 : (x : Int) < i := by omega
          have hz0 : (0 : Int) ≤ x := by omega
          have VK := Lib.hid (CL9.out x hxn)
          have CT : Hid (∀ W, Below q w9 W → KdAt W b (off + x * 6) (kAt l x)) := Lib.hid (fun W hW => VK.out W (by rw [HQ.out]; exact hW))
          have a5 := (CT.out wo HB.out).2.2.2.2.2
          obtain ⟨tb, htb⟩ : ∃ tb, (kAt l x).thr = tb := ⟨_, rfl⟩
          rw [htb] at a5
          have HX := Lib.hid htb
          clear htb VK
          cases tb with
          | true =>
            have hkx2 : k < x := by
              rcases Nat.lt_or_ge k x with h | h
              · exact h
              · obtain rfl : k = x := by omega
                have := F.out.no
                rw [HX.out] at this
                cases this
            have wm2 : IntKind.i64.wrap ((x : Int) - 1) = ((x - 1 : Nat) : Int) := by rw [IntWalk.i64_in _ (by omega)]; omega
            have J2 := Lib.hid (TT.out x hxn)
            have HT3 : Hid (∀ z, x - 1 < z → z < l.length → (kAt l z).thr = true) := Lib.hid (fun z h1 h2 => by
              by_cases e : z = x
              · rw [e]; exact HX.out
              · exact HT2.out z (by omega) h2)
            have CT : Hid (∀ W, Below wo.heap.size wo W → KdAt W b (off + x * 6) (kAt l x)) := Lib.hid (fun W hW => CT.out W (HS.out W hW))
            generalize kAt l x = kd at CT J2
            generalize tailT l (x + 1) = a at HW J2
            obtain ⟨jn, hjn⟩ : ∃ jn, tailT l x = jn := ⟨_, rfl⟩
            rw [hjn] at J2
            have E2 : Hid (tailT l (x - 1 + 1) = jn) := Lib.hid (by rw [show x - 1 + 1 = x by omega]; exact hjn)
            clear hjn
            have KJ1 := Lib.hid (fun W v (h : MgIn W v [a, kd.t, kd.b]) => HJ0.out [a, kd.t, kd.b] v W h (by simp))
            rw [joinM_three, ← J2.out] at KJ1
            clear J2
            obtain ⟨⟨tu, td⟩, ⟨bu, bd⟩, hh, thr⟩ := kd
            obtain ⟨a1, a2⟩ := a
            obtain ⟨j1, j2⟩ := jn
            dsimp only at KJ1 HW
            unfold mgV at KJ1
            dsimp only at KJ1
            unfold KdAt at CT
            dsimp only at CT
            go_upto_region 20 with fail
            refine' wp_region_last [opV _, opV _, opV _, opV _, opV _, opV _, opV _, opV _, opV _, opV _, opV _, opM [(a1, a2), (tu, td), (bu, bd)], opV (.agg #[.int .i64 j1, .int .i64 j2])] 13 _ rfl (by kernel_rfl) rfl (by kernel_rfl) ⟨?s0, ?s1, ?s2, ?s3, ?s4, ?s5, ?s6, ?s7, ?s8, ?s9, ?s10, ?s11, ?s12, trivial⟩ rfl ?fin
            case s0 =>
              refine BStep.of [] [] (opV _) (by kernel_rfl) (fun _ _ => by kernel_rfl) rfl ?_
              intro vs wv hB hA
              clear hA
              simp only [fillP]
              have ct := CT.out wv hB; have a0 := ct.1; have a1 := ct.2.1; have a2 := ct.2.2.1; have a3 := ct.2.2.2.1; clear ct; have q0 := (MgAt.cells (HW.out.keep hB)).1; have q1 := (MgAt.cells (HW.out.keep hB)).2; dsimp only at q0 q1; go_wp2_with fail
              refine postB_val ?_ (Below.refl _ _)
              simp only [List.getElem?_cons_succ, List.getElem?_cons_zero]
              rfl
            case s1 =>
              refine BStep.of [] [] (opV _) (by kernel_rfl) (fun _ _ => by kernel_rfl) rfl ?_
              intro vs wv hB hA
              clear hA
              simp only [fillP]
              have ct := CT.out wv hB; have a0 := ct.1; have a1 := ct.2.1; have a2 := ct.2.2.1; have a3 := ct.2.2.2.1; clear ct; have q0 := (MgAt.cells (HW.out.keep hB)).1; have q1 := (MgAt.cells (HW.out.keep hB)).2; dsimp only at q0 q1; go_wp2_with fail
              refine postB_val ?_ (Below.refl _ _)
              simp only [List.getElem?_cons_succ, List.getElem?_cons_zero]
              rfl
            case s2 =>
              refine BStep.of [] [] (opV _) (by kernel_rfl) (fun _ _ => by kernel_rfl) rfl ?_
              intro vs wv hB hA
              clear hA
              simp only [fillP]
              have ct := CT.out wv hB; have a0 := ct.1; have a1 := ct.2.1; have a2 := ct.2.2.1; have a3 := ct.2.2.2.1; clear ct; have q0 := (MgAt.cells (HW.out.keep hB)).1; have q1 := (MgAt.cells (HW.out.keep hB)).2; dsimp only at q0 q1; go_wp2_with fail
              refine postB_val ?_ (Below.refl _ _)
              simp only [List.getElem?_cons_succ, List.getElem?_cons_zero]
              rfl
            case s3 =>
              refine BStep.of [1, 2] [(149, 1), (150, 2)] (opV _) (by kernel_rfl) (fun _ _ => by kernel_rfl) rfl ?_
              intro vs wv hB hA
              have h1 : vs 1 = _ := hA.1
              have h2 : vs 2 = _ := hA.2.1
              clear hA
              simp only [fillP, List.setIfInBounds_toArray, List.set_cons_zero, List.set_cons_succ, h1, h2]
              have ct := CT.out wv hB; have a0 := ct.1; have a1 := ct.2.1; have a2 := ct.2.2.1; have a3 := ct.2.2.2.1; clear ct; have q0 := (MgAt.cells (HW.out.keep hB)).1; have q1 := (MgAt.cells (HW.out.keep hB)).2; dsimp only at q0 q1; go_wp2_with fail
              refine postB_val ?_ (Below.refl _ _)
              simp only [List.getElem?_cons_succ, List.getElem?_cons_zero]
              rfl
            case s4 =>
              refine BStep.of [3] [(151, 3)] (opV _) (by kernel_rfl) (fun _ _ => by kernel_rfl) rfl ?_
              intro vs wv hB hA
              have h3 : vs 3 = _ := hA.1
              clear hA
              simp only [fillP, List.setIfInBounds_toArray, List.set_cons_zero, List.set_cons_succ, h3]
              have ct := CT.out wv hB; have a0 := ct.1; have a1 := ct.2.1; have a2 := ct.2.2.1; have a3 := ct.2.2.2.1; clear ct; have q0 := (MgAt.cells (HW.out.keep hB)).1; have q1 := (MgAt.cells (HW.out.keep hB)).2; dsimp only at q0 q1; go_wp2_with fail
              refine postB_val ?_ (Below.refl _ _)
              simp only [List.getElem?_cons_succ, List.getElem?_cons_zero]
              rfl
            case s5 =>
              refine BStep.of [4] [(152, 4)] (opV _) (by kernel_rfl) (fun _ _ => by kernel_rfl) rfl ?_
              intro vs wv hB hA
              have h4 : vs 4 = _ := hA.1
              clear hA
              simp only [fillP, List.setIfInBounds_toArray, List.set_cons_zero, List.set_cons_succ, h4]
              have ct := CT.out wv hB; have a0 := ct.1; have a1 := ct.2.1; have a2 := ct.2.2.1; have a3 := ct.2.2.2.1; clear ct; have q0 := (MgAt.cells (HW.out.keep hB)).1; have q1 := (MgAt.cells (HW.out.keep hB)).2; dsimp only at q0 q1; go_wp2_with fail
              refine postB_val ?_ (Below.refl _ _)
              simp only [List.getElem?_cons_succ, List.getElem?_cons_zero]
              rfl
            case s6 =>
              refine BStep.of [] [] (opV _) (by kernel_rfl) (fun _ _ => by kernel_rfl) rfl ?_
              intro vs wv hB hA
              clear hA
              simp only [fillP]
              have ct := CT.out wv hB; have a0 := ct.1; have a1 := ct.2.1; have a2 := ct.2.2.1; have a3 := ct.2.2.2.1; clear ct; have q0 := (MgAt.cells (HW.out.keep hB)).1; have q1 := (MgAt.cells (HW.out.keep hB)).2; dsimp only at q0 q1; go_wp2_with fail
              refine postB_val ?_ (Below.refl _ _)
              simp only [List.getElem?_cons_succ, List.getElem?_cons_zero]
              rfl
            case s7 =>
              refine BStep.of [] [] (opV _) (by kernel_rfl) (fun _ _ => by kernel_rfl) rfl ?_
              intro vs wv hB hA
              clear hA
              simp only [fillP]
              have ct := CT.out wv hB; have a0 := ct.1; have a1 := ct.2.1; have a2 := ct.2.2.1; have a3 := ct.2.2.2.1; clear ct; have q0 := (MgAt.cells (HW.out.keep hB)).1; have q1 := (MgAt.cells (HW.out.keep hB)).2; dsimp only at q0 q1; go_wp2_with fail
              refine postB_val ?_ (Below.refl _ _)
              simp only [List.getElem?_cons_succ, List.getElem?_cons_zero]
              rfl
            case s8 =>
              refine BStep.of [6, 7] [(154, 6), (155, 7)] (opV _) (by kernel_rfl) (fun _ _ => by kernel_rfl) rfl ?_
              intro vs wv hB hA
              have h6 : vs 6 = _ := hA.1
              have h7 : vs 7 = _ := hA.2.1
              clear hA
              simp only [fillP, List.setIfInBounds_toArray, List.set_cons_zero, List.set_cons_succ, h6, h7]
              have ct := CT.out wv hB; have a0 := ct.1; have a1 := ct.2.1; have a2 := ct.2.2.1; have a3 := ct.2.2.2.1; clear ct; have q0 := (MgAt.cells (HW.out.keep hB)).1; have q1 := (MgAt.cells (HW.out.keep hB)).2; dsimp only at q0 q1; go_wp2_with fail
              refine postB_val ?_ (Below.refl _ _)
              simp only [List.getElem?_cons_succ, List.getElem?_cons_zero]
              rfl
            case s9 =>
              refine BStep.of [8] [(156, 8)] (opV _) (by kernel_rfl) (fun _ _ => by kernel_rfl) rfl ?_
              intro vs wv hB hA
              have h8 : vs 8 = _ := hA.1
              clear hA
              simp only [fillP, List.setIfInBounds_toArray, List.set_cons_zero, List.set_cons_succ, h8]
              have ct := CT.out wv hB; have a0 := ct.1; have a1 := ct.2.1; have a2 := ct.2.2.1; have a3 := ct.2.2.2.1; clear ct; have q0 := (MgAt.cells (HW.out.keep hB)).1; have q1 := (MgAt.cells (HW.out.keep hB)).2; dsimp only at q0 q1; go_wp2_with fail
              refine postB_val ?_ (Below.refl _ _)
              simp only [List.getElem?_cons_succ, List.getElem?_cons_zero]
              rfl
            case s10 =>
              refine BStep.of [9] [(157, 9)] (opV _) (by kernel_rfl) (fun _ _ => by kernel_rfl) rfl ?_
              intro vs wv hB hA
              have h9 : vs 9 = _ := hA.1
              clear hA
              simp only [fillP, List.setIfInBounds_toArray, List.set_cons_zero, List.set_cons_succ, h9]
              have ct := CT.out wv hB; have a0 := ct.1; have a1 := ct.2.1; have a2 := ct.2.2.1; have a3 := ct.2.2.2.1; clear ct; have q0 := (MgAt.cells (HW.out.keep hB)).1; have q1 := (MgAt.cells (HW.out.keep hB)).2; dsimp only at q0 q1; go_wp2_with fail
              refine postB_val ?_ (Below.refl _ _)
              simp only [List.getElem?_cons_succ, List.getElem?_cons_zero]
              rfl
            case s11 =>
              refine BStep.of [0, 5, 10] [(148, 0), (153, 5), (158, 10)] (opM [(a1, a2), (tu, td), (bu, bd)]) (by kernel_rfl) (fun _ _ => by kernel_rfl) rfl ?_
              intro vs wv hB hA
              have h0 : vs 0 = _ := hA.1
              have h5 : vs 5 = _ := hA.2.1
              have h10 : vs 10 = _ := hA.2.2.1
              clear hA
              simp only [fillP, List.setIfInBounds_toArray, List.set_cons_zero, List.set_cons_succ, h0, h5, h10]
              go_wp2_with fail; exact postB_R rfl (new_three wv (a1, a2) (tu, td) (bu, bd)) ((Below.refl _ _).alloc (Nat.le_refl _) _)
            case s12 =>
              refine BStep.of [11] [(159, 11)] (opV (.agg #[.int .i64 j1, .int .i64 j2])) (by kernel_rfl) (fun _ _ => by kernel_rfl) rfl ?_
              intro vs wv hB hA
              have h11 : MgIn wv (vs 11) [(a1, a2), (tu, td), (bu, bd)] := hA.1
              clear hA
              simp only [fillP, List.setIfInBounds_toArray, List.set_cons_zero, List.set_cons_succ]
              (go_wp2_with (go_at_call 15; (with_reducible refine (KJ1.out _ _ h11).mono ?_); rintro e w7 ⟨rfl, hb⟩)); exact postB_val rfl hb
            case fin =>
              refine last_of [0, 1, 2, 3, 4, 5, 6, 7, 8, 9, 10, 11, 12] [(148, 0), (149, 1), (150, 2), (151, 3), (152, 4), (153, 5), (154, 6), (155, 7), (156, 8), (157, 9), (158, 10), (159, 11), (160, 12)] (by kernel_rfl) (fun _ _ => by kernel_rfl) ?_
              intro vs wv hB hA
              have h0 : vs 0 = _ := hA.1
              have h1 : vs 1 = _ := hA.2.1
              have h2 : vs 2 = _ := hA.2.2.1
              have h3 : vs 3 = _ := hA.2.2.2.1
              have h4 : vs 4 = _ := hA.2.2.2.2.1
              have h5 : vs 5 = _ := hA.2.2.2.2.2.1
              have h6 : vs 6 = _ := hA.2.2.2.2.2.2.1
              have h7 : vs 7 = _ := hA.2.2.2.2.2.2.2.1
              have h8 : vs 8 = _ := hA.2.2.2.2.2.2.2.2.1
              have h9 : vs 9 = _ := hA.2.2.2.2.2.2.2.2.2.1
              have h10 : vs 10 = _ := hA.2.2.2.2.2.2.2.2.2.2.1
              have h11 : MgIn wv (vs 11) [(a1, a2), (tu, td), (bu, bd)] := hA.2.2.2.2.2.2.2.2.2.2.2.1
              have h12 : vs 12 = _ := hA.2.2.2.2.2.2.2.2.2.2.2.2.1
              clear hA
              simp only [fillP, List.setIfInBounds_toArray, List.set_cons_zero, List.set_cons_succ, h0, h1, h2, h3, h4, h5, h6, h7, h8, h9, h10, h12]
              have q0 := (MgAt.cells (HW.out.keep hB)).1
              have q1 := (MgAt.cells (HW.out.keep hB)).2
              have z0 := MgAt.fro (HW.out.keep hB) 0
              have z1 := MgAt.fro (HW.out.keep hB) 1
              dsimp only at q0 q1
              have M6 : Hid (MgAt ((wv.setCell ⟨q, 0, none⟩ (.int .i64 j1)).setCell ⟨q, 1, none⟩ (.int .i64 j2)) q (j1, j2)) := Lib.hid (((HW.out.keep hB).set 0 (.int .i64 j1) (j1, a2) rfl).set 1 (.int .i64 j2) (j1, j2) rfl)
              have B7 := Lib.hid (((HS.out wv hB).setCell (p := ⟨q, 0, none⟩) (Nat.le_refl _) (.int .i64 j1)).setCell (p := ⟨q, 1, none⟩) (Nat.le_refl _) (.int .i64 j2))
              go_wp2_with fail
              go_roundg (x - 1)
              case measure => omega
              case rel => exact ⟨x - 1, by go_num, by omega, by omega, Nat.le_refl _, HT3, B7, by rw [E2.out]; exact M6⟩
          | false =>
            obtain ⟨w1e, w2e⟩ := LK.out x hxn HX.out HT2.out
            have AX := Lib.hid (YI.out x hxn)
            obtain ⟨y, hy⟩ : ∃ y, atS (runS (startS false) (l.take x)) (kAt l x) = y := ⟨_, rfl⟩
            rw [hy] at AX w2e
            have YX := Lib.hid (YB.out y (List.mem_of_getElem? AX.out))
            obtain ⟨y2, z2, hA1, -, -, -, hA2⟩ := OP.out k (by omega)
            have hA3 : y2 = V := hA2 rfl
            subst hA3
            have NB := Lib.hid (NA.out (kAt l x) (by rw [kAt_get (by have := HL.out; omega)]; exact List.getElem_mem _))
            have SB := Lib.hid SN.out
            clear hy
            generalize kAt l x = kd at CT w1e w2e NB HX
            generalize tailT l (x + 1) = a at HW w1e
            have KJ1 := Lib.hid (fun W v (h : MgIn W v [a, kd.b]) => HJ0.out [a, kd.b] v W h (by simp))
            rw [joinM_two, ← w1e, ← EB.out] at KJ1
            obtain ⟨⟨tu, td⟩, ⟨bu, bd⟩, hh, thr⟩ := kd
            obtain ⟨a1, a2⟩ := a
            dsimp only at KJ1 HW w2e NB HX
            unfold mgV at KJ1
            dsimp only at KJ1
            have HHB : Hid (0 ≤ hh ∧ hh ≤ 268435456) := Lib.hid ⟨NB.out.1, NB.out.2.1⟩
            have hb1 := SB.out.wt
            rw [← EB.out] at hb1 EH1
            unfold SmallM MayM at hb1
            dsimp only at hb1 EH1
            obtain ⟨e1, he1⟩ : ∃ e1, sE.y = e1 := ⟨_, rfl⟩
            rw [he1] at EH1 EH3 w2e
            have b1 : IntKind.i64.wrap (y + hh) = e1 := by rw [IntWalk.i64_in _ (by have := YX.out; have := HHB.out; omega)]; exact w2e.symm
            have KV2 := Lib.hid (fun W => HV0.out (s1, s2) W)
            have v2 : valueM (s1, s2) = s1 + s2 := IntWalk.i64_in _ (by dsimp only; omega)
            rw [v2] at KV2
            obtain ⟨V2, hV2⟩ : ∃ V2, s1 + s2 = V2 := ⟨_, rfl⟩
            rw [hV2] at KV2
            unfold mgV at KV2
            dsimp only at KV2
            obtain ⟨e2, he2⟩ : ∃ e2, e1 + s1 + s2 = e2 := ⟨_, rfl⟩
            rw [he2] at EH1
            have b2 : IntKind.i64.wrap (e1 + V2) = e2 := by rw [IntWalk.i64_in _ (by have := YX.out; have := HHB.out; omega)]; omega
            obtain ⟨m3, hm3, O3⟩ := max_or e1
            obtain ⟨m1, hm1, O1⟩ := max_or e2
            rw [hm3] at EH3
            rw [hm1] at EH1
            have e3 := EH3.out
            have e4 := EH1.out
            subst e3 e4
            replace O3 := Lib.hid O3
            replace O1 := Lib.hid O1
            have CS : Hid (∀ W, Below q w9 W → KdAt W b (off + x * 6) ⟨(tu, td), (bu, bd), hh, thr⟩ ∧ Open3 W g1 g2 g3 gr1 gr2 gr3 i cr1 cr2 cr3 P Q ⟨P, H1, (p1, p2), (p3, p4), false⟩ ⟨Q, H2, (t1, t2), (r3, r4), false⟩ ⟨P, H3, (m5, m6), (s1, s2), false⟩) := Lib.hid (fun W hW => ⟨CT.out W hW, D9.out.keep (by rw [HQ.out]; exact hW)⟩)
            have CC : Hid (∀ W, Below q w9 W → KdAt W b (off + x * 6) ⟨(tu, td), (bu, bd), hh, thr⟩ ∧ (W.cell? ⟨g1, 0, none⟩ = some (.slice (some ⟨gr1, 0, none⟩) i cr1) ∧ W.cell? ⟨g1, 1, none⟩ = some (.int .i64 H1) ∧ W.cell? ⟨g1, 6, none⟩ = some (.bool false)) ∧ (W.cell? ⟨g2, 2, none⟩ = some (.int .i64 t1) ∧ W.cell? ⟨g2, 3, none⟩ = some (.int .i64 t2) ∧ W.cell? ⟨g2, 6, none⟩ = some (.bool false)) ∧ (W.cell? ⟨g3, 0, none⟩ = some (.slice (some ⟨gr3, 0, none⟩) i cr3) ∧ W.cell? ⟨g3, 1, none⟩ = some (.int .i64 H3) ∧ W.cell? ⟨g3, 4, none⟩ = some (.int .i64 s1) ∧ W.cell? ⟨g3, 5, none⟩ = some (.int .i64 s2) ∧ W.cell? ⟨g3, 6, none⟩ = some (.bool false)) ∧ W.cell? ⟨gr1, k, none⟩ = some (.int .i64 y2) ∧ W.cell? ⟨gr3, x, none⟩ = some (.int .i64 y)) := Lib.hid (fun W hW => by
              obtain ⟨d0, d⟩ := CS.out W hW
              have ca := d.a.cells
              have cb := d.b.cells
              have cc := d.c.cells
              exact ⟨d0, ⟨ca.1, ca.2.1, ca.2.2.2.2.2.2⟩, ⟨cb.2.2.1, cb.2.2.2.1, cb.2.2.2.2.2.2⟩, ⟨cc.1, cc.2.1, cc.2.2.2.2.1, cc.2.2.2.2.2.1, cc.2.2.2.2.2.2⟩, d.p k y2 hA1, d.r x y AX.out⟩)
            have BZ : Hid (∀ W, Below q w9 W → Below w.heap.size w W) := Lib.hid (fun W hW => b_next BO.out (by rw [HQ.out]; exact hW))
            unfold KdAt at CC
            dsimp only at CC
            have k1 : (s1 == s1) = true := by simp
            have k2 : (s2 == s2) = true := by simp
            have k3 : (H1 == H1) = true := by simp
            have k4 : (H3 == H3) = true := by simp
            have k5 : (y2 == y2) = true := by simp
            have hz2 : (k : Int) < i := by omega
            have hz3 : (0 : Int) ≤ k := by omega
            clear CS AX hA1 hA2 w1e w2e NB HX SB hb1 v2 hV2 he1 he2 hm1 hm3 EH1 EH3 CT D9 CL9 SN LK YI YB TT TE OP F NA
            go_upto_region 22 with fail
            refine' wp_region_last [opV _, opV _, opV _, opV _, opV _, opV _, opM [(a1, a2), (bu, bd)], opV (.agg #[.int .i64 s1, .int .i64 s2])] 8 _ rfl (by kernel_rfl) rfl (by kernel_rfl) ⟨?s0, ?s1, ?s2, ?s3, ?s4, ?s5, ?s6, ?s7, trivial⟩ rfl ?fin
            case s0 =>
              refine BStep.of [] [] (opV _) (by kernel_rfl) (fun _ _ => by kernel_rfl) rfl ?_
              intro vs wv hB hA
              clear hA
              simp only [fillP]
              have ct := (CC.out wv (HS.out wv hB)).1; have a2 := ct.2.2.1; have a3 := ct.2.2.2.1; clear ct; have q0 := (MgAt.cells (HW.out.keep hB)).1; have q1 := (MgAt.cells (HW.out.keep hB)).2; dsimp only at q0 q1; go_wp2_with fail
              refine postB_val ?_ (Below.refl _ _)
              simp only [List.getElem?_cons_succ, List.getElem?_cons_zero]
              rfl
            case s1 =>
              refine BStep.of [] [] (opV _) (by kernel_rfl) (fun _ _ => by kernel_rfl) rfl ?_
              intro vs wv hB hA
              clear hA
              simp only [fillP]
              have ct := (CC.out wv (HS.out wv hB)).1; have a2 := ct.2.2.1; have a3 := ct.2.2.2.1; clear ct; have q0 := (MgAt.cells (HW.out.keep hB)).1; have q1 := (MgAt.cells (HW.out.keep hB)).2; dsimp only at q0 q1; go_wp2_with fail
              refine postB_val ?_ (Below.refl _ _)
              simp only [List.getElem?_cons_succ, List.getElem?_cons_zero]
              rfl
            case s2 =>
              refine BStep.of [] [] (opV _) (by kernel_rfl) (fun _ _ => by kernel_rfl) rfl ?_
              intro vs wv hB hA
              clear hA
              simp only [fillP]
              have ct := (CC.out wv (HS.out wv hB)).1; have a2 := ct.2.2.1; have a3 := ct.2.2.2.1; clear ct; have q0 := (MgAt.cells (HW.out.keep hB)).1; have q1 := (MgAt.cells (HW.out.keep hB)).2; dsimp only at q0 q1; go_wp2_with fail
              refine postB_val ?_ (Below.refl _ _)
              simp only [List.getElem?_cons_succ, List.getElem?_cons_zero]
              rfl
            case s3 =>
              refine BStep.of [1, 2] [(164, 1), (165, 2)] (opV _) (by kernel_rfl) (fun _ _ => by kernel_rfl) rfl ?_
              intro vs wv hB hA
              have h1 : vs 1 = _ := hA.1
              have h2 : vs 2 = _ := hA.2.1
              clear hA
              simp only [fillP, List.setIfInBounds_toArray, List.set_cons_zero, List.set_cons_succ, h1, h2]
              have ct := (CC.out wv (HS.out wv hB)).1; have a2 := ct.2.2.1; have a3 := ct.2.2.2.1; clear ct; have q0 := (MgAt.cells (HW.out.keep hB)).1; have q1 := (MgAt.cells (HW.out.keep hB)).2; dsimp only at q0 q1; go_wp2_with fail
              refine postB_val ?_ (Below.refl _ _)
              simp only [List.getElem?_cons_succ, List.getElem?_cons_zero]
              rfl
            case s4 =>
              refine BStep.of [3] [(166, 3)] (opV _) (by kernel_rfl) (fun _ _ => by kernel_rfl) rfl ?_
              intro vs wv hB hA
              have h3 : vs 3 = _ := hA.1
              clear hA
              simp only [fillP, List.setIfInBounds_toArray, List.set_cons_zero, List.set_cons_succ, h3]
              have ct := (CC.out wv (HS.out wv hB)).1; have a2 := ct.2.2.1; have a3 := ct.2.2.2.1; clear ct; have q0 := (MgAt.cells (HW.out.keep hB)).1; have q1 := (MgAt.cells (HW.out.keep hB)).2; dsimp only at q0 q1; go_wp2_with fail
              refine postB_val ?_ (Below.refl _ _)
              simp only [List.getElem?_cons_succ, List.getElem?_cons_zero]
              rfl
            case s5 =>
              refine BStep.of [4] [(167, 4)] (opV _) (by kernel_rfl) (fun _ _ => by kernel_rfl) rfl ?_
              intro vs wv hB hA
              have h4 : vs 4 = _ := hA.1
              clear hA
              simp only [fillP, List.setIfInBounds_toArray, List.set_cons_zero, List.set_cons_succ, h4]
              have ct := (CC.out wv (HS.out wv hB)).1; have a2 := ct.2.2.1; have a3 := ct.2.2.2.1; clear ct; have q0 := (MgAt.cells (HW.out.keep hB)).1; have q1 := (MgAt.cells (HW.out.keep hB)).2; dsimp only at q0 q1; go_wp2_with fail
              refine postB_val ?_ (Below.refl _ _)
              simp only [List.getElem?_cons_succ, List.getElem?_cons_zero]
              rfl
            case s6 =>
              refine BStep.of [0, 5] [(163, 0), (168, 5)] (opM [(a1, a2), (bu, bd)]) (by kernel_rfl) (fun _ _ => by kernel_rfl) rfl ?_
              intro vs wv hB hA
              have h0 : vs 0 = _ := hA.1
              have h5 : vs 5 = _ := hA.2.1
              clear hA
              simp only [fillP, List.setIfInBounds_toArray, List.set_cons_zero, List.set_cons_succ, h0, h5]
              go_wp2_with fail; exact postB_R rfl (new_two wv (a1, a2) (bu, bd)) ((Below.refl _ _).alloc (Nat.le_refl _) _)
            case s7 =>
              refine BStep.of [6] [(169, 6)] (opV (.agg #[.int .i64 s1, .int .i64 s2])) (by kernel_rfl) (fun _ _ => by kernel_rfl) rfl ?_
              intro vs wv hB hA
              have h6 : MgIn wv (vs 6) [(a1, a2), (bu, bd)] := hA.1
              clear hA
              simp only [fillP, List.setIfInBounds_toArray, List.set_cons_zero, List.set_cons_succ]
              (go_wp2_with (go_at_call 15; (with_reducible refine (KJ1.out _ _ h6).mono ?_); rintro e w7 ⟨rfl, hb⟩)); exact postB_val rfl hb
            case fin =>
              refine last_of [0, 1, 2, 3, 4, 5, 6, 7] [(163, 0), (164, 1), (165, 2), (166, 3), (167, 4), (168, 5), (169, 6), (170, 7)] (by kernel_rfl) (fun _ _ => by kernel_rfl) ?_
              intro vs wv hB hA
              have h0 : vs 0 = _ := hA.1
              have h1 : vs 1 = _ := hA.2.1
              have h2 : vs 2 = _ := hA.2.2.1
              have h3 : vs 3 = _ := hA.2.2.2.1
              have h4 : vs 4 = _ := hA.2.2.2.2.1
              have h5 : vs 5 = _ := hA.2.2.2.2.2.1
              have h6 : MgIn wv (vs 6) [(a1, a2), (bu, bd)] := hA.2.2.2.2.2.2.1
              have h7 : vs 7 = _ := hA.2.2.2.2.2.2.2.1
              clear hA
              simp only [fillP, List.setIfInBounds_toArray, List.set_cons_zero, List.set_cons_succ, h0, h1, h2, h3, h4, h5, h7]
              have q0 := (MgAt.cells (HW.out.keep hB)).1
              have q1 := (MgAt.cells (HW.out.keep hB)).2
              have z0 := MgAt.fro (HW.out.keep hB) 0
              have z1 := MgAt.fro (HW.out.keep hB) 1
              dsimp only at q0 q1
              have M6 : Hid (MgAt ((wv.setCell ⟨q, 0, none⟩ (.int .i64 s1)).setCell ⟨q, 1, none⟩ (.int .i64 s2)) q (s1, s2)) := Lib.hid (((HW.out.keep hB).set 0 (.int .i64 s1) (s1, a2) rfl).set 1 (.int .i64 s2) (s1, s2) rfl)
              have B7 := Lib.hid (((HS.out wv hB).setCell (p := ⟨q, 0, none⟩) (Nat.le_refl _) (.int .i64 s1)).setCell (p := ⟨q, 1, none⟩) (Nat.le_refl _) (.int .i64 s2))
              go_wp2_with fail
              clear q0 q1 z0 z1 HW HS hB HB
              generalize (wv.setCell ⟨q, 0, none⟩ (.int .i64 s1)).setCell ⟨q, 1, none⟩ (.int .i64 s2) = w11 at M6 B7 ⊢
              have HS : Hid (∀ W, Below w11.heap.size w11 W → Below q w9 W) := Lib.hid (fun W hW => B7.out.trans (hW.mono (by have := B7.out.size; have := HQ.out; omega)))
              refine' wp_region_below [opV _, opV _, opV _, opV _, opV _, opV _, opV _, opV _, opV _, opV _, opV _, opV _] rfl (by kernel_rfl) ⟨?s0, ?s1, ?s2, ?s3, ?s4, ?s5, ?s6, ?s7, ?s8, ?s9, ?s10, ?s11, trivial⟩ ?fin
              case s0 =>
                refine BStep.of [] [] (opV _) (by kernel_rfl) (fun _ _ => by kernel_rfl) rfl ?_
                intro vs wv hB hA
                clear hA
                simp only [fillP]
                have ct := CC.out wv (HS.out wv hB); have a4 := ct.1.2.2.2.2.1; have c3 := ct.2.2.2.1.1; have c8 := ct.2.2.2.2.2; clear ct; go_wp2_with fail
                refine postB_val ?_ (Below.refl _ _)
                simp only [List.getElem?_cons_succ, List.getElem?_cons_zero]
                rfl
              case s1 =>
                refine BStep.of [0] [(171, 0)] (opV _) (by kernel_rfl) (fun _ _ => by kernel_rfl) rfl ?_
                intro vs wv hB hA
                have h0 : vs 0 = _ := hA.1
                clear hA
                simp only [fillP, List.setIfInBounds_toArray, List.set_cons_zero, List.set_cons_succ, h0]
                have ct := CC.out wv (HS.out wv hB); have a4 := ct.1.2.2.2.2.1; have c3 := ct.2.2.2.1.1; have c8 := ct.2.2.2.2.2; clear ct; go_wp2_with fail
                refine postB_val ?_ (Below.refl _ _)
                simp only [List.getElem?_cons_succ, List.getElem?_cons_zero]
                rfl
              case s2 =>
                refine BStep.of [] [] (opV _) (by kernel_rfl) (fun _ _ => by kernel_rfl) rfl ?_
                intro vs wv hB hA
                clear hA
                simp only [fillP]
                have ct := CC.out wv (HS.out wv hB); have a4 := ct.1.2.2.2.2.1; have c3 := ct.2.2.2.1.1; have c8 := ct.2.2.2.2.2; clear ct; go_wp2_with fail
                refine postB_val ?_ (Below.refl _ _)
                simp only [List.getElem?_cons_succ, List.getElem?_cons_zero]
                rfl
              case s3 =>
                refine BStep.of [1, 2] [(172, 1), (173, 2)] (opV _) (by kernel_rfl) (fun _ _ => by kernel_rfl) rfl ?_
                intro vs wv hB hA
                have h1 : vs 1 = _ := hA.1
                have h2 : vs 2 = _ := hA.2.1
                clear hA
                simp only [fillP, List.setIfInBounds_toArray, List.set_cons_zero, List.set_cons_succ, h1, h2]
                have ct := CC.out wv (HS.out wv hB); have a4 := ct.1.2.2.2.2.1; have c3 := ct.2.2.2.1.1; have c8 := ct.2.2.2.2.2; clear ct; go_wp2_with fail
                refine postB_val ?_ (Below.refl _ _)
                simp only [List.getElem?_cons_succ, List.getElem?_cons_zero]
                rfl
              case s4 =>
                refine BStep.of [3] [(174, 3)] (opV _) (by kernel_rfl) (fun _ _ => by kernel_rfl) rfl ?_
                intro vs wv hB hA
                have h3 : vs 3 = _ := hA.1
                clear hA
                simp only [fillP, List.setIfInBounds_toArray, List.set_cons_zero, List.set_cons_succ, h3]
                have ct := CC.out wv (HS.out wv hB); have a4 := ct.1.2.2.2.2.1; have c3 := ct.2.2.2.1.1; have c8 := ct.2.2.2.2.2; clear ct; go_wp2_with fail
                refine postB_val ?_ (Below.refl _ _)
                simp only [List.getElem?_cons_succ, List.getElem?_cons_zero]
                rfl
              case s5 =>
                refine BStep.of [] [] (opV _) (by kernel_rfl) (fun _ _ => by kernel_rfl) rfl ?_
                intro vs wv hB hA
                clear hA
                simp only [fillP]
                have ct := CC.out wv (HS.out wv hB); have a4 := ct.1.2.2.2.2.1; have c3 := ct.2.2.2.1.1; have c8 := ct.2.2.2.2.2; clear ct; go_wp2_with fail
                refine postB_val ?_ (Below.refl _ _)
                simp only [List.getElem?_cons_succ, List.getElem?_cons_zero]
                rfl
              case s6 =>
                refine BStep.of [] [] (opV _) (by kernel_rfl) (fun _ _ => by kernel_rfl) rfl ?_
                intro vs wv hB hA
                clear hA
                simp only [fillP]
                have ct := CC.out wv (HS.out wv hB); have a4 := ct.1.2.2.2.2.1; have c3 := ct.2.2.2.1.1; have c8 := ct.2.2.2.2.2; clear ct; go_wp2_with fail
                refine postB_val ?_ (Below.refl _ _)
                simp only [List.getElem?_cons_succ, List.getElem?_cons_zero]
                rfl
              case s7 =>
                refine BStep.of [5, 6] [(176, 5), (177, 6)] (opV _) (by kernel_rfl) (fun _ _ => by kernel_rfl) rfl ?_
                intro vs wv hB hA
                have h5 : vs 5 = _ := hA.1
                have h6 : vs 6 = _ := hA.2.1
                clear hA
                simp only [fillP, List.setIfInBounds_toArray, List.set_cons_zero, List.set_cons_succ, h5, h6]
                have ct := CC.out wv (HS.out wv hB); have a4 := ct.1.2.2.2.2.1; have c3 := ct.2.2.2.1.1; have c8 := ct.2.2.2.2.2; clear ct; go_wp2_with fail
                refine postB_val ?_ (Below.refl _ _)
                simp only [List.getElem?_cons_succ, List.getElem?_cons_zero]
                rfl
              case s8 =>
                refine BStep.of [7] [(178, 7)] (opV _) (by kernel_rfl) (fun _ _ => by kernel_rfl) rfl ?_
                intro vs wv hB hA
                have h7 : vs 7 = _ := hA.1
                clear hA
                simp only [fillP, List.setIfInBounds_toArray, List.set_cons_zero, List.set_cons_succ, h7]
                have ct := CC.out wv (HS.out wv hB); have a4 := ct.1.2.2.2.2.1; have c3 := ct.2.2.2.1.1; have c8 := ct.2.2.2.2.2; clear ct; go_wp2_with fail
                refine postB_val ?_ (Below.refl _ _)
                simp only [List.getElem?_cons_succ, List.getElem?_cons_zero]
                rfl
              case s9 =>
                refine BStep.of [8] [(179, 8)] (opV _) (by kernel_rfl) (fun _ _ => by kernel_rfl) rfl ?_
                intro vs wv hB hA
                have h8 : vs 8 = _ := hA.1
                clear hA
                simp only [fillP, List.setIfInBounds_toArray, List.set_cons_zero, List.set_cons_succ, h8]
                have ct := CC.out wv (HS.out wv hB); have a4 := ct.1.2.2.2.2.1; have c3 := ct.2.2.2.1.1; have c8 := ct.2.2.2.2.2; clear ct; go_wp2_with fail
                refine postB_val ?_ (Below.refl _ _)
                simp only [List.getElem?_cons_succ, List.getElem?_cons_zero]
                rfl
              case s10 =>
                refine BStep.of [4, 9] [(175, 4), (180, 9)] (opV _) (by kernel_rfl) (fun _ _ => by kernel_rfl) rfl ?_
                intro vs wv hB hA
                have h4 : vs 4 = _ := hA.1
                have h9 : vs 9 = _ := hA.2.1
                clear hA
                simp only [fillP, List.setIfInBounds_toArray, List.set_cons_zero, List.set_cons_succ, h4, h9]
                have ct := CC.out wv (HS.out wv hB); have a4 := ct.1.2.2.2.2.1; have c3 := ct.2.2.2.1.1; have c8 := ct.2.2.2.2.2; clear ct; go_wp2_with fail
                refine postB_val ?_ (Below.refl _ _)
                simp only [List.getElem?_cons_succ, List.getElem?_cons_zero]
                rfl
              case s11 =>
                refine BStep.of [0, 1, 2, 3, 4, 5, 6, 7, 8, 9, 10] [(171, 0), (172, 1), (173, 2), (174, 3), (175, 4), (176, 5), (177, 6), (178, 7), (179, 8), (180, 9), (181, 10)] (opV _) (by kernel_rfl) (fun _ _ => by kernel_rfl) rfl ?_
                intro vs wv hB hA
                have h0 : vs 0 = _ := hA.1
                have h1 : vs 1 = _ := hA.2.1
                have h2 : vs 2 = _ := hA.2.2.1
                have h3 : vs 3 = _ := hA.2.2.2.1
                have h4 : vs 4 = _ := hA.2.2.2.2.1
                have h5 : vs 5 = _ := hA.2.2.2.2.2.1
                have h6 : vs 6 = _ := hA.2.2.2.2.2.2.1
                have h7 : vs 7 = _ := hA.2.2.2.2.2.2.2.1
                have h8 : vs 8 = _ := hA.2.2.2.2.2.2.2.2.1
                have h9 : vs 9 = _ := hA.2.2.2.2.2.2.2.2.2.1
                have h10 : vs 10 = _ := hA.2.2.2.2.2.2.2.2.2.2.1
                clear hA
                simp only [fillP, List.setIfInBounds_toArray, List.set_cons_zero, List.set_cons_succ, h0, h1, h2, h3, h4, h5, h6, h7, h8, h9, h10]
                have ct := CC.out wv (HS.out wv hB); have a4 := ct.1.2.2.2.2.1; have c3 := ct.2.2.2.1.1; have c8 := ct.2.2.2.2.2; clear ct; go_wp2_with fail
                refine postB_val ?_ (Below.refl _ _)
                simp only [List.getElem?_cons_succ, List.getElem?_cons_zero]
                rfl
              case fin =>
                refine fin_of [0, 1, 2, 3, 4, 5, 6, 7, 8, 9, 10, 11] [(171, 0), (172, 1), (173, 2), (174, 3), (175, 4), (176, 5), (177, 6), (178, 7), (179, 8), (180, 9), (181, 10), (13, 11)] (by kernel_rfl) (fun _ _ => by kernel_rfl) ?_
                intro vs wv hB hA
                have h0 : vs 0 = _ := hA.1
                have h1 : vs 1 = _ := hA.2.1
                have h2 : vs 2 = _ := hA.2.2.1
                have h3 : vs 3 = _ := hA.2.2.2.1
                have h4 : vs 4 = _ := hA.2.2.2.2.1
                have h5 : vs 5 = _ := hA.2.2.2.2.2.1
                have h6 : vs 6 = _ := hA.2.2.2.2.2.2.1
                have h7 : vs 7 = _ := hA.2.2.2.2.2.2.2.1
                have h8 : vs 8 = _ := hA.2.2.2.2.2.2.2.2.1
                have h9 : vs 9 = _ := hA.2.2.2.2.2.2.2.2.2.1
                have h10 : vs 10 = _ := hA.2.2.2.2.2.2.2.2.2.2.1
                have h11 : vs 11 = _ := hA.2.2.2.2.2.2.2.2.2.2.2.1
                clear hA
                simp only [fillP, List.setIfInBounds_toArray, List.set_cons_zero, List.set_cons_succ, h0, h1, h2, h3, h4, h5, h6, h7, h8, h9, h10, h11]
                go_wp2_with fail
                have B8 := Lib.hid (HS.out wv hB)
                have M8 := Lib.hid (M6.out.keep hB)
                clear HS hB M6 B7
                obtain ⟨w12, hw12⟩ : ∃ w12, w12 = wv := ⟨_, rfl⟩
                subst hw12
                have HS : Hid (∀ W, Below w12.heap.size w12 W → Below q w9 W) := Lib.hid (fun W hW => B8.out.trans (hW.mono (by have := B8.out.size; have := HQ.out; omega)))
                refine' wp_region_below [opV _, opV _, opV _, opV _, opV _, opV _, opV _, opV _, opV _, opV _, opV _, opV _, opV _, opV _, opV _, opV _, opV _, opV _, opV _, opV _, opV _, opV _, opV _, opV (.int .i64 H3), opV _, opV _, opV _, opV _, opV _, opV _, opV _, opV (.int .i64 V2), opV _, opV (.int .i64 H1), opV _, opV _, opV _, opV _, opV _, opV _, opV _, opV _, opV _, opV _, opV (.int .i64 y2), opV _, opV _, opV _] rfl (by kernel_rfl) ⟨?s0, ?s1, ?s2, ?s3, ?s4, ?s5, ?s6, ?s7, ?s8, ?s9, ?s10, ?s11, ?s12, ?s13, ?s14, ?s15, ?s16, ?s17, ?s18, ?s19, ?s20, ?s21, ?s22, ?s23, ?s24, ?s25, ?s26, ?s27, ?s28, ?s29, ?s30, ?s31, ?s32, ?s33, ?s34, ?s35, ?s36, ?s37, ?s38, ?s39, ?s40, ?s41, ?s42, ?s43, ?s44, ?s45, ?s46, ?s47, trivial⟩ ?fin
                case s0 =>
                  refine BStep.of [] [] (opV _) (by kernel_rfl) (fun _ _ => by kernel_rfl) rfl ?_
                  intro vs wv hB hA
                  clear hA
                  simp only [fillP]
                  have ct := CC.out wv (HS.out wv hB); have m1 := ct.2.1.1; have m2 := ct.2.1.2.1; have m3 := ct.2.1.2.2; have m4 := ct.2.2.1.1; have m5 := ct.2.2.1.2.1; have m6 := ct.2.2.1.2.2; have m7 := ct.2.2.2.1.2.1; have m8 := ct.2.2.2.1.2.2.1; have m9 := ct.2.2.2.1.2.2.2.1; have m0 := ct.2.2.2.1.2.2.2.2; have c8 := ct.2.2.2.2.1; clear ct; have q0 := (MgAt.cells (M8.out.keep hB)).1; have q1 := (MgAt.cells (M8.out.keep hB)).2; dsimp only at q0 q1; go_wp2_with fail
                  refine postB_val ?_ (Below.refl _ _)
                  simp only [List.getElem?_cons_succ, List.getElem?_cons_zero]
                  rfl
                case s1 =>
                  refine BStep.of [0] [(182, 0)] (opV _) (by kernel_rfl) (fun _ _ => by kernel_rfl) rfl ?_
                  intro vs wv hB hA
                  have h0 : vs 0 = _ := hA.1
                  clear hA
                  simp only [fillP, List.setIfInBounds_toArray, List.set_cons_zero, List.set_cons_succ, h0]
                  have ct := CC.out wv (HS.out wv hB); have m1 := ct.2.1.1; have m2 := ct.2.1.2.1; have m3 := ct.2.1.2.2; have m4 := ct.2.2.1.1; have m5 := ct.2.2.1.2.1; have m6 := ct.2.2.1.2.2; have m7 := ct.2.2.2.1.2.1; have m8 := ct.2.2.2.1.2.2.1; have m9 := ct.2.2.2.1.2.2.2.1; have m0 := ct.2.2.2.1.2.2.2.2; have c8 := ct.2.2.2.2.1; clear ct; have q0 := (MgAt.cells (M8.out.keep hB)).1; have q1 := (MgAt.cells (M8.out.keep hB)).2; dsimp only at q0 q1; go_wp2_with fail
                  refine postB_val ?_ (Below.refl _ _)
                  simp only [List.getElem?_cons_succ, List.getElem?_cons_zero]
                  rfl
                case s2 =>
                  refine BStep.of [1] [(183, 1)] (opV _) (by kernel_rfl) (fun _ _ => by kernel_rfl) rfl ?_
                  intro vs wv hB hA
                  have h1 : vs 1 = _ := hA.1
                  clear hA
                  simp only [fillP, List.setIfInBounds_toArray, List.set_cons_zero, List.set_cons_succ, h1]
                  have ct := CC.out wv (HS.out wv hB); have m1 := ct.2.1.1; have m2 := ct.2.1.2.1; have m3 := ct.2.1.2.2; have m4 := ct.2.2.1.1; have m5 := ct.2.2.1.2.1; have m6 := ct.2.2.1.2.2; have m7 := ct.2.2.2.1.2.1; have m8 := ct.2.2.2.1.2.2.1; have m9 := ct.2.2.2.1.2.2.2.1; have m0 := ct.2.2.2.1.2.2.2.2; have c8 := ct.2.2.2.2.1; clear ct; have q0 := (MgAt.cells (M8.out.keep hB)).1; have q1 := (MgAt.cells (M8.out.keep hB)).2; dsimp only at q0 q1; go_wp2_with fail
                  refine postB_val ?_ (Below.refl _ _)
                  simp only [List.getElem?_cons_succ, List.getElem?_cons_zero]
                  rfl
                case s3 =>
                  refine BStep.of [2] [(184, 2)] (opV _) (by kernel_rfl) (fun _ _ => by kernel_rfl) rfl ?_
                  intro vs wv hB hA
                  have h2 : vs 2 = _ := hA.1
                  clear hA
                  simp only [fillP, List.setIfInBounds_toArray, List.set_cons_zero, List.set_cons_succ, h2]
                  have ct := CC.out wv (HS.out wv hB); have m1 := ct.2.1.1; have m2 := ct.2.1.2.1; have m3 := ct.2.1.2.2; have m4 := ct.2.2.1.1; have m5 := ct.2.2.1.2.1; have m6 := ct.2.2.1.2.2; have m7 := ct.2.2.2.1.2.1; have m8 := ct.2.2.2.1.2.2.1; have m9 := ct.2.2.2.1.2.2.2.1; have m0 := ct.2.2.2.1.2.2.2.2; have c8 := ct.2.2.2.2.1; clear ct; have q0 := (MgAt.cells (M8.out.keep hB)).1; have q1 := (MgAt.cells (M8.out.keep hB)).2; dsimp only at q0 q1; go_wp2_with fail
                  refine postB_val ?_ (Below.refl _ _)
                  simp only [List.getElem?_cons_succ, List.getElem?_cons_zero]
                  rfl
                case s4 =>
                  refine BStep.of [3] [(185, 3)] (opV _) (by kernel_rfl) (fun _ _ => by kernel_rfl) rfl ?_
                  intro vs wv hB hA
                  have h3 : vs 3 = _ := hA.1
                  clear hA
                  simp only [fillP, List.setIfInBounds_toArray, List.set_cons_zero, List.set_cons_succ, h3]
                  have ct := CC.out wv (HS.out wv hB); have m1 := ct.2.1.1; have m2 := ct.2.1.2.1; have m3 := ct.2.1.2.2; have m4 := ct.2.2.1.1; have m5 := ct.2.2.1.2.1; have m6 := ct.2.2.1.2.2; have m7 := ct.2.2.2.1.2.1; have m8 := ct.2.2.2.1.2.2.1; have m9 := ct.2.2.2.1.2.2.2.1; have m0 := ct.2.2.2.1.2.2.2.2; have c8 := ct.2.2.2.2.1; clear ct; have q0 := (MgAt.cells (M8.out.keep hB)).1; have q1 := (MgAt.cells (M8.out.keep hB)).2; dsimp only at q0 q1; go_wp2_with fail
                  refine postB_val ?_ (Below.refl _ _)
                  simp only [List.getElem?_cons_succ, List.getElem?_cons_zero]
                  rfl
                case s5 =>
                  refine BStep.of [3, 4] [(185, 3), (186, 4)] (opV _) (by kernel_rfl) (fun _ _ => by kernel_rfl) rfl ?_
                  intro vs wv hB hA
                  have h3 : vs 3 = _ := hA.1
                  have h4 : vs 4 = _ := hA.2.1
                  clear hA
                  simp only [fillP, List.setIfInBounds_toArray, List.set_cons_zero, List.set_cons_succ, h3, h4]
                  have ct := CC.out wv (HS.out wv hB); have m1 := ct.2.1.1; have m2 := ct.2.1.2.1; have m3 := ct.2.1.2.2; have m4 := ct.2.2.1.1; have m5 := ct.2.2.1.2.1; have m6 := ct.2.2.1.2.2; have m7 := ct.2.2.2.1.2.1; have m8 := ct.2.2.2.1.2.2.1; have m9 := ct.2.2.2.1.2.2.2.1; have m0 := ct.2.2.2.1.2.2.2.2; have c8 := ct.2.2.2.2.1; clear ct; have q0 := (MgAt.cells (M8.out.keep hB)).1; have q1 := (MgAt.cells (M8.out.keep hB)).2; dsimp only at q0 q1; go_wp2_with fail
                  refine postB_val ?_ (Below.refl _ _)
                  simp only [List.getElem?_cons_succ, List.getElem?_cons_zero]
                  rfl
                case s6 =>
                  refine BStep.of [3, 5] [(185, 3), (187, 5)] (opV _) (by kernel_rfl) (fun _ _ => by kernel_rfl) rfl ?_
                  intro vs wv hB hA
                  have h3 : vs 3 = _ := hA.1
                  have h5 : vs 5 = _ := hA.2.1
                  clear hA
                  simp only [fillP, List.setIfInBounds_toArray, List.set_cons_zero, List.set_cons_succ, h3, h5]
                  have ct := CC.out wv (HS.out wv hB); have m1 := ct.2.1.1; have m2 := ct.2.1.2.1; have m3 := ct.2.1.2.2; have m4 := ct.2.2.1.1; have m5 := ct.2.2.1.2.1; have m6 := ct.2.2.1.2.2; have m7 := ct.2.2.2.1.2.1; have m8 := ct.2.2.2.1.2.2.1; have m9 := ct.2.2.2.1.2.2.2.1; have m0 := ct.2.2.2.1.2.2.2.2; have c8 := ct.2.2.2.2.1; clear ct; have q0 := (MgAt.cells (M8.out.keep hB)).1; have q1 := (MgAt.cells (M8.out.keep hB)).2; dsimp only at q0 q1; go_wp2_with fail
                  refine postB_val ?_ (Below.refl _ _)
                  simp only [List.getElem?_cons_succ, List.getElem?_cons_zero]
                  rfl
                case s7 =>
                  refine BStep.of [3, 6] [(185, 3), (188, 6)] (opV _) (by kernel_rfl) (fun _ _ => by kernel_rfl) rfl ?_
                  intro vs wv hB hA
                  have h3 : vs 3 = _ := hA.1
                  have h6 : vs 6 = _ := hA.2.1
                  clear hA
                  simp only [fillP, List.setIfInBounds_toArray, List.set_cons_zero, List.set_cons_succ, h3, h6]
                  have ct := CC.out wv (HS.out wv hB); have m1 := ct.2.1.1; have m2 := ct.2.1.2.1; have m3 := ct.2.1.2.2; have m4 := ct.2.2.1.1; have m5 := ct.2.2.1.2.1; have m6 := ct.2.2.1.2.2; have m7 := ct.2.2.2.1.2.1; have m8 := ct.2.2.2.1.2.2.1; have m9 := ct.2.2.2.1.2.2.2.1; have m0 := ct.2.2.2.1.2.2.2.2; have c8 := ct.2.2.2.2.1; clear ct; have q0 := (MgAt.cells (M8.out.keep hB)).1; have q1 := (MgAt.cells (M8.out.keep hB)).2; dsimp only at q0 q1; go_wp2_with fail
                  refine postB_val ?_ (Below.refl _ _)
                  simp only [List.getElem?_cons_succ, List.getElem?_cons_zero]
                  rfl
                case s8 =>
                  refine BStep.of [3, 7] [(185, 3), (189, 7)] (opV _) (by kernel_rfl) (fun _ _ => by kernel_rfl) rfl ?_
                  intro vs wv hB hA
                  have h3 : vs 3 = _ := hA.1
                  have h7 : vs 7 = _ := hA.2.1
                  clear hA
                  simp only [fillP, List.setIfInBounds_toArray, List.set_cons_zero, List.set_cons_succ, h3, h7]
                  have ct := CC.out wv (HS.out wv hB); have m1 := ct.2.1.1; have m2 := ct.2.1.2.1; have m3 := ct.2.1.2.2; have m4 := ct.2.2.1.1; have m5 := ct.2.2.1.2.1; have m6 := ct.2.2.1.2.2; have m7 := ct.2.2.2.1.2.1; have m8 := ct.2.2.2.1.2.2.1; have m9 := ct.2.2.2.1.2.2.2.1; have m0 := ct.2.2.2.1.2.2.2.2; have c8 := ct.2.2.2.2.1; clear ct; have q0 := (MgAt.cells (M8.out.keep hB)).1; have q1 := (MgAt.cells (M8.out.keep hB)).2; dsimp only at q0 q1; go_wp2_with fail
                  refine postB_val ?_ (Below.refl _ _)
                  simp only [List.getElem?_cons_succ, List.getElem?_cons_zero]
                  rfl
                case s9 =>
                  refine BStep.of [8] [(190, 8)] (opV _) (by kernel_rfl) (fun _ _ => by kernel_rfl) rfl ?_
                  intro vs wv hB hA
                  have h8 : vs 8 = _ := hA.1
                  clear hA
                  simp only [fillP, List.setIfInBounds_toArray, List.set_cons_zero, List.set_cons_succ, h8]
                  have ct := CC.out wv (HS.out wv hB); have m1 := ct.2.1.1; have m2 := ct.2.1.2.1; have m3 := ct.2.1.2.2; have m4 := ct.2.2.1.1; have m5 := ct.2.2.1.2.1; have m6 := ct.2.2.1.2.2; have m7 := ct.2.2.2.1.2.1; have m8 := ct.2.2.2.1.2.2.1; have m9 := ct.2.2.2.1.2.2.2.1; have m0 := ct.2.2.2.1.2.2.2.2; have c8 := ct.2.2.2.2.1; clear ct; have q0 := (MgAt.cells (M8.out.keep hB)).1; have q1 := (MgAt.cells (M8.out.keep hB)).2; dsimp only at q0 q1; go_wp2_with fail
                  refine postB_val ?_ (Below.refl _ _)
                  simp only [List.getElem?_cons_succ, List.getElem?_cons_zero]
                  rfl
                case s10 =>
                  refine BStep.of [8, 9] [(190, 8), (191, 9)] (opV _) (by kernel_rfl) (fun _ _ => by kernel_rfl) rfl ?_
                  intro vs wv hB hA
                  have h8 : vs 8 = _ := hA.1
                  have h9 : vs 9 = _ := hA.2.1
                  clear hA
                  simp only [fillP, List.setIfInBounds_toArray, List.set_cons_zero, List.set_cons_succ, h8, h9]
                  have ct := CC.out wv (HS.out wv hB); have m1 := ct.2.1.1; have m2 := ct.2.1.2.1; have m3 := ct.2.1.2.2; have m4 := ct.2.2.1.1; have m5 := ct.2.2.1.2.1; have m6 := ct.2.2.1.2.2; have m7 := ct.2.2.2.1.2.1; have m8 := ct.2.2.2.1.2.2.1; have m9 := ct.2.2.2.1.2.2.2.1; have m0 := ct.2.2.2.1.2.2.2.2; have c8 := ct.2.2.2.2.1; clear ct; have q0 := (MgAt.cells (M8.out.keep hB)).1; have q1 := (MgAt.cells (M8.out.keep hB)).2; dsimp only at q0 q1; go_wp2_with fail
                  refine postB_val ?_ (Below.refl _ _)
                  simp only [List.getElem?_cons_succ, List.getElem?_cons_zero]
                  rfl
                case s11 =>
                  refine BStep.of [8, 10] [(190, 8), (192, 10)] (opV _) (by kernel_rfl) (fun _ _ => by kernel_rfl) rfl ?_
                  intro vs wv hB hA
                  have h8 : vs 8 = _ := hA.1
                  have h10 : vs 10 = _ := hA.2.1
                  clear hA
                  simp only [fillP, List.setIfInBounds_toArray, List.set_cons_zero, List.set_cons_succ, h8, h10]
                  have ct := CC.out wv (HS.out wv hB); have m1 := ct.2.1.1; have m2 := ct.2.1.2.1; have m3 := ct.2.1.2.2; have m4 := ct.2.2.1.1; have m5 := ct.2.2.1.2.1; have m6 := ct.2.2.1.2.2; have m7 := ct.2.2.2.1.2.1; have m8 := ct.2.2.2.1.2.2.1; have m9 := ct.2.2.2.1.2.2.2.1; have m0 := ct.2.2.2.1.2.2.2.2; have c8 := ct.2.2.2.2.1; clear ct; have q0 := (MgAt.cells (M8.out.keep hB)).1; have q1 := (MgAt.cells (M8.out.keep hB)).2; dsimp only at q0 q1; go_wp2_with fail
                  refine postB_val ?_ (Below.refl _ _)
                  simp only [List.getElem?_cons_succ, List.getElem?_cons_zero]
                  rfl
                case s12 =>
                  refine BStep.of [8, 11] [(190, 8), (193, 11)] (opV _) (by kernel_rfl) (fun _ _ => by kernel_rfl) rfl ?_
                  intro vs wv hB hA
                  have h8 : vs 8 = _ := hA.1
                  have h11 : vs 11 = _ := hA.2.1
                  clear hA
                  simp only [fillP, List.setIfInBounds_toArray, List.set_cons_zero, List.set_cons_succ, h8, h11]
                  have ct := CC.out wv (HS.out wv hB); have m1 := ct.2.1.1; have m2 := ct.2.1.2.1; have m3 := ct.2.1.2.2; have m4 := ct.2.2.1.1; have m5 := ct.2.2.1.2.1; have m6 := ct.2.2.1.2.2; have m7 := ct.2.2.2.1.2.1; have m8 := ct.2.2.2.1.2.2.1; have m9 := ct.2.2.2.1.2.2.2.1; have m0 := ct.2.2.2.1.2.2.2.2; have c8 := ct.2.2.2.2.1; clear ct; have q0 := (MgAt.cells (M8.out.keep hB)).1; have q1 := (MgAt.cells (M8.out.keep hB)).2; dsimp only at q0 q1; go_wp2_with fail
                  refine postB_val ?_ (Below.refl _ _)
                  simp only [List.getElem?_cons_succ, List.getElem?_cons_zero]
                  rfl
                case s13 =>
                  refine BStep.of [8, 12] [(190, 8), (194, 12)] (opV _) (by kernel_rfl) (fun _ _ => by kernel_rfl) rfl ?_
                  intro vs wv hB hA
                  have h8 : vs 8 = _ := hA.1
                  have h12 : vs 12 = _ := hA.2.1
                  clear hA
                  simp only [fillP, List.setIfInBounds_toArray, List.set_cons_zero, List.set_cons_succ, h8, h12]
                  have ct := CC.out wv (HS.out wv hB); have m1 := ct.2.1.1; have m2 := ct.2.1.2.1; have m3 := ct.2.1.2.2; have m4 := ct.2.2.1.1; have m5 := ct.2.2.1.2.1; have m6 := ct.2.2.1.2.2; have m7 := ct.2.2.2.1.2.1; have m8 := ct.2.2.2.1.2.2.1; have m9 := ct.2.2.2.1.2.2.2.1; have m0 := ct.2.2.2.1.2.2.2.2; have c8 := ct.2.2.2.2.1; clear ct; have q0 := (MgAt.cells (M8.out.keep hB)).1; have q1 := (MgAt.cells (M8.out.keep hB)).2; dsimp only at q0 q1; go_wp2_with fail
                  refine postB_val ?_ (Below.refl _ _)
                  simp only [List.getElem?_cons_succ, List.getElem?_cons_zero]
                  rfl
                case s14 =>
                  refine BStep.of [13] [(195, 13)] (opV _) (by kernel_rfl) (fun _ _ => by kernel_rfl) rfl ?_
                  intro vs wv hB hA
                  have h13 : vs 13 = _ := hA.1
                  clear hA
                  simp only [fillP, List.setIfInBounds_toArray, List.set_cons_zero, List.set_cons_succ, h13]
                  have ct := CC.out wv (HS.out wv hB); have m1 := ct.2.1.1; have m2 := ct.2.1.2.1; have m3 := ct.2.1.2.2; have m4 := ct.2.2.1.1; have m5 := ct.2.2.1.2.1; have m6 := ct.2.2.1.2.2; have m7 := ct.2.2.2.1.2.1; have m8 := ct.2.2.2.1.2.2.1; have m9 := ct.2.2.2.1.2.2.2.1; have m0 := ct.2.2.2.1.2.2.2.2; have c8 := ct.2.2.2.2.1; clear ct; have q0 := (MgAt.cells (M8.out.keep hB)).1; have q1 := (MgAt.cells (M8.out.keep hB)).2; dsimp only at q0 q1; go_wp2_with fail
                  refine postB_val ?_ (Below.refl _ _)
                  simp only [List.getElem?_cons_succ, List.getElem?_cons_zero]
                  rfl
                case s15 =>
                  refine BStep.of [13, 14] [(195, 13), (196, 14)] (opV _) (by kernel_rfl) (fun _ _ => by kernel_rfl) rfl ?_
                  intro vs wv hB hA
                  have h13 : vs 13 = _ := hA.1
                  have h14 : vs 14 = _ := hA.2.1
                  clear hA
                  simp only [fillP, List.setIfInBounds_toArray, List.set_cons_zero, List.set_cons_succ, h13, h14]
                  have ct := CC.out wv (HS.out wv hB); have m1 := ct.2.1.1; have m2 := ct.2.1.2.1; have m3 := ct.2.1.2.2; have m4 := ct.2.2.1.1; have m5 := ct.2.2.1.2.1; have m6 := ct.2.2.1.2.2; have m7 := ct.2.2.2.1.2.1; have m8 := ct.2.2.2.1.2.2.1; have m9 := ct.2.2.2.1.2.2.2.1; have m0 := ct.2.2.2.1.2.2.2.2; have c8 := ct.2.2.2.2.1; clear ct; have q0 := (MgAt.cells (M8.out.keep hB)).1; have q1 := (MgAt.cells (M8.out.keep hB)).2; dsimp only at q0 q1; go_wp2_with fail
                  refine postB_val ?_ (Below.refl _ _)
                  simp only [List.getElem?_cons_succ, List.getElem?_cons_zero]
                  rfl
                case s16 =>
                  refine BStep.of [13] [(195, 13)] (opV _) (by kernel_rfl) (fun _ _ => by kernel_rfl) rfl ?_
                  intro vs wv hB hA
                  have h13 : vs 13 = _ := hA.1
                  clear hA
                  simp only [fillP, List.setIfInBounds_toArray, List.set_cons_zero, List.set_cons_succ, h13]
                  have ct := CC.out wv (HS.out wv hB); have m1 := ct.2.1.1; have m2 := ct.2.1.2.1; have m3 := ct.2.1.2.2; have m4 := ct.2.2.1.1; have m5 := ct.2.2.1.2.1; have m6 := ct.2.2.1.2.2; have m7 := ct.2.2.2.1.2.1; have m8 := ct.2.2.2.1.2.2.1; have m9 := ct.2.2.2.1.2.2.2.1; have m0 := ct.2.2.2.1.2.2.2.2; have c8 := ct.2.2.2.2.1; clear ct; have q0 := (MgAt.cells (M8.out.keep hB)).1; have q1 := (MgAt.cells (M8.out.keep hB)).2; dsimp only at q0 q1; go_wp2_with fail
                  refine postB_val ?_ (Below.refl _ _)
                  simp only [List.getElem?_cons_succ, List.getElem?_cons_zero]
                  rfl
                case s17 =>
                  refine BStep.of [13, 15, 16] [(195, 13), (197, 15), (198, 16)] (opV _) (by kernel_rfl) (fun _ _ => by kernel_rfl) rfl ?_
                  intro vs wv hB hA
                  have h13 : vs 13 = _ := hA.1
                  have h15 : vs 15 = _ := hA.2.1
                  have h16 : vs 16 = _ := hA.2.2.1
                  clear hA
                  simp only [fillP, List.setIfInBounds_toArray, List.set_cons_zero, List.set_cons_succ, h13, h15, h16]
                  have ct := CC.out wv (HS.out wv hB); have m1 := ct.2.1.1; have m2 := ct.2.1.2.1; have m3 := ct.2.1.2.2; have m4 := ct.2.2.1.1; have m5 := ct.2.2.1.2.1; have m6 := ct.2.2.1.2.2; have m7 := ct.2.2.2.1.2.1; have m8 := ct.2.2.2.1.2.2.1; have m9 := ct.2.2.2.1.2.2.2.1; have m0 := ct.2.2.2.1.2.2.2.2; have c8 := ct.2.2.2.2.1; clear ct; have q0 := (MgAt.cells (M8.out.keep hB)).1; have q1 := (MgAt.cells (M8.out.keep hB)).2; dsimp only at q0 q1; go_wp2_with fail
                  refine postB_val ?_ (Below.refl _ _)
                  simp only [List.getElem?_cons_succ, List.getElem?_cons_zero]
                  rfl
                case s18 =>
                  refine BStep.of [13, 17] [(195, 13), (199, 17)] (opV _) (by kernel_rfl) (fun _ _ => by kernel_rfl) rfl ?_
                  intro vs wv hB hA
                  have h13 : vs 13 = _ := hA.1
                  have h17 : vs 17 = _ := hA.2.1
                  clear hA
                  simp only [fillP, List.setIfInBounds_toArray, List.set_cons_zero, List.set_cons_succ, h13, h17]
                  have ct := CC.out wv (HS.out wv hB); have m1 := ct.2.1.1; have m2 := ct.2.1.2.1; have m3 := ct.2.1.2.2; have m4 := ct.2.2.1.1; have m5 := ct.2.2.1.2.1; have m6 := ct.2.2.1.2.2; have m7 := ct.2.2.2.1.2.1; have m8 := ct.2.2.2.1.2.2.1; have m9 := ct.2.2.2.1.2.2.2.1; have m0 := ct.2.2.2.1.2.2.2.2; have c8 := ct.2.2.2.2.1; clear ct; have q0 := (MgAt.cells (M8.out.keep hB)).1; have q1 := (MgAt.cells (M8.out.keep hB)).2; dsimp only at q0 q1; go_wp2_with fail
                  refine postB_val ?_ (Below.refl _ _)
                  simp only [List.getElem?_cons_succ, List.getElem?_cons_zero]
                  rfl
                case s19 =>
                  refine BStep.of [13, 18] [(195, 13), (200, 18)] (opV _) (by kernel_rfl) (fun _ _ => by kernel_rfl) rfl ?_
                  intro vs wv hB hA
                  have h13 : vs 13 = _ := hA.1
                  have h18 : vs 18 = _ := hA.2.1
                  clear hA
                  simp only [fillP, List.setIfInBounds_toArray, List.set_cons_zero, List.set_cons_succ, h13, h18]
                  have ct := CC.out wv (HS.out wv hB); have m1 := ct.2.1.1; have m2 := ct.2.1.2.1; have m3 := ct.2.1.2.2; have m4 := ct.2.2.1.1; have m5 := ct.2.2.1.2.1; have m6 := ct.2.2.1.2.2; have m7 := ct.2.2.2.1.2.1; have m8 := ct.2.2.2.1.2.2.1; have m9 := ct.2.2.2.1.2.2.2.1; have m0 := ct.2.2.2.1.2.2.2.2; have c8 := ct.2.2.2.2.1; clear ct; have q0 := (MgAt.cells (M8.out.keep hB)).1; have q1 := (MgAt.cells (M8.out.keep hB)).2; dsimp only at q0 q1; go_wp2_with fail
                  refine postB_val ?_ (Below.refl _ _)
                  simp only [List.getElem?_cons_succ, List.getElem?_cons_zero]
                  rfl
                case s20 =>
                  refine BStep.of [19] [(201, 19)] (opV _) (by kernel_rfl) (fun _ _ => by kernel_rfl) rfl ?_
                  intro vs wv hB hA
                  have h19 : vs 19 = _ := hA.1
                  clear hA
                  simp only [fillP, List.setIfInBounds_toArray, List.set_cons_zero, List.set_cons_succ, h19]
                  have ct := CC.out wv (HS.out wv hB); have m1 := ct.2.1.1; have m2 := ct.2.1.2.1; have m3 := ct.2.1.2.2; have m4 := ct.2.2.1.1; have m5 := ct.2.2.1.2.1; have m6 := ct.2.2.1.2.2; have m7 := ct.2.2.2.1.2.1; have m8 := ct.2.2.2.1.2.2.1; have m9 := ct.2.2.2.1.2.2.2.1; have m0 := ct.2.2.2.1.2.2.2.2; have c8 := ct.2.2.2.2.1; clear ct; have q0 := (MgAt.cells (M8.out.keep hB)).1; have q1 := (MgAt.cells (M8.out.keep hB)).2; dsimp only at q0 q1; go_wp2_with fail
                  refine postB_val ?_ (Below.refl _ _)
                  simp only [List.getElem?_cons_succ, List.getElem?_cons_zero]
                  rfl
                case s21 =>
                  refine BStep.of [19, 20] [(201, 19), (202, 20)] (opV _) (by kernel_rfl) (fun _ _ => by kernel_rfl) rfl ?_
                  intro vs wv hB hA
                  have h19 : vs 19 = _ := hA.1
                  have h20 : vs 20 = _ := hA.2.1
                  clear hA
                  simp only [fillP, List.setIfInBounds_toArray, List.set_cons_zero, List.set_cons_succ, h19, h20]
                  have ct := CC.out wv (HS.out wv hB); have m1 := ct.2.1.1; have m2 := ct.2.1.2.1; have m3 := ct.2.1.2.2; have m4 := ct.2.2.1.1; have m5 := ct.2.2.1.2.1; have m6 := ct.2.2.1.2.2; have m7 := ct.2.2.2.1.2.1; have m8 := ct.2.2.2.1.2.2.1; have m9 := ct.2.2.2.1.2.2.2.1; have m0 := ct.2.2.2.1.2.2.2.2; have c8 := ct.2.2.2.2.1; clear ct; have q0 := (MgAt.cells (M8.out.keep hB)).1; have q1 := (MgAt.cells (M8.out.keep hB)).2; dsimp only at q0 q1; go_wp2_with fail
                  refine postB_val ?_ (Below.refl _ _)
                  simp only [List.getElem?_cons_succ, List.getElem?_cons_zero]
                  rfl
                case s22 =>
                  refine BStep.of [19] [(201, 19)] (opV _) (by kernel_rfl) (fun _ _ => by kernel_rfl) rfl ?_
                  intro vs wv hB hA
                  have h19 : vs 19 = _ := hA.1
                  clear hA
                  simp only [fillP, List.setIfInBounds_toArray, List.set_cons_zero, List.set_cons_succ, h19]
                  have ct := CC.out wv (HS.out wv hB); have m1 := ct.2.1.1; have m2 := ct.2.1.2.1; have m3 := ct.2.1.2.2; have m4 := ct.2.2.1.1; have m5 := ct.2.2.1.2.1; have m6 := ct.2.2.1.2.2; have m7 := ct.2.2.2.1.2.1; have m8 := ct.2.2.2.1.2.2.1; have m9 := ct.2.2.2.1.2.2.2.1; have m0 := ct.2.2.2.1.2.2.2.2; have c8 := ct.2.2.2.2.1; clear ct; have q0 := (MgAt.cells (M8.out.keep hB)).1; have q1 := (MgAt.cells (M8.out.keep hB)).2; dsimp only at q0 q1; go_wp2_with fail
                  refine postB_val ?_ (Below.refl _ _)
                  simp only [List.getElem?_cons_succ, List.getElem?_cons_zero]
                  rfl
                case s23 =>
                  refine BStep.of [19, 22] [(201, 19), (204, 22)] (opV (.int .i64 H3)) (by kernel_rfl) (fun _ _ => by kernel_rfl) rfl ?_
                  intro vs wv hB hA
                  have h19 : vs 19 = _ := hA.1
                  have h22 : vs 22 = _ := hA.2.1
                  clear hA
                  simp only [fillP, List.setIfInBounds_toArray, List.set_cons_zero, List.set_cons_succ, h19, h22]
                  rcases O3.out with ⟨hp, hh⟩ | ⟨hp, hh⟩; (rw [hh]; go_wp2_with fail; exact postB_val rfl (Below.refl _ _)); (rw [hh]; go_wp2_with fail; exact postB_val rfl (Below.refl _ _))
                case s24 =>
                  refine BStep.of [19, 21, 23] [(201, 19), (203, 21), (205, 23)] (opV _) (by kernel_rfl) (fun _ _ => by kernel_rfl) rfl ?_
                  intro vs wv hB hA
                  have h19 : vs 19 = _ := hA.1
                  have h21 : vs 21 = _ := hA.2.1
                  have h23 : vs 23 = _ := hA.2.2.1
                  clear hA
                  simp only [fillP, List.setIfInBounds_toArray, List.set_cons_zero, List.set_cons_succ, h19, h21, h23]
                  have ct := CC.out wv (HS.out wv hB); have m1 := ct.2.1.1; have m2 := ct.2.1.2.1; have m3 := ct.2.1.2.2; have m4 := ct.2.2.1.1; have m5 := ct.2.2.1.2.1; have m6 := ct.2.2.1.2.2; have m7 := ct.2.2.2.1.2.1; have m8 := ct.2.2.2.1.2.2.1; have m9 := ct.2.2.2.1.2.2.2.1; have m0 := ct.2.2.2.1.2.2.2.2; have c8 := ct.2.2.2.2.1; clear ct; have q0 := (MgAt.cells (M8.out.keep hB)).1; have q1 := (MgAt.cells (M8.out.keep hB)).2; dsimp only at q0 q1; go_wp2_with fail
                  refine postB_val ?_ (Below.refl _ _)
                  simp only [List.getElem?_cons_succ, List.getElem?_cons_zero]
                  rfl
                case s25 =>
                  refine BStep.of [19, 24] [(201, 19), (206, 24)] (opV _) (by kernel_rfl) (fun _ _ => by kernel_rfl) rfl ?_
                  intro vs wv hB hA
                  have h19 : vs 19 = _ := hA.1
                  have h24 : vs 24 = _ := hA.2.1
                  clear hA
                  simp only [fillP, List.setIfInBounds_toArray, List.set_cons_zero, List.set_cons_succ, h19, h24]
                  have ct := CC.out wv (HS.out wv hB); have m1 := ct.2.1.1; have m2 := ct.2.1.2.1; have m3 := ct.2.1.2.2; have m4 := ct.2.2.1.1; have m5 := ct.2.2.1.2.1; have m6 := ct.2.2.1.2.2; have m7 := ct.2.2.2.1.2.1; have m8 := ct.2.2.2.1.2.2.1; have m9 := ct.2.2.2.1.2.2.2.1; have m0 := ct.2.2.2.1.2.2.2.2; have c8 := ct.2.2.2.2.1; clear ct; have q0 := (MgAt.cells (M8.out.keep hB)).1; have q1 := (MgAt.cells (M8.out.keep hB)).2; dsimp only at q0 q1; go_wp2_with fail
                  refine postB_val ?_ (Below.refl _ _)
                  simp only [List.getElem?_cons_succ, List.getElem?_cons_zero]
                  rfl
                case s26 =>
                  refine BStep.of [19, 25] [(201, 19), (207, 25)] (opV _) (by kernel_rfl) (fun _ _ => by kernel_rfl) rfl ?_
                  intro vs wv hB hA
                  have h19 : vs 19 = _ := hA.1
                  have h25 : vs 25 = _ := hA.2.1
                  clear hA
                  simp only [fillP, List.setIfInBounds_toArray, List.set_cons_zero, List.set_cons_succ, h19, h25]
                  have ct := CC.out wv (HS.out wv hB); have m1 := ct.2.1.1; have m2 := ct.2.1.2.1; have m3 := ct.2.1.2.2; have m4 := ct.2.2.1.1; have m5 := ct.2.2.1.2.1; have m6 := ct.2.2.1.2.2; have m7 := ct.2.2.2.1.2.1; have m8 := ct.2.2.2.1.2.2.1; have m9 := ct.2.2.2.1.2.2.2.1; have m0 := ct.2.2.2.1.2.2.2.2; have c8 := ct.2.2.2.2.1; clear ct; have q0 := (MgAt.cells (M8.out.keep hB)).1; have q1 := (MgAt.cells (M8.out.keep hB)).2; dsimp only at q0 q1; go_wp2_with fail
                  refine postB_val ?_ (Below.refl _ _)
                  simp only [List.getElem?_cons_succ, List.getElem?_cons_zero]
                  rfl
                case s27 =>
                  refine BStep.of [26] [(208, 26)] (opV _) (by kernel_rfl) (fun _ _ => by kernel_rfl) rfl ?_
                  intro vs wv hB hA
                  have h26 : vs 26 = _ := hA.1
                  clear hA
                  simp only [fillP, List.setIfInBounds_toArray, List.set_cons_zero, List.set_cons_succ, h26]
                  have ct := CC.out wv (HS.out wv hB); have m1 := ct.2.1.1; have m2 := ct.2.1.2.1; have m3 := ct.2.1.2.2; have m4 := ct.2.2.1.1; have m5 := ct.2.2.1.2.1; have m6 := ct.2.2.1.2.2; have m7 := ct.2.2.2.1.2.1; have m8 := ct.2.2.2.1.2.2.1; have m9 := ct.2.2.2.1.2.2.2.1; have m0 := ct.2.2.2.1.2.2.2.2; have c8 := ct.2.2.2.2.1; clear ct; have q0 := (MgAt.cells (M8.out.keep hB)).1; have q1 := (MgAt.cells (M8.out.keep hB)).2; dsimp only at q0 q1; go_wp2_with fail
                  refine postB_val ?_ (Below.refl _ _)
                  simp only [List.getElem?_cons_succ, List.getElem?_cons_zero]
                  rfl
                case s28 =>
                  refine BStep.of [26, 27] [(208, 26), (209, 27)] (opV _) (by kernel_rfl) (fun _ _ => by kernel_rfl) rfl ?_
                  intro vs wv hB hA
                  have h26 : vs 26 = _ := hA.1
                  have h27 : vs 27 = _ := hA.2.1
                  clear hA
                  simp only [fillP, List.setIfInBounds_toArray, List.set_cons_zero, List.set_cons_succ, h26, h27]
                  have ct := CC.out wv (HS.out wv hB); have m1 := ct.2.1.1; have m2 := ct.2.1.2.1; have m3 := ct.2.1.2.2; have m4 := ct.2.2.1.1; have m5 := ct.2.2.1.2.1; have m6 := ct.2.2.1.2.2; have m7 := ct.2.2.2.1.2.1; have m8 := ct.2.2.2.1.2.2.1; have m9 := ct.2.2.2.1.2.2.2.1; have m0 := ct.2.2.2.1.2.2.2.2; have c8 := ct.2.2.2.2.1; clear ct; have q0 := (MgAt.cells (M8.out.keep hB)).1; have q1 := (MgAt.cells (M8.out.keep hB)).2; dsimp only at q0 q1; go_wp2_with fail
                  refine postB_val ?_ (Below.refl _ _)
                  simp only [List.getElem?_cons_succ, List.getElem?_cons_zero]
                  rfl
                case s29 =>
                  refine BStep.of [26] [(208, 26)] (opV _) (by kernel_rfl) (fun _ _ => by kernel_rfl) rfl ?_
                  intro vs wv hB hA
                  have h26 : vs 26 = _ := hA.1
                  clear hA
                  simp only [fillP, List.setIfInBounds_toArray, List.set_cons_zero, List.set_cons_succ, h26]
                  have ct := CC.out wv (HS.out wv hB); have m1 := ct.2.1.1; have m2 := ct.2.1.2.1; have m3 := ct.2.1.2.2; have m4 := ct.2.2.1.1; have m5 := ct.2.2.1.2.1; have m6 := ct.2.2.1.2.2; have m7 := ct.2.2.2.1.2.1; have m8 := ct.2.2.2.1.2.2.1; have m9 := ct.2.2.2.1.2.2.2.1; have m0 := ct.2.2.2.1.2.2.2.2; have c8 := ct.2.2.2.2.1; clear ct; have q0 := (MgAt.cells (M8.out.keep hB)).1; have q1 := (MgAt.cells (M8.out.keep hB)).2; dsimp only at q0 q1; go_wp2_with fail
                  refine postB_val ?_ (Below.refl _ _)
                  simp only [List.getElem?_cons_succ, List.getElem?_cons_zero]
                  rfl
                case s30 =>
                  refine BStep.of [26] [(208, 26)] (opV _) (by kernel_rfl) (fun _ _ => by kernel_rfl) rfl ?_
                  intro vs wv hB hA
                  have h26 : vs 26 = _ := hA.1
                  clear hA
                  simp only [fillP, List.setIfInBounds_toArray, List.set_cons_zero, List.set_cons_succ, h26]
                  have ct := CC.out wv (HS.out wv hB); have m1 := ct.2.1.1; have m2 := ct.2.1.2.1; have m3 := ct.2.1.2.2; have m4 := ct.2.2.1.1; have m5 := ct.2.2.1.2.1; have m6 := ct.2.2.1.2.2; have m7 := ct.2.2.2.1.2.1; have m8 := ct.2.2.2.1.2.2.1; have m9 := ct.2.2.2.1.2.2.2.1; have m0 := ct.2.2.2.1.2.2.2.2; have c8 := ct.2.2.2.2.1; clear ct; have q0 := (MgAt.cells (M8.out.keep hB)).1; have q1 := (MgAt.cells (M8.out.keep hB)).2; dsimp only at q0 q1; go_wp2_with fail
                  refine postB_val ?_ (Below.refl _ _)
                  simp only [List.getElem?_cons_succ, List.getElem?_cons_zero]
                  rfl
                case s31 =>
                  refine BStep.of [26, 30] [(208, 26), (212, 30)] (opV (.int .i64 V2)) (by kernel_rfl) (fun _ _ => by kernel_rfl) rfl ?_
                  intro vs wv hB hA
                  have h26 : vs 26 = _ := hA.1
                  have h30 : vs 30 = _ := hA.2.1
                  clear hA
                  simp only [fillP, List.setIfInBounds_toArray, List.set_cons_zero, List.set_cons_succ, h26, h30]
                  have q0 := (MgAt.cells (M8.out.keep hB)).1; have q1 := (MgAt.cells (M8.out.keep hB)).2; dsimp only at q0 q1; (go_wp2_with (go_at_call 16; (with_reducible refine (KV2.out _).mono ?_); rintro e w7 ⟨rfl, hb⟩)); exact postB_val rfl hb
                case s32 =>
                  refine BStep.of [26, 29, 31] [(208, 26), (211, 29), (213, 31)] (opV _) (by kernel_rfl) (fun _ _ => by kernel_rfl) rfl ?_
                  intro vs wv hB hA
                  have h26 : vs 26 = _ := hA.1
                  have h29 : vs 29 = _ := hA.2.1
                  have h31 : vs 31 = _ := hA.2.2.1
                  clear hA
                  simp only [fillP, List.setIfInBounds_toArray, List.set_cons_zero, List.set_cons_succ, h26, h29, h31]
                  have ct := CC.out wv (HS.out wv hB); have m1 := ct.2.1.1; have m2 := ct.2.1.2.1; have m3 := ct.2.1.2.2; have m4 := ct.2.2.1.1; have m5 := ct.2.2.1.2.1; have m6 := ct.2.2.1.2.2; have m7 := ct.2.2.2.1.2.1; have m8 := ct.2.2.2.1.2.2.1; have m9 := ct.2.2.2.1.2.2.2.1; have m0 := ct.2.2.2.1.2.2.2.2; have c8 := ct.2.2.2.2.1; clear ct; have q0 := (MgAt.cells (M8.out.keep hB)).1; have q1 := (MgAt.cells (M8.out.keep hB)).2; dsimp only at q0 q1; go_wp2_with fail
                  refine postB_val ?_ (Below.refl _ _)
                  simp only [List.getElem?_cons_succ, List.getElem?_cons_zero]
                  rfl
                case s33 =>
                  refine BStep.of [26, 32] [(208, 26), (214, 32)] (opV (.int .i64 H1)) (by kernel_rfl) (fun _ _ => by kernel_rfl) rfl ?_
                  intro vs wv hB hA
                  have h26 : vs 26 = _ := hA.1
                  have h32 : vs 32 = _ := hA.2.1
                  clear hA
                  simp only [fillP, List.setIfInBounds_toArray, List.set_cons_zero, List.set_cons_succ, h26, h32]
                  rcases O1.out with ⟨hp, hh⟩ | ⟨hp, hh⟩; (rw [hh]; go_wp2_with fail; exact postB_val rfl (Below.refl _ _)); (rw [hh]; go_wp2_with fail; exact postB_val rfl (Below.refl _ _))
                case s34 =>
                  refine BStep.of [26, 28, 33] [(208, 26), (210, 28), (215, 33)] (opV _) (by kernel_rfl) (fun _ _ => by kernel_rfl) rfl ?_
                  intro vs wv hB hA
                  have h26 : vs 26 = _ := hA.1
                  have h28 : vs 28 = _ := hA.2.1
                  have h33 : vs 33 = _ := hA.2.2.1
                  clear hA
                  simp only [fillP, List.setIfInBounds_toArray, List.set_cons_zero, List.set_cons_succ, h26, h28, h33]
                  have ct := CC.out wv (HS.out wv hB); have m1 := ct.2.1.1; have m2 := ct.2.1.2.1; have m3 := ct.2.1.2.2; have m4 := ct.2.2.1.1; have m5 := ct.2.2.1.2.1; have m6 := ct.2.2.1.2.2; have m7 := ct.2.2.2.1.2.1; have m8 := ct.2.2.2.1.2.2.1; have m9 := ct.2.2.2.1.2.2.2.1; have m0 := ct.2.2.2.1.2.2.2.2; have c8 := ct.2.2.2.2.1; clear ct; have q0 := (MgAt.cells (M8.out.keep hB)).1; have q1 := (MgAt.cells (M8.out.keep hB)).2; dsimp only at q0 q1; go_wp2_with fail
                  refine postB_val ?_ (Below.refl _ _)
                  simp only [List.getElem?_cons_succ, List.getElem?_cons_zero]
                  rfl
                case s35 =>
                  refine BStep.of [26, 34] [(208, 26), (216, 34)] (opV _) (by kernel_rfl) (fun _ _ => by kernel_rfl) rfl ?_
                  intro vs wv hB hA
                  have h26 : vs 26 = _ := hA.1
                  have h34 : vs 34 = _ := hA.2.1
                  clear hA
                  simp only [fillP, List.setIfInBounds_toArray, List.set_cons_zero, List.set_cons_succ, h26, h34]
                  have ct := CC.out wv (HS.out wv hB); have m1 := ct.2.1.1; have m2 := ct.2.1.2.1; have m3 := ct.2.1.2.2; have m4 := ct.2.2.1.1; have m5 := ct.2.2.1.2.1; have m6 := ct.2.2.1.2.2; have m7 := ct.2.2.2.1.2.1; have m8 := ct.2.2.2.1.2.2.1; have m9 := ct.2.2.2.1.2.2.2.1; have m0 := ct.2.2.2.1.2.2.2.2; have c8 := ct.2.2.2.2.1; clear ct; have q0 := (MgAt.cells (M8.out.keep hB)).1; have q1 := (MgAt.cells (M8.out.keep hB)).2; dsimp only at q0 q1; go_wp2_with fail
                  refine postB_val ?_ (Below.refl _ _)
                  simp only [List.getElem?_cons_succ, List.getElem?_cons_zero]
                  rfl
                case s36 =>
                  refine BStep.of [31, 35] [(213, 31), (217, 35)] (opV _) (by kernel_rfl) (fun _ _ => by kernel_rfl) rfl ?_
                  intro vs wv hB hA
                  have h31 : vs 31 = _ := hA.1
                  have h35 : vs 35 = _ := hA.2.1
                  clear hA
                  simp only [fillP, List.setIfInBounds_toArray, List.set_cons_zero, List.set_cons_succ, h31, h35]
                  have ct := CC.out wv (HS.out wv hB); have m1 := ct.2.1.1; have m2 := ct.2.1.2.1; have m3 := ct.2.1.2.2; have m4 := ct.2.2.1.1; have m5 := ct.2.2.1.2.1; have m6 := ct.2.2.1.2.2; have m7 := ct.2.2.2.1.2.1; have m8 := ct.2.2.2.1.2.2.1; have m9 := ct.2.2.2.1.2.2.2.1; have m0 := ct.2.2.2.1.2.2.2.2; have c8 := ct.2.2.2.2.1; clear ct; have q0 := (MgAt.cells (M8.out.keep hB)).1; have q1 := (MgAt.cells (M8.out.keep hB)).2; dsimp only at q0 q1; go_wp2_with fail
                  refine postB_val ?_ (Below.refl _ _)
                  simp only [List.getElem?_cons_succ, List.getElem?_cons_zero]
                  rfl
                case s37 =>
                  refine BStep.of [36] [(218, 36)] (opV _) (by kernel_rfl) (fun _ _ => by kernel_rfl) rfl ?_
                  intro vs wv hB hA
                  have h36 : vs 36 = _ := hA.1
                  clear hA
                  simp only [fillP, List.setIfInBounds_toArray, List.set_cons_zero, List.set_cons_succ, h36]
                  have ct := CC.out wv (HS.out wv hB); have m1 := ct.2.1.1; have m2 := ct.2.1.2.1; have m3 := ct.2.1.2.2; have m4 := ct.2.2.1.1; have m5 := ct.2.2.1.2.1; have m6 := ct.2.2.1.2.2; have m7 := ct.2.2.2.1.2.1; have m8 := ct.2.2.2.1.2.2.1; have m9 := ct.2.2.2.1.2.2.2.1; have m0 := ct.2.2.2.1.2.2.2.2; have c8 := ct.2.2.2.2.1; clear ct; have q0 := (MgAt.cells (M8.out.keep hB)).1; have q1 := (MgAt.cells (M8.out.keep hB)).2; dsimp only at q0 q1; go_wp2_with fail
                  refine postB_val ?_ (Below.refl _ _)
                  simp only [List.getElem?_cons_succ, List.getElem?_cons_zero]
                  rfl
                case s38 =>
                  refine BStep.of [36, 37] [(218, 36), (219, 37)] (opV _) (by kernel_rfl) (fun _ _ => by kernel_rfl) rfl ?_
                  intro vs wv hB hA
                  have h36 : vs 36 = _ := hA.1
                  have h37 : vs 37 = _ := hA.2.1
                  clear hA
                  simp only [fillP, List.setIfInBounds_toArray, List.set_cons_zero, List.set_cons_succ, h36, h37]
                  have ct := CC.out wv (HS.out wv hB); have m1 := ct.2.1.1; have m2 := ct.2.1.2.1; have m3 := ct.2.1.2.2; have m4 := ct.2.2.1.1; have m5 := ct.2.2.1.2.1; have m6 := ct.2.2.1.2.2; have m7 := ct.2.2.2.1.2.1; have m8 := ct.2.2.2.1.2.2.1; have m9 := ct.2.2.2.1.2.2.2.1; have m0 := ct.2.2.2.1.2.2.2.2; have c8 := ct.2.2.2.2.1; clear ct; have q0 := (MgAt.cells (M8.out.keep hB)).1; have q1 := (MgAt.cells (M8.out.keep hB)).2; dsimp only at q0 q1; go_wp2_with fail
                  refine postB_val ?_ (Below.refl _ _)
                  simp only [List.getElem?_cons_succ, List.getElem?_cons_zero]
                  rfl
                case s39 =>
                  refine BStep.of [36] [(218, 36)] (opV _) (by kernel_rfl) (fun _ _ => by kernel_rfl) rfl ?_
                  intro vs wv hB hA
                  have h36 : vs 36 = _ := hA.1
                  clear hA
                  simp only [fillP, List.setIfInBounds_toArray, List.set_cons_zero, List.set_cons_succ, h36]
                  have ct := CC.out wv (HS.out wv hB); have m1 := ct.2.1.1; have m2 := ct.2.1.2.1; have m3 := ct.2.1.2.2; have m4 := ct.2.2.1.1; have m5 := ct.2.2.1.2.1; have m6 := ct.2.2.1.2.2; have m7 := ct.2.2.2.1.2.1; have m8 := ct.2.2.2.1.2.2.1; have m9 := ct.2.2.2.1.2.2.2.1; have m0 := ct.2.2.2.1.2.2.2.2; have c8 := ct.2.2.2.2.1; clear ct; have q0 := (MgAt.cells (M8.out.keep hB)).1; have q1 := (MgAt.cells (M8.out.keep hB)).2; dsimp only at q0 q1; go_wp2_with fail
                  refine postB_val ?_ (Below.refl _ _)
                  simp only [List.getElem?_cons_succ, List.getElem?_cons_zero]
                  rfl
                case s40 =>
                  refine BStep.of [36, 38, 39] [(218, 36), (220, 38), (221, 39)] (opV _) (by kernel_rfl) (fun _ _ => by kernel_rfl) rfl ?_
                  intro vs wv hB hA
                  have h36 : vs 36 = _ := hA.1
                  have h38 : vs 38 = _ := hA.2.1
                  have h39 : vs 39 = _ := hA.2.2.1
                  clear hA
                  simp only [fillP, List.setIfInBounds_toArray, List.set_cons_zero, List.set_cons_succ, h36, h38, h39]
                  have ct := CC.out wv (HS.out wv hB); have m1 := ct.2.1.1; have m2 := ct.2.1.2.1; have m3 := ct.2.1.2.2; have m4 := ct.2.2.1.1; have m5 := ct.2.2.1.2.1; have m6 := ct.2.2.1.2.2; have m7 := ct.2.2.2.1.2.1; have m8 := ct.2.2.2.1.2.2.1; have m9 := ct.2.2.2.1.2.2.2.1; have m0 := ct.2.2.2.1.2.2.2.2; have c8 := ct.2.2.2.2.1; clear ct; have q0 := (MgAt.cells (M8.out.keep hB)).1; have q1 := (MgAt.cells (M8.out.keep hB)).2; dsimp only at q0 q1; go_wp2_with fail
                  refine postB_val ?_ (Below.refl _ _)
                  simp only [List.getElem?_cons_succ, List.getElem?_cons_zero]
                  rfl
                case s41 =>
                  refine BStep.of [36, 40] [(218, 36), (222, 40)] (opV _) (by kernel_rfl) (fun _ _ => by kernel_rfl) rfl ?_
                  intro vs wv hB hA
                  have h36 : vs 36 = _ := hA.1
                  have h40 : vs 40 = _ := hA.2.1
                  clear hA
                  simp only [fillP, List.setIfInBounds_toArray, List.set_cons_zero, List.set_cons_succ, h36, h40]
                  have ct := CC.out wv (HS.out wv hB); have m1 := ct.2.1.1; have m2 := ct.2.1.2.1; have m3 := ct.2.1.2.2; have m4 := ct.2.2.1.1; have m5 := ct.2.2.1.2.1; have m6 := ct.2.2.1.2.2; have m7 := ct.2.2.2.1.2.1; have m8 := ct.2.2.2.1.2.2.1; have m9 := ct.2.2.2.1.2.2.2.1; have m0 := ct.2.2.2.1.2.2.2.2; have c8 := ct.2.2.2.2.1; clear ct; have q0 := (MgAt.cells (M8.out.keep hB)).1; have q1 := (MgAt.cells (M8.out.keep hB)).2; dsimp only at q0 q1; go_wp2_with fail
                  refine postB_val ?_ (Below.refl _ _)
                  simp only [List.getElem?_cons_succ, List.getElem?_cons_zero]
                  rfl
                case s42 =>
                  refine BStep.of [36] [(218, 36)] (opV _) (by kernel_rfl) (fun _ _ => by kernel_rfl) rfl ?_
                  intro vs wv hB hA
                  have h36 : vs 36 = _ := hA.1
                  clear hA
                  simp only [fillP, List.setIfInBounds_toArray, List.set_cons_zero, List.set_cons_succ, h36]
                  have ct := CC.out wv (HS.out wv hB); have m1 := ct.2.1.1; have m2 := ct.2.1.2.1; have m3 := ct.2.1.2.2; have m4 := ct.2.2.1.1; have m5 := ct.2.2.1.2.1; have m6 := ct.2.2.1.2.2; have m7 := ct.2.2.2.1.2.1; have m8 := ct.2.2.2.1.2.2.1; have m9 := ct.2.2.2.1.2.2.2.1; have m0 := ct.2.2.2.1.2.2.2.2; have c8 := ct.2.2.2.2.1; clear ct; have q0 := (MgAt.cells (M8.out.keep hB)).1; have q1 := (MgAt.cells (M8.out.keep hB)).2; dsimp only at q0 q1; go_wp2_with fail
                  refine postB_val ?_ (Below.refl _ _)
                  simp only [List.getElem?_cons_succ, List.getElem?_cons_zero]
                  rfl
                case s43 =>
                  refine BStep.of [36, 42] [(218, 36), (224, 42)] (opV _) (by kernel_rfl) (fun _ _ => by kernel_rfl) rfl ?_
                  intro vs wv hB hA
                  have h36 : vs 36 = _ := hA.1
                  have h42 : vs 42 = _ := hA.2.1
                  clear hA
                  simp only [fillP, List.setIfInBounds_toArray, List.set_cons_zero, List.set_cons_succ, h36, h42]
                  have ct := CC.out wv (HS.out wv hB); have m1 := ct.2.1.1; have m2 := ct.2.1.2.1; have m3 := ct.2.1.2.2; have m4 := ct.2.2.1.1; have m5 := ct.2.2.1.2.1; have m6 := ct.2.2.1.2.2; have m7 := ct.2.2.2.1.2.1; have m8 := ct.2.2.2.1.2.2.1; have m9 := ct.2.2.2.1.2.2.2.1; have m0 := ct.2.2.2.1.2.2.2.2; have c8 := ct.2.2.2.2.1; clear ct; have q0 := (MgAt.cells (M8.out.keep hB)).1; have q1 := (MgAt.cells (M8.out.keep hB)).2; dsimp only at q0 q1; go_wp2_with fail
                  refine postB_val ?_ (Below.refl _ _)
                  simp only [List.getElem?_cons_succ, List.getElem?_cons_zero]
                  rfl
                case s44 =>
                  refine BStep.of [36, 43] [(218, 36), (225, 43)] (opV (.int .i64 y2)) (by kernel_rfl) (fun _ _ => by kernel_rfl) rfl ?_
                  intro vs wv hB hA
                  have h36 : vs 36 = _ := hA.1
                  have h43 : vs 43 = _ := hA.2.1
                  clear hA
                  simp only [fillP, List.setIfInBounds_toArray, List.set_cons_zero, List.set_cons_succ, h36, h43]
                  (go_wp2_with (go_at_call 16; (with_reducible refine (KV1.out _).mono ?_); rintro e w7 ⟨rfl, hb⟩)); exact postB_val rfl hb
                case s45 =>
                  refine BStep.of [36, 41, 44] [(218, 36), (223, 41), (226, 44)] (opV _) (by kernel_rfl) (fun _ _ => by kernel_rfl) rfl ?_
                  intro vs wv hB hA
                  have h36 : vs 36 = _ := hA.1
                  have h41 : vs 41 = _ := hA.2.1
                  have h44 : vs 44 = _ := hA.2.2.1
                  clear hA
                  simp only [fillP, List.setIfInBounds_toArray, List.set_cons_zero, List.set_cons_succ, h36, h41, h44]
                  have ct := CC.out wv (HS.out wv hB); have m1 := ct.2.1.1; have m2 := ct.2.1.2.1; have m3 := ct.2.1.2.2; have m4 := ct.2.2.1.1; have m5 := ct.2.2.1.2.1; have m6 := ct.2.2.1.2.2; have m7 := ct.2.2.2.1.2.1; have m8 := ct.2.2.2.1.2.2.1; have m9 := ct.2.2.2.1.2.2.2.1; have m0 := ct.2.2.2.1.2.2.2.2; have c8 := ct.2.2.2.2.1; clear ct; have q0 := (MgAt.cells (M8.out.keep hB)).1; have q1 := (MgAt.cells (M8.out.keep hB)).2; dsimp only at q0 q1; go_wp2_with fail
                  refine postB_val ?_ (Below.refl _ _)
                  simp only [List.getElem?_cons_succ, List.getElem?_cons_zero]
                  rfl
                case s46 =>
                  refine BStep.of [36, 45] [(218, 36), (227, 45)] (opV _) (by kernel_rfl) (fun _ _ => by kernel_rfl) rfl ?_
                  intro vs wv hB hA
                  have h36 : vs 36 = _ := hA.1
                  have h45 : vs 45 = _ := hA.2.1
                  clear hA
                  simp only [fillP, List.setIfInBounds_toArray, List.set_cons_zero, List.set_cons_succ, h36, h45]
                  have ct := CC.out wv (HS.out wv hB); have m1 := ct.2.1.1; have m2 := ct.2.1.2.1; have m3 := ct.2.1.2.2; have m4 := ct.2.2.1.1; have m5 := ct.2.2.1.2.1; have m6 := ct.2.2.1.2.2; have m7 := ct.2.2.2.1.2.1; have m8 := ct.2.2.2.1.2.2.1; have m9 := ct.2.2.2.1.2.2.2.1; have m0 := ct.2.2.2.1.2.2.2.2; have c8 := ct.2.2.2.2.1; clear ct; have q0 := (MgAt.cells (M8.out.keep hB)).1; have q1 := (MgAt.cells (M8.out.keep hB)).2; dsimp only at q0 q1; go_wp2_with fail
                  refine postB_val ?_ (Below.refl _ _)
                  simp only [List.getElem?_cons_succ, List.getElem?_cons_zero]
                  rfl
                case s47 =>
                  refine BStep.of [0, 1, 2, 3, 4, 5, 6, 7, 8, 9, 10, 11, 12, 13, 14, 15, 16, 17, 18, 19, 20, 21, 22, 23, 24, 25, 26, 27, 28, 29, 30, 31, 32, 33, 34, 35, 36, 37, 38, 39, 40, 41, 42, 43, 44, 45, 46] [(182, 0), (183, 1), (184, 2), (185, 3), (186, 4), (187, 5), (188, 6), (189, 7), (190, 8), (191, 9), (192, 10), (193, 11), (194, 12), (195, 13), (196, 14), (197, 15), (198, 16), (199, 17), (200, 18), (201, 19), (202, 20), (203, 21), (204, 22), (205, 23), (206, 24), (207, 25), (208, 26), (209, 27), (210, 28), (211, 29), (212, 30), (213, 31), (214, 32), (215, 33), (216, 34), (217, 35), (218, 36), (219, 37), (220, 38), (221, 39), (222, 40), (223, 41), (224, 42), (225, 43), (226, 44), (227, 45), (228, 46)] (opV _) (by kernel_rfl) (fun _ _ => by kernel_rfl) rfl ?_
                  intro vs wv hB hA
                  have h0 : vs 0 = _ := hA.1
                  have h1 : vs 1 = _ := hA.2.1
                  have h2 : vs 2 = _ := hA.2.2.1
                  have h3 : vs 3 = _ := hA.2.2.2.1
                  have h4 : vs 4 = _ := hA.2.2.2.2.1
                  have h5 : vs 5 = _ := hA.2.2.2.2.2.1
                  have h6 : vs 6 = _ := hA.2.2.2.2.2.2.1
                  have h7 : vs 7 = _ := hA.2.2.2.2.2.2.2.1
                  have h8 : vs 8 = _ := hA.2.2.2.2.2.2.2.2.1
                  have h9 : vs 9 = _ := hA.2.2.2.2.2.2.2.2.2.1
                  have h10 : vs 10 = _ := hA.2.2.2.2.2.2.2.2.2.2.1
                  have h11 : vs 11 = _ := hA.2.2.2.2.2.2.2.2.2.2.2.1
                  have h12 : vs 12 = _ := hA.2.2.2.2.2.2.2.2.2.2.2.2.1
                  have h13 : vs 13 = _ := hA.2.2.2.2.2.2.2.2.2.2.2.2.2.1
                  have h14 : vs 14 = _ := hA.2.2.2.2.2.2.2.2.2.2.2.2.2.2.1
                  have h15 : vs 15 = _ := hA.2.2.2.2.2.2.2.2.2.2.2.2.2.2.2.1
                  have h16 : vs 16 = _ := hA.2.2.2.2.2.2.2.2.2.2.2.2.2.2.2.2.1
                  have h17 : vs 17 = _ := hA.2.2.2.2.2.2.2.2.2.2.2.2.2.2.2.2.2.1
                  have h18 : vs 18 = _ := hA.2.2.2.2.2.2.2.2.2.2.2.2.2.2.2.2.2.2.1
                  have h19 : vs 19 = _ := hA.2.2.2.2.2.2.2.2.2.2.2.2.2.2.2.2.2.2.2.1
                  have h20 : vs 20 = _ := hA.2.2.2.2.2.2.2.2.2.2.2.2.2.2.2.2.2.2.2.2.1
                  have h21 : vs 21 = _ := hA.2.2.2.2.2.2.2.2.2.2.2.2.2.2.2.2.2.2.2.2.2.1
                  have h22 : vs 22 = _ := hA.2.2.2.2.2.2.2.2.2.2.2.2.2.2.2.2.2.2.2.2.2.2.1
                  have h23 : vs 23 = _ := hA.2.2.2.2.2.2.2.2.2.2.2.2.2.2.2.2.2.2.2.2.2.2.2.1
                  have h24 : vs 24 = _ := hA.2.2.2.2.2.2.2.2.2.2.2.2.2.2.2.2.2.2.2.2.2.2.2.2.1
                  have h25 : vs 25 = _ := hA.2.2.2.2.2.2.2.2.2.2.2.2.2.2.2.2.2.2.2.2.2.2.2.2.2.1
                  have h26 : vs 26 = _ := hA.2.2.2.2.2.2.2.2.2.2.2.2.2.2.2.2.2.2.2.2.2.2.2.2.2.2.1
                  have h27 : vs 27 = _ := hA.2.2.2.2.2.2.2.2.2.2.2.2.2.2.2.2.2.2.2.2.2.2.2.2.2.2.2.1
                  have h28 : vs 28 = _ := hA.2.2.2.2.2.2.2.2.2.2.2.2.2.2.2.2.2.2.2.2.2.2.2.2.2.2.2.2.1
                  have h29 : vs 29 = _ := hA.2.2.2.2.2.2.2.2.2.2.2.2.2.2.2.2.2.2.2.2.2.2.2.2.2.2.2.2.2.1
                  have h30 : vs 30 = _ := hA.2.2.2.2.2.2.2.2.2.2.2.2.2.2.2.2.2.2.2.2.2.2.2.2.2.2.2.2.2.2.1
                  have h31 : vs 31 = _ := hA.2.2.2.2.2.2.2.2.2.2.2.2.2.2.2.2.2.2.2.2.2.2.2.2.2.2.2.2.2.2.2.1
                  have h32 : vs 32 = _ := hA.2.2.2.2.2.2.2.2.2.2.2.2.2.2.2.2.2.2.2.2.2.2.2.2.2.2.2.2.2.2.2.2.1
                  have h33 : vs 33 = _ := hA.2.2.2.2.2.2.2.2.2.2.2.2.2.2.2.2.2.2.2.2.2.2.2.2.2.2.2.2.2.2.2.2.2.1
                  have h34 : vs 34 = _ := hA.2.2.2.2.2.2.2.2.2.2.2.2.2.2.2.2.2.2.2.2.2.2.2.2.2.2.2.2.2.2.2.2.2.2.1
                  have h35 : vs 35 = _ := hA.2.2.2.2.2.2.2.2.2.2.2.2.2.2.2.2.2.2.2.2.2.2.2.2.2.2.2.2.2.2.2.2.2.2.2.1
                  have h36 : vs 36 = _ := hA.2.2.2.2.2.2.2.2.2.2.2.2.2.2.2.2.2.2.2.2.2.2.2.2.2.2.2.2.2.2.2.2.2.2.2.2.1
                  have h37 : vs 37 = _ := hA.2.2.2.2.2.2.2.2.2.2.2.2.2.2.2.2.2.2.2.2.2.2.2.2.2.2.2.2.2.2.2.2.2.2.2.2.2.1
                  have h38 : vs 38 = _ := hA.2.2.2.2.2.2.2.2.2.2.2.2.2.2.2.2.2.2.2.2.2.2.2.2.2.2.2.2.2.2.2.2.2.2.2.2.2.2.1
                  have h39 : vs 39 = _ := hA.2.2.2.2.2.2.2.2.2.2.2.2.2.2.2.2.2.2.2.2.2.2.2.2.2.2.2.2.2.2.2.2.2.2.2.2.2.2.2.1
                  have h40 : vs 40 = _ := hA.2.2.2.2.2.2.2.2.2.2.2.2.2.2.2.2.2.2.2.2.2.2.2.2.2.2.2.2.2.2.2.2.2.2.2.2.2.2.2.2.1
                  have h41 : vs 41 = _ := hA.2.2.2.2.2.2.2.2.2.2.2.2.2.2.2.2.2.2.2.2.2.2.2.2.2.2.2.2.2.2.2.2.2.2.2.2.2.2.2.2.2.1
                  have h42 : vs 42 = _ := hA.2.2.2.2.2.2.2.2.2.2.2.2.2.2.2.2.2.2.2.2.2.2.2.2.2.2.2.2.2.2.2.2.2.2.2.2.2.2.2.2.2.2.1
                  have h43 : vs 43 = _ := hA.2.2.2.2.2.2.2.2.2.2.2.2.2.2.2.2.2.2.2.2.2.2.2.2.2.2.2.2.2.2.2.2.2.2.2.2.2.2.2.2.2.2.2.1
                  have h44 : vs 44 = _ := hA.2.2.2.2.2.2.2.2.2.2.2.2.2.2.2.2.2.2.2.2.2.2.2.2.2.2.2.2.2.2.2.2.2.2.2.2.2.2.2.2.2.2.2.2.1
                  have h45 : vs 45 = _ := hA.2.2.2.2.2.2.2.2.2.2.2.2.2.2.2.2.2.2.2.2.2.2.2.2.2.2.2.2.2.2.2.2.2.2.2.2.2.2.2.2.2.2.2.2.2.1
                  have h46 : vs 46 = _ := hA.2.2.2.2.2.2.2.2.2.2.2.2.2.2.2.2.2.2.2.2.2.2.2.2.2.2.2.2.2.2.2.2.2.2.2.2.2.2.2.2.2.2.2.2.2.2.1
                  clear hA
                  simp only [fillP, List.setIfInBounds_toArray, List.set_cons_zero, List.set_cons_succ, h0, h1, h2, h3, h4, h5, h6, h7, h8, h9, h10, h11, h12, h13, h14, h15, h16, h17, h18, h19, h20, h21, h22, h23, h24, h25, h26, h27, h28, h29, h30, h31, h32, h33, h34, h35, h36, h37, h38, h39, h40, h41, h42, h43, h44, h45, h46]
                  have ct := CC.out wv (HS.out wv hB); have m1 := ct.2.1.1; have m2 := ct.2.1.2.1; have m3 := ct.2.1.2.2; have m4 := ct.2.2.1.1; have m5 := ct.2.2.1.2.1; have m6 := ct.2.2.1.2.2; have m7 := ct.2.2.2.1.2.1; have m8 := ct.2.2.2.1.2.2.1; have m9 := ct.2.2.2.1.2.2.2.1; have m0 := ct.2.2.2.1.2.2.2.2; have c8 := ct.2.2.2.2.1; clear ct; have q0 := (MgAt.cells (M8.out.keep hB)).1; have q1 := (MgAt.cells (M8.out.keep hB)).2; dsimp only at q0 q1; go_wp2_with fail
                  refine postB_val ?_ (Below.refl _ _)
                  simp only [List.getElem?_cons_succ, List.getElem?_cons_zero]
                  rfl
                case fin =>
                  refine fin_of [0, 1, 2, 3, 4, 5, 6, 7, 8, 9, 10, 11, 12, 13, 14, 15, 16, 17, 18, 19, 20, 21, 22, 23, 24, 25, 26, 27, 28, 29, 30, 31, 32, 33, 34, 35, 36, 37, 38, 39, 40, 41, 42, 43, 44, 45, 46, 47] [(182, 0), (183, 1), (184, 2), (185, 3), (186, 4), (187, 5), (188, 6), (189, 7), (190, 8), (191, 9), (192, 10), (193, 11), (194, 12), (195, 13), (196, 14), (197, 15), (198, 16), (199, 17), (200, 18), (201, 19), (202, 20), (203, 21), (204, 22), (205, 23), (206, 24), (207, 25), (208, 26), (209, 27), (210, 28), (211, 29), (212, 30), (213, 31), (214, 32), (215, 33), (216, 34), (217, 35), (218, 36), (219, 37), (220, 38), (221, 39), (222, 40), (223, 41), (224, 42), (225, 43), (226, 44), (227, 45), (228, 46), (2, 47)] (by kernel_rfl) (fun _ _ => by kernel_rfl) ?_
                  intro vs wv hB hA
                  have h0 : vs 0 = _ := hA.1
                  have h1 : vs 1 = _ := hA.2.1
                  have h2 : vs 2 = _ := hA.2.2.1
                  have h3 : vs 3 = _ := hA.2.2.2.1
                  have h4 : vs 4 = _ := hA.2.2.2.2.1
                  have h5 : vs 5 = _ := hA.2.2.2.2.2.1
                  have h6 : vs 6 = _ := hA.2.2.2.2.2.2.1
                  have h7 : vs 7 = _ := hA.2.2.2.2.2.2.2.1
                  have h8 : vs 8 = _ := hA.2.2.2.2.2.2.2.2.1
                  have h9 : vs 9 = _ := hA.2.2.2.2.2.2.2.2.2.1
                  have h10 : vs 10 = _ := hA.2.2.2.2.2.2.2.2.2.2.1
                  have h11 : vs 11 = _ := hA.2.2.2.2.2.2.2.2.2.2.2.1
                  have h12 : vs 12 = _ := hA.2.2.2.2.2.2.2.2.2.2.2.2.1
                  have h13 : vs 13 = _ := hA.2.2.2.2.2.2.2.2.2.2.2.2.2.1
                  have h14 : vs 14 = _ := hA.2.2.2.2.2.2.2.2.2.2.2.2.2.2.1
                  have h15 : vs 15 = _ := hA.2.2.2.2.2.2.2.2.2.2.2.2.2.2.2.1
                  have h16 : vs 16 = _ := hA.2.2.2.2.2.2.2.2.2.2.2.2.2.2.2.2.1
                  have h17 : vs 17 = _ := hA.2.2.2.2.2.2.2.2.2.2.2.2.2.2.2.2.2.1
                  have h18 : vs 18 = _ := hA.2.2.2.2.2.2.2.2.2.2.2.2.2.2.2.2.2.2.1
                  have h19 : vs 19 = _ := hA.2.2.2.2.2.2.2.2.2.2.2.2.2.2.2.2.2.2.2.1
                  have h20 : vs 20 = _ := hA.2.2.2.2.2.2.2.2.2.2.2.2.2.2.2.2.2.2.2.2.1
                  have h21 : vs 21 = _ := hA.2.2.2.2.2.2.2.2.2.2.2.2.2.2.2.2.2.2.2.2.2.1
                  have h22 : vs 22 = _ := hA.2.2.2.2.2.2.2.2.2.2.2.2.2.2.2.2.2.2.2.2.2.2.1
                  have h23 : vs 23 = _ := hA.2.2.2.2.2.2.2.2.2.2.2.2.2.2.2.2.2.2.2.2.2.2.2.1
                  have h24 : vs 24 = _ := hA.2.2.2.2.2.2.2.2.2.2.2.2.2.2.2.2.2.2.2.2.2.2.2.2.1
                  have h25 : vs 25 = _ := hA.2.2.2.2.2.2.2.2.2.2.2.2.2.2.2.2.2.2.2.2.2.2.2.2.2.1
                  have h26 : vs 26 = _ := hA.2.2.2.2.2.2.2.2.2.2.2.2.2.2.2.2.2.2.2.2.2.2.2.2.2.2.1
                  have h27 : vs 27 = _ := hA.2.2.2.2.2.2.2.2.2.2.2.2.2.2.2.2.2.2.2.2.2.2.2.2.2.2.2.1
                  have h28 : vs 28 = _ := hA.2.2.2.2.2.2.2.2.2.2.2.2.2.2.2.2.2.2.2.2.2.2.2.2.2.2.2.2.1
                  have h29 : vs 29 = _ := hA.2.2.2.2.2.2.2.2.2.2.2.2.2.2.2.2.2.2.2.2.2.2.2.2.2.2.2.2.2.1
                  have h30 : vs 30 = _ := hA.2.2.2.2.2.2.2.2.2.2.2.2.2.2.2.2.2.2.2.2.2.2.2.2.2.2.2.2.2.2.1
                  have h31 : vs 31 = _ := hA.2.2.2.2.2.2.2.2.2.2.2.2.2.2.2.2.2.2.2.2.2.2.2.2.2.2.2.2.2.2.2.1
                  have h32 : vs 32 = _ := hA.2.2.2.2.2.2.2.2.2.2.2.2.2.2.2.2.2.2.2.2.2.2.2.2.2.2.2.2.2.2.2.2.1
                  have h33 : vs 33 = _ := hA.2.2.2.2.2.2.2.2.2.2.2.2.2.2.2.2.2.2.2.2.2.2.2.2.2.2.2.2.2.2.2.2.2.1
                  have h34 : vs 34 = _ := hA.2.2.2.2.2.2.2.2.2.2.2.2.2.2.2.2.2.2.2.2.2.2.2.2.2.2.2.2.2.2.2.2.2.2.1
                  have h35 : vs 35 = _ := hA.2.2.2.2.2.2.2.2.2.2.2.2.2.2.2.2.2.2.2.2.2.2.2.2.2.2.2.2.2.2.2.2.2.2.2.1
                  have h36 : vs 36 = _ := hA.2.2.2.2.2.2.2.2.2.2.2.2.2.2.2.2.2.2.2.2.2.2.2.2.2.2.2.2.2.2.2.2.2.2.2.2.1
                  have h37 : vs 37 = _ := hA.2.2.2.2.2.2.2.2.2.2.2.2.2.2.2.2.2.2.2.2.2.2.2.2.2.2.2.2.2.2.2.2.2.2.2.2.2.1
                  have h38 : vs 38 = _ := hA.2.2.2.2.2.2.2.2.2.2.2.2.2.2.2.2.2.2.2.2.2.2.2.2.2.2.2.2.2.2.2.2.2.2.2.2.2.2.1
                  have h39 : vs 39 = _ := hA.2.2.2.2.2.2.2.2.2.2.2.2.2.2.2.2.2.2.2.2.2.2.2.2.2.2.2.2.2.2.2.2.2.2.2.2.2.2.2.1
                  have h40 : vs 40 = _ := hA.2.2.2.2.2.2.2.2.2.2.2.2.2.2.2.2.2.2.2.2.2.2.2.2.2.2.2.2.2.2.2.2.2.2.2.2.2.2.2.2.1
                  have h41 : vs 41 = _ := hA.2.2.2.2.2.2.2.2.2.2.2.2.2.2.2.2.2.2.2.2.2.2.2.2.2.2.2.2.2.2.2.2.2.2.2.2.2.2.2.2.2.1
                  have h42 : vs 42 = _ := hA.2.2.2.2.2.2.2.2.2.2.2.2.2.2.2.2.2.2.2.2.2.2.2.2.2.2.2.2.2.2.2.2.2.2.2.2.2.2.2.2.2.2.1
                  have h43 : vs 43 = _ := hA.2.2.2.2.2.2.2.2.2.2.2.2.2.2.2.2.2.2.2.2.2.2.2.2.2.2.2.2.2.2.2.2.2.2.2.2.2.2.2.2.2.2.2.1
                  have h44 : vs 44 = _ := hA.2.2.2.2.2.2.2.2.2.2.2.2.2.2.2.2.2.2.2.2.2.2.2.2.2.2.2.2.2.2.2.2.2.2.2.2.2.2.2.2.2.2.2.2.1
                  have h45 : vs 45 = _ := hA.2.2.2.2.2.2.2.2.2.2.2.2.2.2.2.2.2.2.2.2.2.2.2.2.2.2.2.2.2.2.2.2.2.2.2.2.2.2.2.2.2.2.2.2.2.1
                  have h46 : vs 46 = _ := hA.2.2.2.2.2.2.2.2.2.2.2.2.2.2.2.2.2.2.2.2.2.2.2.2.2.2.2.2.2.2.2.2.2.2.2.2.2.2.2.2.2.2.2.2.2.2.1
                  have h47 : vs 47 = _ := hA.2.2.2.2.2.2.2.2.2.2.2.2.2.2.2.2.2.2.2.2.2.2.2.2.2.2.2.2.2.2.2.2.2.2.2.2.2.2.2.2.2.2.2.2.2.2.2.1
                  clear hA
                  simp only [fillP, List.setIfInBounds_toArray, List.set_cons_zero, List.set_cons_succ, h0, h1, h2, h3, h4, h5, h6, h7, h8, h9, h10, h11, h12, h13, h14, h15, h16, h17, h18, h19, h20, h21, h22, h23, h24, h25, h26, h27, h28, h29, h30, h31, h32, h33, h34, h35, h36, h37, h38, h39, h40, h41, h42, h43, h44, h45, h46, h47]
                  go_wp2_with fail; go_ret; exact ⟨by first|rfl | simp, BZ.out wv (HS.out wv hB)⟩
end Go.Proofs.Ytidbfkbeploagaa
