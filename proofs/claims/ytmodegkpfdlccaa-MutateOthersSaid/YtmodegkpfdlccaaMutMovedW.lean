/-
  The law MutateMoved: of any program whose May and Apply answer as is asked, and its walk.
-/
import Derived.Test.YtmodegkpfdlccaaChangeBox
import Derived.Test.YtmodegkpfdlccaaMutE
import Derived.Test.YtmodegkpfdlccaaRefKids
import Derived.Test.YtmodegkpfdlccaaRefSame5
import Derived.Deep.RegionHeld3
import Derived.Deep.LoopGhost
import Derived.BigQuiet
import Derived.Deep.QuietTactic
namespace Go.Proofs.Ytmodegkpfdlccaa
open Go.RowKit

/-- two variables that hold documents -/
structure Duo (q1 : Nat) (A : Option Addr) (n c : Nat) (x : Int) (N : Nat → RN) (q2 : Nat) (B : Option Addr) (m d : Nat) (y : Int) (M : Nat → RN) (w W : World) : Prop where
  below : Below w.heap.size w W
  v1 : Var W q1 A n c x N
  v2 : Var W q2 B m d y M
section
variable {q1 : Nat} {A : Option Addr} {n c : Nat} {x : Int} {N : Nat → RN} {q2 : Nat} {B : Option Addr} {m d : Nat} {y : Int} {M : Nat → RN} {w W W' : World}
theorem Duo.next (h : Duo q1 A n c x N q2 B m d y M w W) (hb : Below W.heap.size W W') : Duo q1 A n c x N q2 B m d y M w W' := ⟨h.below.trans (hb.mono h.below.size), h.v1.next hb, h.v2.next hb⟩
theorem Duo.drew (h : Duo q1 A n c x N q2 B m d y M w W) : Duo q1 A n c x N q2 B m d y M w W.drew := h.next (Below.refl _ _).drew
theorem duo_S (h : Duo q1 A n c x N q2 B m d y M w W) : Duo q1 A n c x N q2 B m d y M w W ∧ W.cell? ⟨q1, 0, none⟩ = some (.slice A n c) ∧ W.cell? ⟨q1, 1, none⟩ = some (.int .i64 x) ∧ W.cell? ⟨q2, 0, none⟩ = some (.slice B m d) ∧ W.cell? ⟨q2, 1, none⟩ = some (.int .i64 y) :=
  ⟨h, h.v1.c0, h.v1.c1, h.v2.c0, h.v2.c1⟩
end
/-- a move -/
def exMv (key parent number : Int) : RC := ⟨3, key, parent, number, noNode⟩
theorem ok_mv {a b t : Int} (ha : -9223372036854775808 ≤ a ∧ a ≤ 9223372036854775807) (hb : -9223372036854775808 ≤ b ∧ b ≤ 9223372036854775807) (ht : -9223372036854775808 ≤ t ∧ t ≤ 9223372036854775807) : (exMv a b t).ok :=
  ⟨by show (0 : Int) ≤ 3 ∧ (3 : Int) < 256; omega, ha, hb, ht, noNode_ok⟩
theorem build_mv (a b t : Int) (W : World) : (Instr.build 34 #[(0, .int .u8 3), (1, .int .i64 a), (2, .int .i64 b), (3, .int .i64 t)]).run Try.prog W = .ok (changeV (exMv a b t)) W := by kernel_rfl
theorem apply_no0 {Sty : List Lit → Prop} {N : Nat → RN} {n : Nat} {x f : Int} {c : RC} (h : applyN Sty N n x c = .no f) : (f == 0) = false := by
  rcases apply_no h with ⟨rfl, -⟩ | ⟨rfl | rfl | rfl, -⟩ <;> rfl
theorem up_of (N : Nat → RN) {n j : Nat} (h : j < n) : upAns N n j = keyUp N j := by
  have e : parAns N n (j : Int) = parOf (dps N) j := by unfold parAns; rw [if_pos ⟨by omega, by omega⟩, Int.toNat_natCast]
  unfold upAns keyUp
  rw [e]
theorem end_of (N : Nat → RN) {n j : Nat} (h : j < n) : endAns N n j = (endOf (dps N) n j : Nat) := by unfold endAns; rw [if_pos ⟨by omega, by omega⟩, Int.toNat_natCast]
theorem par_of (N : Nat → RN) {n j : Nat} (h : j < n) : parAns N n j = parOf (dps N) j := by unfold parAns; rw [if_pos ⟨by omega, by omega⟩, Int.toNat_natCast]
theorem kids_of (N : Nat → RN) {n j : Nat} (h : j < n) : kidsAns N n j = kidsOf (dps N) n j := by unfold kidsAns; rw [if_pos ⟨by omega, by omega⟩, Int.toNat_natCast]
theorem find_at {N : Nat → RN} {n a : Nat} {key : Int} (h : findN N n key = some a) : FindIs N n key (a : Int) := by
  have := find_is N n key
  rwa [h] at this

set_option maxRecDepth 100000 in
set_option maxHeartbeats 4000000 in
theorem moved7 {Sty : List Lit → Prop} (st : Sty noStyle) (nq : ¬ Sty oddStyle) (hA : ApplyOK7 Sty 10) (hM : MayOK7 Sty 11) (A : Option Addr) (n c : Nat) (x : Int) (N : Nat → RN) (key parent number : Int) (w : World) (hD : DocIn w A n c x N)
    (hk : -9223372036854775808 ≤ key ∧ key ≤ 9223372036854775807) (hp : -9223372036854775808 ≤ parent ∧ parent ≤ 9223372036854775807) (ht : -9223372036854775808 ≤ number ∧ number ≤ 9223372036854775807) :
    Calls Try.prog 6 #[docV A n c x, .int .i64 key, .int .i64 parent, .int .i64 number] w fun e w' => e = .returned (.bool true) ∧ Below w.heap.size w w' := by
  have KA := Lib.hid (fun W (h : DocIn W A n c x N) => hA A n c x N (exMv key parent number) W h (ok_mv hk hp ht))
  have KW := Lib.hid (fun W => awake7_any st nq hA hM W)
  have KG := Lib.hid (fun W (h : DocIn W A n c x N) => great7_any A n c x N exZ W h ok_z)
  have V := Lib.hid (newDoc_var hD)
  have BW := Lib.hid (newDoc_below w A n c x)
  have NON := Lib.hid (fun f (h : applyN Sty N n x (exMv key parent number) = .no f) => apply_no0 h)
  have OUT := Lib.hid (fun m y M (h : applyN Sty N n x (exMv key parent number) = .doc m y M) => (⟨others_mov (c := exMv key parent number) rfl h, apply_doc h⟩ : _ ∧ _))
  clear hD hA hM
  unfold docV
  unfold newDoc at V BW
  generalize applyN Sty N n x (exMv key parent number) = R at *
  go_enter Try.func6, Try.ntmps6
  go_wp2_with fail
  refine (KW.out _).mono ?_
  rintro e w1 ⟨rfl, hb⟩
  replace V := Lib.hid (V.out.next hb)
  replace BW := Lib.hid (BW.out.trans (hb.mono BW.out.size))
  clear hb
  obtain ⟨-, c0, c1, -⟩ := V.out
  go_wp2_with ((with_reducible change wpList _ _ _ (Oper.mk _ (Op.build _ _) _ _ _ _ :: _) _ _); refine wpList_build_it rfl _ _ rfl _ (by intro W; simp only [List.map_toArray, List.map_nil]; first | exact build_z W) ?_)
  clear c0 c1
  refine (KG.out _ V.out.doc).mono ?_
  rintro e w2 ⟨q, rfl, hq, hb⟩
  replace V := Lib.hid (V.out.next hb)
  replace BW := Lib.hid (BW.out.trans (hb.mono BW.out.size))
  clear hb
  cases q with
  | true =>
    go_wp2_with fail
    go_ret
    exact ⟨rfl, BW.out⟩
  | false =>
    obtain ⟨hn, -, -⟩ := hq rfl
    clear hq
    obtain ⟨-, c0, c1, -⟩ := V.out
    go_wp2_with ((with_reducible change wpList _ _ _ (Oper.mk _ (Op.build _ _) _ _ _ _ :: _) _ _); refine wpList_build_it rfl _ _ rfl _ (by intro W; simp only [List.map_toArray, List.map_cons, List.map_nil]; first | exact build_mv key parent number W) ?_)
    clear c0 c1
    refine (KA.out _ V.out.doc).mono ?_
    rintro e w3 ⟨ha, hb⟩
    cases R with
    | no f =>
      obtain rfl := ha
      have hn' := hb.trans ((newDoc_below w3 none 0 0 0).mono hb.size)
      replace BW := Lib.hid (BW.out.trans (hn'.mono BW.out.size))
      clear hb hn'
      have hf := NON.out f rfl
      have hf' : (f != 0) = true := by simp at hf; simp [hf]
      unfold docV
      unfold newDoc at BW
      go_wp2_with fail
      go_ret
      exact ⟨rfl, BW.out⟩
    | doc m y M =>
      obtain ⟨B, d, rfl, dM, -⟩ := ha
      obtain ⟨⟨a, k, u, p, fa, a0, k0, ea, ak, rfl, rfl, p0, pk, ep, pu, kp, t0, kt, -, eq⟩, mN, -, mM⟩ := OUT.out m y M rfl
      have hn' := hb.trans ((newDoc_below w3 B m d y).mono hb.size)
      have D : Hid (Duo w.heap.size A m c y N w3.heap.size B m d y M w (newDoc w3 B m d y)) := Lib.hid ⟨BW.out.trans (hn'.mono BW.out.size), V.out.next hn', newDoc_var dM⟩
      clear hb hn' dM V BW OUT NON KA KG KW
      obtain ⟨am, ek⟩ := find_some fa
      have pm : p < m := by omega
      have kM : (M p).key = key := by
        have := eq 0 k0
        simp only [Nat.add_zero] at this
        rw [this]
        exact ek
      have fp : findN M m key = some p := by rw [← kM]; exact mM.shape.find pm
      have um : u < m := by
        have := par_lt (dps M) p
        omega
      have KF1 := Lib.hid (fun W (h : Duo w.heap.size A m c y N w3.heap.size B m d y M w W) => refFind_any A m c y N key W h.v1.doc _ (find_at fa))
      have KF2 := Lib.hid (fun W (h : Duo w.heap.size A m c y N w3.heap.size B m d y M w W) => refFind_any B m d y M key W h.v2.doc _ (find_at fp))
      have KE1 := Lib.hid (fun W (h : Duo w.heap.size A m c y N w3.heap.size B m d y M w W) => refEnd_any A m c y N a W h.v1.doc (by omega) (by omega) ((a : Int) + k) (by rw [end_of N am, ← ea]; omega))
      have KE2 := Lib.hid (fun W (h : Duo w.heap.size A m c y N w3.heap.size B m d y M w W) => refEnd_any B m d y M p W h.v2.doc (by omega) (by omega) ((p : Int) + k) (by rw [end_of M pm, ep]; omega))
      have KU2 := Lib.hid (fun W (h : Duo w.heap.size A m c y N w3.heap.size B m d y M w W) => up_any B m d y M p W h.v2.doc (by omega) (by omega) parent (by rw [up_of M pm, kp]; rfl))
      have KP2 := Lib.hid (fun W (h : Duo w.heap.size A m c y N w3.heap.size B m d y M w W) => refParent_any B m d y M p W h.v2.doc (by omega) (by omega) u (by rw [par_of M pm, pu]))
      have KK2 := Lib.hid (fun W (h : Duo w.heap.size A m c y N w3.heap.size B m d y M w W) => refKids_any B m d y M u W h.v2.doc (by omega) (by omega))
      rw [kids_of M um] at KK2
      generalize hL : kidsOf (dps M) m u = L at kt KK2
      clear hL ea ep pu kp fa fp kM ek
      have EQ := Lib.hid eq
      have HN := Lib.hid mN.shape
      have HM := Lib.hid mM.shape
      clear eq mN mM
      obtain ⟨t, rfl⟩ : ∃ t : Nat, number = t := ⟨number.toNat, by have : 0 ≤ number := t0; omega⟩
      have kt' : L[t]? = some p := kt
      have tL : t < L.length := by
        rcases Nat.lt_or_ge t L.length with h | h
        · exact h
        · rw [List.getElem?_eq_none h] at kt'; cases kt'
      clear kt t0
      have w1 : IntKind.i64.wrap ((a : Int) + k - a) = k := (IntWalk.i64_in _ (by omega)).trans (by omega)
      have w2 : IntKind.i64.wrap ((p : Int) + k - p) = k := (IntWalk.i64_in _ (by omega)).trans (by omega)
      unfold docV at *
      unfold newDoc at D
      obtain ⟨-, c0, c1, a0', a1'⟩ := duo_S D.out
      go_wp2_with fail
      clear c0 c1 a0' a1'
      go_region_held3 (fun W' => Duo w.heap.size A m c y N w3.heap.size B m d y M w W' ∧ W'.cell? ⟨w.heap.size, 0, none⟩ = some (.slice A m c) ∧ W'.cell? ⟨w.heap.size, 1, none⟩ = some (.int .i64 y) ∧ W'.cell? ⟨w3.heap.size, 0, none⟩ = some (.slice B m d) ∧ W'.cell? ⟨w3.heap.size, 1, none⟩ = some (.int .i64 y))
        (first | (with_reducible exact duo_S KB.out) | (with_reducible exact duo_S D.out.drew) | (with_reducible exact duo_S D.out))
        (first
        | (go_at_call 12; (with_reducible refine (KF1.out _ (And.left (by assumption))).mono ?_); rintro e w5 ⟨rfl, hb⟩; have KB : Hid (Duo w.heap.size A m c y N w3.heap.size B m d y M w w5) := Lib.hid (Duo.next (And.left (by assumption)) hb); clear hb)
        | (go_at_call 12; (with_reducible refine (KF2.out _ (And.left (by assumption))).mono ?_); rintro e w5 ⟨rfl, hb⟩; have KB : Hid (Duo w.heap.size A m c y N w3.heap.size B m d y M w w5) := Lib.hid (Duo.next (And.left (by assumption)) hb); clear hb))
      clear KF1 KF2 D
      obtain ⟨-, c0, c1, a0', a1'⟩ := duo_S KB.out
      go_wp2_with fail
      clear c0 c1 a0' a1'
      refine (KE1.out _ KB.out).mono ?_
      rintro e w6 ⟨rfl, hb⟩
      have D := Lib.hid (KB.out.next hb)
      clear hb KB
      obtain ⟨-, c0, c1, a0', a1'⟩ := duo_S D.out
      have i1 : ¬ ((a : Int) < 1) := by omega
      have i2 : ¬ ((p : Int) < 1) := by omega
      go_wp2_with fail
      clear c0 c1 a0' a1'
      refine (KE2.out _ D.out).mono ?_
      rintro e w7 ⟨rfl, hb⟩
      replace D := Lib.hid (D.out.next hb)
      clear hb
      obtain ⟨-, c0, c1, a0', a1'⟩ := duo_S D.out
      go_wp2_with fail
      clear c0 c1 a0' a1'
      refine (KU2.out _ D.out).mono ?_
      rintro e w8 ⟨rfl, hb⟩
      replace D := Lib.hid (D.out.next hb)
      clear hb
      obtain ⟨-, c0, c1, a0', a1'⟩ := duo_S D.out
      go_wp2_with fail
      clear c0 c1 a0' a1' i1 i2 w1 w2 KE1 KE2 KU2
      go_region_held3 (fun W' => Duo w.heap.size A m c y N w3.heap.size B m d y M w W' ∧ W'.cell? ⟨w.heap.size, 0, none⟩ = some (.slice A m c) ∧ W'.cell? ⟨w.heap.size, 1, none⟩ = some (.int .i64 y) ∧ W'.cell? ⟨w3.heap.size, 0, none⟩ = some (.slice B m d) ∧ W'.cell? ⟨w3.heap.size, 1, none⟩ = some (.int .i64 y))
        (first | (with_reducible exact duo_S KB.out) | (with_reducible exact duo_S D.out.drew) | (with_reducible exact duo_S D.out))
        (first
        | (go_at_call 16; (with_reducible refine (KP2.out _ (And.left (by assumption))).mono ?_); rintro e w5 ⟨rfl, hb⟩; have KB : Hid (Duo w.heap.size A m c y N w3.heap.size B m d y M w w5) := Lib.hid (Duo.next (And.left (by assumption)) hb); clear hb)
        | (go_at_call 15; (with_reducible refine (KK2.out _ (And.left (by assumption))).mono ?_); rintro e w5 ⟨BK, dK, rfl, hpl, -, hb⟩; have KB : Hid (Duo w.heap.size A m c y N w3.heap.size B m d y M w w5) := Lib.hid (Duo.next (And.left (by assumption)) hb); have PL := Lib.hid hpl; clear hb hpl))
      clear D KP2 KK2
      have hLne : L ≠ [] := by intro h; rw [h] at tL; simp at tL
      obtain ⟨bK, oK, rfl, -, hcK⟩ := PL.out.2.2.2 hLne
      have cK := hcK t p kt'
      have lB : L.length < 9223372036854775808 := by have := PL.out.2.2.1; omega
      clear hcK PL hLne kt'
      obtain ⟨-, c0, c1, a0', a1'⟩ := duo_S KB.out
      have tLz : (t : Int) < L.length := by omega
      generalize L.length = lenL at *
      obtain ⟨b1, o1, rfl, -, -, s1, -⟩ := node_told KB.out.v1.doc.1.1 am
      obtain ⟨b2, o2, rfl, -, -, s2, -⟩ := node_told KB.out.v2.doc.1.1 pm
      have amz : (a : Int) < m := by omega
      have pmz : (p : Int) < m := by omega
      have dM := HM.out.deep p pm
      have dM0 : 0 ≤ (M p).depth := steps_nonneg HM.out.steps pm
      have dN := HN.out.deep a am
      have dN0 : 0 ≤ (N a).depth := steps_nonneg HN.out.steps am
      obtain ⟨dp, hdp⟩ : ∃ z, z = (M p).depth := ⟨_, rfl⟩
      obtain ⟨da, hda⟩ : ∃ z, z = (N a).depth := ⟨_, rfl⟩
      rw [← hdp, ← hda] at EQ
      rw [← hdp] at s2 dM dM0
      rw [← hda] at s1 dN dN0
      clear hdp hda
      have wd : IntKind.i64.wrap (dp - da) = dp - da := IntWalk.i64_in _ (by omega)
      go_wp2_with fail
      go_quiet (fail)
      go_wp2_with fail
      clear c0 c1 a0' a1' s1 s2 cK tLz tL lB
      rename 0 ≤ (t : Int) ∧ ¬ lenL ≤ t => hbad
      clear hbad
      go_loopg [16] k (fun g1 v wr => ∃ i : Nat, v = .int .i64 i ∧ i ≤ k ∧ k - i ≤ g1 ∧ Hid (Duo w.heap.size (some ⟨b1, o1, none⟩) m c y N w3.heap.size (some ⟨b2, o2, none⟩) m d y M w wr))
      case atStart => exact ⟨0, rfl, by omega, by omega, Lib.hid (KB.out.next (below_drew (Below.refl _ _) _))⟩
      case round =>
        obtain ⟨i, rfl, hi, hg1, D⟩ := hrel
        clear KB
        obtain ⟨-, c0, c1, a0', a1'⟩ := duo_S D.out
        by_cases hlt : i < k
        · have hltz : (i : Int) < k := by omega
          have hia : a + i < m := by omega
          have hip : p + i < m := by omega
          obtain ⟨bb1, oo1, e1, hb1, at1⟩ := D.out.v1.doc.1.1.2 (by omega)
          obtain ⟨rfl, rfl⟩ : b1 = bb1 ∧ o1 = oo1 := by
            simp only [Option.some.injEq, Addr.mk.injEq, and_true] at e1
            exact e1
          obtain ⟨bb2, oo2, e2, hb2, at2⟩ := D.out.v2.doc.1.1.2 (by omega)
          obtain ⟨rfl, rfl⟩ : b2 = bb2 ∧ o2 = oo2 := by
            simp only [Option.some.injEq, Addr.mk.injEq, and_true] at e2
            exact e2
          clear e1 e2
          have okA := D.out.v1.doc.1.1.1 (a + i) hia
          have okM := D.out.v2.doc.1.1.1 (p + i) hip
          have E := EQ.out i hlt
          have g0 : 0 ≤ (N (a + i)).depth := steps_nonneg HN.out.steps hia
          have g1 := HN.out.deep (a + i) hia
          have rA : Hid (wr.rangeAt b1 (o1 + (a + i) * 51) (N (a + i)).cells) := Lib.hid (node_range okA (at1 (a + i) hia))
          have rM : Hid (wr.rangeAt b2 (o2 + (p + i) * 51) (M (p + i)).cells) := Lib.hid (node_range okM (at2 (p + i) hip))
          have XL : Hid ((N (a + i)).cells.length = 51) := Lib.hid okA.len
          have LX : Hid ((Try.prog.info? 32).map (·.size) = some (N (a + i)).cells.length) := Lib.hid (by rw [okA.len]; exact node_isize)
          have LY : Hid ((Try.prog.info? 32).map (·.size) = some (M (p + i)).cells.length) := Lib.hid (by rw [okM.len]; exact node_isize)
          have ones := Lib.hid (N (a + i)).cells_one
          obtain ⟨r, hr, hiff⟩ := run_node_eq_all okM okM
          obtain rfl : r = true := hiff.2 rfl
          have RR := Lib.hid hr
          have YX : Hid ((M (p + i)).cells = (N (a + i)).cells.set 1 (.int .i64 ((N (a + i)).depth + (dp - da)))) := Lib.hid (by rw [E]; rfl)
          have X1 : Hid ((N (a + i)).cells[1]? = some (.int .i64 (N (a + i)).depth)) := Lib.hid rfl
          clear okA okM E at1 at2 hr hiff
          generalize (N (a + i)).depth = dn at *
          generalize (N (a + i)).cells = X at *
          generalize (M (p + i)).cells = Y at *
          have hW : Below wr.heap.size wr (wr.alloc (.cells X.toArray 32)) := below_alloc (Below.refl _ _) _
          have hW2 : Below wr.heap.size wr (wr.alloc (.cells (X.set 1 (.int .i64 (dn + (dp - da)))).toArray 32)) := below_alloc (Below.refl _ _) _
          have C1 : (wr.alloc (.cells X.toArray 32)).cell? ⟨wr.heap.size, 1, none⟩ = some (.int .i64 dn) := by rw [World.cell?_alloc_new]; simpa using X1.out
          have rN : Hid ((wr.alloc (.cells (X.set 1 (.int .i64 (dn + (dp - da)))).toArray 32)).rangeAt wr.heap.size 0 Y) := Lib.hid (by rw [YX.out]; exact node_alloc_range)
          have rM2 : Hid ((wr.alloc (.cells (X.set 1 (.int .i64 (dn + (dp - da)))).toArray 32)).rangeAt b2 (o2 + (p + i) * 51) Y) := Lib.hid (fun j v hv => (hW2.cell (p := ⟨b2, _, none⟩) hb2).trans (rM.out j v hv))
          have D2 := Lib.hid (D.out.next hW2)
          have wi1 : IntKind.i64.wrap ((a : Int) + i) = (a : Int) + i := IntWalk.i64_in _ (by omega)
          have wi2 : IntKind.i64.wrap ((p : Int) + i) = (p : Int) + i := IntWalk.i64_in _ (by omega)
          have wi3 : IntKind.i64.wrap (dn + (dp - da)) = dn + (dp - da) := IntWalk.i64_in _ (by omega)
          have t1 : ((a : Int) + i).toNat = a + i := by omega
          have t2 : ((p : Int) + i).toNat = p + i := by omega
          have z1 : (0 : Int) ≤ (a : Int) + i := by omega
          have z2 : (a : Int) + i < m := by omega
          have z3 : (0 : Int) ≤ (p : Int) + i := by omega
          have z4 : (p : Int) + i < m := by omega
          clear hW hW2
          go_wp2_with (first
            | ((with_reducible change wpList _ _ _ (Oper.mk (some 121) _ _ _ _ _ :: _) _ _); refine wpList_load_mid rfl 32 _ rfl b1 (o1 + (a + i) * 51) rfl X _ rA.out Try.underlying32 rfl LX.out ?_)
            | ((with_reducible change wpList _ _ _ (Oper.mk (some 17) _ _ _ _ _ :: _) _ _); refine wpList_alloc_node rfl rfl ?_)
            | ((with_reducible change wpList _ _ _ (Oper.mk none (.store 32 _ _) _ _ _ _ :: _) _ _); refine wpList_store_new rfl 32 _ _ rfl nodeZero X.toArray rfl rfl (by rw [nodeZero_size, List.size_toArray, XL.out]) (by rw [List.size_toArray]; exact LX.out) (by simpa using ones.out) ?_)
            | fail)
          clear C1 c0 c1 a0' a1'
          obtain ⟨-, c0, c1, a0', a1'⟩ := duo_S D2.out
          generalize (wr.alloc (.cells (X.set 1 (.int .i64 (dn + (dp - da)))).toArray 32)) = wz at *
          have rN' : Hid (wz.drew.rangeAt wr.heap.size 0 Y) := rN
          have rM' : Hid (wz.drew.rangeAt b2 (o2 + (p + i) * 51) Y) := rM2
          clear rN rM2 rA rM
          refine wp_region_still_d (by kernel_rfl) (by kernel_rfl) ?_
          iterate 6 still_step
          refine wpStill_load_mid rfl 32 _ rfl b2 (o2 + (p + i) * 51) rfl Y _ rM'.out Try.underlying32 rfl LY.out ?_
          refine wpStill_load_mid rfl 32 _ rfl wr.heap.size 0 rfl Y _ rN'.out Try.underlying32 rfl LY.out ?_
          refine wpStill_eq_struct rfl true 32 _ _ _ rfl Y.toArray Y.toArray rfl rfl node_guard true RR.out ?_
          repeat still_step
          refine wpStill_nil ?_
          go_simp
          go_wp2_with fail
          go_roundg (k - (i + 1))
          case measure => omega
          case rel => exact ⟨i + 1, by go_num, by omega, Nat.le_refl _, Lib.hid D2.out.drew⟩
        · obtain rfl : i = k := by omega
          go_wp2_with fail
          go_ret
          exact ⟨rfl, D.out.below⟩
theorem walkMutateMoved (a0 : Option Addr) (len0 cap0 : Nat) (x0 : Int) (z0 : Nat → RN) (a1 a2 a3 : Int) (w : World) (w0 : DocIn w a0 len0 cap0 x0 z0) (w1 : (Lit.int .i64 a1).wf = true) (w2 : (Lit.int .i64 a2).wf = true) (w3 : (Lit.int .i64 a3).wf = true) :
    Calls Try.prog 6 #[docV a0 len0 cap0 x0, .int .i64 a1, .int .i64 a2, .int .i64 a3] w fun e w' => e = .returned (.bool true) ∧ Below w.heap.size w w' :=
  moved7 sty_none not_odd7 apply_any mutMay_any a0 len0 cap0 x0 z0 a1 a2 a3 w w0 (int64_in7 w1) (int64_in7 w2) (int64_in7 w3)
end Go.Proofs.Ytmodegkpfdlccaa
