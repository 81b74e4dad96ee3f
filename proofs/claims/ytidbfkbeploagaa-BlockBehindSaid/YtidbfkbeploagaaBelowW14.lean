/-
  The law BlockBelow: of any Stack, Join, Value that answer as is asked.
-/
import Derived.Test.YtidbfkbeploagaaNearMath14
import Derived.Test.YtidbfkbeploagaaAwake14
import Derived.Test.YtidbfkbeploagaaMoreW13
namespace Go.Proofs.Ytidbfkbeploagaa
open Go.RowKit

/-- what is asked of the landed calls, as the laws meet it -/
structure Calls14 (fS fJ fV : Nat) : Prop where
  stack : StackOK fS
  join : JoinOK fJ
  value : ValueOK fV
/-- a row's cell -/
theorem own_cell14 {w : World} {B : Nat} {v : Value} {l : List Int} (h : ownsI14 w B v l) (hn : l ≠ []) : ∃ g c, v = .slice (some ⟨g, 0, none⟩) l.length c ∧ l.length ≤ c ∧ g < w.heap.size ∧ ∀ i y, l[i]? = some y → w.cell? ⟨g, i, none⟩ = some (.int .i64 y) := by
  obtain ⟨g, c, e, h1, h2, h3, h4, h5, h6⟩ := own_at h (by intro e; exact hn (List.length_eq_zero_iff.1 e))
  exact ⟨g, c, e, h1, h4, fun i y hy => h5 i _ (by rw [List.getElem?_map, hy]; rfl)⟩
/-- kids' cells, in every world behind one -/
theorem KdIn.later {w : World} {b off n c : Nat} {l : List Kd} (h : KdIn w (.slice (some ⟨b, off, none⟩) n c) l) {k : Nat} (hk : k < l.length) : ∀ W, Below w.heap.size w W → KdAt W b (off + k * 6) (kAt l k) := fun W hW => by
  obtain ⟨b', off', c', e, -, -, h1⟩ := (h.keep hW).get hk
  injection e with e1 e2 e3
  injection e1 with e1
  injection e1 with e1 e4
  subst e1 e4
  exact h1 k hk
set_option maxRecDepth 100000 in
set_option maxHeartbeats 8000000 in
theorem below14 (hS : StackOK 10) (hJ : JoinOK 15) (hV : ValueOK 16) (hM : MayOK13 38) (hA : AwakeOK14 12) (A : Option Addr) (n c : Nat) (l : List Kd) (w : World) (hv : KdIn w (.slice A n c) l) (hl : l.length = n) (hn : n ≤ 140737488351232) :
    Calls Try.prog 4 #[.slice A n c] w fun e w' => e = .returned (.bool true) ∧ Below w.heap.size w w' := by
  have KA := Lib.hid (fun W => hA W)
  have HV := Lib.hid hv
  have HL := Lib.hid hl
  have KN := Lib.hid (fun W (hW : KdIn W (.slice A n c) l) => near_any hM l _ W hW (by omega))
  have KO := Lib.hid (fun W (hW : KdIn W (.slice A n c) l) => solid_any l _ W hW (by omega))
  clear hA hM
  by_cases hnear : NearK l
  case neg =>
    rw [decide_eq_false hnear] at KN
    clear hS hJ hV hnear hl hv
    go_enter Try.func4, Try.ntmps4
    go_wp2_with (first
      | (go_at_call 12; (with_reducible refine (KA.out _).mono ?_); rintro e w1 ⟨rfl, hb⟩; have B1 := Lib.hid hb; clear hb)
      | (go_at_call 13; (with_reducible refine (KN.out _ (HV.out.keep B1.out)).mono ?_); rintro e w2 ⟨rfl, hb⟩; have B2 := Lib.hid (b_next B1.out hb); clear hb))
    go_ret
    exact ⟨rfl, B2.out⟩
  rw [decide_eq_true hnear] at KN
  by_cases hsol : SolidK l
  case neg =>
    rw [decide_eq_false hsol] at KO
    clear hS hJ hV hnear hsol hl hv
    go_enter Try.func4, Try.ntmps4
    go_wp2_with (first
      | (go_at_call 12; (with_reducible refine (KA.out _).mono ?_); rintro e w1 ⟨rfl, hb⟩; have B1 := Lib.hid hb; clear hb)
      | (go_at_call 13; (with_reducible refine (KN.out _ (HV.out.keep B1.out)).mono ?_); rintro e w2 ⟨rfl, hb⟩; have B2 := Lib.hid (b_next B1.out hb); clear hb)
      | (go_at_call 14; (with_reducible refine (KO.out _ (HV.out.keep B2.out)).mono ?_); rintro e w3 ⟨rfl, rfl⟩))
    go_ret
    exact ⟨rfl, B2.out⟩
  rw [decide_eq_true hsol] at KO
  have hn2 : n ≤ 200 := by have := hnear.1; omega
  have NA := Lib.hid (near_all hnear)
  have KB := Lib.hid (fun W (hW : KdIn W (.slice A n c) l) => hS l _ false false W hW (by omega) (near_big hnear))
  rw [near_told14 NA.out (by omega) false false, told_solid hsol] at KB
  have SS := Lib.hid (fun k (hk : k < l.length) => step_solid hsol hk)
  have SN := Lib.hid (fun k => run_n2 NA.out (by omega) false k)
  have AG := Lib.hid (fun k (hk : k < l.length) => ats_get (l := l) false hk)
  have AL : Hid ((atsS (startS false) l).length = n) := Lib.hid (by rw [atsS_len]; exact hl)
  obtain ⟨sE, hsE⟩ : ∃ s, runS (startS false) l = s := ⟨_, rfl⟩
  rw [hsE] at KB
  have ET : Hid (runS (startS false) (l.take n) = sE) := Lib.hid (by rw [← hsE, ← hl, List.take_length])
  generalize atsS (startS false) l = ats at KB AG AL
  obtain ⟨H, hH⟩ : ∃ H, (if 0 < sE.y + sE.wt.1 + sE.wt.2 then sE.y + sE.wt.1 + sE.wt.2 else 0) = H := ⟨_, rfl⟩
  rw [hH] at KB
  have EH := Lib.hid hH
  have KJ := Lib.hid (fun x y W v (h : MgIn W v [x, y]) => hJ [x, y] v W h (by simp))
  have KV := Lib.hid (fun (a b : Int) W => hV (a, b) W)
  unfold skV at KB
  unfold mgZ at KB
  dsimp only at KB
  clear hS hJ hV hnear hsol hl hv hsE hH
  go_enter Try.func4, Try.ntmps4
  go_upto_region 6 with (first
    | (go_at_call 12; (with_reducible refine (KA.out _).mono ?_); rintro e w1 ⟨rfl, hb⟩; have B1 := Lib.hid hb; clear hb)
    | (go_at_call 13; (with_reducible refine (KN.out _ (HV.out.keep B1.out)).mono ?_); rintro e w2 ⟨rfl, hb⟩; have B2 := Lib.hid (b_next B1.out hb); clear hb)
    | (go_at_call 14; (with_reducible refine (KO.out _ (HV.out.keep B2.out)).mono ?_); rintro e w3 ⟨rfl, rfl⟩)
    | (go_at_call 10; (with_reducible refine (KB.out _ (HV.out.keep B2.out)).mono ?_); rintro e w3 ⟨vA, rfl, hO, hb⟩; obtain ⟨A2, c2, e2⟩ := own_len14 hO; rw [AL.out] at e2; subst e2; have OA := Lib.hid hO; have B3 := Lib.hid (b_next B2.out hb); clear hO hb))
  have W4 : Hid (SkAt (w3.alloc (.cells #[.slice A2 n c2, .int .i64 H, .int .i64 0, .int .i64 0, .int .i64 0, .int .i64 0, .bool false] 27)) w3.heap.size (.slice A2 n c2) ⟨ats, H, (0, 0), (0, 0), false⟩) := Lib.hid (SkAt.new w3 (.slice A2 n c2) ⟨ats, H, (0, 0), (0, 0), false⟩)
  have C4 : Hid (Below w3.heap.size w3 (w3.alloc (.cells #[.slice A2 n c2, .int .i64 H, .int .i64 0, .int .i64 0, .int .i64 0, .int .i64 0, .bool false] 27))) := Lib.hid ((Below.refl _ _).alloc (Nat.le_refl _) _)
  have B4 := Lib.hid (b_next B3.out C4.out)
  have O4 := Lib.hid (OA.out.keep C4.out)
  clear C4 B3 OA KB KN KO KA B1 B2
  generalize w3.alloc (.cells #[.slice A2 n c2, .int .i64 H, .int .i64 0, .int .i64 0, .int .i64 0, .int .i64 0, .bool false] 27) = w4 at W4 B4 O4 ⊢
  generalize w3.heap.size = g at W4 ⊢
  obtain ⟨x0, x1, x2, x3, x4, x5, x6⟩ := W4.out.cells
  dsimp only at x1 x2 x3 x4 x5 x6
  have nn : ((n : Int) != n) = (!true) := by simp
  go_upto_region 9 with fail
  clear x0 x1 x2 x3 x4 x5 x6
  have C5 : Hid (Below w4.heap.size w4 (w4.alloc (.cells #[.int .i64 0, .int .i64 0] 25))) := Lib.hid ((Below.refl _ _).alloc (Nat.le_refl _) _)
  have M5 : Hid (MgAt (w4.alloc (.cells #[.int .i64 0, .int .i64 0] 25)) w4.heap.size mgZ) := Lib.hid (MgAt.new w4 mgZ)
  generalize w4.alloc (.cells #[.int .i64 0, .int .i64 0] 25) = w5 at C5 M5 ⊢
  obtain ⟨q, hq⟩ : ∃ q, w4.heap.size = q := ⟨_, rfl⟩
  rw [hq] at C5 M5 ⊢
  have HQ := Lib.hid hq
  clear hq
  go_wp2_with fail
  go_loopg [5, 7] n (fun g1 ve vi wr => ∃ k : Nat, vi = .int .i64 k ∧ ve = .int .i64 (runS (startS false) (l.take k)).y ∧ k ≤ n ∧ n - k ≤ g1 ∧ Hid (Below q w4 wr) ∧ Hid (MgAt wr q (runS (startS false) (l.take k)).wt))
  case atStart => exact ⟨0, rfl, rfl, by omega, by omega, C5, M5⟩
  case round =>
    obtain ⟨k, rfl, rfl, hk, hg1, HB, HW⟩ := hrel
    obtain ⟨wo, hwo⟩ : ∃ wo, wo = wr := ⟨_, rfl⟩
    subst hwo
    have SB := Lib.hid (SN.out k)
    have HS : Hid (∀ W, Below wo.heap.size wo W → Below q w4 W) := Lib.hid (fun W hW => HB.out.trans (hW.mono (by have := HB.out.size; have := HQ.out; omega)))
    by_cases hlt : k < n
    · have hz1 : (k : Int) < n := by omega
      have hz0 : (0 : Int) ≤ k := by omega
      have wi : IntKind.i64.wrap ((k : Int) + 1) = (k : Int) + 1 := IntWalk.i64_in _ (by omega)
      obtain ⟨b, off, c1, e', -, -, -⟩ := HV.out.get (i := k) (by have := HL.out; omega)
      injection e' with e1 e2 e3
      subst e1 e3
      clear e2
      have VK := Lib.hid (KdIn.later (HV.out.keep B4.out) (k := k) (by have := HL.out; omega))
      obtain ⟨gr, cr, er, -, -, hcr⟩ := own_cell14 O4.out (by intro e; have := AL.out; rw [e] at this; simp at this; omega)
      rw [AL.out] at er
      injection er with e1 e2 e3
      subst e1 e3
      clear e2
      have RC := Lib.hid (hcr k _ (AG.out k (by have := HL.out; omega)))
      have S3 := Lib.hid (SS.out k (by have := HL.out; omega))
      have NK : Hid (NearAt (kAt l k)) := Lib.hid (NA.out _ (by rw [kAt_get (by have := HL.out; omega)]; exact List.getElem_mem _))
      clear hcr
      generalize kAt l k = x at VK RC S3 NK
      obtain ⟨s2, hs2⟩ : ∃ s2, runS (startS false) (l.take (k + 1)) = s2 := ⟨_, rfl⟩
      rw [hs2] at S3
      have E2 := Lib.hid hs2
      clear hs2
      generalize runS (startS false) (l.take k) = s at RC S3 HW SB ⊢
      have AT := Lib.hid (at_n SB.out NK.out)
      have JS := Lib.hid (mjoin_small SB.out.wt NK.out.2.2.2.1)
      have NH : Hid (0 ≤ x.h ∧ x.h ≤ 268435456) := Lib.hid ⟨NK.out.1, NK.out.2.1⟩
      obtain ⟨at1, hat⟩ : ∃ y, atS s x = y := ⟨_, rfl⟩
      rw [hat] at RC S3 AT
      clear hat NK
      have KJ1 := Lib.hid (fun W v (h : MgIn W v [s.wt, x.t]) => KJ.out s.wt x.t W v h)
      rw [joinM_two] at KJ1
      obtain ⟨⟨tu, td⟩, ⟨bu, bd⟩, hh, thr⟩ := x
      obtain ⟨y, ⟨wa, wb⟩, out, top⟩ := s
      obtain ⟨y2, wt2, out2, top2⟩ := s2
      dsimp only at S3 HW KJ1 JS NH ⊢
      obtain ⟨⟨m1, m2⟩, hm⟩ : ∃ m, mjoin (wa, wb) (tu, td) = m := ⟨_, rfl⟩
      rw [hm] at S3 KJ1 JS
      unfold mgV at KJ1
      unfold SmallM MayM at JS
      dsimp only at S3 KJ1 JS
      clear hm
      obtain ⟨e1, e2, e3⟩ := S3.out
      subst e1 e2
      have KV1 := Lib.hid (fun W => KV.out m1 m2 W)
      have v1 : valueM (m1, m2) = m1 + m2 := IntWalk.i64_in _ (by have := JS.out; dsimp only; omega)
      rw [v1] at KV1
      obtain ⟨vv, hvv⟩ : ∃ vv, m1 + m2 = vv := ⟨_, rfl⟩
      rw [hvv] at KV1
      unfold mgV at KV1
      dsimp only at KV1
      have b1 : IntKind.i64.wrap (y + vv) = at1 := by rw [IntWalk.i64_in _ (by have := AT.out; omega)]; omega
      have b2 : IntKind.i64.wrap (at1 + hh) = at1 + hh := IntWalk.i64_in _ (by have := AT.out; have := NH.out; omega)
      have kk : (at1 != at1) = (!true) := by simp
      have CT : Hid (∀ W, Below q w4 W → KdAt W b (off + k * 6) ⟨(tu, td), (bu, bd), hh, thr⟩ ∧ W.cell? ⟨gr, k, none⟩ = some (.int .i64 at1) ∧ W.cell? ⟨g, 0, none⟩ = some (.slice (some ⟨gr, 0, none⟩) n c2)) := Lib.hid (fun W hW => by
        have hW' : Below w4.heap.size w4 W := by rw [HQ.out]; exact hW
        refine ⟨VK.out W hW', ?_, (W4.out.keep hW').cells.1⟩
        have hgl : gr < w4.heap.size := World.block_lt_of_cell? w4 _ RC.out
        exact (hW'.cell (p := ⟨gr, k, none⟩) hgl).trans RC.out)
      unfold KdAt at CT
      dsimp only at CT
      clear v1 hvv S3 VK RC SB AT JS NH e3 KJ KV
      go_wp2_with fail
      refine' wp_region_below [opV _, opV _, opV _, opV _, opV _, opV _, opV _, opV _, opV _, opV _, opV _, opV _, opM [(wa, wb), (tu, td)], opV (.agg #[.int .i64 m1, .int .i64 m2]), opV (.int .i64 vv), opV _, opV _] rfl (by kernel_rfl) ⟨?s0, ?s1, ?s2, ?s3, ?s4, ?s5, ?s6, ?s7, ?s8, ?s9, ?s10, ?s11, ?s12, ?s13, ?s14, ?s15, ?s16, trivial⟩ ?fin
      case s0 =>
        refine BStep.of [] [] (opV _) (by kernel_rfl) (fun _ _ => by kernel_rfl) rfl ?_
        intro vs wv hB hA
        clear hA
        simp only [fillP]
        have ct := CT.out wv (HS.out wv hB); have a0 := ct.1.1; have a1 := ct.1.2.1; have a2 := ct.1.2.2.1; have a3 := ct.1.2.2.2.1; have a4 := ct.1.2.2.2.2.1; have rc := ct.2.1; have xc := ct.2.2; have q0 := (MgAt.cells (HW.out.keep hB)).1; have q1 := (MgAt.cells (HW.out.keep hB)).2; dsimp only at q0 q1; clear ct; go_wp2_with fail
        refine postB_val ?_ (Below.refl _ _)
        simp only [List.getElem?_cons_succ, List.getElem?_cons_zero]
        rfl
      case s1 =>
        refine BStep.of [0] [(56, 0)] (opV _) (by kernel_rfl) (fun _ _ => by kernel_rfl) rfl ?_
        intro vs wv hB hA
        have h0 : vs 0 = _ := hA.1
        clear hA
        simp only [fillP, List.setIfInBounds_toArray, List.set_cons_zero, List.set_cons_succ, h0]
        have ct := CT.out wv (HS.out wv hB); have a0 := ct.1.1; have a1 := ct.1.2.1; have a2 := ct.1.2.2.1; have a3 := ct.1.2.2.2.1; have a4 := ct.1.2.2.2.2.1; have rc := ct.2.1; have xc := ct.2.2; have q0 := (MgAt.cells (HW.out.keep hB)).1; have q1 := (MgAt.cells (HW.out.keep hB)).2; dsimp only at q0 q1; clear ct; go_wp2_with fail
        refine postB_val ?_ (Below.refl _ _)
        simp only [List.getElem?_cons_succ, List.getElem?_cons_zero]
        rfl
      case s2 =>
        refine BStep.of [] [] (opV _) (by kernel_rfl) (fun _ _ => by kernel_rfl) rfl ?_
        intro vs wv hB hA
        clear hA
        simp only [fillP]
        have ct := CT.out wv (HS.out wv hB); have a0 := ct.1.1; have a1 := ct.1.2.1; have a2 := ct.1.2.2.1; have a3 := ct.1.2.2.2.1; have a4 := ct.1.2.2.2.2.1; have rc := ct.2.1; have xc := ct.2.2; have q0 := (MgAt.cells (HW.out.keep hB)).1; have q1 := (MgAt.cells (HW.out.keep hB)).2; dsimp only at q0 q1; clear ct; go_wp2_with fail
        refine postB_val ?_ (Below.refl _ _)
        simp only [List.getElem?_cons_succ, List.getElem?_cons_zero]
        rfl
      case s3 =>
        refine BStep.of [1, 2] [(57, 1), (58, 2)] (opV _) (by kernel_rfl) (fun _ _ => by kernel_rfl) rfl ?_
        intro vs wv hB hA
        have h1 : vs 1 = _ := hA.1
        have h2 : vs 2 = _ := hA.2.1
        clear hA
        simp only [fillP, List.setIfInBounds_toArray, List.set_cons_zero, List.set_cons_succ, h1, h2]
        have ct := CT.out wv (HS.out wv hB); have a0 := ct.1.1; have a1 := ct.1.2.1; have a2 := ct.1.2.2.1; have a3 := ct.1.2.2.2.1; have a4 := ct.1.2.2.2.2.1; have rc := ct.2.1; have xc := ct.2.2; have q0 := (MgAt.cells (HW.out.keep hB)).1; have q1 := (MgAt.cells (HW.out.keep hB)).2; dsimp only at q0 q1; clear ct; go_wp2_with fail
        refine postB_val ?_ (Below.refl _ _)
        simp only [List.getElem?_cons_succ, List.getElem?_cons_zero]
        rfl
      case s4 =>
        refine BStep.of [3] [(59, 3)] (opV _) (by kernel_rfl) (fun _ _ => by kernel_rfl) rfl ?_
        intro vs wv hB hA
        have h3 : vs 3 = _ := hA.1
        clear hA
        simp only [fillP, List.setIfInBounds_toArray, List.set_cons_zero, List.set_cons_succ, h3]
        have ct := CT.out wv (HS.out wv hB); have a0 := ct.1.1; have a1 := ct.1.2.1; have a2 := ct.1.2.2.1; have a3 := ct.1.2.2.2.1; have a4 := ct.1.2.2.2.2.1; have rc := ct.2.1; have xc := ct.2.2; have q0 := (MgAt.cells (HW.out.keep hB)).1; have q1 := (MgAt.cells (HW.out.keep hB)).2; dsimp only at q0 q1; clear ct; go_wp2_with fail
        refine postB_val ?_ (Below.refl _ _)
        simp only [List.getElem?_cons_succ, List.getElem?_cons_zero]
        rfl
      case s5 =>
        refine BStep.of [] [] (opV _) (by kernel_rfl) (fun _ _ => by kernel_rfl) rfl ?_
        intro vs wv hB hA
        clear hA
        simp only [fillP]
        have ct := CT.out wv (HS.out wv hB); have a0 := ct.1.1; have a1 := ct.1.2.1; have a2 := ct.1.2.2.1; have a3 := ct.1.2.2.2.1; have a4 := ct.1.2.2.2.2.1; have rc := ct.2.1; have xc := ct.2.2; have q0 := (MgAt.cells (HW.out.keep hB)).1; have q1 := (MgAt.cells (HW.out.keep hB)).2; dsimp only at q0 q1; clear ct; go_wp2_with fail
        refine postB_val ?_ (Below.refl _ _)
        simp only [List.getElem?_cons_succ, List.getElem?_cons_zero]
        rfl
      case s6 =>
        refine BStep.of [] [] (opV _) (by kernel_rfl) (fun _ _ => by kernel_rfl) rfl ?_
        intro vs wv hB hA
        clear hA
        simp only [fillP]
        have ct := CT.out wv (HS.out wv hB); have a0 := ct.1.1; have a1 := ct.1.2.1; have a2 := ct.1.2.2.1; have a3 := ct.1.2.2.2.1; have a4 := ct.1.2.2.2.2.1; have rc := ct.2.1; have xc := ct.2.2; have q0 := (MgAt.cells (HW.out.keep hB)).1; have q1 := (MgAt.cells (HW.out.keep hB)).2; dsimp only at q0 q1; clear ct; go_wp2_with fail
        refine postB_val ?_ (Below.refl _ _)
        simp only [List.getElem?_cons_succ, List.getElem?_cons_zero]
        rfl
      case s7 =>
        refine BStep.of [] [] (opV _) (by kernel_rfl) (fun _ _ => by kernel_rfl) rfl ?_
        intro vs wv hB hA
        clear hA
        simp only [fillP]
        have ct := CT.out wv (HS.out wv hB); have a0 := ct.1.1; have a1 := ct.1.2.1; have a2 := ct.1.2.2.1; have a3 := ct.1.2.2.2.1; have a4 := ct.1.2.2.2.2.1; have rc := ct.2.1; have xc := ct.2.2; have q0 := (MgAt.cells (HW.out.keep hB)).1; have q1 := (MgAt.cells (HW.out.keep hB)).2; dsimp only at q0 q1; clear ct; go_wp2_with fail
        refine postB_val ?_ (Below.refl _ _)
        simp only [List.getElem?_cons_succ, List.getElem?_cons_zero]
        rfl
      case s8 =>
        refine BStep.of [] [] (opV _) (by kernel_rfl) (fun _ _ => by kernel_rfl) rfl ?_
        intro vs wv hB hA
        clear hA
        simp only [fillP]
        have ct := CT.out wv (HS.out wv hB); have a0 := ct.1.1; have a1 := ct.1.2.1; have a2 := ct.1.2.2.1; have a3 := ct.1.2.2.2.1; have a4 := ct.1.2.2.2.2.1; have rc := ct.2.1; have xc := ct.2.2; have q0 := (MgAt.cells (HW.out.keep hB)).1; have q1 := (MgAt.cells (HW.out.keep hB)).2; dsimp only at q0 q1; clear ct; go_wp2_with fail
        refine postB_val ?_ (Below.refl _ _)
        simp only [List.getElem?_cons_succ, List.getElem?_cons_zero]
        rfl
      case s9 =>
        refine BStep.of [7, 8] [(63, 7), (64, 8)] (opV _) (by kernel_rfl) (fun _ _ => by kernel_rfl) rfl ?_
        intro vs wv hB hA
        have h7 : vs 7 = _ := hA.1
        have h8 : vs 8 = _ := hA.2.1
        clear hA
        simp only [fillP, List.setIfInBounds_toArray, List.set_cons_zero, List.set_cons_succ, h7, h8]
        have ct := CT.out wv (HS.out wv hB); have a0 := ct.1.1; have a1 := ct.1.2.1; have a2 := ct.1.2.2.1; have a3 := ct.1.2.2.2.1; have a4 := ct.1.2.2.2.2.1; have rc := ct.2.1; have xc := ct.2.2; have q0 := (MgAt.cells (HW.out.keep hB)).1; have q1 := (MgAt.cells (HW.out.keep hB)).2; dsimp only at q0 q1; clear ct; go_wp2_with fail
        refine postB_val ?_ (Below.refl _ _)
        simp only [List.getElem?_cons_succ, List.getElem?_cons_zero]
        rfl
      case s10 =>
        refine BStep.of [9] [(65, 9)] (opV _) (by kernel_rfl) (fun _ _ => by kernel_rfl) rfl ?_
        intro vs wv hB hA
        have h9 : vs 9 = _ := hA.1
        clear hA
        simp only [fillP, List.setIfInBounds_toArray, List.set_cons_zero, List.set_cons_succ, h9]
        have ct := CT.out wv (HS.out wv hB); have a0 := ct.1.1; have a1 := ct.1.2.1; have a2 := ct.1.2.2.1; have a3 := ct.1.2.2.2.1; have a4 := ct.1.2.2.2.2.1; have rc := ct.2.1; have xc := ct.2.2; have q0 := (MgAt.cells (HW.out.keep hB)).1; have q1 := (MgAt.cells (HW.out.keep hB)).2; dsimp only at q0 q1; clear ct; go_wp2_with fail
        refine postB_val ?_ (Below.refl _ _)
        simp only [List.getElem?_cons_succ, List.getElem?_cons_zero]
        rfl
      case s11 =>
        refine BStep.of [10] [(66, 10)] (opV _) (by kernel_rfl) (fun _ _ => by kernel_rfl) rfl ?_
        intro vs wv hB hA
        have h10 : vs 10 = _ := hA.1
        clear hA
        simp only [fillP, List.setIfInBounds_toArray, List.set_cons_zero, List.set_cons_succ, h10]
        have ct := CT.out wv (HS.out wv hB); have a0 := ct.1.1; have a1 := ct.1.2.1; have a2 := ct.1.2.2.1; have a3 := ct.1.2.2.2.1; have a4 := ct.1.2.2.2.2.1; have rc := ct.2.1; have xc := ct.2.2; have q0 := (MgAt.cells (HW.out.keep hB)).1; have q1 := (MgAt.cells (HW.out.keep hB)).2; dsimp only at q0 q1; clear ct; go_wp2_with fail
        refine postB_val ?_ (Below.refl _ _)
        simp only [List.getElem?_cons_succ, List.getElem?_cons_zero]
        rfl
      case s12 =>
        refine BStep.of [6, 11] [(62, 6), (67, 11)] (opM [(wa, wb), (tu, td)]) (by kernel_rfl) (fun _ _ => by kernel_rfl) rfl ?_
        intro vs wv hB hA
        have h6 : vs 6 = _ := hA.1
        have h11 : vs 11 = _ := hA.2.1
        clear hA
        simp only [fillP, List.setIfInBounds_toArray, List.set_cons_zero, List.set_cons_succ, h6, h11]
        go_wp2_with fail; exact postB_R rfl (new_two wv (wa, wb) (tu, td)) ((Below.refl _ _).alloc (Nat.le_refl _) _)
      case s13 =>
        refine BStep.of [12] [(68, 12)] (opV (.agg #[.int .i64 m1, .int .i64 m2])) (by kernel_rfl) (fun _ _ => by kernel_rfl) rfl ?_
        intro vs wv hB hA
        have h12 : MgIn wv (vs 12) [(wa, wb), (tu, td)] := hA.1
        clear hA
        simp only [fillP, List.setIfInBounds_toArray, List.set_cons_zero, List.set_cons_succ]
        (go_wp2_with (go_at_call 15; (with_reducible refine (KJ1.out _ _ h12).mono ?_); rintro e w7 ⟨rfl, hb⟩)); exact postB_val rfl hb
      case s14 =>
        refine BStep.of [13] [(69, 13)] (opV (.int .i64 vv)) (by kernel_rfl) (fun _ _ => by kernel_rfl) rfl ?_
        intro vs wv hB hA
        have h13 : vs 13 = _ := hA.1
        clear hA
        simp only [fillP, List.setIfInBounds_toArray, List.set_cons_zero, List.set_cons_succ, h13]
        (go_wp2_with (go_at_call 16; (with_reducible refine (KV1.out _).mono ?_); rintro e w7 ⟨rfl, hb⟩)); exact postB_val rfl hb
      case s15 =>
        refine BStep.of [5, 14] [(61, 5), (70, 14)] (opV _) (by kernel_rfl) (fun _ _ => by kernel_rfl) rfl ?_
        intro vs wv hB hA
        have h5 : vs 5 = _ := hA.1
        have h14 : vs 14 = _ := hA.2.1
        clear hA
        simp only [fillP, List.setIfInBounds_toArray, List.set_cons_zero, List.set_cons_succ, h5, h14]
        have ct := CT.out wv (HS.out wv hB); have a0 := ct.1.1; have a1 := ct.1.2.1; have a2 := ct.1.2.2.1; have a3 := ct.1.2.2.2.1; have a4 := ct.1.2.2.2.2.1; have rc := ct.2.1; have xc := ct.2.2; have q0 := (MgAt.cells (HW.out.keep hB)).1; have q1 := (MgAt.cells (HW.out.keep hB)).2; dsimp only at q0 q1; clear ct; go_wp2_with fail
        refine postB_val ?_ (Below.refl _ _)
        simp only [List.getElem?_cons_succ, List.getElem?_cons_zero]
        rfl
      case s16 =>
        refine BStep.of [4, 15] [(60, 4), (71, 15)] (opV _) (by kernel_rfl) (fun _ _ => by kernel_rfl) rfl ?_
        intro vs wv hB hA
        have h4 : vs 4 = _ := hA.1
        have h15 : vs 15 = _ := hA.2.1
        clear hA
        simp only [fillP, List.setIfInBounds_toArray, List.set_cons_zero, List.set_cons_succ, h4, h15]
        have ct := CT.out wv (HS.out wv hB); have a0 := ct.1.1; have a1 := ct.1.2.1; have a2 := ct.1.2.2.1; have a3 := ct.1.2.2.2.1; have a4 := ct.1.2.2.2.2.1; have rc := ct.2.1; have xc := ct.2.2; have q0 := (MgAt.cells (HW.out.keep hB)).1; have q1 := (MgAt.cells (HW.out.keep hB)).2; dsimp only at q0 q1; clear ct; go_wp2_with fail
        refine postB_val ?_ (Below.refl _ _)
        simp only [List.getElem?_cons_succ, List.getElem?_cons_zero]
        rfl
      case fin =>
        refine fin_of [0, 1, 2, 3, 4, 5, 6, 7, 8, 9, 10, 11, 12, 13, 14, 15, 16] [(56, 0), (57, 1), (58, 2), (59, 3), (60, 4), (61, 5), (62, 6), (63, 7), (64, 8), (65, 9), (66, 10), (67, 11), (68, 12), (69, 13), (70, 14), (71, 15), (72, 16)] (by kernel_rfl) (fun _ _ => by kernel_rfl) ?_
        intro vs wv hB hA
        have h0 : vs 0 = _ := hA.1
        have h1 : vs 1 = _ := hA.2.1
        have h2 : vs 2 = _ := hA.2.2.1
        have h3 : vs 3 = _ := hA.2.2.2.1
        have h4 : vs 4 = _ := hA.2.2.2.2.1
        have h5 : vs 5 = _ := hA.2.2.2.2.2.1
        have h6 : vs 6 = _ := hA.2.2.2.2.2.2.1
        have h7 : vs 7 = _ := hA.2.2.2.2.2.2.2.1
        have h8 : vs 8 = _ := hA.2.2.2.2.2.2.2.2.1
        have h9 : vs 9 = _ := hA.2.2.2.2.2.2.2.2.2.1
        have h10 : vs 10 = _ := hA.2.2.2.2.2.2.2.2.2.2.1
        have h11 : vs 11 = _ := hA.2.2.2.2.2.2.2.2.2.2.2.1
        have h12 : MgIn wv (vs 12) [(wa, wb), (tu, td)] := hA.2.2.2.2.2.2.2.2.2.2.2.2.1
        have h13 : vs 13 = _ := hA.2.2.2.2.2.2.2.2.2.2.2.2.2.1
        have h14 : vs 14 = _ := hA.2.2.2.2.2.2.2.2.2.2.2.2.2.2.1
        have h15 : vs 15 = _ := hA.2.2.2.2.2.2.2.2.2.2.2.2.2.2.2.1
        have h16 : vs 16 = _ := hA.2.2.2.2.2.2.2.2.2.2.2.2.2.2.2.2.1
        clear hA
        simp only [fillP, List.setIfInBounds_toArray, List.set_cons_zero, List.set_cons_succ, h0, h1, h2, h3, h4, h5, h6, h7, h8, h9, h10, h11, h13, h14, h15, h16]
        go_wp2_with fail
        replace HB := Lib.hid (HS.out wv hB)
        replace HW := Lib.hid (HW.out.keep hB)
        have HS2 : Hid (∀ W, Below wv.heap.size wv W → Below q w4 W) := Lib.hid (fun W hW => HB.out.trans (hW.mono (by have := HB.out.size; have := HQ.out; omega)))
        clear HS
        have HS := HS2
        clear HS2 hB
        obtain ⟨wy, hwy⟩ : ∃ wy, wy = wv := ⟨_, rfl⟩
        subst hwy
        refine' wp_region_last [opV _, opV _, opV _, opV _, opV _, opV _, opV _, opV _, opV _, opV _, opV _, opV _, opV _, opV _, opV _, opV _, opV _] 17 _ rfl (by kernel_rfl) rfl (by kernel_rfl) ⟨?s0, ?s1, ?s2, ?s3, ?s4, ?s5, ?s6, ?s7, ?s8, ?s9, ?s10, ?s11, ?s12, ?s13, ?s14, ?s15, ?s16, trivial⟩ rfl ?fin
        case s0 =>
          refine BStep.of [] [] (opV _) (by kernel_rfl) (fun _ _ => by kernel_rfl) rfl ?_
          intro vs wv hB hA
          clear hA
          simp only [fillP]
          have ct := CT.out wv (HS.out wv hB); have a0 := ct.1.1; have a1 := ct.1.2.1; have a2 := ct.1.2.2.1; have a3 := ct.1.2.2.2.1; have a4 := ct.1.2.2.2.2.1; have rc := ct.2.1; have xc := ct.2.2; have q0 := (MgAt.cells (HW.out.keep hB)).1; have q1 := (MgAt.cells (HW.out.keep hB)).2; dsimp only at q0 q1; clear ct; go_wp2_with fail
          refine postB_val ?_ (Below.refl _ _)
          simp only [List.getElem?_cons_succ, List.getElem?_cons_zero]
          rfl
        case s1 =>
          refine BStep.of [0] [(73, 0)] (opV _) (by kernel_rfl) (fun _ _ => by kernel_rfl) rfl ?_
          intro vs wv hB hA
          have h0 : vs 0 = _ := hA.1
          clear hA
          simp only [fillP, List.setIfInBounds_toArray, List.set_cons_zero, List.set_cons_succ, h0]
          have ct := CT.out wv (HS.out wv hB); have a0 := ct.1.1; have a1 := ct.1.2.1; have a2 := ct.1.2.2.1; have a3 := ct.1.2.2.2.1; have a4 := ct.1.2.2.2.2.1; have rc := ct.2.1; have xc := ct.2.2; have q0 := (MgAt.cells (HW.out.keep hB)).1; have q1 := (MgAt.cells (HW.out.keep hB)).2; dsimp only at q0 q1; clear ct; go_wp2_with fail
          refine postB_val ?_ (Below.refl _ _)
          simp only [List.getElem?_cons_succ, List.getElem?_cons_zero]
          rfl
        case s2 =>
          refine BStep.of [] [] (opV _) (by kernel_rfl) (fun _ _ => by kernel_rfl) rfl ?_
          intro vs wv hB hA
          clear hA
          simp only [fillP]
          have ct := CT.out wv (HS.out wv hB); have a0 := ct.1.1; have a1 := ct.1.2.1; have a2 := ct.1.2.2.1; have a3 := ct.1.2.2.2.1; have a4 := ct.1.2.2.2.2.1; have rc := ct.2.1; have xc := ct.2.2; have q0 := (MgAt.cells (HW.out.keep hB)).1; have q1 := (MgAt.cells (HW.out.keep hB)).2; dsimp only at q0 q1; clear ct; go_wp2_with fail
          refine postB_val ?_ (Below.refl _ _)
          simp only [List.getElem?_cons_succ, List.getElem?_cons_zero]
          rfl
        case s3 =>
          refine BStep.of [1, 2] [(74, 1), (75, 2)] (opV _) (by kernel_rfl) (fun _ _ => by kernel_rfl) rfl ?_
          intro vs wv hB hA
          have h1 : vs 1 = _ := hA.1
          have h2 : vs 2 = _ := hA.2.1
          clear hA
          simp only [fillP, List.setIfInBounds_toArray, List.set_cons_zero, List.set_cons_succ, h1, h2]
          have ct := CT.out wv (HS.out wv hB); have a0 := ct.1.1; have a1 := ct.1.2.1; have a2 := ct.1.2.2.1; have a3 := ct.1.2.2.2.1; have a4 := ct.1.2.2.2.2.1; have rc := ct.2.1; have xc := ct.2.2; have q0 := (MgAt.cells (HW.out.keep hB)).1; have q1 := (MgAt.cells (HW.out.keep hB)).2; dsimp only at q0 q1; clear ct; go_wp2_with fail
          refine postB_val ?_ (Below.refl _ _)
          simp only [List.getElem?_cons_succ, List.getElem?_cons_zero]
          rfl
        case s4 =>
          refine BStep.of [3] [(76, 3)] (opV _) (by kernel_rfl) (fun _ _ => by kernel_rfl) rfl ?_
          intro vs wv hB hA
          have h3 : vs 3 = _ := hA.1
          clear hA
          simp only [fillP, List.setIfInBounds_toArray, List.set_cons_zero, List.set_cons_succ, h3]
          have ct := CT.out wv (HS.out wv hB); have a0 := ct.1.1; have a1 := ct.1.2.1; have a2 := ct.1.2.2.1; have a3 := ct.1.2.2.2.1; have a4 := ct.1.2.2.2.2.1; have rc := ct.2.1; have xc := ct.2.2; have q0 := (MgAt.cells (HW.out.keep hB)).1; have q1 := (MgAt.cells (HW.out.keep hB)).2; dsimp only at q0 q1; clear ct; go_wp2_with fail
          refine postB_val ?_ (Below.refl _ _)
          simp only [List.getElem?_cons_succ, List.getElem?_cons_zero]
          rfl
        case s5 =>
          refine BStep.of [] [] (opV _) (by kernel_rfl) (fun _ _ => by kernel_rfl) rfl ?_
          intro vs wv hB hA
          clear hA
          simp only [fillP]
          have ct := CT.out wv (HS.out wv hB); have a0 := ct.1.1; have a1 := ct.1.2.1; have a2 := ct.1.2.2.1; have a3 := ct.1.2.2.2.1; have a4 := ct.1.2.2.2.2.1; have rc := ct.2.1; have xc := ct.2.2; have q0 := (MgAt.cells (HW.out.keep hB)).1; have q1 := (MgAt.cells (HW.out.keep hB)).2; dsimp only at q0 q1; clear ct; go_wp2_with fail
          refine postB_val ?_ (Below.refl _ _)
          simp only [List.getElem?_cons_succ, List.getElem?_cons_zero]
          rfl
        case s6 =>
          refine BStep.of [] [] (opV _) (by kernel_rfl) (fun _ _ => by kernel_rfl) rfl ?_
          intro vs wv hB hA
          clear hA
          simp only [fillP]
          have ct := CT.out wv (HS.out wv hB); have a0 := ct.1.1; have a1 := ct.1.2.1; have a2 := ct.1.2.2.1; have a3 := ct.1.2.2.2.1; have a4 := ct.1.2.2.2.2.1; have rc := ct.2.1; have xc := ct.2.2; have q0 := (MgAt.cells (HW.out.keep hB)).1; have q1 := (MgAt.cells (HW.out.keep hB)).2; dsimp only at q0 q1; clear ct; go_wp2_with fail
          refine postB_val ?_ (Below.refl _ _)
          simp only [List.getElem?_cons_succ, List.getElem?_cons_zero]
          rfl
        case s7 =>
          refine BStep.of [5, 6] [(78, 5), (79, 6)] (opV _) (by kernel_rfl) (fun _ _ => by kernel_rfl) rfl ?_
          intro vs wv hB hA
          have h5 : vs 5 = _ := hA.1
          have h6 : vs 6 = _ := hA.2.1
          clear hA
          simp only [fillP, List.setIfInBounds_toArray, List.set_cons_zero, List.set_cons_succ, h5, h6]
          have ct := CT.out wv (HS.out wv hB); have a0 := ct.1.1; have a1 := ct.1.2.1; have a2 := ct.1.2.2.1; have a3 := ct.1.2.2.2.1; have a4 := ct.1.2.2.2.2.1; have rc := ct.2.1; have xc := ct.2.2; have q0 := (MgAt.cells (HW.out.keep hB)).1; have q1 := (MgAt.cells (HW.out.keep hB)).2; dsimp only at q0 q1; clear ct; go_wp2_with fail
          refine postB_val ?_ (Below.refl _ _)
          simp only [List.getElem?_cons_succ, List.getElem?_cons_zero]
          rfl
        case s8 =>
          refine BStep.of [7] [(80, 7)] (opV _) (by kernel_rfl) (fun _ _ => by kernel_rfl) rfl ?_
          intro vs wv hB hA
          have h7 : vs 7 = _ := hA.1
          clear hA
          simp only [fillP, List.setIfInBounds_toArray, List.set_cons_zero, List.set_cons_succ, h7]
          have ct := CT.out wv (HS.out wv hB); have a0 := ct.1.1; have a1 := ct.1.2.1; have a2 := ct.1.2.2.1; have a3 := ct.1.2.2.2.1; have a4 := ct.1.2.2.2.2.1; have rc := ct.2.1; have xc := ct.2.2; have q0 := (MgAt.cells (HW.out.keep hB)).1; have q1 := (MgAt.cells (HW.out.keep hB)).2; dsimp only at q0 q1; clear ct; go_wp2_with fail
          refine postB_val ?_ (Below.refl _ _)
          simp only [List.getElem?_cons_succ, List.getElem?_cons_zero]
          rfl
        case s9 =>
          refine BStep.of [8] [(81, 8)] (opV _) (by kernel_rfl) (fun _ _ => by kernel_rfl) rfl ?_
          intro vs wv hB hA
          have h8 : vs 8 = _ := hA.1
          clear hA
          simp only [fillP, List.setIfInBounds_toArray, List.set_cons_zero, List.set_cons_succ, h8]
          have ct := CT.out wv (HS.out wv hB); have a0 := ct.1.1; have a1 := ct.1.2.1; have a2 := ct.1.2.2.1; have a3 := ct.1.2.2.2.1; have a4 := ct.1.2.2.2.2.1; have rc := ct.2.1; have xc := ct.2.2; have q0 := (MgAt.cells (HW.out.keep hB)).1; have q1 := (MgAt.cells (HW.out.keep hB)).2; dsimp only at q0 q1; clear ct; go_wp2_with fail
          refine postB_val ?_ (Below.refl _ _)
          simp only [List.getElem?_cons_succ, List.getElem?_cons_zero]
          rfl
        case s10 =>
          refine BStep.of [4, 9] [(77, 4), (82, 9)] (opV _) (by kernel_rfl) (fun _ _ => by kernel_rfl) rfl ?_
          intro vs wv hB hA
          have h4 : vs 4 = _ := hA.1
          have h9 : vs 9 = _ := hA.2.1
          clear hA
          simp only [fillP, List.setIfInBounds_toArray, List.set_cons_zero, List.set_cons_succ, h4, h9]
          have ct := CT.out wv (HS.out wv hB); have a0 := ct.1.1; have a1 := ct.1.2.1; have a2 := ct.1.2.2.1; have a3 := ct.1.2.2.2.1; have a4 := ct.1.2.2.2.2.1; have rc := ct.2.1; have xc := ct.2.2; have q0 := (MgAt.cells (HW.out.keep hB)).1; have q1 := (MgAt.cells (HW.out.keep hB)).2; dsimp only at q0 q1; clear ct; go_wp2_with fail
          refine postB_val ?_ (Below.refl _ _)
          simp only [List.getElem?_cons_succ, List.getElem?_cons_zero]
          rfl
        case s11 =>
          refine BStep.of [] [] (opV _) (by kernel_rfl) (fun _ _ => by kernel_rfl) rfl ?_
          intro vs wv hB hA
          clear hA
          simp only [fillP]
          have ct := CT.out wv (HS.out wv hB); have a0 := ct.1.1; have a1 := ct.1.2.1; have a2 := ct.1.2.2.1; have a3 := ct.1.2.2.2.1; have a4 := ct.1.2.2.2.2.1; have rc := ct.2.1; have xc := ct.2.2; have q0 := (MgAt.cells (HW.out.keep hB)).1; have q1 := (MgAt.cells (HW.out.keep hB)).2; dsimp only at q0 q1; clear ct; go_wp2_with fail
          refine postB_val ?_ (Below.refl _ _)
          simp only [List.getElem?_cons_succ, List.getElem?_cons_zero]
          rfl
        case s12 =>
          refine BStep.of [] [] (opV _) (by kernel_rfl) (fun _ _ => by kernel_rfl) rfl ?_
          intro vs wv hB hA
          clear hA
          simp only [fillP]
          have ct := CT.out wv (HS.out wv hB); have a0 := ct.1.1; have a1 := ct.1.2.1; have a2 := ct.1.2.2.1; have a3 := ct.1.2.2.2.1; have a4 := ct.1.2.2.2.2.1; have rc := ct.2.1; have xc := ct.2.2; have q0 := (MgAt.cells (HW.out.keep hB)).1; have q1 := (MgAt.cells (HW.out.keep hB)).2; dsimp only at q0 q1; clear ct; go_wp2_with fail
          refine postB_val ?_ (Below.refl _ _)
          simp only [List.getElem?_cons_succ, List.getElem?_cons_zero]
          rfl
        case s13 =>
          refine BStep.of [11, 12] [(84, 11), (85, 12)] (opV _) (by kernel_rfl) (fun _ _ => by kernel_rfl) rfl ?_
          intro vs wv hB hA
          have h11 : vs 11 = _ := hA.1
          have h12 : vs 12 = _ := hA.2.1
          clear hA
          simp only [fillP, List.setIfInBounds_toArray, List.set_cons_zero, List.set_cons_succ, h11, h12]
          have ct := CT.out wv (HS.out wv hB); have a0 := ct.1.1; have a1 := ct.1.2.1; have a2 := ct.1.2.2.1; have a3 := ct.1.2.2.2.1; have a4 := ct.1.2.2.2.2.1; have rc := ct.2.1; have xc := ct.2.2; have q0 := (MgAt.cells (HW.out.keep hB)).1; have q1 := (MgAt.cells (HW.out.keep hB)).2; dsimp only at q0 q1; clear ct; go_wp2_with fail
          refine postB_val ?_ (Below.refl _ _)
          simp only [List.getElem?_cons_succ, List.getElem?_cons_zero]
          rfl
        case s14 =>
          refine BStep.of [13] [(86, 13)] (opV _) (by kernel_rfl) (fun _ _ => by kernel_rfl) rfl ?_
          intro vs wv hB hA
          have h13 : vs 13 = _ := hA.1
          clear hA
          simp only [fillP, List.setIfInBounds_toArray, List.set_cons_zero, List.set_cons_succ, h13]
          have ct := CT.out wv (HS.out wv hB); have a0 := ct.1.1; have a1 := ct.1.2.1; have a2 := ct.1.2.2.1; have a3 := ct.1.2.2.2.1; have a4 := ct.1.2.2.2.2.1; have rc := ct.2.1; have xc := ct.2.2; have q0 := (MgAt.cells (HW.out.keep hB)).1; have q1 := (MgAt.cells (HW.out.keep hB)).2; dsimp only at q0 q1; clear ct; go_wp2_with fail
          refine postB_val ?_ (Below.refl _ _)
          simp only [List.getElem?_cons_succ, List.getElem?_cons_zero]
          rfl
        case s15 =>
          refine BStep.of [14] [(87, 14)] (opV _) (by kernel_rfl) (fun _ _ => by kernel_rfl) rfl ?_
          intro vs wv hB hA
          have h14 : vs 14 = _ := hA.1
          clear hA
          simp only [fillP, List.setIfInBounds_toArray, List.set_cons_zero, List.set_cons_succ, h14]
          have ct := CT.out wv (HS.out wv hB); have a0 := ct.1.1; have a1 := ct.1.2.1; have a2 := ct.1.2.2.1; have a3 := ct.1.2.2.2.1; have a4 := ct.1.2.2.2.2.1; have rc := ct.2.1; have xc := ct.2.2; have q0 := (MgAt.cells (HW.out.keep hB)).1; have q1 := (MgAt.cells (HW.out.keep hB)).2; dsimp only at q0 q1; clear ct; go_wp2_with fail
          refine postB_val ?_ (Below.refl _ _)
          simp only [List.getElem?_cons_succ, List.getElem?_cons_zero]
          rfl
        case s16 =>
          refine BStep.of [0, 1, 2, 3, 4, 5, 6, 7, 8, 9, 10] [(73, 0), (74, 1), (75, 2), (76, 3), (77, 4), (78, 5), (79, 6), (80, 7), (81, 8), (82, 9), (83, 10)] (opV _) (by kernel_rfl) (fun _ _ => by kernel_rfl) rfl ?_
          intro vs wv hB hA
          have h0 : vs 0 = _ := hA.1
          have h1 : vs 1 = _ := hA.2.1
          have h2 : vs 2 = _ := hA.2.2.1
          have h3 : vs 3 = _ := hA.2.2.2.1
          have h4 : vs 4 = _ := hA.2.2.2.2.1
          have h5 : vs 5 = _ := hA.2.2.2.2.2.1
          have h6 : vs 6 = _ := hA.2.2.2.2.2.2.1
          have h7 : vs 7 = _ := hA.2.2.2.2.2.2.2.1
          have h8 : vs 8 = _ := hA.2.2.2.2.2.2.2.2.1
          have h9 : vs 9 = _ := hA.2.2.2.2.2.2.2.2.2.1
          have h10 : vs 10 = _ := hA.2.2.2.2.2.2.2.2.2.2.1
          clear hA
          simp only [fillP, List.setIfInBounds_toArray, List.set_cons_zero, List.set_cons_succ, h0, h1, h2, h3, h4, h5, h6, h7, h8, h9, h10]
          have ct := CT.out wv (HS.out wv hB); have a0 := ct.1.1; have a1 := ct.1.2.1; have a2 := ct.1.2.2.1; have a3 := ct.1.2.2.2.1; have a4 := ct.1.2.2.2.2.1; have rc := ct.2.1; have xc := ct.2.2; have q0 := (MgAt.cells (HW.out.keep hB)).1; have q1 := (MgAt.cells (HW.out.keep hB)).2; dsimp only at q0 q1; clear ct; go_wp2_with fail
          refine postB_val ?_ (Below.refl _ _)
          simp only [List.getElem?_cons_succ, List.getElem?_cons_zero]
          rfl
        case fin =>
          refine last_of [0, 1, 2, 3, 4, 5, 6, 7, 8, 9, 10, 11, 12, 13, 14, 15, 16] [(73, 0), (74, 1), (75, 2), (76, 3), (77, 4), (78, 5), (79, 6), (80, 7), (81, 8), (82, 9), (83, 10), (84, 11), (85, 12), (86, 13), (87, 14), (88, 15), (5, 16)] (by kernel_rfl) (fun _ _ => by kernel_rfl) ?_
          intro vs wv hB hA
          have h0 : vs 0 = _ := hA.1
          have h1 : vs 1 = _ := hA.2.1
          have h2 : vs 2 = _ := hA.2.2.1
          have h3 : vs 3 = _ := hA.2.2.2.1
          have h4 : vs 4 = _ := hA.2.2.2.2.1
          have h5 : vs 5 = _ := hA.2.2.2.2.2.1
          have h6 : vs 6 = _ := hA.2.2.2.2.2.2.1
          have h7 : vs 7 = _ := hA.2.2.2.2.2.2.2.1
          have h8 : vs 8 = _ := hA.2.2.2.2.2.2.2.2.1
          have h9 : vs 9 = _ := hA.2.2.2.2.2.2.2.2.2.1
          have h10 : vs 10 = _ := hA.2.2.2.2.2.2.2.2.2.2.1
          have h11 : vs 11 = _ := hA.2.2.2.2.2.2.2.2.2.2.2.1
          have h12 : vs 12 = _ := hA.2.2.2.2.2.2.2.2.2.2.2.2.1
          have h13 : vs 13 = _ := hA.2.2.2.2.2.2.2.2.2.2.2.2.2.1
          have h14 : vs 14 = _ := hA.2.2.2.2.2.2.2.2.2.2.2.2.2.2.1
          have h15 : vs 15 = _ := hA.2.2.2.2.2.2.2.2.2.2.2.2.2.2.2.1
          have h16 : vs 16 = _ := hA.2.2.2.2.2.2.2.2.2.2.2.2.2.2.2.2.1
          clear hA
          simp only [fillP, List.setIfInBounds_toArray, List.set_cons_zero, List.set_cons_succ, h0, h1, h2, h3, h4, h5, h6, h7, h8, h9, h10, h11, h12, h13, h14, h15, h16]
          have q0 := (MgAt.cells (HW.out.keep hB)).1
          have q1 := (MgAt.cells (HW.out.keep hB)).2
          have z0 := MgAt.fro (HW.out.keep hB) 0
          have z1 := MgAt.fro (HW.out.keep hB) 1
          dsimp only at q0 q1
          have M6 : Hid (MgAt ((wv.setCell ⟨q, 0, none⟩ (.int .i64 bu)).setCell ⟨q, 1, none⟩ (.int .i64 bd)) q (bu, bd)) := Lib.hid (((HW.out.keep hB).set 0 (.int .i64 bu) (bu, wb) rfl).set 1 (.int .i64 bd) (bu, bd) rfl)
          have B6 := Lib.hid (((HS.out wv hB).setCell (p := ⟨q, 0, none⟩) (Nat.le_refl _) (.int .i64 bu)).setCell (p := ⟨q, 1, none⟩) (Nat.le_refl _) (.int .i64 bd))
          go_wp2_with fail
          go_roundg (n - (k + 1))
          case measure => omega
          case rel => exact ⟨k + 1, by go_num, by rw [E2.out], by omega, Nat.le_refl _, B6, by rw [E2.out]; exact M6⟩
    · obtain rfl : k = n := by omega
      have hz1 : ¬ (k : Int) < k := by omega
      rw [ET.out] at HW SB ⊢
      have yb := SB.out.y
      have wb' := SB.out.wt
      unfold SmallM MayM at wb'
      obtain ⟨y, ⟨wa, wb⟩, out, top⟩ := sE
      dsimp only at HW EH yb wb' ⊢
      have KV1 := Lib.hid (fun W => KV.out wa wb W)
      have v1 : valueM (wa, wb) = wa + wb := IntWalk.i64_in _ (by dsimp only; omega)
      rw [v1] at KV1
      obtain ⟨vv, hvv⟩ : ∃ vv, wa + wb = vv := ⟨_, rfl⟩
      rw [hvv] at KV1
      unfold mgV at KV1
      dsimp only at KV1
      obtain ⟨yy, hyy⟩ : ∃ yy, y + wa + wb = yy := ⟨_, rfl⟩
      rw [hyy] at EH
      have b1 : IntKind.i64.wrap (y + vv) = yy := by rw [IntWalk.i64_in _ (by omega)]; omega
      have CT : Hid (∀ W, Below q w4 W → W.cell? ⟨g, 1, none⟩ = some (.int .i64 H)) := Lib.hid (fun W hW => by
        have hW' : Below w4.heap.size w4 W := by rw [HQ.out]; exact hW
        exact (W4.out.keep hW').cells.2.1)
      have BZ : Hid (Below w.heap.size w wo) := Lib.hid (b_next B4.out (by rw [HQ.out]; exact HB.out))
      clear v1 hvv hyy yb wb' SB KJ KV
      by_cases hp : 0 < yy
      · obtain rfl : yy = H := by rw [← EH.out, if_pos hp]
        have kk : (yy == yy) = true := by simp
        clear EH
        go_wp2_with fail
        refine' wp_region_below [opV _, opV _, opV _, opV _, opV (.int .i64 vv), opV _, opV _, opV _, opV _] rfl (by kernel_rfl) ⟨?s0, ?s1, ?s2, ?s3, ?s4, ?s5, ?s6, ?s7, ?s8, trivial⟩ ?fin
        case s0 =>
          refine BStep.of [] [] (opV _) (by kernel_rfl) (fun _ _ => by kernel_rfl) rfl ?_
          intro vs wv hB hA
          clear hA
          simp only [fillP]
          have xc := CT.out wv (HS.out wv hB); have q0 := (MgAt.cells (HW.out.keep hB)).1; have q1 := (MgAt.cells (HW.out.keep hB)).2; dsimp only at q0 q1; go_wp2_with fail
          refine postB_val ?_ (Below.refl _ _)
          simp only [List.getElem?_cons_succ, List.getElem?_cons_zero]
          rfl
        case s1 =>
          refine BStep.of [0] [(89, 0)] (opV _) (by kernel_rfl) (fun _ _ => by kernel_rfl) rfl ?_
          intro vs wv hB hA
          have h0 : vs 0 = _ := hA.1
          clear hA
          simp only [fillP, List.setIfInBounds_toArray, List.set_cons_zero, List.set_cons_succ, h0]
          have xc := CT.out wv (HS.out wv hB); have q0 := (MgAt.cells (HW.out.keep hB)).1; have q1 := (MgAt.cells (HW.out.keep hB)).2; dsimp only at q0 q1; go_wp2_with fail
          refine postB_val ?_ (Below.refl _ _)
          simp only [List.getElem?_cons_succ, List.getElem?_cons_zero]
          rfl
        case s2 =>
          refine BStep.of [] [] (opV _) (by kernel_rfl) (fun _ _ => by kernel_rfl) rfl ?_
          intro vs wv hB hA
          clear hA
          simp only [fillP]
          have xc := CT.out wv (HS.out wv hB); have q0 := (MgAt.cells (HW.out.keep hB)).1; have q1 := (MgAt.cells (HW.out.keep hB)).2; dsimp only at q0 q1; go_wp2_with fail
          refine postB_val ?_ (Below.refl _ _)
          simp only [List.getElem?_cons_succ, List.getElem?_cons_zero]
          rfl
        case s3 =>
          refine BStep.of [] [] (opV _) (by kernel_rfl) (fun _ _ => by kernel_rfl) rfl ?_
          intro vs wv hB hA
          clear hA
          simp only [fillP]
          have xc := CT.out wv (HS.out wv hB); have q0 := (MgAt.cells (HW.out.keep hB)).1; have q1 := (MgAt.cells (HW.out.keep hB)).2; dsimp only at q0 q1; go_wp2_with fail
          refine postB_val ?_ (Below.refl _ _)
          simp only [List.getElem?_cons_succ, List.getElem?_cons_zero]
          rfl
        case s4 =>
          refine BStep.of [3] [(92, 3)] (opV (.int .i64 vv)) (by kernel_rfl) (fun _ _ => by kernel_rfl) rfl ?_
          intro vs wv hB hA
          have h3 : vs 3 = _ := hA.1
          clear hA
          simp only [fillP, List.setIfInBounds_toArray, List.set_cons_zero, List.set_cons_succ, h3]
          (go_wp2_with (go_at_call 16; (with_reducible refine (KV1.out _).mono ?_); rintro e w7 ⟨rfl, hb⟩)); exact postB_val rfl hb
        case s5 =>
          refine BStep.of [2, 4] [(91, 2), (93, 4)] (opV _) (by kernel_rfl) (fun _ _ => by kernel_rfl) rfl ?_
          intro vs wv hB hA
          have h2 : vs 2 = _ := hA.1
          have h4 : vs 4 = _ := hA.2.1
          clear hA
          simp only [fillP, List.setIfInBounds_toArray, List.set_cons_zero, List.set_cons_succ, h2, h4]
          have xc := CT.out wv (HS.out wv hB); have q0 := (MgAt.cells (HW.out.keep hB)).1; have q1 := (MgAt.cells (HW.out.keep hB)).2; dsimp only at q0 q1; go_wp2_with fail
          refine postB_val ?_ (Below.refl _ _)
          simp only [List.getElem?_cons_succ, List.getElem?_cons_zero]
          rfl
        case s6 =>
          refine BStep.of [5] [(94, 5)] (opV _) (by kernel_rfl) (fun _ _ => by kernel_rfl) rfl ?_
          intro vs wv hB hA
          have h5 : vs 5 = _ := hA.1
          clear hA
          simp only [fillP, List.setIfInBounds_toArray, List.set_cons_zero, List.set_cons_succ, h5]
          have xc := CT.out wv (HS.out wv hB); have q0 := (MgAt.cells (HW.out.keep hB)).1; have q1 := (MgAt.cells (HW.out.keep hB)).2; dsimp only at q0 q1; go_wp2_with fail
          refine postB_val ?_ (Below.refl _ _)
          simp only [List.getElem?_cons_succ, List.getElem?_cons_zero]
          rfl
        case s7 =>
          refine BStep.of [1, 6] [(90, 1), (95, 6)] (opV _) (by kernel_rfl) (fun _ _ => by kernel_rfl) rfl ?_
          intro vs wv hB hA
          have h1 : vs 1 = _ := hA.1
          have h6 : vs 6 = _ := hA.2.1
          clear hA
          simp only [fillP, List.setIfInBounds_toArray, List.set_cons_zero, List.set_cons_succ, h1, h6]
          have xc := CT.out wv (HS.out wv hB); have q0 := (MgAt.cells (HW.out.keep hB)).1; have q1 := (MgAt.cells (HW.out.keep hB)).2; dsimp only at q0 q1; go_wp2_with fail
          refine postB_val ?_ (Below.refl _ _)
          simp only [List.getElem?_cons_succ, List.getElem?_cons_zero]
          rfl
        case s8 =>
          refine BStep.of [0, 1, 2, 3, 4, 5, 6, 7] [(89, 0), (90, 1), (91, 2), (92, 3), (93, 4), (94, 5), (95, 6), (96, 7)] (opV _) (by kernel_rfl) (fun _ _ => by kernel_rfl) rfl ?_
          intro vs wv hB hA
          have h0 : vs 0 = _ := hA.1
          have h1 : vs 1 = _ := hA.2.1
          have h2 : vs 2 = _ := hA.2.2.1
          have h3 : vs 3 = _ := hA.2.2.2.1
          have h4 : vs 4 = _ := hA.2.2.2.2.1
          have h5 : vs 5 = _ := hA.2.2.2.2.2.1
          have h6 : vs 6 = _ := hA.2.2.2.2.2.2.1
          have h7 : vs 7 = _ := hA.2.2.2.2.2.2.2.1
          clear hA
          simp only [fillP, List.setIfInBounds_toArray, List.set_cons_zero, List.set_cons_succ, h0, h1, h2, h3, h4, h5, h6, h7]
          have xc := CT.out wv (HS.out wv hB); have q0 := (MgAt.cells (HW.out.keep hB)).1; have q1 := (MgAt.cells (HW.out.keep hB)).2; dsimp only at q0 q1; go_wp2_with fail
          refine postB_val ?_ (Below.refl _ _)
          simp only [List.getElem?_cons_succ, List.getElem?_cons_zero]
          rfl
        case fin =>
          refine fin_of [0, 1, 2, 3, 4, 5, 6, 7, 8] [(89, 0), (90, 1), (91, 2), (92, 3), (93, 4), (94, 5), (95, 6), (96, 7), (2, 8)] (by kernel_rfl) (fun _ _ => by kernel_rfl) ?_
          intro vs wv hB hA
          have h0 : vs 0 = _ := hA.1
          have h1 : vs 1 = _ := hA.2.1
          have h2 : vs 2 = _ := hA.2.2.1
          have h3 : vs 3 = _ := hA.2.2.2.1
          have h4 : vs 4 = _ := hA.2.2.2.2.1
          have h5 : vs 5 = _ := hA.2.2.2.2.2.1
          have h6 : vs 6 = _ := hA.2.2.2.2.2.2.1
          have h7 : vs 7 = _ := hA.2.2.2.2.2.2.2.1
          have h8 : vs 8 = _ := hA.2.2.2.2.2.2.2.2.1
          clear hA
          simp only [fillP, List.setIfInBounds_toArray, List.set_cons_zero, List.set_cons_succ, h0, h1, h2, h3, h4, h5, h6, h7, h8]
          go_wp2_with fail; go_ret; exact ⟨by first|rfl | simp, b_next BZ.out hB⟩
      · obtain rfl : 0 = H := by rw [← EH.out, if_neg hp]
        clear EH
        go_wp2_with fail
        refine' wp_region_below [opV _, opV _, opV _, opV _, opV (.int .i64 vv), opV _, opV _, opV _, opV _] rfl (by kernel_rfl) ⟨?s0, ?s1, ?s2, ?s3, ?s4, ?s5, ?s6, ?s7, ?s8, trivial⟩ ?fin
        case s0 =>
          refine BStep.of [] [] (opV _) (by kernel_rfl) (fun _ _ => by kernel_rfl) rfl ?_
          intro vs wv hB hA
          clear hA
          simp only [fillP]
          have xc := CT.out wv (HS.out wv hB); have q0 := (MgAt.cells (HW.out.keep hB)).1; have q1 := (MgAt.cells (HW.out.keep hB)).2; dsimp only at q0 q1; go_wp2_with fail
          refine postB_val ?_ (Below.refl _ _)
          simp only [List.getElem?_cons_succ, List.getElem?_cons_zero]
          rfl
        case s1 =>
          refine BStep.of [0] [(89, 0)] (opV _) (by kernel_rfl) (fun _ _ => by kernel_rfl) rfl ?_
          intro vs wv hB hA
          have h0 : vs 0 = _ := hA.1
          clear hA
          simp only [fillP, List.setIfInBounds_toArray, List.set_cons_zero, List.set_cons_succ, h0]
          have xc := CT.out wv (HS.out wv hB); have q0 := (MgAt.cells (HW.out.keep hB)).1; have q1 := (MgAt.cells (HW.out.keep hB)).2; dsimp only at q0 q1; go_wp2_with fail
          refine postB_val ?_ (Below.refl _ _)
          simp only [List.getElem?_cons_succ, List.getElem?_cons_zero]
          rfl
        case s2 =>
          refine BStep.of [] [] (opV _) (by kernel_rfl) (fun _ _ => by kernel_rfl) rfl ?_
          intro vs wv hB hA
          clear hA
          simp only [fillP]
          have xc := CT.out wv (HS.out wv hB); have q0 := (MgAt.cells (HW.out.keep hB)).1; have q1 := (MgAt.cells (HW.out.keep hB)).2; dsimp only at q0 q1; go_wp2_with fail
          refine postB_val ?_ (Below.refl _ _)
          simp only [List.getElem?_cons_succ, List.getElem?_cons_zero]
          rfl
        case s3 =>
          refine BStep.of [] [] (opV _) (by kernel_rfl) (fun _ _ => by kernel_rfl) rfl ?_
          intro vs wv hB hA
          clear hA
          simp only [fillP]
          have xc := CT.out wv (HS.out wv hB); have q0 := (MgAt.cells (HW.out.keep hB)).1; have q1 := (MgAt.cells (HW.out.keep hB)).2; dsimp only at q0 q1; go_wp2_with fail
          refine postB_val ?_ (Below.refl _ _)
          simp only [List.getElem?_cons_succ, List.getElem?_cons_zero]
          rfl
        case s4 =>
          refine BStep.of [3] [(92, 3)] (opV (.int .i64 vv)) (by kernel_rfl) (fun _ _ => by kernel_rfl) rfl ?_
          intro vs wv hB hA
          have h3 : vs 3 = _ := hA.1
          clear hA
          simp only [fillP, List.setIfInBounds_toArray, List.set_cons_zero, List.set_cons_succ, h3]
          (go_wp2_with (go_at_call 16; (with_reducible refine (KV1.out _).mono ?_); rintro e w7 ⟨rfl, hb⟩)); exact postB_val rfl hb
        case s5 =>
          refine BStep.of [2, 4] [(91, 2), (93, 4)] (opV _) (by kernel_rfl) (fun _ _ => by kernel_rfl) rfl ?_
          intro vs wv hB hA
          have h2 : vs 2 = _ := hA.1
          have h4 : vs 4 = _ := hA.2.1
          clear hA
          simp only [fillP, List.setIfInBounds_toArray, List.set_cons_zero, List.set_cons_succ, h2, h4]
          have xc := CT.out wv (HS.out wv hB); have q0 := (MgAt.cells (HW.out.keep hB)).1; have q1 := (MgAt.cells (HW.out.keep hB)).2; dsimp only at q0 q1; go_wp2_with fail
          refine postB_val ?_ (Below.refl _ _)
          simp only [List.getElem?_cons_succ, List.getElem?_cons_zero]
          rfl
        case s6 =>
          refine BStep.of [5] [(94, 5)] (opV _) (by kernel_rfl) (fun _ _ => by kernel_rfl) rfl ?_
          intro vs wv hB hA
          have h5 : vs 5 = _ := hA.1
          clear hA
          simp only [fillP, List.setIfInBounds_toArray, List.set_cons_zero, List.set_cons_succ, h5]
          have xc := CT.out wv (HS.out wv hB); have q0 := (MgAt.cells (HW.out.keep hB)).1; have q1 := (MgAt.cells (HW.out.keep hB)).2; dsimp only at q0 q1; go_wp2_with fail
          refine postB_val ?_ (Below.refl _ _)
          simp only [List.getElem?_cons_succ, List.getElem?_cons_zero]
          rfl
        case s7 =>
          refine BStep.of [1, 6] [(90, 1), (95, 6)] (opV _) (by kernel_rfl) (fun _ _ => by kernel_rfl) rfl ?_
          intro vs wv hB hA
          have h1 : vs 1 = _ := hA.1
          have h6 : vs 6 = _ := hA.2.1
          clear hA
          simp only [fillP, List.setIfInBounds_toArray, List.set_cons_zero, List.set_cons_succ, h1, h6]
          have xc := CT.out wv (HS.out wv hB); have q0 := (MgAt.cells (HW.out.keep hB)).1; have q1 := (MgAt.cells (HW.out.keep hB)).2; dsimp only at q0 q1; go_wp2_with fail
          refine postB_val ?_ (Below.refl _ _)
          simp only [List.getElem?_cons_succ, List.getElem?_cons_zero]
          rfl
        case s8 =>
          refine BStep.of [0, 1, 2, 3, 4, 5, 6, 7] [(89, 0), (90, 1), (91, 2), (92, 3), (93, 4), (94, 5), (95, 6), (96, 7)] (opV _) (by kernel_rfl) (fun _ _ => by kernel_rfl) rfl ?_
          intro vs wv hB hA
          have h0 : vs 0 = _ := hA.1
          have h1 : vs 1 = _ := hA.2.1
          have h2 : vs 2 = _ := hA.2.2.1
          have h3 : vs 3 = _ := hA.2.2.2.1
          have h4 : vs 4 = _ := hA.2.2.2.2.1
          have h5 : vs 5 = _ := hA.2.2.2.2.2.1
          have h6 : vs 6 = _ := hA.2.2.2.2.2.2.1
          have h7 : vs 7 = _ := hA.2.2.2.2.2.2.2.1
          clear hA
          simp only [fillP, List.setIfInBounds_toArray, List.set_cons_zero, List.set_cons_succ, h0, h1, h2, h3, h4, h5, h6, h7]
          have xc := CT.out wv (HS.out wv hB); have q0 := (MgAt.cells (HW.out.keep hB)).1; have q1 := (MgAt.cells (HW.out.keep hB)).2; dsimp only at q0 q1; go_wp2_with fail
          refine postB_val ?_ (Below.refl _ _)
          simp only [List.getElem?_cons_succ, List.getElem?_cons_zero]
          rfl
        case fin =>
          refine fin_of [0, 1, 2, 3, 4, 5, 6, 7, 8] [(89, 0), (90, 1), (91, 2), (92, 3), (93, 4), (94, 5), (95, 6), (96, 7), (2, 8)] (by kernel_rfl) (fun _ _ => by kernel_rfl) ?_
          intro vs wv hB hA
          have h0 : vs 0 = _ := hA.1
          have h1 : vs 1 = _ := hA.2.1
          have h2 : vs 2 = _ := hA.2.2.1
          have h3 : vs 3 = _ := hA.2.2.2.1
          have h4 : vs 4 = _ := hA.2.2.2.2.1
          have h5 : vs 5 = _ := hA.2.2.2.2.2.1
          have h6 : vs 6 = _ := hA.2.2.2.2.2.2.1
          have h7 : vs 7 = _ := hA.2.2.2.2.2.2.2.1
          have h8 : vs 8 = _ := hA.2.2.2.2.2.2.2.2.1
          clear hA
          simp only [fillP, List.setIfInBounds_toArray, List.set_cons_zero, List.set_cons_succ, h0, h1, h2, h3, h4, h5, h6, h7, h8]
          go_wp2_with fail; go_ret; exact ⟨by first|rfl | simp, b_next BZ.out hB⟩
end Go.Proofs.Ytidbfkbeploagaa
