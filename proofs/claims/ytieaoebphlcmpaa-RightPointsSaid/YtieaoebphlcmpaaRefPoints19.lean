/-
  The document's covers, Hit, Fill.
-/
import Derived.Test.YtieaoebphlcmpaaPointsM19
import Derived.Test.YtieaoebphlcmpaaPicked
import Derived.StillTailTactics
import Derived.IntWalk
namespace Go.Proofs.Ytieaoebphlcmpaa
open Go.RowKit

theorem wrap_sum {a b : Int} (h : Fit a) (k : Fit b) : IntKind.i64.wrap (a + b) = a + b := IntWalk.i64_in _ (by unfold Fit at *; omega)
set_option maxHeartbeats 1000000 in
theorem covers19_any (f : Fr) (x y : Int) (w : World) (b : Bool) (hb : coversF x y f = b) :
    Calls Try.prog 16 #[frV f, .int .i64 x, .int .i64 y] w fun e w' => e = .returned (.bool b) ∧ Below w.heap.size w w' := by
  subst hb
  unfold frV coversF
  obtain ⟨r, hr⟩ : ∃ r, IntKind.i64.wrap (f.x + f.w) = r := ⟨_, rfl⟩
  obtain ⟨s, hs⟩ : ∃ s, IntKind.i64.wrap (f.y + f.h) = s := ⟨_, rfl⟩
  rw [hr, hs]
  by_cases h1 : f.x ≤ x
  · by_cases h2 : x < r
    · by_cases h3 : f.y ≤ y
      · by_cases h4 : y < s
        · have e : decide (f.x ≤ x ∧ x < r ∧ f.y ≤ y ∧ y < s) = true := by simp [h1, h2, h3, h4]
          rw [e]
          clear e
          go_enter Try.func16, Try.ntmps16
          go_wp2
          go_quiet (fail)
          go_wp2
          go_ret
          exact ⟨rfl, below_drewN19 ((Below.refl _ w).alloc (Nat.le_refl _) _) _⟩
        · have h4' : decide (y < s) = false := decide_eq_false h4
          have e : decide (f.x ≤ x ∧ x < r ∧ f.y ≤ y ∧ y < s) = false := by simp [h4]
          rw [e]
          clear e h4
          go_enter Try.func16, Try.ntmps16
          go_wp2
          go_quiet (fail)
          go_wp2
          go_ret
          exact ⟨rfl, below_drewN19 ((Below.refl _ w).alloc (Nat.le_refl _) _) _⟩
      · have h3' : decide (f.y ≤ y) = false := decide_eq_false h3
        have e : decide (f.x ≤ x ∧ x < r ∧ f.y ≤ y ∧ y < s) = false := by simp [h3]
        rw [e]
        clear e h3
        go_enter Try.func16, Try.ntmps16
        go_wp2
        go_quiet (fail)
        go_wp2
        go_ret
        exact ⟨rfl, below_drewN19 ((Below.refl _ w).alloc (Nat.le_refl _) _) _⟩
    · have h2' : decide (x < r) = false := decide_eq_false h2
      have e : decide (f.x ≤ x ∧ x < r ∧ f.y ≤ y ∧ y < s) = false := by simp [h2]
      rw [e]
      clear e h2
      go_enter Try.func16, Try.ntmps16
      go_wp2
      go_quiet (fail)
      go_wp2
      go_ret
      exact ⟨rfl, below_drewN19 ((Below.refl _ w).alloc (Nat.le_refl _) _) _⟩
  · have h1' : decide (f.x ≤ x) = false := decide_eq_false h1
    have e : decide (f.x ≤ x ∧ x < r ∧ f.y ≤ y ∧ y < s) = false := by simp [h1]
    rw [e]
    clear e h1
    go_enter Try.func16, Try.ntmps16
    go_wp2
    go_quiet (fail)
    go_wp2
    go_ret
    exact ⟨rfl, below_drewN19 ((Below.refl _ w).alloc (Nat.le_refl _) _) _⟩

set_option maxHeartbeats 1000000 in
theorem refHit19 (l : List Fr) (A : Option Addr) (n c : Nat) (x y : Int) (w : World) (hF : FrIn w (.slice A n c) l) (hl : l.length = n) (hn : n ≤ 4096) :
    Calls Try.prog 7 #[.slice A n c, .int .i64 x, .int .i64 y] w fun e w' => e = .returned (.int .i64 (lastP (coversF x y) l l.length)) ∧ Below w.heap.size w w' := by
  have HF := Lib.hid hF
  have HL := Lib.hid hl
  have KC := Lib.hid (fun k W => covers19_any (frA l k) x y W)
  clear hF hl
  go_enter Try.func7, Try.ntmps7
  go_wp2
  go_loopw [7, 8] (fun a i wr => ∃ k : Nat, k ≤ n ∧ a = .int .i64 (lastP (coversF x y) l k) ∧ i = .int .i64 k ∧ Hid (Below w.heap.size w wr)) (fun _ i _ => n - (intOf i).toNat)
  case atStart => exact ⟨0, Nat.zero_le _, rfl, rfl, Lib.hid (Below.refl _ _)⟩
  case round =>
    obtain ⟨k, hk, rfl, rfl, HB⟩ := hrel
    by_cases hlt : k < n
    · have HW := Lib.hid (HF.out.keep HB.out)
      obtain ⟨b, off, rfl, hb, hc⟩ := HW.out.at_ (i := k) (by rw [HL.out]; exact hlt)
      obtain ⟨d0, d1, d2, d3, d4, d5, d6, d7⟩ := hc
      have KC1 := KC.out k wr
      unfold frV at KC1
      have hk0 : (0 : Int) ≤ k := by omega
      have hkz : (k : Int) < n := by omega
      cases hcv : coversF x y (frA l k) with
      | true =>
        have E1 := Lib.hid (lastP_yes (p := coversF x y) (l := l) hcv)
        have K1 := Lib.hid (KC1 true hcv)
        clear KC1 hcv hb
        go_wp2_with (go_at_call 16; (with_reducible refine K1.out.mono ?_); rintro e w1 ⟨rfl, hb1⟩; have B1 : Hid (Below w.heap.size w w1) := Lib.hid (HB.out.trans (hb1.mono HB.out.size)); clear hb1)
        go_roundw
        case rel => exact ⟨k + 1, by omega, by rw [E1.out], by go_num, B1⟩
        case measure => simp [intOf]; omega
      | false =>
        have E1 := Lib.hid (lastP_no (p := coversF x y) (l := l) hcv)
        have K1 := Lib.hid (KC1 false hcv)
        clear KC1 hcv hb
        go_wp2_with (go_at_call 16; (with_reducible refine K1.out.mono ?_); rintro e w1 ⟨rfl, hb1⟩; have B1 : Hid (Below w.heap.size w w1) := Lib.hid (HB.out.trans (hb1.mono HB.out.size)); clear hb1)
        go_roundw
        case rel => exact ⟨k + 1, by omega, by rw [E1.out], by go_num, B1⟩
        case measure => simp [intOf]; omega
    · obtain rfl : k = n := by omega
      go_wp2
      go_ret
      exact ⟨by rw [HL.out]; rfl, HB.out⟩

/-- the least, the most, up to a place -/
def LeastTo (g : List Fr) (f : Fr → Int) (i : Nat) (m : Int) : Prop := (∀ j, j < i → m ≤ f (frA g j)) ∧ ∃ j, j < g.length ∧ f (frA g j) = m
def MostTo (g : List Fr) (f : Fr → Int) (i : Nat) (m : Int) : Prop := (∀ j, j < i → f (frA g j) ≤ m) ∧ 0 ≤ m ∧ (m = 0 ∨ ∃ j, j < g.length ∧ f (frA g j) = m)
theorem LeastTo.take {g : List Fr} {f : Fr → Int} {i : Nat} {m : Int} (h : LeastTo g f i m) (hi : i < g.length) (hm : f (frA g i) < m) : LeastTo g f (i + 1) (f (frA g i)) :=
  ⟨fun j hj => by
    by_cases e : j = i
    · rw [e]; exact Int.le_refl _
    · have := h.1 j (by omega); omega, i, hi, rfl⟩
theorem LeastTo.keep {g : List Fr} {f : Fr → Int} {i : Nat} {m : Int} (h : LeastTo g f i m) (hm : m ≤ f (frA g i)) : LeastTo g f (i + 1) m :=
  ⟨fun j hj => by
    by_cases e : j = i
    · rw [e]; exact hm
    · exact h.1 j (by omega), h.2⟩
theorem MostTo.take {g : List Fr} {f : Fr → Int} {i : Nat} {m : Int} (h : MostTo g f i m) (hi : i < g.length) (hm : m < f (frA g i)) : MostTo g f (i + 1) (f (frA g i)) :=
  ⟨fun j hj => by
    by_cases e : j = i
    · rw [e]; exact Int.le_refl _
    · have := h.1 j (by omega); omega, by have := h.2.1; omega, .inr ⟨i, hi, rfl⟩⟩
theorem MostTo.keep {g : List Fr} {f : Fr → Int} {i : Nat} {m : Int} (h : MostTo g f i m) (hm : f (frA g i) ≤ m) : MostTo g f (i + 1) m :=
  ⟨fun j hj => by
    by_cases e : j = i
    · rw [e]; exact hm
    · exact h.1 j (by omega), h.2⟩
theorem LeastTo.least {g : List Fr} {f : Fr → Int} {m : Int} (h : LeastTo g f g.length m) : Least (· ∈ g) f m :=
  ⟨fun x hx => by
    obtain ⟨j, hj, rfl⟩ := List.getElem_of_mem hx
    have := h.1 j hj
    rwa [frA_get hj] at this, by
    obtain ⟨j, hj, e⟩ := h.2
    exact ⟨frA g j, by rw [frA_get hj]; exact List.getElem_mem hj, e⟩⟩
theorem MostTo.most {g : List Fr} {f : Fr → Int} {m x : Int} (h : MostTo g (fun y => f y - x) g.length m) (hg : 0 < g.length) (hp : ∀ y ∈ g, x < f y) : Most (· ∈ g) f (x + m) :=
  ⟨fun y hy => by
    obtain ⟨j, hj, rfl⟩ := List.getElem_of_mem hy
    have := h.1 j hj
    simp only [frA_get hj] at this
    omega, by
    rcases h.2.2 with e | ⟨j, hj, e⟩
    · have h1 := h.1 0 hg
      have h2 := hp (frA g 0) (by rw [frA_get hg]; exact List.getElem_mem hg)
      simp only at h1
      omega
    · exact ⟨frA g j, by rw [frA_get hj]; exact List.getElem_mem hj, by simp only at e; omega⟩⟩
theorem greats_take {l : List Fr} {k : Nat} (hk : k < l.length) : greatsF (l.take (k + 1)) = greatsF (l.take k) ++ (if greatF (frA l k) = true then [frA l k] else []) := by
  unfold greatsF
  rw [List.take_succ_eq_append_getElem hk, List.filter_append, frA_get hk]
  congr 1
  cases h : greatF l[k] <;> simp [h]
theorem greats_len (l : List Fr) (k : Nat) : (greatsF (l.take k)).length ≤ k := by
  have h1 := List.length_filter_le greatF (l.take k)
  rw [List.length_take] at h1
  unfold greatsF
  omega
set_option maxRecDepth 100000 in
set_option maxHeartbeats 4000000 in
theorem refFill19 (l : List Fr) (A : Option Addr) (n c : Nat) (w : World) (hF : FrIn w (.slice A n c) l) (hl : l.length = n) (hn : n ≤ 4096) (hI : BigsF l) :
    Calls Try.prog 5 #[.slice A n c] w fun e w' => e = .returned (.tuple #[.int .i64 (fillZ l).1, .int .i64 (fillZ l).2.1, .int .i64 (fillZ l).2.2.1, .int .i64 (fillZ l).2.2.2]) ∧ Below w.heap.size w w' := by
  have HF := Lib.hid hF
  have HL := Lib.hid hl
  have HI := Lib.hid hI
  clear hF hl hI
  go_enter Try.func5, Try.ntmps5
  go_wp2
  go_loopg [6, 7] n (fun g1 v i wr => ∃ k : Nat, i = .int .i64 k ∧ k ≤ n ∧ n - k ≤ g1 ∧ Hid (ownsF wr w.heap.size v (greatsF (l.take k))) ∧ Hid (Below w.heap.size w wr) ∧ Hid (∀ j, j < k → fitF (frA l j) = true))
  case atStart => exact ⟨0, rfl, by omega, by omega, Lib.hid (ownsF.nil _ _), Lib.hid (Below.refl _ _), Lib.hid (fun j hj => by omega)⟩
  case round =>
    obtain ⟨k, rfl, hk, hg1, HO, HB, HT⟩ := hrel
    obtain ⟨wo, hwo⟩ : ∃ wo, wo = wr := ⟨_, rfl⟩
    subst hwo
    obtain ⟨Ao, co, eo, -, -, -⟩ := HO.out.row.form
    obtain ⟨no, hno⟩ : ∃ no, (greatsF (l.take k)).length = no := ⟨_, rfl⟩
    rw [hno] at eo
    subst eo
    by_cases hlt : k < n
    · have HW := Lib.hid (HF.out.keep HB.out)
      obtain ⟨b, off, rfl, hb, hc⟩ := HW.out.at_ (i := k) (by rw [HL.out]; exact hlt)
      have hb0 : b < wo.heap.size := hb
      have HBig := Lib.hid (HI.out k (by rw [HL.out]; exact hlt))
      have GT := Lib.hid (greats_take (l := l) (k := k) (by rw [HL.out]; exact hlt))
      have GL := Lib.hid (greats_len l k)
      obtain ⟨f, hf⟩ : ∃ f, frA l k = f := ⟨_, rfl⟩
      have EF := Lib.hid hf
      rw [hf] at hc HBig GT
      obtain ⟨f0, f1, f2, fx, fy, fw, fh, f7⟩ := f
      obtain ⟨d0, d1, d2, d3, d4, d5, d6, d7⟩ := hc
      dsimp only at d0 d1 d2 d3 d4 d5 d6 d7
      have I5 : Hid (Ints (wo.alloc (.cells #[.int .i64 fx, .int .i64 fy, .int .i64 fw, .int .i64 fh] 3)).drew (some ⟨wo.heap.size, 0, none⟩) 4 (pk [fx, fy, fw, fh])) := Lib.hid (pk_new wo 3 [fx, fy, fw, fh] (by
        have h := HBig.out
        intro y hy
        simp only [List.mem_cons, List.not_mem_nil, or_false] at hy
        rcases hy with rfl | rfl | rfl | rfl
        · exact h.2.2.2.1
        · exact h.2.2.2.2.1
        · exact h.2.2.2.2.2.1
        · exact h.2.2.2.2.2.2.1))
      have B5 : Hid (Below w.heap.size w (wo.alloc (.cells #[.int .i64 fx, .int .i64 fy, .int .i64 fw, .int .i64 fh] 3)).drew) := Lib.hid (HB.out.alloc HB.out.size _).drew
      have O5 : Hid (ownsF (wo.alloc (.cells #[.int .i64 fx, .int .i64 fy, .int .i64 fw, .int .i64 fh] 3)).drew w.heap.size (.slice Ao no co) (greatsF (l.take k))) := Lib.hid (HO.out.keep ((Below.refl _ _).alloc (Nat.le_refl _) _).drew)
      have FA6 : Hid (FrAt (wo.alloc (.cells #[.int .i64 fx, .int .i64 fy, .int .i64 fw, .int .i64 fh] 3)).drew b (off + k * 8) ⟨f0, f1, f2, fx, fy, fw, fh, f7⟩) := Lib.hid (FrAt.keep ⟨d0, d1, d2, d3, d4, d5, d6, d7⟩ hb0 ((Below.refl _ _).alloc (Nat.le_refl _) _).drew)
      have hk0 : (0 : Int) ≤ k := by omega
      have hkz : (k : Int) < n := by omega
      have wk : IntKind.i64.wrap ((k : Int) + 1) = ((k + 1 : Nat) : Int) := by rw [IntWalk.i64_in _ (by omega)]; rfl
      cases hfit : fitF (⟨f0, f1, f2, fx, fy, fw, fh, f7⟩ : Fr) with
      | false =>
        have K5 : Hid (Calls Try.prog 14 #[.slice (some ⟨wo.heap.size, 0, none⟩) 4 4] (wo.alloc (.cells #[.int .i64 fx, .int .i64 fy, .int .i64 fw, .int .i64 fh] 3)).drew fun e w' => e = .returned (.bool false) ∧ (wo.alloc (.cells #[.int .i64 fx, .int .i64 fy, .int .i64 fw, .int .i64 fh] 3)).drew = w') := Lib.hid (all_any _ 4 4 _ _ I5.out (by simp) false ((pk_all [fx, fy, fw, fh]).trans ((fit4_19 ⟨f0, f1, f2, fx, fy, fw, fh, f7⟩).trans hfit)))
        have RR : Hid (fillZ l = (0, 0, 0, 0)) := Lib.hid (fill_odd (i := k) (by rw [HL.out]; exact hlt) (by rw [EF.out]; exact hfit))
        clear hf hfit I5 hb
        go_wp2
        go_still_tail 20, (by kernel_rfl)
        go_wp2_with (go_at_call 14; (with_reducible refine K5.out.mono ?_); rintro e w' ⟨rfl, hw'⟩; have B6 : Hid (Below w.heap.size w w') := Lib.hid (by rw [← hw']; exact B5.out); clear hw')
        ((try simp only [Exit.inBlock, Exit.then]); refine bodyPost_ret (results_tmp4_19 rfl _ _ _) rfl ?_)
        exact ⟨by rw [RR.out]; rfl, B6.out⟩
      | true =>
        have K5 : Hid (Calls Try.prog 14 #[.slice (some ⟨wo.heap.size, 0, none⟩) 4 4] (wo.alloc (.cells #[.int .i64 fx, .int .i64 fy, .int .i64 fw, .int .i64 fh] 3)).drew fun e w' => e = .returned (.bool true) ∧ (wo.alloc (.cells #[.int .i64 fx, .int .i64 fy, .int .i64 fw, .int .i64 fh] 3)).drew = w') := Lib.hid (all_any _ 4 4 _ _ I5.out (by simp) true ((pk_all [fx, fy, fw, fh]).trans ((fit4_19 ⟨f0, f1, f2, fx, fy, fw, fh, f7⟩).trans hfit)))
        have HT2 : Hid (∀ j, j < k + 1 → fitF (frA l j) = true) := Lib.hid (fun j hj => by
          by_cases e : j = k
          · rw [e, EF.out]; exact hfit
          · exact HT.out j (by omega))
        clear hf hfit I5 hb
        by_cases hw0 : 0 < fw
        · by_cases hh0 : 0 < fh
          · have GT1 : Hid (greatsF (l.take (k + 1)) = greatsF (l.take k) ++ [⟨f0, f1, f2, fx, fy, fw, fh, f7⟩]) := Lib.hid (by rw [GT.out, if_pos (by simp [greatF, hw0, hh0])])
            clear GT
            go_wp2
            go_still_tail 20, (by kernel_rfl)
            go_wp2_with (first
              | (go_at_call 14; (with_reducible refine K5.out.mono ?_); rintro e w' ⟨rfl, hw'⟩; have B6 : Hid (Below w.heap.size w w') := Lib.hid (by rw [← hw']; exact B5.out); have O6 : Hid (ownsF w' w.heap.size (.slice Ao no co) (greatsF (l.take k))) := Lib.hid (by rw [← hw']; exact O5.out); have F6 : FrAt w' b (off + k * 8) ⟨f0, f1, f2, fx, fy, fw, fh, f7⟩ := (by rw [← hw']; exact FA6.out); obtain ⟨e0, e1, e2, e3, e4, e5, e6, e7⟩ := F6; dsimp only at e0 e1 e2 e3 e4 e5 e6 e7; clear hw')
              | (at_builtin; go_loud (refine wpList_append_fr rfl _ _ rfl w.heap.size _ (greatsF (l.take k)) rfl O6.out ⟨f0, f1, f2, fx, fy, fw, fh, f7⟩ _ rfl (by have := GL.out; omega) B6.out.size ?_; intro v2 w2 hO hB _; have O2 := Lib.hid hO; have B2 := Lib.hid hB; clear hO hB)))
            go_roundg (n - (k + 1))
            case measure => omega
            case rel => exact ⟨k + 1, by go_num, hlt, Nat.le_refl _, Lib.hid (by rw [GT1.out]; exact O2.out), Lib.hid (B6.out.trans B2.out), HT2⟩
          · have hh1 : decide (0 < fh) = false := decide_eq_false hh0
            have GT1 : Hid (greatsF (l.take (k + 1)) = greatsF (l.take k)) := Lib.hid (by rw [GT.out, if_neg (by simp [greatF, hh0]), List.append_nil])
            clear GT hh0
            go_wp2
            go_still_tail 20, (by kernel_rfl)
            go_wp2_with (go_at_call 14; (with_reducible refine K5.out.mono ?_); rintro e w' ⟨rfl, hw'⟩; have B6 : Hid (Below w.heap.size w w') := Lib.hid (by rw [← hw']; exact B5.out); have O6 : Hid (ownsF w' w.heap.size (.slice Ao no co) (greatsF (l.take k))) := Lib.hid (by rw [← hw']; exact O5.out); have F6 : FrAt w' b (off + k * 8) ⟨f0, f1, f2, fx, fy, fw, fh, f7⟩ := (by rw [← hw']; exact FA6.out); obtain ⟨e0, e1, e2, e3, e4, e5, e6, e7⟩ := F6; dsimp only at e0 e1 e2 e3 e4 e5 e6 e7; clear hw')
            go_roundg (n - (k + 1))
            case measure => omega
            case rel => exact ⟨k + 1, by go_num, hlt, Nat.le_refl _, Lib.hid (by rw [GT1.out]; exact O6.out), B6, HT2⟩
        · have hw1 : decide (0 < fw) = false := decide_eq_false hw0
          have GT1 : Hid (greatsF (l.take (k + 1)) = greatsF (l.take k)) := Lib.hid (by rw [GT.out, if_neg (by simp [greatF, hw0]), List.append_nil])
          clear GT hw0
          go_wp2
          go_still_tail 20, (by kernel_rfl)
          go_wp2_with (go_at_call 14; (with_reducible refine K5.out.mono ?_); rintro e w' ⟨rfl, hw'⟩; have B6 : Hid (Below w.heap.size w w') := Lib.hid (by rw [← hw']; exact B5.out); have O6 : Hid (ownsF w' w.heap.size (.slice Ao no co) (greatsF (l.take k))) := Lib.hid (by rw [← hw']; exact O5.out); have F6 : FrAt w' b (off + k * 8) ⟨f0, f1, f2, fx, fy, fw, fh, f7⟩ := (by rw [← hw']; exact FA6.out); obtain ⟨e0, e1, e2, e3, e4, e5, e6, e7⟩ := F6; dsimp only at e0 e1 e2 e3 e4 e5 e6 e7; clear hw')
          go_roundg (n - (k + 1))
          case measure => omega
          case rel => exact ⟨k + 1, by go_num, hlt, Nat.le_refl _, Lib.hid (by rw [GT1.out]; exact O6.out), B6, HT2⟩
    · obtain rfl : k = n := by omega
      have hz : decide ((k : Int) < k) = false := decide_eq_false (by omega)
      have TA : Hid (l.take k = l) := Lib.hid (by rw [← HL.out, List.take_length])
      have HT3 : Hid (∀ j, j < l.length → fitF (frA l j) = true) := Lib.hid (fun j hj => HT.out j (by rw [← HL.out]; exact hj))
      rw [TA.out] at HO hno
      obtain ⟨G, hG⟩ : ∃ G, greatsF l = G := ⟨_, rfl⟩
      have EG := Lib.hid hG
      have GG : Hid (∀ f ∈ G, greatF f = true ∧ fitF f = true) := Lib.hid (by
        rw [← hG]
        intro f hf
        obtain ⟨h1, h2⟩ := List.mem_filter.1 hf
        obtain ⟨i, hi, rfl⟩ := List.getElem_of_mem h1
        have := HT3.out i hi
        rw [frA_get hi] at this
        exact ⟨h2, this⟩)
      have GN : Hid (no ≤ k) := Lib.hid (by have := greats_len l k; rw [TA.out] at this; omega)
      rw [hG] at HO hno
      have NO := Lib.hid hno
      clear hG hno HT HI TA
      by_cases h0 : no = 0
      · have RR : Hid (fillZ l = (0, 0, 0, 0)) := Lib.hid (fill_none HT3.out (by rw [EG.out]; exact List.length_eq_zero_iff.1 (by rw [NO.out]; exact h0)))
        have h0' := Lib.hid h0
        obtain rfl := h0
        go_wp2
        ((try simp only [Exit.inBlock, Exit.then]); refine bodyPost_ret (results_tmp4_19 rfl _ _ _) rfl ?_)
        exact ⟨by rw [RR.out]; rfl, HB.out⟩
      · have h0' : ((no : Int) = 0) = False := by simp; omega
        have hp : (0 : Int) < no := by omega
        have hp' : 0 < no := by omega
        have hno4 : no ≤ 4096 := by have := GN.out; omega
        obtain ⟨b, off, eA, hb, hc0⟩ := HO.out.row.at_ (i := 0) (by rw [NO.out]; omega)
        subst eA
        have FG := Lib.hid HO.out.row
        have FX : ∀ i, i < no → ∃ x y u v : Int, ((frA G i).x = x ∧ (frA G i).y = y ∧ (frA G i).w = u ∧ (frA G i).h = v) ∧ (-1099511627776 ≤ x ∧ x ≤ 1099511627776) ∧ (-1099511627776 ≤ y ∧ y ≤ 1099511627776) ∧ (0 < u ∧ u ≤ 1099511627776) ∧ (0 < v ∧ v ≤ 1099511627776) := by
          intro i hi
          have hm : frA G i ∈ G := by rw [frA_get (by rw [NO.out]; exact hi)]; exact List.getElem_mem _
          obtain ⟨g1, g2⟩ := GG.out _ hm
          have g3 := fitF_iff.1 g2
          simp only [greatF, decide_eq_true_eq] at g1
          unfold Fit at g3
          exact ⟨_, _, _, _, ⟨rfl, rfl, rfl, rfl⟩, g3.1, g3.2.1, ⟨g1.1, g3.2.2.1.2⟩, ⟨g1.2, g3.2.2.2.2⟩⟩
        have FX := Lib.hid FX
        obtain ⟨x0, y0, u0, v0, ⟨ex, ey, eu, ev⟩, bx, by_, -, -⟩ := FX.out 0 hp'
        obtain ⟨-, -, -, q3, q4, -, -, -⟩ := hc0
        rw [ex, Nat.zero_mul, Nat.add_zero] at q3
        rw [ey, Nat.zero_mul, Nat.add_zero] at q4
        have L0 : Hid (LeastTo G Fr.x 0 x0 ∧ LeastTo G Fr.y 0 y0) := Lib.hid ⟨⟨fun j hj => by omega, 0, by rw [NO.out]; exact hp', ex⟩, ⟨fun j hj => by omega, 0, by rw [NO.out]; exact hp', ey⟩⟩
        clear ex ey eu ev h0
        go_wp2
        go_quiet (fail)
        have FG1 : Hid (FrIn (wo.drewN nq) (.slice (some ⟨b, off, none⟩) no co) G) := Lib.hid (FG.out.keep (below_drewN19 (Below.refl _ _) _))
        have HB1 : Hid (Below w.heap.size w (wo.drewN nq)) := Lib.hid (below_drewN19 HB.out _)
        generalize wo.drewN nq = wx at FG1 HB1 ⊢
        clear q3 q4 hb FG HB
        go_wp2
        go_loop [8, 9, 10] (fun a1 a2 a3 => ∃ (i : Nat) (x y : Int), a1 = .int .i64 x ∧ a2 = .int .i64 y ∧ a3 = .int .i64 i ∧ i ≤ no ∧ (-1099511627776 ≤ x ∧ x ≤ 1099511627776) ∧ (-1099511627776 ≤ y ∧ y ≤ 1099511627776) ∧ Hid (LeastTo G Fr.x i x ∧ LeastTo G Fr.y i y)) (fun _ _ i => no - (intOf i).toNat)
        case atStart => exact ⟨0, x0, y0, rfl, rfl, rfl, by omega, bx, by_, L0⟩
        case round =>
          obtain ⟨i, x, y, rfl, rfl, rfl, hi, bx1, by1, HL1⟩ := hrel
          clear L0
          by_cases hlt : i < no
          · have hk0 : (0 : Int) ≤ i := by omega
            have hkz : (i : Int) < no := by omega
            obtain ⟨xi, yi, ui, vi, ⟨ex, ey, eu, ev⟩, bxi, byi, -, -⟩ := FX.out i hlt
            obtain ⟨b', off', e', -, hc⟩ := FG1.out.at_ (i := i) (by rw [NO.out]; exact hlt)
            obtain ⟨rfl, rfl⟩ : b = b' ∧ off = off' := by
              simp only [Option.some.injEq, Addr.mk.injEq, and_true] at e'
              exact e'
            clear e'
            obtain ⟨-, -, -, q3, q4, -, -, -⟩ := hc
            rw [ex] at q3
            rw [ey] at q4
            have EX := Lib.hid ex
            have EY := Lib.hid ey
            have HLX : Hid (∀ r, (if xi < x then xi else x) = r → LeastTo G Fr.x (i + 1) r) := Lib.hid (fun r hr => by
              subst hr
              split
              · rename_i h
                have := HL1.out.1.take (by rw [NO.out]; exact hlt) (by rw [EX.out]; exact h)
                rwa [EX.out] at this
              · rename_i h
                exact HL1.out.1.keep (by rw [EX.out]; omega))
            have HLY : Hid (∀ r, (if yi < y then yi else y) = r → LeastTo G Fr.y (i + 1) r) := Lib.hid (fun r hr => by
              subst hr
              split
              · rename_i h
                have := HL1.out.2.take (by rw [NO.out]; exact hlt) (by rw [EY.out]; exact h)
                rwa [EY.out] at this
              · rename_i h
                exact HL1.out.2.keep (by rw [EY.out]; omega))
            clear ex ey eu ev HL1
            by_cases c1 : xi < x
            · have HLX := Lib.hid (HLX.out xi (if_pos c1))
              by_cases c2 : yi < y
              · have HLY := Lib.hid (HLY.out yi (if_pos c2))
                go_wp2
                go_round
                case rel => exact ⟨i + 1, xi, yi, rfl, rfl, by go_num, hlt, bxi, byi, Lib.hid ⟨HLX.out, HLY.out⟩⟩
                case measure => simp [intOf]; omega
              · have HLY := Lib.hid (HLY.out y (if_neg c2))
                have c2' : decide (yi < y) = false := decide_eq_false c2
                clear c2
                go_wp2
                go_round
                case rel => exact ⟨i + 1, xi, y, rfl, rfl, by go_num, hlt, bxi, by1, Lib.hid ⟨HLX.out, HLY.out⟩⟩
                case measure => simp [intOf]; omega
            · have HLX := Lib.hid (HLX.out x (if_neg c1))
              have c1' : decide (xi < x) = false := decide_eq_false c1
              clear c1
              by_cases c2 : yi < y
              · have HLY := Lib.hid (HLY.out yi (if_pos c2))
                go_wp2
                go_round
                case rel => exact ⟨i + 1, x, yi, rfl, rfl, by go_num, hlt, bx1, byi, Lib.hid ⟨HLX.out, HLY.out⟩⟩
                case measure => simp [intOf]; omega
              · have HLY := Lib.hid (HLY.out y (if_neg c2))
                have c2' : decide (yi < y) = false := decide_eq_false c2
                clear c2
                go_wp2
                go_round
                case rel => exact ⟨i + 1, x, y, rfl, rfl, by go_num, hlt, bx1, by1, Lib.hid ⟨HLX.out, HLY.out⟩⟩
                case measure => simp [intOf]; omega
          · obtain rfl : i = no := by omega
            have hz1 : decide ((i : Int) < i) = false := decide_eq_false (by omega)
            have HL2 : Hid (Least (· ∈ G) Fr.x x ∧ Least (· ∈ G) Fr.y y) := Lib.hid (by
              have h := HL1.out
              rw [← NO.out] at h
              exact ⟨h.1.least, h.2.least⟩)
            clear HL1 hlt hi
            go_wp2
            go_loopw [11, 12, 13] (fun a1 a2 a3 wr => ∃ (k2 : Nat) (u v : Int), a1 = .int .i64 u ∧ a2 = .int .i64 v ∧ a3 = .int .i64 k2 ∧ k2 ≤ i ∧ (0 ≤ u ∧ u ≤ 4398046511104) ∧ (0 ≤ v ∧ v ≤ 4398046511104) ∧ Hid (MostTo G (fun f => f.x + f.w - x) k2 u ∧ MostTo G (fun f => f.y + f.h - y) k2 v) ∧ Hid (Below w.heap.size w wr) ∧ Hid (FrIn wr (.slice (some ⟨b, off, none⟩) i co) G)) (fun _ _ k2 _ => i - (intOf k2).toNat)
            case atStart => exact ⟨0, 0, 0, rfl, rfl, rfl, by omega, by omega, by omega, Lib.hid ⟨⟨fun j hj => by omega, by omega, .inl rfl⟩, ⟨fun j hj => by omega, by omega, .inl rfl⟩⟩, HB1, FG1⟩
            case round =>
              obtain ⟨k2, u, v, rfl, rfl, rfl, hk2, bu, bv, HM, HB2, FG2⟩ := hrel
              by_cases hlt : k2 < i
              · have hk0 : (0 : Int) ≤ k2 := by omega
                have hkz : (k2 : Int) < i := by omega
                obtain ⟨xi, yi, ui, vi, ⟨ex, ey, eu, ev⟩, bxi, byi, bui, bvi⟩ := FX.out k2 hlt
                obtain ⟨b', off', e', -, hc⟩ := FG2.out.at_ (i := k2) (by rw [NO.out]; exact hlt)
                obtain ⟨rfl, rfl⟩ : b = b' ∧ off = off' := by
                  simp only [Option.some.injEq, Addr.mk.injEq, and_true] at e'
                  exact e'
                clear e'
                obtain ⟨-, -, -, q3, q4, q5, q6, -⟩ := hc
                rw [ex] at q3
                rw [ey] at q4
                rw [eu] at q5
                rw [ev] at q6
                obtain ⟨s1, hs1⟩ : ∃ s, xi + ui = s := ⟨_, rfl⟩
                obtain ⟨s2, hs2⟩ : ∃ s, s1 - x = s := ⟨_, rfl⟩
                obtain ⟨t1, ht1⟩ : ∃ s, yi + vi = s := ⟨_, rfl⟩
                obtain ⟨t2, ht2⟩ : ∃ s, t1 - y = s := ⟨_, rfl⟩
                have EX : Hid ((fun f : Fr => f.x + f.w - x) (frA G k2) = s2) := Lib.hid (by simp only; rw [ex, eu]; omega)
                have EY : Hid ((fun f : Fr => f.y + f.h - y) (frA G k2) = t2) := Lib.hid (by simp only; rw [ey, ev]; omega)
                have bs1 : -4398046511104 ≤ s1 ∧ s1 ≤ 4398046511104 := by omega
                have bt1 : -4398046511104 ≤ t1 ∧ t1 ≤ 4398046511104 := by omega
                have bs2 : s2 ≤ 4398046511104 := by omega
                have bt2 : t2 ≤ 4398046511104 := by omega
                have w1 : IntKind.i64.wrap (xi + ui) = s1 := (IntWalk.i64_in _ (by omega)).trans hs1
                have w2 : IntKind.i64.wrap (s1 - x) = s2 := (IntWalk.i64_in _ (by omega)).trans hs2
                have w3 : IntKind.i64.wrap (yi + vi) = t1 := (IntWalk.i64_in _ (by omega)).trans ht1
                have w4 : IntKind.i64.wrap (t1 - y) = t2 := (IntWalk.i64_in _ (by omega)).trans ht2
                have HMX : Hid (∀ r, (if u < s2 then s2 else u) = r → MostTo G (fun f => f.x + f.w - x) (k2 + 1) r) := Lib.hid (fun r hr => by
                  subst hr
                  split
                  · rename_i h
                    have e : (frA G k2).x + (frA G k2).w - x = s2 := EX.out
                    have q := HM.out.1.take (by rw [NO.out]; exact hlt) (show u < (frA G k2).x + (frA G k2).w - x by omega)
                    replace q : MostTo _ _ _ ((frA G k2).x + (frA G k2).w - x) := q
                    rw [e] at q
                    exact q
                  · rename_i h
                    have e : (frA G k2).x + (frA G k2).w - x = s2 := EX.out
                    exact HM.out.1.keep (show (frA G k2).x + (frA G k2).w - x ≤ u by omega))
                have HMY : Hid (∀ r, (if v < t2 then t2 else v) = r → MostTo G (fun f => f.y + f.h - y) (k2 + 1) r) := Lib.hid (fun r hr => by
                  subst hr
                  split
                  · rename_i h
                    have e : (frA G k2).y + (frA G k2).h - y = t2 := EY.out
                    have q := HM.out.2.take (by rw [NO.out]; exact hlt) (show v < (frA G k2).y + (frA G k2).h - y by omega)
                    replace q : MostTo _ _ _ ((frA G k2).y + (frA G k2).h - y) := q
                    rw [e] at q
                    exact q
                  · rename_i h
                    have e : (frA G k2).y + (frA G k2).h - y = t2 := EY.out
                    exact HM.out.2.keep (show (frA G k2).y + (frA G k2).h - y ≤ v by omega))
                clear hs1 hs2 ht1 ht2 ex ey eu ev HM HL2 bs1 bt1
                obtain ⟨c1, hc1⟩ : ∃ c, decide (u < s2) = c := ⟨_, rfl⟩
                obtain ⟨c2, hc2⟩ : ∃ c, decide (v < t2) = c := ⟨_, rfl⟩
                cases c1 <;> cases c2
                · have HMX := Lib.hid (HMX.out u (if_neg (of_decide_eq_false hc1)))
                  have HMY := Lib.hid (HMY.out v (if_neg (of_decide_eq_false hc2)))
                  have bb : (0 ≤ u ∧ u ≤ 4398046511104) ∧ (0 ≤ v ∧ v ≤ 4398046511104) := by first | (have h1 := of_decide_eq_true hc1; have h2 := of_decide_eq_true hc2; omega) | (have h1 := of_decide_eq_true hc1; have h2 := of_decide_eq_false hc2; omega) | (have h1 := of_decide_eq_false hc1; have h2 := of_decide_eq_true hc2; omega) | (have h1 := of_decide_eq_false hc1; have h2 := of_decide_eq_false hc2; omega)
                  have BB := Lib.hid bb
                  clear bb bu bv bs2 bt2
                  go_wp2
                  go_quiet (fail)
                  go_wp2
                  go_quiet (fail)
                  go_wp2
                  go_roundw
                  case rel => exact ⟨k2 + 1, u, v, rfl, rfl, by go_num, hlt, BB.out.1, BB.out.2, Lib.hid ⟨HMX.out, HMY.out⟩, Lib.hid (by repeat (first | (with_reducible refine below_drewN19 ?_ _) | exact HB2.out)), Lib.hid (FG2.out.keep (by repeat (first | (with_reducible refine below_drewN19 ?_ _) | exact Below.refl _ _)))⟩
                  case measure => simp [intOf]; omega
                · have HMX := Lib.hid (HMX.out u (if_neg (of_decide_eq_false hc1)))
                  have HMY := Lib.hid (HMY.out t2 (if_pos (of_decide_eq_true hc2)))
                  have bb : (0 ≤ u ∧ u ≤ 4398046511104) ∧ (0 ≤ t2 ∧ t2 ≤ 4398046511104) := by first | (have h1 := of_decide_eq_true hc1; have h2 := of_decide_eq_true hc2; omega) | (have h1 := of_decide_eq_true hc1; have h2 := of_decide_eq_false hc2; omega) | (have h1 := of_decide_eq_false hc1; have h2 := of_decide_eq_true hc2; omega) | (have h1 := of_decide_eq_false hc1; have h2 := of_decide_eq_false hc2; omega)
                  have BB := Lib.hid bb
                  clear bb bu bv bs2 bt2
                  go_wp2
                  go_quiet (fail)
                  go_wp2
                  go_quiet (fail)
                  go_wp2
                  go_quiet (fail)
                  go_wp2
                  go_roundw
                  case rel => exact ⟨k2 + 1, u, t2, rfl, rfl, by go_num, hlt, BB.out.1, BB.out.2, Lib.hid ⟨HMX.out, HMY.out⟩, Lib.hid (by repeat (first | (with_reducible refine below_drewN19 ?_ _) | exact HB2.out)), Lib.hid (FG2.out.keep (by repeat (first | (with_reducible refine below_drewN19 ?_ _) | exact Below.refl _ _)))⟩
                  case measure => simp [intOf]; omega
                · have HMX := Lib.hid (HMX.out s2 (if_pos (of_decide_eq_true hc1)))
                  have HMY := Lib.hid (HMY.out v (if_neg (of_decide_eq_false hc2)))
                  have bb : (0 ≤ s2 ∧ s2 ≤ 4398046511104) ∧ (0 ≤ v ∧ v ≤ 4398046511104) := by first | (have h1 := of_decide_eq_true hc1; have h2 := of_decide_eq_true hc2; omega) | (have h1 := of_decide_eq_true hc1; have h2 := of_decide_eq_false hc2; omega) | (have h1 := of_decide_eq_false hc1; have h2 := of_decide_eq_true hc2; omega) | (have h1 := of_decide_eq_false hc1; have h2 := of_decide_eq_false hc2; omega)
                  have BB := Lib.hid bb
                  clear bb bu bv bs2 bt2
                  go_wp2
                  go_quiet (fail)
                  go_wp2
                  go_quiet (fail)
                  go_wp2
                  go_quiet (fail)
                  go_wp2
                  go_roundw
                  case rel => exact ⟨k2 + 1, s2, v, rfl, rfl, by go_num, hlt, BB.out.1, BB.out.2, Lib.hid ⟨HMX.out, HMY.out⟩, Lib.hid (by repeat (first | (with_reducible refine below_drewN19 ?_ _) | exact HB2.out)), Lib.hid (FG2.out.keep (by repeat (first | (with_reducible refine below_drewN19 ?_ _) | exact Below.refl _ _)))⟩
                  case measure => simp [intOf]; omega
                · have HMX := Lib.hid (HMX.out s2 (if_pos (of_decide_eq_true hc1)))
                  have HMY := Lib.hid (HMY.out t2 (if_pos (of_decide_eq_true hc2)))
                  have bb : (0 ≤ s2 ∧ s2 ≤ 4398046511104) ∧ (0 ≤ t2 ∧ t2 ≤ 4398046511104) := by first | (have h1 := of_decide_eq_true hc1; have h2 := of_decide_eq_true hc2; omega) | (have h1 := of_decide_eq_true hc1; have h2 := of_decide_eq_false hc2; omega) | (have h1 := of_decide_eq_false hc1; have h2 := of_decide_eq_true hc2; omega) | (have h1 := of_decide_eq_false hc1; have h2 := of_decide_eq_false hc2; omega)
                  have BB := Lib.hid bb
                  clear bb bu bv bs2 bt2
                  go_wp2
                  go_quiet (fail)
                  go_wp2
                  go_quiet (fail)
                  go_wp2
                  go_quiet (fail)
                  go_wp2
                  go_quiet (fail)
                  go_wp2
                  go_roundw
                  case rel => exact ⟨k2 + 1, s2, t2, rfl, rfl, by go_num, hlt, BB.out.1, BB.out.2, Lib.hid ⟨HMX.out, HMY.out⟩, Lib.hid (by repeat (first | (with_reducible refine below_drewN19 ?_ _) | exact HB2.out)), Lib.hid (FG2.out.keep (by repeat (first | (with_reducible refine below_drewN19 ?_ _) | exact Below.refl _ _)))⟩
                  case measure => simp [intOf]; omega
              · obtain rfl : k2 = i := by omega
                have AB : Hid (About (· ∈ greatsF l) ⟨x, y, x + u, y + v⟩) := Lib.hid (by
                  rw [EG.out]
                  have h := HM.out
                  rw [← NO.out] at h
                  have gz : 0 < G.length := by rw [NO.out]; exact hp'
                  refine ⟨HL2.out.1, HL2.out.2, h.1.most gz (fun f hf => ?_), h.2.most gz (fun f hf => ?_)⟩
                  · have h1 := HL2.out.1.1 f hf
                    have h2 := (GG.out f hf).1
                    simp only [greatF, decide_eq_true_eq] at h2
                    omega
                  · have h1 := HL2.out.2.1 f hf
                    have h2 := (GG.out f hf).1
                    simp only [greatF, decide_eq_true_eq] at h2
                    omega)
                have RR : Hid (fillZ l = (x, y, u, v)) := Lib.hid (by
                  rw [fill_some HT3.out AB.out]
                  simp only [Prod.mk.injEq, true_and]
                  omega)
                go_wp2
                ((try simp only [Exit.inBlock, Exit.then]); refine bodyPost_ret (results_tmp4_19 rfl _ _ _) rfl ?_)
                exact ⟨by rw [RR.out]; rfl, HB2.out⟩
end Go.Proofs.Ytieaoebphlcmpaa
