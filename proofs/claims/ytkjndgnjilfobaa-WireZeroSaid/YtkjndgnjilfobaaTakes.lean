/-
  What the letters of the landed wire take of bytes: one value, or none.
-/
import Derived.Test.YtkjndgnjilfobaaPuts
import Derived.Test.YtkjndgnjilfobaaGet
import Derived.Test.YtkjndgnjilfobaaTakeMath
namespace Go.Proofs.Ytkjndgnjilfobaa
open Go.RowKit

/-- a block that may be written -/
def Loose (w : World) (A : Option Addr) : Prop := ∀ p, A = some p → ∃ cs T, w.heap[p.block]? = some (.cells cs T (0, 0))
theorem Loose.none (w : World) : Loose w .none := fun _ e => by cases e
theorem Loose.keep {w w' : World} {A : Option Addr} (h : Loose w A) (hk : ∀ p, A = some p → w'.heap[p.block]? = w.heap[p.block]?) : Loose w' A := fun p e => by
  obtain ⟨cs, T, hc⟩ := h p e
  exact ⟨cs, T, (hk p e).trans hc⟩
theorem Loose.below {w w' : World} {A : Option Addr} (h : Loose w A) (hb : Below w.heap.size w w') : Loose w' A := h.keep fun p e => by
  obtain ⟨cs, T, hc⟩ := h p e
  exact hb.block _ (lt_of_block hc)
theorem owns.loose {w : World} {base e n c : Nat} {K : IntKind} {A : Option Addr} {l : List Nat} (h : owns w base e K (.slice A n c) l) : Loose w A := fun p hp => by
  subst hp
  rcases h.2 with ⟨hv, _⟩ | ⟨g, cap, cur, hv, hbg, hg, _⟩
  · cases hv
  · injection hv with v1 v2 v3
    injection v1 with v1
    subst v1
    exact ⟨cur, _, hg⟩
def zeroV : Value := .agg #[.int .u64 0, .int .i64 0, .bool false, .slice none 0 0, .slice none 0 0]
/-- what a letter's take answers -/
def KTaken (c : Nat) (bl : List Nat) (w : World) (e : Ending) (w' : World) : Prop :=
  Below w.heap.size w w' ∧ (((∀ v r, Fits c v → Short v → Real v → form c v ++ r ≠ bl) ∧ e = .returned (.tuple #[zeroV, .int .i64 0, .bool false])) ∨
    (∃ (X : RV) (r : List Nat), X.ok w' ∧ Fits c X.mean ∧ Short X.mean ∧ form c X.mean ++ r = bl ∧ e = .returned (.tuple #[X.val, .int .i64 ((form c X.mean).length : Nat), .bool true]) ∧ NewAt w w' X.bA ∧ NewAt w w' X.lA ∧ Loose w' X.bA))
theorem get_at (A : Option Addr) (len c : Nat) (f : Nat → Nat) (p : Nat) (w : World) (h : Bytes w A len f) (hlen : len ≤ 4194304) (hc : len ≤ c) (hp : p ≤ len) (r : Option (Nat × Nat)) (hr : Got (seg f p (len - p)) r) :
    Calls Try.prog 50 #[.slice A len c, .int .i64 (p : Nat)] w fun e w' => e = .returned (encGot r) ∧ w = w' := by
  by_cases hlt : p < len
  · exact get_in A len c f p w h (by omega) hc hlt r hr
  · have e : len - p = 0 := by omega
    rw [e, seg_zero] at hr
    have hr2 : none = r := (got_no_short (a := []) (fun x hx => by cases hx)).uniq hr
    subst hr2
    exact get_out A len c (p : Nat) w (by omega) (by omega) (by omega)
theorem onlyN {x : Nat} {bl t : List Nat} (h : bl = word x ++ t) : Fits 110 (onlyRV x 0 false).mean ∧ Short (onlyRV x 0 false).mean ∧ form 110 (onlyRV x 0 false).mean ++ t = bl ∧ (form 110 (onlyRV x 0 false).mean).length = (word x).length := by
  have e : form 110 (onlyRV x 0 false).mean = word x := by rw [form_n]; rfl
  exact ⟨by simp [Fits, onlyRV, RV.mean, seg_zero], by simp [Short, onlyRV, RV.mean, seg_zero], by rw [e, h], by rw [e]⟩
theorem onlyI {x : Nat} {bl t : List Nat} (h : bl = word x ++ t) : Fits 105 (onlyRV 0 (unfoldI x) false).mean ∧ Short (onlyRV 0 (unfoldI x) false).mean ∧ form 105 (onlyRV 0 (unfoldI x) false).mean ++ t = bl ∧ (form 105 (onlyRV 0 (unfoldI x) false).mean).length = (word x).length := by
  have e : form 105 (onlyRV 0 (unfoldI x) false).mean = word x := by
    rw [form_i]
    show word (foldN (unfoldI x)) = _
    rw [fold_unfold]
  exact ⟨by simp [Fits, onlyRV, RV.mean, seg_zero], by simp [Short, onlyRV, RV.mean, seg_zero], by rw [e, h], by rw [e]⟩
theorem unfoldI_in {x : Nat} (h : x < 18446744073709551616) : -9223372036854775808 ≤ unfoldI x ∧ unfoldI x ≤ 9223372036854775807 := by unfold unfoldI; split <;> omega

set_option maxRecDepth 100000 in
set_option maxHeartbeats 4000000 in
theorem take_n (A : Option Addr) (n c : Nat) (f : Nat → Nat) (w : World) (h : Bytes w A n f) (hn : n ≤ 4194304) (hc : n ≤ c) :
    Calls Try.prog 49 #[.slice A n c] w (KTaken 110 (seg f 0 n) w) := by
  obtain ⟨r, hr⟩ := got_is (seg f 0 n)
  have G : Hid (∀ W, Below w.heap.size w W → Calls Try.prog 50 #[.slice A n c, .int .i64 0] W fun e w' => e = .returned (encGot r) ∧ W = w') := Lib.hid (fun W hW => get_at A n c f 0 W (h.below hW) hn hc (by omega) r hr)
  have B : Hid (∀ v : Value, Below w.heap.size w (w.alloc (.cells #[v, .int .i64 0, .bool false, .slice none 0 0, .slice none 0 0] 42))) := Lib.hid (fun v => (Below.refl _ w).alloc (Nat.le_refl _) _)
  clear h
  cases r with
  | none =>
    have NO : Hid (∀ v r, Fits 110 v → Short v → Real v → form 110 v ++ r ≠ seg f 0 n) := Lib.hid (fun v r _ _ hv e => by rw [form_n] at e; exact hr v.n r hv.1 e.symm)
    clear hr
    go_enter Try.func49, Try.ntmps49
    go_wp2_with fail
    refine (G.out _ (B.out _)).mono ?_
    rintro e w' ⟨rfl, rfl⟩
    unfold encGot
    go_wp2_with fail
    refine bodyPost_ret (results_row_tmp2 rfl _ _ w.heap.size _ _ _ _ rfl (heap_alloc_new _ _) Try.underlying42 rfl (by kernel_rfl)) rfl ?_
    exact ⟨B.out _, .inl ⟨NO.out, rfl⟩⟩
  | some q =>
    obtain ⟨x, u⟩ := q
    obtain ⟨hx, hu, t, ht⟩ := hr
    have Y := Lib.hid (onlyN ht)
    have OK : Hid (∀ W, (onlyRV x 0 false).ok W) := Lib.hid (fun W => onlyOk W hx ⟨by decide, by decide⟩)
    have U := Lib.hid hu
    clear ht hu
    go_enter Try.func49, Try.ntmps49
    go_wp2_with fail
    refine (G.out _ (B.out _)).mono ?_
    rintro e w' ⟨rfl, rfl⟩
    unfold encGot
    go_wp2_with fail
    refine bodyPost_ret (results_row_tmp2 rfl _ _ w.heap.size _ _ _ _ rfl (heap_alloc_new _ _) Try.underlying42 rfl (by kernel_rfl)) rfl ?_
    obtain ⟨y1, y2, y3, y4⟩ := Y.out
    exact ⟨B.out _, .inr ⟨onlyRV x 0 false, t, OK.out _, y1, y2, y3, by rw [y4, ← U.out]; rfl, NewAt.none _ _, NewAt.none _ _, Loose.none _⟩⟩

set_option maxRecDepth 100000 in
set_option maxHeartbeats 4000000 in
theorem take_i (A : Option Addr) (n c : Nat) (f : Nat → Nat) (w : World) (h : Bytes w A n f) (hn : n ≤ 4194304) (hc : n ≤ c) :
    Calls Try.prog 54 #[.slice A n c] w (KTaken 105 (seg f 0 n) w) := by
  obtain ⟨r, hr⟩ := got_is (seg f 0 n)
  have G : Hid (∀ W, Below w.heap.size w W → Calls Try.prog 50 #[.slice A n c, .int .i64 0] W fun e w' => e = .returned (encGot r) ∧ W = w') := Lib.hid (fun W hW => get_at A n c f 0 W (h.below hW) hn hc (by omega) r hr)
  have B : Hid (∀ v : Value, Below w.heap.size w (w.alloc (.cells #[.int .u64 0, v, .bool false, .slice none 0 0, .slice none 0 0] 42))) := Lib.hid (fun v => (Below.refl _ w).alloc (Nat.le_refl _) _)
  clear h
  cases r with
  | none =>
    have NO : Hid (∀ v r, Fits 105 v → Short v → Real v → form 105 v ++ r ≠ seg f 0 n) := Lib.hid (fun v r _ _ hv e => by rw [form_i] at e; exact hr (foldN v.i) r (foldN_lt hv.2.1) e.symm)
    have U := Lib.hid (fun W => unfold_any 0 (by omega) W)
    clear hr
    go_enter Try.func54, Try.ntmps54
    go_wp2_with fail
    refine (G.out _ (B.out _)).mono ?_
    rintro e w' ⟨rfl, rfl⟩
    unfold encGot
    go_wp2_with fail
    refine (U.out _).mono ?_
    rintro e w' ⟨rfl, rfl⟩
    go_wp2_with fail
    refine bodyPost_ret (results_row_tmp2 rfl _ _ w.heap.size _ _ _ _ rfl (heap_alloc_new _ _) Try.underlying42 rfl (by kernel_rfl)) rfl ?_
    exact ⟨B.out _, .inl ⟨NO.out, rfl⟩⟩
  | some q =>
    obtain ⟨x, u⟩ := q
    obtain ⟨hx, hu, t, ht⟩ := hr
    have Y := Lib.hid (onlyI ht)
    have OK : Hid (∀ W, (onlyRV 0 (unfoldI x) false).ok W) := Lib.hid (fun W => onlyOk W (by decide) (unfoldI_in hx))
    have U := Lib.hid hu
    have V := Lib.hid (fun W => unfold_any x hx W)
    clear ht hu
    go_enter Try.func54, Try.ntmps54
    go_wp2_with fail
    refine (G.out _ (B.out _)).mono ?_
    rintro e w' ⟨rfl, rfl⟩
    unfold encGot
    go_wp2_with fail
    refine (V.out _).mono ?_
    rintro e w' ⟨rfl, rfl⟩
    go_wp2_with fail
    refine bodyPost_ret (results_row_tmp2 rfl _ _ w.heap.size _ _ _ _ rfl (heap_alloc_new _ _) Try.underlying42 rfl (by kernel_rfl)) rfl ?_
    obtain ⟨y1, y2, y3, y4⟩ := Y.out
    exact ⟨B.out _, .inr ⟨onlyRV 0 (unfoldI x) false, t, OK.out _, y1, y2, y3, by rw [y4, ← U.out]; rfl, NewAt.none _ _, NewAt.none _ _, Loose.none _⟩⟩

set_option maxRecDepth 100000 in
set_option maxHeartbeats 4000000 in
theorem take_f (A : Option Addr) (n c : Nat) (f : Nat → Nat) (w : World) (h : Bytes w A n f) (hc : n ≤ c) :
    Calls Try.prog 58 #[.slice A n c] w (KTaken 102 (seg f 0 n) w) := by
  have H := Lib.hid h
  have B : Hid (∀ v : Value, Below w.heap.size w (w.alloc (.cells #[.int .u64 0, .int .i64 0, v, .slice none 0 0, .slice none 0 0] 42))) := Lib.hid (fun v => (Below.refl _ w).alloc (Nat.le_refl _) _)
  clear h
  by_cases hn : n = 0
  · subst hn
    have NO : Hid (∀ v r, Fits 102 v → Short v → Real v → form 102 v ++ r ≠ seg f 0 0) := Lib.hid (fun v r _ _ _ e => by rw [form_f, seg_zero] at e; cases e)
    go_enter Try.func58, Try.ntmps58
    go_wp2_with fail
    refine bodyPost_ret (results_row_tmp2 rfl _ _ w.heap.size _ _ _ _ rfl (heap_alloc_new _ _) Try.underlying42 rfl (by kernel_rfl)) rfl ?_
    exact ⟨B.out _, .inl ⟨NO.out, rfl⟩⟩
  · have h0 : 0 < n := by omega
    obtain ⟨b, off, rfl, hb, hcell⟩ := H.out.at_ h0
    rw [Nat.add_zero] at hcell
    have lz : (0 : Int) < n := by omega
    have nz : ((n : Int) == 0) = false := by simp; omega
    have AC : ∀ o : Obj, (w.alloc o).cell? ⟨b, off, none⟩ = some (.int .u8 (f 0 : Nat)) := fun o => by rw [World.cell?_alloc_lt w o _ hb]; exact hcell
    have SG : Hid (seg f 0 n = f 0 :: seg f 1 (n - 1)) := Lib.hid (by rw [← seg_cons f 0 (n - 1), show n - 1 + 1 = n by omega])
    by_cases hg : 1 < f 0
    · have g1 : (1 : Int) < (f 0 : Nat) := by omega
      have NO : Hid (∀ v r, Fits 102 v → Short v → Real v → form 102 v ++ r ≠ seg f 0 n) := Lib.hid (fun v r _ _ _ e => by
        rw [form_f, SG.out] at e
        injection e with e
        split at e <;> omega)
      go_enter Try.func58, Try.ntmps58
      go_wp2_with fail
      refine bodyPost_ret (results_row_tmp2 rfl _ _ w.heap.size _ _ _ _ rfl (heap_alloc_new _ _) Try.underlying42 rfl (by kernel_rfl)) rfl ?_
      exact ⟨B.out _, .inl ⟨NO.out, rfl⟩⟩
    · have g1 : ¬ (1 : Int) < (f 0 : Nat) := by omega
      have key : ∀ t : Bool, f 0 = (if t then 1 else 0) → Hid (∃ (X : RV) (r : List Nat), (∀ W, X.ok W) ∧ Fits 102 X.mean ∧ Short X.mean ∧ form 102 X.mean ++ r = seg f 0 n ∧ (form 102 X.mean).length = 1 ∧ X.val = .agg #[.int .u64 0, .int .i64 0, .bool t, .slice none 0 0, .slice none 0 0] ∧ X.bA = none ∧ X.lA = none) := fun t ht => Lib.hid
        ⟨onlyRV 0 0 t, seg f 1 (n - 1), fun W => onlyOk W (by decide) (by decide), by simp [Fits, onlyRV, RV.mean, seg_zero], by simp [Short, onlyRV, RV.mean, seg_zero], by rw [form_f, SG.out, ht]; rfl, by rw [form_f]; rfl, rfl, rfl, rfl⟩
      rcases (show f 0 = 0 ∨ f 0 = 1 by omega) with e0 | e0
      · have KK := key false (by rw [e0]; rfl)
        rw [e0] at AC g1
        clear key hcell SG hg
        go_enter Try.func58, Try.ntmps58
        go_wp2_with fail
        refine bodyPost_ret (results_row_tmp2 rfl _ _ w.heap.size _ _ _ _ rfl (heap_alloc_new _ _) Try.underlying42 rfl (by kernel_rfl)) rfl ?_
        obtain ⟨X, r, k1, k2, k3, k4, k5, k6, k7, k8⟩ := KK.out
        exact ⟨B.out _, .inr ⟨X, r, k1 _, k2, k3, k4, by rw [k6, k5]; rfl, by rw [k7]; exact NewAt.none _ _, by rw [k8]; exact NewAt.none _ _, by rw [k7]; exact Loose.none _⟩⟩
      · have KK := key true (by rw [e0]; rfl)
        rw [e0] at AC g1
        clear key hcell SG hg
        go_enter Try.func58, Try.ntmps58
        go_wp2_with fail
        refine bodyPost_ret (results_row_tmp2 rfl _ _ w.heap.size _ _ _ _ rfl (heap_alloc_new _ _) Try.underlying42 rfl (by kernel_rfl)) rfl ?_
        obtain ⟨X, r, k1, k2, k3, k4, k5, k6, k7, k8⟩ := KK.out
        exact ⟨B.out _, .inr ⟨X, r, k1 _, k2, k3, k4, by rw [k6, k5]; rfl, by rw [k7]; exact NewAt.none _ _, by rw [k8]; exact NewAt.none _ _, by rw [k7]; exact Loose.none _⟩⟩

/-- how many there are, if they are no more than m -/
def encCount (m : Nat) : Option (Nat × Nat) → Value
  | some (x, u) => if x ≤ m then .tuple #[.int .i64 (x : Nat), .int .i64 (u : Nat), .bool true] else .tuple #[.int .i64 0, .int .i64 0, .bool false]
  | none => .tuple #[.int .i64 0, .int .i64 0, .bool false]
theorem encCount_le {m x u : Nat} (h : x ≤ m) : encCount m (some (x, u)) = .tuple #[.int .i64 (x : Nat), .int .i64 (u : Nat), .bool true] := if_pos h
theorem encCount_gt {m x u : Nat} (h : ¬ x ≤ m) : encCount m (some (x, u)) = .tuple #[.int .i64 0, .int .i64 0, .bool false] := if_neg h
set_option maxRecDepth 100000 in
set_option maxHeartbeats 1000000 in
theorem takeCount_any (A : Option Addr) (n c : Nat) (f : Nat → Nat) (m : Nat) (hm : m ≤ 262144) (w : World) (h : Bytes w A n f) (hn : n ≤ 4194304) (hc : n ≤ c) (r : Option (Nat × Nat)) (hr : Got (seg f 0 n) r) :
    Calls Try.prog 68 #[.slice A n c, .int .u64 (m : Nat)] w fun e w' => e = .returned (encCount m r) ∧ w = w' := by
  have G := Lib.hid (get_at A n c f 0 w h hn hc (by omega) r hr)
  clear h hr
  cases r with
  | none =>
    unfold encCount
    go_enter Try.func68, Try.ntmps68
    go_wp2_with fail
    refine G.out.mono ?_
    rintro e w' ⟨rfl, rfl⟩
    unfold encGot
    go_wp2_with fail
    go_ret3
    exact ⟨rfl, rfl⟩
  | some q =>
    obtain ⟨x, u⟩ := q
    by_cases hx : x ≤ m
    · rw [encCount_le hx]
      have hg : ¬ (m : Int) < x := by omega
      have hw : IntKind.i64.wrap (x : Int) = (x : Int) := IntWalk.i64_in _ (by omega)
      go_enter Try.func68, Try.ntmps68
      go_wp2_with fail
      refine G.out.mono ?_
      rintro e w' ⟨rfl, rfl⟩
      unfold encGot
      go_wp2_with fail
      go_ret3
      exact ⟨rfl, rfl⟩
    · rw [encCount_gt hx]
      have hg : (m : Int) < x := by omega
      go_enter Try.func68, Try.ntmps68
      go_wp2_with fail
      refine G.out.mono ?_
      rintro e w' ⟨rfl, rfl⟩
      unfold encGot
      go_wp2_with fail
      go_ret3
      exact ⟨rfl, rfl⟩

set_option maxRecDepth 100000 in
set_option maxHeartbeats 4000000 in
theorem take_b (A : Option Addr) (n c : Nat) (f : Nat → Nat) (w : World) (h : Bytes w A n f) (hA : A = none → n = 0 ∧ c = 0) (hn : n ≤ 4194304) (hc : n ≤ c) (hcc : c ≤ 9223372036854775807) :
    Calls Try.prog 61 #[.slice A n c] w (KTaken 98 (seg f 0 n) w) := by
  obtain ⟨r, hr⟩ := got_is (seg f 0 n)
  have H := Lib.hid h
  have G : Hid (∀ W, Below w.heap.size w W → Calls Try.prog 68 #[.slice A n c, .int .u64 262144] W fun e w' => e = .returned (encCount 262144 r) ∧ W = w') := Lib.hid (fun W hW => takeCount_any A n c f 262144 (by omega) W (h.below hW) hn hc r hr)
  have B : Hid (Below w.heap.size w (w.alloc (.cells #[.int .u64 0, .int .i64 0, .bool false, .slice none 0 0, .slice none 0 0] 42))) := Lib.hid ((Below.refl _ w).alloc (Nat.le_refl _) _)
  clear h
  by_cases hno : ∀ x u, r = some (x, u) → ¬ x ≤ 262144
  · have NO : Hid (∀ v r, Fits 98 v → Short v → Real v → form 98 v ++ r ≠ seg f 0 n) := Lib.hid (by
      cases r with
      | none => exact none_b hr
      | some q =>
        obtain ⟨x, u⟩ := q
        obtain ⟨hx, hu, t, ht⟩ := hr
        exact great_b ht (by have := hno x u rfl; omega))
    have E : Hid (encCount 262144 r = .tuple #[.int .i64 0, .int .i64 0, .bool false]) := Lib.hid (by
      cases r with
      | none => rfl
      | some q => exact encCount_gt (hno q.1 q.2 rfl))
    clear hno hr H
    go_enter Try.func61, Try.ntmps61
    go_wp2_with fail
    refine (G.out _ B.out).mono ?_
    rintro e w' ⟨rfl, rfl⟩
    rw [E.out]
    go_wp2_with fail
    refine bodyPost_ret (results_row_tmp2 rfl _ _ w.heap.size _ _ _ _ rfl (heap_alloc_new _ _) Try.underlying42 rfl (by kernel_rfl)) rfl ?_
    exact ⟨B.out, .inl ⟨NO.out, rfl⟩⟩
  · obtain ⟨x, u, rfl, hx⟩ : ∃ x u, r = some (x, u) ∧ x ≤ 262144 := by
      cases r with
      | none => exact absurd (fun x u e => by cases e) hno
      | some q =>
        refine ⟨q.1, q.2, rfl, ?_⟩
        rcases Nat.lt_or_ge 262144 q.1 with hlt | hge
        · exact absurd (fun x u e => by injection e with e; subst e; dsimp only at hlt; omega) hno
        · exact hge
    clear hno
    obtain ⟨hx64, hu, t, ht⟩ := hr
    have hun : u ≤ n := by
      have := congrArg List.length ht
      rw [seg_len, List.length_append] at this
      omega
    rw [encCount_le hx] at G
    have U := Lib.hid hu
    by_cases hlt : n < u + x
    · have NO : Hid (∀ v r, Fits 98 v → Short v → Real v → form 98 v ++ r ≠ seg f 0 n) := Lib.hid (short_b ht (by rw [seg_len]; omega))
      have g1 : (n : Int) - u < x := by omega
      clear ht hu H
      go_enter Try.func61, Try.ntmps61
      go_wp2_with fail
      refine (G.out _ B.out).mono ?_
      rintro e w' ⟨rfl, rfl⟩
      go_wp2_with fail
      refine bodyPost_ret (results_row_tmp2 rfl _ _ w.heap.size _ _ _ _ rfl (heap_alloc_new _ _) Try.underlying42 rfl (by kernel_rfl)) rfl ?_
      exact ⟨B.out, .inl ⟨NO.out, rfl⟩⟩
    · have g1 : ¬ (n : Int) - u < x := by omega
      obtain ⟨A', hsl, hnil, hby⟩ := slice_mid A n c u x f (by omega) hc hA
      have NI := Lib.hid hnil
      have XB : Hid (∀ W, Below w.heap.size w W → Bytes W A' x (fun i => f (u + i))) := Lib.hid (fun W hW => hby W (H.out.below hW))
      have SP : Hid (seg f 0 n = word x ++ (seg (fun i => f (u + i)) 0 x ++ seg f (u + x) (n - (u + x)))) := Lib.hid (by
        obtain ⟨j, hj⟩ : ∃ j, n = u + x + j := ⟨n - (u + x), by omega⟩
        have e := ht
        rw [hj, seg_add, seg_add, List.append_assoc] at e
        have e1 := (List.append_inj e (by rw [seg_len]; exact hu)).1
        rw [show n - (u + x) = j by omega, seg_shift, hj, seg_add, seg_add, e1]
        simp [List.append_assoc])
      have XL : Hid (∀ y ∈ seg (fun i => f (u + i)) 0 x, y < 256) := Lib.hid (bytes_lt (XB.out w (Below.refl _ _)))
      have OB : Hid ((w.alloc (.cells #[.int .u64 0, .int .i64 0, .bool false, .slice none 0 0, .slice none 0 0] 42)).heap[w.heap.size]? = some (.cells #[.int .u64 0, .int .i64 0, .bool false, .slice none 0 0, .slice none 0 0] 42 (0, 0))) := Lib.hid (heap_alloc_new w _)
      have SZ : Hid ((w.alloc (.cells #[.int .u64 0, .int .i64 0, .bool false, .slice none 0 0, .slice none 0 0] 42)).heap.size = w.heap.size + 1) := Lib.hid (World.size_alloc _ _)
      clear ht hu H hnil hby
      have hl : ([] : List Nat).length + x ≤ 4194304 := by simp; omega
      go_enter Try.func61, Try.ntmps61
      go_wp2_with fail
      refine (G.out _ B.out).mono ?_
      rintro e w' ⟨rfl, rfl⟩
      go_wp2_with (at_builtin; refine wpList_append_more rfl _ _ rfl (w.heap.size + 1) _ [] rfl (World.ownsRow_nil _ _ _ _) A' x (c - u) (fun i => f (u + i)) rfl NI.out (XB.out _ B.out) hl (Nat.le_of_eq SZ.out.symm) ?_)
      intro C cC w4 hO k1 k2 hbel
      have X4 := Lib.hid ((hbel.block w.heap.size (by omega)).trans OB.out)
      have B4 : Hid (Below w.heap.size w w4) := Lib.hid (B.out.trans (hbel.mono (by omega)))
      have O4 : Hid (owns w4 (w.heap.size + 1) 5 .u8 (.slice C x cC) (seg (fun i => f (u + i)) 0 x)) := Lib.hid hO
      clear hO k1 k2 hbel
      have c0 : w4.cell? ⟨w.heap.size, 0, none⟩ = some (.int .u64 0) := by rw [cell_of_row w4 _ 0 _ _ _ X4.out]; rfl
      have y0 : w4.frozen? ⟨w.heap.size, 0, none⟩ = false := by simp [World.frozen?, X4.out]
      have c1 : w4.cell? ⟨w.heap.size, 1, none⟩ = some (.int .i64 0) := by rw [cell_of_row w4 _ 1 _ _ _ X4.out]; rfl
      have y1 : w4.frozen? ⟨w.heap.size, 1, none⟩ = false := by simp [World.frozen?, X4.out]
      have c2 : w4.cell? ⟨w.heap.size, 2, none⟩ = some (.bool false) := by rw [cell_of_row w4 _ 2 _ _ _ X4.out]; rfl
      have y2 : w4.frozen? ⟨w.heap.size, 2, none⟩ = false := by simp [World.frozen?, X4.out]
      have c3 : w4.cell? ⟨w.heap.size, 3, none⟩ = some (.slice none 0 0) := by rw [cell_of_row w4 _ 3 _ _ _ X4.out]; rfl
      have y3 : w4.frozen? ⟨w.heap.size, 3, none⟩ = false := by simp [World.frozen?, X4.out]
      have c4 : w4.cell? ⟨w.heap.size, 4, none⟩ = some (.slice none 0 0) := by rw [cell_of_row w4 _ 4 _ _ _ X4.out]; rfl
      have y4 : w4.frozen? ⟨w.heap.size, 4, none⟩ = false := by simp [World.frozen?, X4.out]
      go_wp2_with fail
      clear c0 c1 c2 c3 c4 y0 y1 y2 y3 y4
      refine bodyPost_ret (results_row_tmp2 rfl _ _ w.heap.size _ _ _ _ rfl (box_set X4.out _ _ _ _ _) Try.underlying42 rfl (by kernel_rfl)) rfl ?_
      have hov := O4.out.off (B := w.heap.size) (w' := ((((((w4.setCell ⟨w.heap.size, 0, none⟩ (.int .u64 0)).setCell ⟨w.heap.size, 1, none⟩ (.int .i64 0)).setCell ⟨w.heap.size, 2, none⟩ (.bool false)).setCell ⟨w.heap.size, 3, none⟩ (.slice C x cC)).setCell ⟨w.heap.size, 4, none⟩ (.slice none 0 0)))) (by omega) (fun k hk => box_other _ _ _ _ _ k hk)
      obtain ⟨p1, p2, p3, p4⟩ := hov.nums_n (M := 256) (by rw [seg_len]) XL.out
      obtain ⟨f1, f2, f3, f4⟩ := bytes_some C cC (l := seg (fun i => f (u + i)) 0 x) (by rw [seg_len]) hx SP.out
      have el : (bytesRV C cC (seg (fun i => f (u + i)) 0 x)).bn = x := by show (seg _ _ _).length = x; rw [seg_len]
      refine ⟨box_below B4.out (Nat.le_refl _) _ _ _ _ _, .inr ⟨bytesRV C cC (seg (fun i => f (u + i)) 0 x), _, ?_, f1, f2, f3, ?_, ?_, NewAt.none _ _, hov.loose⟩⟩
      · refine ⟨(by decide : (0 : Nat) < 18446744073709551616), (by decide : (-9223372036854775808 : Int) ≤ 0 ∧ (0 : Int) ≤ 9223372036854775807), ?_, ⟨Nums.zero _ _, fun _ => ⟨rfl, rfl⟩, Nat.zero_le _, Nat.le_refl _, Nat.zero_le _⟩⟩
        rw [el]
        exact ⟨p1, p2, by omega, p3, p4⟩
      · rw [f4, ← U.out]
        show _ = Ending.returned (.tuple #[.agg #[_, _, _, .slice C (seg (fun i => f (u + i)) 0 x).length cC, _], _, _])
        rw [seg_len]
        rfl
      · exact hov.newAt (by omega)
end Go.Proofs.Ytkjndgnjilfobaa
