/-
  The landed across, Cross, leftOf, along, turnAbout, giveOut, more, Main.
-/
import Derived.Test.YtpjhhndjbpegcaaFlex17
import Derived.Test.YtpjhhndjbpegcaaOpenM16
import Derived.Test.YtpjhhndjbpegcaaMain17
import Derived.Test.YtpjhhndjbpegcaaShare
import Derived.Laws.ResultCell
namespace Go.Proofs.Ytpjhhndjbpegcaa

section
/-- how much is given out, and the weights: of the place ahead, of those between, of that behind -/
def gP17 (left j : Int) : Int := if j = 2 then halfZ left else if (j = 3 ∨ j = 4) ∧ left < 0 then 0 else left
def wA17 (j : Int) : Nat := if j = 1 ∨ j = 2 ∨ j = 4 then 1 else 0
def wM17 (j : Int) : Nat := if j = 3 ∨ j = 4 then 1 else 0
def wB17 (j : Int) : Nat := if j = 4 then 1 else 0
def wP17 (n : Nat) (j : Int) (i : Nat) : Nat := if i = 0 then wA17 j else if i = n then wB17 j else wM17 j
def noneS17 (_ : Nat) : Bool := false
theorem open_none17 (n : Nat) : openN noneS17 n = n ∧ ∀ k, k < n → opA noneS17 n k = k := by
  induction n with
  | zero => exact ⟨rfl, fun k hk => absurd hk (by omega)⟩
  | succ n ih =>
    refine ⟨by rw [openN_new rfl, ih.1], fun k hk => ?_⟩
    by_cases c : k < n
    · rw [opA_old (by rw [ih.1]; exact c), ih.2 k c]
    · obtain rfl : k = n := by omega
      have := opA_new (S := noneS17) (n := k) rfl
      rw [ih.1] at this
      exact this
theorem opA_far17 {S : Nat → Bool} {n k : Nat} (h : openN S n ≤ k) : opA S n k = 0 := by
  unfold opA
  rw [List.getElem?_eq_none (by rw [opensL_len]; exact h)]
  rfl
theorem ShareOf.like17 {t : Int} {v : Nat → Nat} {n : Nat} {X Y : Nat → Int} (h : ShareOf t v n Y) (e : ∀ i, i < n → X i = Y i) : ShareOf t v n X := by
  obtain ⟨Z, hZ, hY⟩ := h
  exact ⟨Z, hZ, fun i hi => by rw [e i hi, hY i hi]⟩
theorem ShareOf.cong17 {t : Int} {v v' : Nat → Nat} {n : Nat} {X : Nat → Int} (h : ShareOf t v n X) (hv : ∀ i, i < n → v i = v' i) : ShareOf t v' n X := by
  obtain ⟨Y, hY⟩ := share_ex16 t v' n (fun L => ordered_ex L n)
  refine hY.like17 (fun i hi => ?_)
  obtain ⟨h1, h2⟩ := open_none17 n
  have a := h.open (S := noneS17) (fun i _ c => Bool.noConfusion (show false = true from c))
  have b := hY.open (S := noneS17) (fun i _ c => Bool.noConfusion (show false = true from c))
  have e : (fun k => v (opA noneS17 n k)) = fun k => v' (opA noneS17 n k) := by
    funext k
    refine hv _ ?_
    by_cases c : k < n
    · rw [h2 k c]; exact c
    · rw [opA_far17 (by rw [h1]; omega)]; omega
  rw [e] at a
  have := a.uniq b i (by rw [h1]; exact hi)
  simp only [h2 i hi] at this
  exact this
def endS17 (n : Nat) (i : Nat) : Bool := i == 0 || i == n
theorem open_ends17 {n : Nat} : ∀ m, 1 ≤ m → m ≤ n → openN (endS17 n) m = m - 1 ∧ ∀ k, k < m - 1 → opA (endS17 n) m k = k + 1
  | 0, h, _ => absurd h (by omega)
  | 1, _, _ => ⟨by rw [openN_old (by simp [endS17])]; rfl, fun k hk => absurd hk (by omega)⟩
  | m + 2, _, h => by
    obtain ⟨h1, h2⟩ := open_ends17 (n := n) (m + 1) (by omega) (by omega)
    have hs : endS17 n (m + 1) = false := by simp [endS17]; omega
    refine ⟨by rw [openN_new hs, h1]; omega, fun k hk => ?_⟩
    by_cases c : k < m
    · rw [opA_old (by rw [h1]; omega), h2 k (by omega)]
    · obtain rfl : k = m := by omega
      have := opA_new hs
      rw [h1] at this
      exact this
theorem extra17 {n : Nat} {left j : Int} {X : Nat → Int} (hn : 0 < n) (h : ShareOf (gP17 left j) (wP17 n j) (n + 1) X) : Extra n left j X := by
  have F := h.facts
  have first : wA17 j = 1 → wM17 j = 0 → wB17 j = 0 → ∀ i, i < n → X i = if i = 0 then gP17 left j else 0 := by
    intro ha hm hb
    have hz : ∀ i, i < n + 1 → X i = if i = 0 then X 0 else 0 := fun i hi => by
      by_cases c : i = 0
      · rw [if_pos c, c]
      · rw [if_neg c]
        refine F.zero i hi ?_
        unfold wP17
        rw [if_neg c, hm, hb]
        split <;> rfl
    have hs := F.sum (by
      have := le_sumN (wP17 n j) (show 0 < n + 1 by omega)
      have e : wP17 n j 0 = 1 := (if_pos rfl).trans ha
      omega)
    rw [sumB_first (X 0) hz (n + 1) (Nat.le_refl _), if_neg (Nat.succ_ne_zero n)] at hs
    intro i hi
    rw [hz i (by omega), hs]
  refine ⟨fun e => ?_, fun e => ?_, fun e => ⟨fun c => ?_, fun c => ?_⟩, fun e => ⟨fun c => ?_, fun c => ?_⟩, fun e1 e2 e3 e4 i hi => ?_⟩
  · subst e
    have := first rfl rfl rfl
    simpa [gP17] using this
  · subst e
    have := first rfl rfl rfl
    simpa [gP17] using this
  · subst e
    intro i hi
    by_cases cl : left ≤ 0
    · refine h.zero ?_ i (by omega)
      unfold gP17
      rw [if_neg (by decide)]
      split <;> omega
    · refine F.zero i (by omega) ?_
      unfold wP17
      have : i = 0 := by omega
      rw [if_pos this]
      rfl
  · subst e
    have hg : gP17 left 3 = left := by unfold gP17; rw [if_neg (by decide), if_neg (by omega)]
    have hend : endS17 n n = true := by simp [endS17]
    obtain ⟨h1, h2⟩ := open_ends17 (n := n) n (by omega) (Nat.le_refl _)
    have o1 : openN (endS17 n) (n + 1) = n - 1 := by rw [openN_old hend, h1]
    have o2 : ∀ k, k < n - 1 → opA (endS17 n) (n + 1) k = k + 1 := fun k hk => by rw [opA, opensL, hend, if_pos rfl, List.append_nil]; exact h2 k hk
    have a := h.open (S := endS17 n) (fun i hi c => by
      simp only [endS17, Bool.or_eq_true, beq_iff_eq] at c
      unfold wP17
      rcases c with c | c
      · rw [if_pos c]; rfl
      · rw [if_neg (by omega), if_pos c]; rfl)
    rw [o1, hg] at a
    refine ⟨_, a.cong17 (v' := fun _ => 1) (fun k hk => ?_), fun i hi => ?_⟩
    · show wP17 n 3 (opA (endS17 n) (n + 1) k) = 1
      rw [o2 k hk]
      unfold wP17
      rw [if_neg (by omega), if_neg (by omega)]
      rfl
    · by_cases c0 : i = 0
      · rw [if_pos c0]
        refine F.zero i (by omega) ?_
        unfold wP17
        rw [if_pos c0]
        rfl
      · rw [if_neg c0]
        show X i = X (opA (endS17 n) (n + 1) (i - 1))
        rw [o2 (i - 1) (by omega)]
        congr 1
        omega
  · subst e
    intro i hi
    refine h.zero ?_ i (by omega)
    unfold gP17
    rw [if_neg (by decide)]
    split <;> omega
  · subst e
    have hg : gP17 left 4 = left := by unfold gP17; rw [if_neg (by decide), if_neg (by omega)]
    rw [hg] at h
    refine ⟨X, h.cong17 (fun i _ => ?_), fun i _ => rfl⟩
    unfold wP17
    split
    · rfl
    · split <;> rfl
  · refine F.zero i (by omega) ?_
    have a : wA17 j = 0 := if_neg (by omega)
    have b : wM17 j = 0 := if_neg (by omega)
    have d : wB17 j = 0 := if_neg e4
    unfold wP17
    rw [a, b, d]
    split
    · rfl
    · split <;> rfl
/-- where the next box begins, but for what is ahead of it -/
def toP17 (f : Nat → Int) (gap : Int) (E : Nat → Int) (k : Nat) : Int := endP f gap E k + if 0 < k then gap else 0
theorem toP_zero17 (f : Nat → Int) (gap : Int) (E : Nat → Int) : toP17 f gap E 0 = 0 := by simp [toP17, endP]
theorem toP_at17 (f : Nat → Int) (gap room : Int) (E : Nat → Int) (k : Nat) : toP17 f gap E k + E k = atF f gap room false E k := by
  have e : atF f gap room false E k = endP f gap E (k + 1) - f k := if_neg Bool.false_ne_true
  rw [e, endP]
  unfold toP17
  omega
theorem toP_succ17 (f : Nat → Int) (gap : Int) (E : Nat → Int) (k : Nat) : toP17 f gap E (k + 1) = toP17 f gap E k + E k + (f k + gap) := by
  show endP f gap E (k + 1) + (if 0 < k + 1 then gap else 0) = endP f gap E k + (if 0 < k then gap else 0) + E k + (f k + gap)
  rw [endP, if_pos (Nat.succ_pos k)]
  omega
theorem at_back17 (f : Nat → Int) (gap room : Int) (E : Nat → Int) (k : Nat) : room - atF f gap room false E k - f k = atF f gap room true E k := by
  have e : atF f gap room false E k = endP f gap E (k + 1) - f k := if_neg Bool.false_ne_true
  have e2 : atF f gap room true E k = room - endP f gap E (k + 1) := if_pos rfl
  rw [e, e2]
  omega
end

section
open Go.RowKit

theorem ints_row17 {W : World} {g n : Nat} {f : Nat → Int} (h : Whole W g 3 (cellsOf .i64 n f)) (hb : ∀ i, i < n → -9223372036854775808 ≤ f i ∧ f i ≤ 9223372036854775807) : Ints W (some ⟨g, 0, none⟩) n f :=
  ⟨hb, fun _ => ⟨g, 0, rfl, h.lt, fun i hi => by rw [Nat.zero_add, h.cell]; exact cellsOf_get hi⟩⟩
theorem fits1_17 (b : Nat) (x : Int) (w : World) (hx : I64' x) (hb : b < w.heap.size) (h0 : w.cell? ⟨b, 0, none⟩ = some (.int .i64 x)) (r : Bool) (hr : decide (Fit x) = r) :
    Calls Try.prog 22 #[.slice (some ⟨b, 0, none⟩) 1 1] w fun e w' => e = .returned (.bool r) ∧ w = w' := by
  refine fits_any _ 1 1 (fun _ => x) w ⟨fun _ _ => hx, fun _ => ⟨b, 0, rfl, hb, fun i hi => ?_⟩⟩ (by omega) r ?_
  · obtain rfl : i = 0 := by omega
    exact h0
  · rw [← hr]
    unfold allFit
    exact decide_eq_decide.2 ⟨fun h => h 0 (by omega), fun h _ _ => h⟩
theorem fits2_17 (b : Nat) (x y : Int) (w : World) (hx : I64' x) (hy : I64' y) (hb : b < w.heap.size) (h0 : w.cell? ⟨b, 0, none⟩ = some (.int .i64 x)) (h1 : w.cell? ⟨b, 1, none⟩ = some (.int .i64 y)) (r : Bool) (hr : decide (Fit x ∧ Fit y) = r) :
    Calls Try.prog 22 #[.slice (some ⟨b, 0, none⟩) 2 2] w fun e w' => e = .returned (.bool r) ∧ w = w' := by
  refine fits_any _ 2 2 (fun i => if i = 0 then x else y) w ⟨fun i _ => ?_, fun _ => ⟨b, 0, rfl, hb, fun i hi => ?_⟩⟩ (by omega) r ?_
  · show I64' (if i = 0 then x else y)
    split
    · exact hx
    · exact hy
  · have : i = 0 ∨ i = 1 := by omega
    rcases this with rfl | rfl
    · exact h0
    · exact h1
  · rw [← hr]
    unfold allFit
    refine decide_eq_decide.2 ⟨fun h => ⟨h 0 (by omega), h 1 (by omega)⟩, fun h i _ => ?_⟩
    show Fit (if i = 0 then x else y)
    split
    · exact h.1
    · exact h.2
set_option maxRecDepth 100000 in
set_option maxHeartbeats 8000000 in
theorem lacross17 (left j : Int) (w : World) (hl : -4398046511104 ≤ left ∧ left ≤ 4398046511104) :
    Calls Try.prog 27 #[.int .i64 left, .int .u8 j] w fun e w' => e = .returned (.int .i64 (if j = 1 then left else if j = 2 then halfZ left else 0)) ∧ w = w' := by
  have wq := half_quo left
  have hb : -4398046511104 ≤ halfZ left ∧ halfZ left ≤ 4398046511104 := by unfold halfZ; split <;> omega
  have ww : IntKind.i64.wrap (left.tdiv 2) = halfZ left := by rw [wq]; exact IntWalk.i64_in _ (by omega)
  generalize halfZ left = q at wq ww hb ⊢
  have we : IntKind.i64.wrap q = q := IntWalk.i64_in _ (by omega)
  by_cases j1 : j = 1
  · subst j1
    rw [if_pos rfl]
    go_enter Try.func27, Try.ntmps27
    go_wp2_with fail
    go_ret
    exact ⟨rfl, rfl⟩
  have n1 : (j == 1) = false := by simp [j1]
  rw [if_neg j1]
  by_cases j2 : j = 2
  · subst j2
    rw [if_pos rfl]
    go_enter Try.func27, Try.ntmps27
    go_wp2_with fail
    go_ret
    exact ⟨rfl, rfl⟩
  have n2 : (j == 2) = false := by simp [j2]
  rw [if_neg j2]
  clear j1 j2
  go_enter Try.func27, Try.ntmps27
  go_wp2_with fail
  go_ret
  exact ⟨rfl, rfl⟩
set_option maxRecDepth 100000 in
set_option maxHeartbeats 8000000 in
theorem cross17_ok : CrossOK 14 := by
  intro outer room j w ho hr hj
  obtain ⟨p, hp⟩ : ∃ p, crossA outer room j = p := ⟨_, rfl⟩
  obtain ⟨p1, p2⟩ := p
  rw [hp]
  show Calls Try.prog 14 #[.int .i64 outer, .int .i64 room, .int .u8 j] w fun e w' => e = .returned (.tuple #[.int .i64 p1, .int .i64 p2]) ∧ Below w.heap.size w w'
  unfold crossA at hp
  by_cases h1 : room < 0
  · rw [if_pos (.inl h1)] at hp
    injection hp with e1 e2
    subst e1 e2
    have d1 : decide (room < 0) = true := decide_eq_true h1
    clear h1
    go_enter Try.func14, Try.ntmps14
    go_wp2_with fail
    go_ret2
    exact ⟨rfl, Below.refl _ _⟩
  have d1 : decide (room < 0) = false := decide_eq_false h1
  by_cases h2 : j ≠ 0 ∧ j ≠ 1 ∧ j ≠ 2 ∧ j ≠ 5
  · rw [if_pos (.inr h2)] at hp
    injection hp with e1 e2
    subst e1 e2
    have n1 : decide (2 < j) = true := decide_eq_true (by omega)
    have n5 : (j != 5) = true := by simp; omega
    clear h1 h2
    go_enter Try.func14, Try.ntmps14
    go_wp2_with fail
    go_ret2
    exact ⟨rfl, Below.refl _ _⟩
  rw [if_neg (by rintro (c | c); · exact h1 c
                 · exact h2 c)] at hp
  have h3 : ¬ (2 < j) ∨ j = 5 := by omega
  clear h2
  have KO := Lib.hid (fun g W hb h0 h1 => fits2_17 g outer room W ho hr hb h0 h1 _ rfl)
  by_cases f1 : Fit outer ∧ Fit room
  · rw [decide_eq_true f1] at KO
    rw [if_neg (by rw [← fit_of, ← fit_of]; rintro (c | c); · exact c f1.1
                   · exact c f1.2)] at hp
    have g1 := fit_of.1 f1.1
    have g2 := fit_of.1 f1.2
    obtain ⟨X, hX⟩ : ∃ X, (if j = 1 then room - outer else if j = 2 then halfZ (room - outer) else 0) = X := ⟨_, rfl⟩
    rw [hX] at hp
    have wd : IntKind.i64.wrap (room - outer) = room - outer := IntWalk.i64_in _ (by omega)
    have KA := Lib.hid (fun W => lacross17 (room - outer) j W (by omega))
    rw [hX] at KA
    have xb : I64' X := by rw [← hX]; unfold I64' halfZ; split <;> (try split) <;> (try split) <;> omega
    obtain ⟨d, hd⟩ : ∃ d, room - outer = d := ⟨_, rfl⟩
    replace wd := wd.trans hd
    rw [hd] at KA
    clear hX hd g1 g2 f1
    have KX := Lib.hid (fun g W hb h0 => fits1_17 g X W xb hb h0 _ rfl)
    clear xb
    have BZ : Hid (Below w.heap.size w (w.alloc (.cells #[.int .i64 outer, .int .i64 room] 3))) := Lib.hid ((Below.refl _ w).alloc (Nat.le_refl _) _)
    by_cases f3 : Fit X
    · rw [if_neg (by rw [← fit_of]; exact fun c => c f3)] at hp
      rw [decide_eq_true f3] at KX
      injection hp with e1 e2
      subst e1 e2
      clear f3 h1 ho hr hj
      rcases h3 with h3 | rfl
      · have n1 : decide (2 < j) = false := decide_eq_false h3
        clear h3
        go_enter Try.func14, Try.ntmps14
        go_wp2_with (first
          | (go_at_call 22; refine (KO.out _ _ (by simp) (by simp) (by simp)).mono ?_; rintro e w3 ⟨rfl, hw3⟩; have B3 : Hid (Below w.heap.size w w3) := Lib.hid (by rw [← hw3]; exact BZ.out); clear hw3 KO BZ)
          | (go_at_call 27; (with_reducible refine (KA.out _).mono ?_); rintro e w4 ⟨rfl, rfl⟩)
          | (go_at_call 22; refine (KX.out _ _ (by simp) (by simp)).mono ?_; rintro e w5 ⟨rfl, hw5⟩; have B5 : Hid (Below w.heap.size w w5) := Lib.hid (by rw [← hw5]; exact B3.out.alloc B3.out.size _); clear hw5))
        go_ret2
        exact ⟨rfl, B5.out⟩
      · go_enter Try.func14, Try.ntmps14
        go_wp2_with (first
          | (go_at_call 22; refine (KO.out _ _ (by simp) (by simp) (by simp)).mono ?_; rintro e w3 ⟨rfl, hw3⟩; have B3 : Hid (Below w.heap.size w w3) := Lib.hid (by rw [← hw3]; exact BZ.out); clear hw3 KO BZ)
          | (go_at_call 27; (with_reducible refine (KA.out _).mono ?_); rintro e w4 ⟨rfl, rfl⟩)
          | (go_at_call 22; refine (KX.out _ _ (by simp) (by simp)).mono ?_; rintro e w5 ⟨rfl, hw5⟩; have B5 : Hid (Below w.heap.size w w5) := Lib.hid (by rw [← hw5]; exact B3.out.alloc B3.out.size _); clear hw5))
        go_ret2
        exact ⟨rfl, B5.out⟩
    · rw [if_pos (by rw [← fit_of]; exact f3)] at hp
      rw [decide_eq_false f3] at KX
      injection hp with e1 e2
      subst e1 e2
      clear f3 h1 ho hr hj
      rcases h3 with h3 | rfl
      · have n1 : decide (2 < j) = false := decide_eq_false h3
        clear h3
        go_enter Try.func14, Try.ntmps14
        go_wp2_with (first
          | (go_at_call 22; refine (KO.out _ _ (by simp) (by simp) (by simp)).mono ?_; rintro e w3 ⟨rfl, hw3⟩; have B3 : Hid (Below w.heap.size w w3) := Lib.hid (by rw [← hw3]; exact BZ.out); clear hw3 KO BZ)
          | (go_at_call 27; (with_reducible refine (KA.out _).mono ?_); rintro e w4 ⟨rfl, rfl⟩)
          | (go_at_call 22; refine (KX.out _ _ (by simp) (by simp)).mono ?_; rintro e w5 ⟨rfl, hw5⟩; have B5 : Hid (Below w.heap.size w w5) := Lib.hid (by rw [← hw5]; exact B3.out.alloc B3.out.size _); clear hw5))
        go_ret2
        exact ⟨rfl, B5.out⟩
      · go_enter Try.func14, Try.ntmps14
        go_wp2_with (first
          | (go_at_call 22; refine (KO.out _ _ (by simp) (by simp) (by simp)).mono ?_; rintro e w3 ⟨rfl, hw3⟩; have B3 : Hid (Below w.heap.size w w3) := Lib.hid (by rw [← hw3]; exact BZ.out); clear hw3 KO BZ)
          | (go_at_call 27; (with_reducible refine (KA.out _).mono ?_); rintro e w4 ⟨rfl, rfl⟩)
          | (go_at_call 22; refine (KX.out _ _ (by simp) (by simp)).mono ?_; rintro e w5 ⟨rfl, hw5⟩; have B5 : Hid (Below w.heap.size w w5) := Lib.hid (by rw [← hw5]; exact B3.out.alloc B3.out.size _); clear hw5))
        go_ret2
        exact ⟨rfl, B5.out⟩
  · rw [decide_eq_false f1] at KO
    rw [if_pos (by rw [← fit_of, ← fit_of]; by_cases c : Fit outer
                   · exact .inr (fun c2 => f1 ⟨c, c2⟩)
                   · exact .inl c)] at hp
    injection hp with e1 e2
    subst e1 e2
    clear f1 h1 ho hr hj
    have BZ : Hid (Below w.heap.size w (w.alloc (.cells #[.int .i64 outer, .int .i64 room] 3))) := Lib.hid ((Below.refl _ w).alloc (Nat.le_refl _) _)
    rcases h3 with h3 | rfl
    · have n1 : decide (2 < j) = false := decide_eq_false h3
      clear h3
      go_enter Try.func14, Try.ntmps14
      go_wp2_with (go_at_call 22; refine (KO.out _ _ (by simp) (by simp) (by simp)).mono ?_; rintro e w3 ⟨rfl, hw3⟩; have B3 : Hid (Below w.heap.size w w3) := Lib.hid (by rw [← hw3]; exact BZ.out); clear hw3 KO BZ)
      go_ret2
      exact ⟨rfl, B3.out⟩
    · go_enter Try.func14, Try.ntmps14
      go_wp2_with (go_at_call 22; refine (KO.out _ _ (by simp) (by simp) (by simp)).mono ?_; rintro e w3 ⟨rfl, hw3⟩; have B3 : Hid (Below w.heap.size w w3) := Lib.hid (by rw [← hw3]; exact BZ.out); clear hw3 KO BZ)
      go_ret2
      exact ⟨rfl, B3.out⟩
set_option maxRecDepth 100000 in
set_option maxHeartbeats 8000000 in
theorem lleftOf17 (A : Option Addr) (n c : Nat) (f : Nat → Int) (gap room : Int) (w : World) (hI : Ints w A n f) (hn : n ≤ 300) (hg : 0 ≤ gap ∧ gap ≤ 1099511627776) (hr : 0 ≤ room ∧ room ≤ 1099511627776) (hf : ∀ i, i < n → Fit (f i)) :
    Calls Try.prog 23 #[.slice A n c, .int .i64 gap, .int .i64 room] w fun e w' => e = .returned (.int .i64 (leftF f gap room n)) ∧ w = w' := by
  have HI := Lib.hid hI
  have FB := Lib.hid (fun i (hi : i < n) => fit_of.1 (hf i hi))
  have BND := bnd17 hf hg
  have LB : Hid (∀ k, k ≤ n → -2251799813685248 ≤ leftF f gap room k ∧ leftF f gap room k ≤ 2251799813685248) := Lib.hid (fun k hk => by
    have h := BND k hk
    unfold leftF
    omega)
  clear hI BND hf
  go_enter Try.func23, Try.ntmps23
  go_wp2_with fail
  go_loopg [7, 13] n (fun g1 vl vi wr => ∃ k : Nat, vi = .int .i64 k ∧ vl = .int .i64 (leftF f gap room k) ∧ k ≤ n ∧ n - k ≤ g1 ∧ Hid (w = wr))
  case atStart => exact ⟨0, rfl, by simp [leftF, sumB, gapsZ], by omega, by omega, Lib.hid rfl⟩
  case round =>
    obtain ⟨k, rfl, rfl, hk, hg1, HW⟩ := hrel
    obtain rfl := HW.out
    clear HW
    by_cases hlt : k < n
    · have hz : (k : Int) < n := by omega
      have hz0 : (0 : Int) ≤ k := by omega
      have wi : IntKind.i64.wrap ((k : Int) + 1) = (k : Int) + 1 := IntWalk.i64_in _ (by omega)
      obtain ⟨bb, off, rfl, -, m0⟩ := HI.out.at_ hlt
      have l0 := LB.out k (by omega)
      have fb := FB.out k hlt
      have E := Lib.hid (left_succ17 f gap room k)
      generalize leftF f gap room k = s at l0 E ⊢
      generalize f k = y at m0 fb E
      by_cases h0 : 0 < k
      · have d1 : decide ((0 : Int) < k) = true := decide_eq_true (by omega)
        have wa0 : IntKind.i64.wrap (s - gap) = s - gap := IntWalk.i64_in _ (by omega)
        obtain ⟨t, ht⟩ : ∃ t, s - gap = t := ⟨_, rfl⟩
        have wa := wa0.trans ht
        have wb0 : IntKind.i64.wrap (t - y) = t - y := IntWalk.i64_in _ (by omega)
        obtain ⟨t2, ht2⟩ : ∃ t2, t - y = t2 := ⟨_, rfl⟩
        have wb := wb0.trans ht2
        have E3 : Hid (leftF f gap room (k + 1) = t2) := Lib.hid (by rw [E.out, if_pos h0]; omega)
        clear wa0 wb0 ht ht2 l0 fb E
        go_wp2_with fail
        go_roundg (n - (k + 1))
        case measure => omega
        case rel => exact ⟨k + 1, by go_num, by rw [E3.out], by omega, Nat.le_refl _, Lib.hid rfl⟩
      · have d1 : decide ((0 : Int) < k) = false := decide_eq_false (by omega)
        have wa0 : IntKind.i64.wrap (s - y) = s - y := IntWalk.i64_in _ (by omega)
        obtain ⟨t, ht⟩ : ∃ t, s - y = t := ⟨_, rfl⟩
        have wa := wa0.trans ht
        have E3 : Hid (leftF f gap room (k + 1) = t) := Lib.hid (by rw [E.out, if_neg h0]; omega)
        clear wa0 ht l0 fb E
        go_wp2_with fail
        go_roundg (n - (k + 1))
        case measure => omega
        case rel => exact ⟨k + 1, by go_num, by rw [E3.out], by omega, Nat.le_refl _, Lib.hid rfl⟩
    · obtain rfl : k = n := by omega
      have hz : ¬ (k : Int) < k := by omega
      go_wp2_with fail
      go_ret
      exact ⟨rfl, rfl⟩
set_option maxRecDepth 100000 in
set_option maxHeartbeats 8000000 in
theorem lalong17 (A : Option Addr) (n c gm m : Nat) (f X : Nat → Int) (gap : Int) (w : World) (hI : Ints w A n f) (hX : Whole w gm 3 (cellsOf .i64 m X)) (hm : n ≤ m) (hn : n ≤ 300) (hg : 0 ≤ gap ∧ gap ≤ 1099511627776)
    (hb : ∀ i, i < n → (-1099511627776 ≤ f i ∧ f i ≤ 1099511627776) ∧ (-1099511629824 ≤ X i ∧ X i ≤ 1099511629824) ∧ (-4503599627370496 ≤ toP17 f gap X i ∧ toP17 f gap X i ≤ 4503599627370496)) :
    Calls Try.prog 24 #[.slice A n c, .int .i64 gap, .slice (some ⟨gm, 0, none⟩) m m] w fun e w' => ∃ g, e = .returned (.slice (some ⟨g, 0, none⟩) n n) ∧ Whole w' g 3 (cellsOf .i64 n (atF f gap 0 false X)) ∧ w.heap.size ≤ g ∧ Below w.heap.size w w' := by
  have hmk := make_ints n (by omega) w
  obtain ⟨w1, hw1⟩ : ∃ W, W = w.alloc (.cells (cellsOf .i64 n (fun _ => 0)) 3) := ⟨_, rfl⟩
  have W0 : Hid (Whole w1 w.heap.size 3 (cellsOf .i64 n (fun _ => 0))) := Lib.hid (by rw [hw1]; exact Whole.new w _ _)
  have B1 : Hid (Below w.heap.size w w1) := Lib.hid (by rw [hw1]; exact (Below.refl _ w).alloc (Nat.le_refl _) _)
  rw [← hw1] at hmk
  have HI := Lib.hid hI
  have HX := Lib.hid hX
  have HB := Lib.hid hb
  have XL := Lib.hid hX.lt
  obtain ⟨g, hg'⟩ : ∃ g, w.heap.size = g := ⟨_, rfl⟩
  have GE : Hid (w.heap.size ≤ g) := Lib.hid (by omega)
  rw [hg'] at W0 hmk
  clear hI hX hb hw1 hg'
  go_enter Try.func24, Try.ntmps24
  go_wp2_with fail
  clear hmk
  go_loopg [8, 16] n (fun g1 va vi wr => ∃ k : Nat, vi = .int .i64 k ∧ va = .int .i64 (toP17 f gap X k) ∧ k ≤ n ∧ n - k ≤ g1 ∧ Hid (Whole wr g 3 (cellsOf .i64 n (fun y => if y < k then atF f gap 0 false X y else 0))) ∧ Hid (Below w.heap.size w wr))
  case atStart => exact ⟨0, rfl, by rw [toP_zero17], by omega, by omega, Lib.hid (by
    rw [cellsOf_congr (g := fun _ => 0) (fun y hy => if_neg (Nat.not_lt_zero y))]
    exact W0.out), B1⟩
  case round =>
    obtain ⟨k, rfl, rfl, hk, hg1, HA, HC⟩ := hrel
    obtain ⟨wi, hwi⟩ : ∃ wi, wi = wr := ⟨_, rfl⟩
    subst hwi
    by_cases hlt : k < n
    · have hz : (k : Int) < n := by omega
      have hz0 : (0 : Int) ≤ k := by omega
      have hzm : (k : Int) < m := by omega
      have wk : IntKind.i64.wrap ((k : Int) + 1) = (k : Int) + 1 := IntWalk.i64_in _ (by omega)
      obtain ⟨bb, off, rfl, -, m0⟩ := (HI.out.below HC.out).at_ hlt
      have cx : wi.cell? ⟨gm, k, none⟩ = some (.int .i64 (X k)) := by rw [(HX.out.below HC.out XL.out).cell]; exact cellsOf_get (by omega)
      have co : wi.cell? ⟨g, k, none⟩ = some (.int .i64 0) := by rw [HA.out.cell, cellsOf_get hlt, if_neg (Nat.lt_irrefl k)]
      have fo := HA.out.frozen k
      obtain ⟨⟨b1, b2⟩, ⟨b3, b4⟩, b5, b6⟩ := HB.out k hlt
      have E1 := toP_at17 f gap 0 X k
      have E2 := Lib.hid (toP_succ17 f gap X k)
      have NA : Hid (Whole (wi.setCell ⟨g, k, none⟩ (.int .i64 (atF f gap 0 false X k))) g 3 (cellsOf .i64 n (fun y => if y < k + 1 then atF f gap 0 false X y else 0))) := Lib.hid (by
        have h := HA.out.set_ k (.int .i64 (atF f gap 0 false X k))
        rw [cellsOf_set] at h
        rw [cellsOf_congr (g := upd (fun y => if y < k then atF f gap 0 false X y else 0) k (atF f gap 0 false X k)) (fun y hy => by
          show (if y < k + 1 then atF f gap 0 false X y else 0) = (if y = k then atF f gap 0 false X k else if y < k then atF f gap 0 false X y else 0)
          by_cases c : y = k
          · subst c
            rw [if_pos (Nat.lt_succ_self y), if_pos rfl]
          · rw [if_neg c]
            by_cases c2 : y < k
            · rw [if_pos c2, if_pos (by omega)]
            · rw [if_neg c2, if_neg (by omega)])]
        exact h)
      have NC : Hid (Below w.heap.size w (wi.setCell ⟨g, k, none⟩ (.int .i64 (atF f gap 0 false X k)))) := Lib.hid (HC.out.setCell (p := ⟨g, k, none⟩) GE.out _)
      generalize atF f gap 0 false X k = s1 at E1 NA NC
      generalize toP17 f gap X k = s at b5 b6 E1 E2 ⊢
      generalize X k = x at cx b3 b4 E1 E2
      generalize f k = y at m0 b1 b2 E2
      have wa : IntKind.i64.wrap (s + x) = s1 := by rw [IntWalk.i64_in _ (by omega)]; exact E1
      obtain ⟨u, hu⟩ : ∃ u, y + gap = u := ⟨_, rfl⟩
      have wb : IntKind.i64.wrap (y + gap) = u := by rw [IntWalk.i64_in _ (by omega)]; exact hu
      obtain ⟨u2, hu2⟩ : ∃ u2, s1 + u = u2 := ⟨_, rfl⟩
      have wc : IntKind.i64.wrap (s1 + u) = u2 := by rw [IntWalk.i64_in _ (by omega)]; exact hu2
      have E3 : Hid (toP17 f gap X (k + 1) = u2) := Lib.hid (by rw [E2.out]; omega)
      clear HA HC E1 E2 hu hu2 b1 b2 b3 b4 b5 b6
      go_wp2_with fail
      go_roundg (n - (k + 1))
      case measure => omega
      case rel => exact ⟨k + 1, by go_num, by rw [E3.out], by omega, Nat.le_refl _, NA, NC⟩
    · obtain rfl : k = n := by omega
      have hz : ¬ (k : Int) < k := by omega
      go_wp2_with fail
      go_ret
      refine ⟨g, rfl, ?_, GE.out, HC.out⟩
      rw [cellsOf_congr (g := fun y => if y < k then atF f gap 0 false X y else 0) (fun y hy => by rw [if_pos hy])]
      exact HA.out
set_option maxRecDepth 100000 in
set_option maxHeartbeats 8000000 in
theorem lturn17 (A : Option Addr) (n c g : Nat) (f b : Nat → Int) (room : Int) (w0 w : World) (hI : Ints w0 A n f) (hW : Whole w g 3 (cellsOf .i64 n b)) (hg : w0.heap.size ≤ g) (hB : Below w0.heap.size w0 w) (hn : n ≤ 300) (hr : 0 ≤ room ∧ room ≤ 1099511627776)
    (hb : ∀ i, i < n → (-1099511627776 ≤ f i ∧ f i ≤ 1099511627776) ∧ (-9007199254740992 ≤ b i ∧ b i ≤ 9007199254740992)) :
    Calls Try.prog 26 #[.slice (some ⟨g, 0, none⟩) n n, .slice A n c, .int .i64 room] w fun e w' => e = .returned (.tuple #[]) ∧ Whole w' g 3 (cellsOf .i64 n (fun i => room - b i - f i)) ∧ Below w0.heap.size w0 w' := by
  have HI := Lib.hid hI
  have HW := Lib.hid hW
  have HB := Lib.hid hb
  have GE := Lib.hid hg
  have BE := Lib.hid hB
  clear hI hW hb hg hB
  go_enter Try.func26, Try.ntmps26
  go_wp2_with fail
  go_loopg [9] n (fun g1 vi wr => ∃ k : Nat, vi = .int .i64 k ∧ k ≤ n ∧ n - k ≤ g1 ∧ Hid (Whole wr g 3 (cellsOf .i64 n (fun y => if y < k then room - b y - f y else b y))) ∧ Hid (Below w0.heap.size w0 wr))
  case atStart => exact ⟨0, rfl, by omega, by omega, Lib.hid (by
    rw [cellsOf_congr (g := b) (fun y hy => if_neg (Nat.not_lt_zero y))]
    exact HW.out), BE⟩
  case round =>
    obtain ⟨k, rfl, hk, hg1, HA, HC⟩ := hrel
    obtain ⟨wi, hwi⟩ : ∃ wi, wi = wr := ⟨_, rfl⟩
    subst hwi
    by_cases hlt : k < n
    · have hz : (k : Int) < n := by omega
      have hz0 : (0 : Int) ≤ k := by omega
      have wk : IntKind.i64.wrap ((k : Int) + 1) = (k : Int) + 1 := IntWalk.i64_in _ (by omega)
      obtain ⟨bb, off, rfl, -, m0⟩ := (HI.out.below HC.out).at_ hlt
      have co : wi.cell? ⟨g, k, none⟩ = some (.int .i64 (b k)) := by rw [HA.out.cell, cellsOf_get hlt, if_neg (Nat.lt_irrefl k)]
      have fo := HA.out.frozen k
      obtain ⟨⟨b1, b2⟩, b3, b4⟩ := HB.out k hlt
      have NA : Hid (Whole (wi.setCell ⟨g, k, none⟩ (.int .i64 (room - b k - f k))) g 3 (cellsOf .i64 n (fun y => if y < k + 1 then room - b y - f y else b y))) := Lib.hid (by
        have h := HA.out.set_ k (.int .i64 (room - b k - f k))
        rw [cellsOf_set] at h
        rw [cellsOf_congr (g := upd (fun y => if y < k then room - b y - f y else b y) k (room - b k - f k)) (fun y hy => by
          show (if y < k + 1 then room - b y - f y else b y) = (if y = k then room - b k - f k else if y < k then room - b y - f y else b y)
          by_cases c : y = k
          · subst c
            rw [if_pos (Nat.lt_succ_self y), if_pos rfl]
          · rw [if_neg c]
            by_cases c2 : y < k
            · rw [if_pos c2, if_pos (by omega)]
            · rw [if_neg c2, if_neg (by omega)])]
        exact h)
      have NC : Hid (Below w0.heap.size w0 (wi.setCell ⟨g, k, none⟩ (.int .i64 (room - b k - f k)))) := Lib.hid (HC.out.setCell (p := ⟨g, k, none⟩) GE.out _)
      generalize f k = y at m0 b1 b2 NA NC
      generalize b k = x at co b3 b4 NA NC
      obtain ⟨u, hu⟩ : ∃ u, room - x = u := ⟨_, rfl⟩
      have wa : IntKind.i64.wrap (room - x) = u := by rw [IntWalk.i64_in _ (by omega)]; exact hu
      rw [hu] at NA NC
      obtain ⟨u2, hu2⟩ : ∃ u2, u - y = u2 := ⟨_, rfl⟩
      have wb : IntKind.i64.wrap (u - y) = u2 := by rw [IntWalk.i64_in _ (by omega)]; exact hu2
      rw [hu2] at NA NC
      clear HA HC hu hu2 b1 b2 b3 b4
      go_wp2_with fail
      go_region
      go_wp2_with fail
      go_roundg (n - (k + 1))
      case measure => omega
      case rel => exact ⟨k + 1, by go_num, by omega, Nat.le_refl _, Lib.hid NA.out, Lib.hid NC.out.drew⟩
    · obtain rfl : k = n := by omega
      have hz : ¬ (k : Int) < k := by omega
      go_wp2_with fail
      go_end0
      refine ⟨rfl, ?_, HC.out⟩
      rw [cellsOf_congr (g := fun y => if y < k then room - b y - f y else b y) (fun y hy => by rw [if_pos hy])]
      exact HA.out
end

section
open Go.RowKit

theorem results_tmp_row17 {P : Program} {fn : Func} {p u : Tmp} {ty : TypeId} (h : fn.results = #[.tmp u, .cell p ty]) (tmps : Array Value) (w : World) (g : Nat) (t : TypeId) (cs : Array Value) (fr : Nat × Nat) (d : TypeDesc)
    (hp : tmps.getD p undef = .pointer (some ⟨g, 0, none⟩)) (hg : w.heap[g]? = some (.cells cs t fr))
    (hu : P.underlying ty = some d) (hd : (match d with | .struct _ | .array _ _ => true | _ => false) = true) (hi : (P.info? ty).map (·.size) = some cs.size) :
    (results fn tmps).run P w = .ok (.tuple #[tmps.getD u undef, .agg cs]) w := by
  have e := run_loadVar_row w g t ty cs fr d hg hu hd hi
  simp only [results, h]
  have hp2 : tmps[p]?.getD undef = .pointer (some ⟨g, 0, none⟩) := by simpa using hp
  simp [Result.andThen, asAddr, hp2, e]
theorem max_zero17 (x : Int) : max x 0 = if x < 0 then 0 else x := by split <;> omega
set_option maxRecDepth 100000 in
set_option maxHeartbeats 8000000 in
theorem lgive17 (left j : Int) (w : World) (hl : Fit left) (hj : 0 ≤ j ∧ j ≤ 4) :
    Calls Try.prog 30 #[.int .i64 left, .int .u8 j] w fun e w' => e = .returned (.tuple #[.int .i64 (gP17 left j), .agg #[.int .i64 (wA17 j), .int .i64 (wM17 j), .int .i64 (wB17 j)]]) ∧ Below w.heap.size w w' := by
  have h3 : j = 0 ∨ j = 1 ∨ j = 2 ∨ j = 3 ∨ j = 4 := by omega
  have fl := fit_of.1 hl
  rcases h3 with rfl | rfl | rfl | rfl | rfl
  · show Calls Try.prog 30 #[.int .i64 left, .int .u8 0] w fun e w' => e = .returned (.tuple #[.int .i64 left, .agg #[.int .i64 0, .int .i64 0, .int .i64 0]]) ∧ Below w.heap.size w w'
    clear hl hj
    go_enter Try.func30, Try.ntmps30
    go_wp2_with fail
    go_region
    go_wp2_with fail
    refine bodyPost_ret (results_tmp_row17 rfl _ _ w.heap.size 53 #[.int .i64 0, .int .i64 0, .int .i64 0] (0, 0) _ rfl (heap_alloc_new w _) Try.underlying53 rfl (by kernel_rfl)) rfl ?_
    exact ⟨rfl, ((Below.refl _ w).alloc (Nat.le_refl _) _).drew⟩
  · show Calls Try.prog 30 #[.int .i64 left, .int .u8 1] w fun e w' => e = .returned (.tuple #[.int .i64 left, .agg #[.int .i64 1, .int .i64 0, .int .i64 0]]) ∧ Below w.heap.size w w'
    clear hl hj
    go_enter Try.func30, Try.ntmps30
    go_wp2_with fail
    go_region
    go_wp2_with fail
    refine bodyPost_ret (results_tmp_row17 rfl _ _ w.heap.size 53 #[.int .i64 1, .int .i64 0, .int .i64 0] (0, 0) _ rfl (heap_alloc_new w _) Try.underlying53 rfl (by kernel_rfl)) rfl ?_
    exact ⟨rfl, ((Below.refl _ w).alloc (Nat.le_refl _) _).drew⟩
  · show Calls Try.prog 30 #[.int .i64 left, .int .u8 2] w fun e w' => e = .returned (.tuple #[.int .i64 (halfZ left), .agg #[.int .i64 1, .int .i64 0, .int .i64 0]]) ∧ Below w.heap.size w w'
    have wq := half_quo left
    have hb : -4398046511104 ≤ halfZ left ∧ halfZ left ≤ 4398046511104 := by unfold halfZ; split <;> omega
    have ww : IntKind.i64.wrap (left.tdiv 2) = halfZ left := by rw [wq]; exact IntWalk.i64_in _ (by omega)
    generalize halfZ left = q at wq ww hb ⊢
    have we : IntKind.i64.wrap q = q := IntWalk.i64_in _ (by omega)
    clear hl hj
    go_enter Try.func30, Try.ntmps30
    go_wp2_with fail
    go_region
    go_wp2_with fail
    refine bodyPost_ret (results_tmp_row17 rfl _ _ w.heap.size 53 #[.int .i64 1, .int .i64 0, .int .i64 0] (0, 0) _ rfl (heap_alloc_new w _) Try.underlying53 rfl (by kernel_rfl)) rfl ?_
    exact ⟨rfl, ((Below.refl _ w).alloc (Nat.le_refl _) _).drew⟩
  · have hm : gP17 left 3 = max left 0 := by unfold gP17; rw [if_neg (by decide), max_zero17]; split <;> split <;> omega
    rw [hm]
    show Calls Try.prog 30 #[.int .i64 left, .int .u8 3] w fun e w' => e = .returned (.tuple #[.int .i64 (max left 0), .agg #[.int .i64 0, .int .i64 1, .int .i64 0]]) ∧ Below w.heap.size w w'
    clear hm
    clear hl hj
    go_enter Try.func30, Try.ntmps30
    go_wp2_with fail
    go_region
    go_wp2_with fail
    refine bodyPost_ret (results_tmp_row17 rfl _ _ w.heap.size 53 #[.int .i64 0, .int .i64 1, .int .i64 0] (0, 0) _ rfl (heap_alloc_new w _) Try.underlying53 rfl (by kernel_rfl)) rfl ?_
    exact ⟨rfl, ((Below.refl _ w).alloc (Nat.le_refl _) _).drew⟩
  · have hm : gP17 left 4 = max left 0 := by unfold gP17; rw [if_neg (by decide), max_zero17]; split <;> split <;> omega
    rw [hm]
    show Calls Try.prog 30 #[.int .i64 left, .int .u8 4] w fun e w' => e = .returned (.tuple #[.int .i64 (max left 0), .agg #[.int .i64 1, .int .i64 1, .int .i64 1]]) ∧ Below w.heap.size w w'
    clear hm
    clear hl hj
    go_enter Try.func30, Try.ntmps30
    go_wp2_with fail
    go_region
    go_wp2_with fail
    refine bodyPost_ret (results_tmp_row17 rfl _ _ w.heap.size 53 #[.int .i64 1, .int .i64 1, .int .i64 1] (0, 0) _ rfl (heap_alloc_new w _) Try.underlying53 rfl (by kernel_rfl)) rfl ?_
    exact ⟨rfl, ((Below.refl _ w).alloc (Nat.le_refl _) _).drew⟩
theorem wP_le17 (n : Nat) (j : Int) (i : Nat) : wP17 n j i ≤ 1 := by
  unfold wP17 wA17 wM17 wB17
  split
  · split <;> omega
  · split
    · split <;> omega
    · split <;> omega
theorem fit_gP17 {left : Int} (j : Int) (h : Fit left) : Fit (gP17 left j) := by
  have := fit_of.1 h
  rw [fit_of]
  unfold gP17 halfZ
  split
  · split <;> omega
  · split <;> omega
theorem cellsOf_upd17 {g t n : Nat} {W : World} {f : Nat → Int} (h : Whole W g t (cellsOf .i64 n f)) (i : Nat) (x : Int) {f' : Nat → Int} (e : ∀ y, y < n → f' y = if y = i then x else f y) : Whole (W.setCell ⟨g, i, none⟩ (.int .i64 x)) g t (cellsOf .i64 n f') := by
  have h := h.set_ i (.int .i64 x)
  rw [cellsOf_set] at h
  rw [cellsOf_congr (g := upd f i x) (fun y hy => by rw [e y hy]; rfl)]
  exact h
set_option maxRecDepth 100000 in
set_option maxHeartbeats 8000000 in
theorem lmore17 (n : Nat) (left j : Int) (w : World) (hn : n ≤ 300) (hl : Fit left) (hj : 0 ≤ j ∧ j ≤ 4) :
    Calls Try.prog 25 #[.int .i64 left, .int .i64 (n : Nat), .int .u8 j] w fun e w' => ∃ g X, e = .returned (.slice (some ⟨g, 0, none⟩) (n + 1 : Nat) (n + 1 : Nat)) ∧ Whole w' g 3 (cellsOf .i64 (n + 1) X) ∧ ShareOf (gP17 left j) (wP17 n j) (n + 1) X ∧ w.heap.size ≤ g ∧ Below w.heap.size w w' := by
  have KG := Lib.hid (fun W => lgive17 left j W hl hj)
  have HF := Lib.hid (fit_gP17 j hl)
  have VB := Lib.hid (wP_le17 n j)
  have VE : Hid (∀ i, wP17 n j i = if i = 0 then wA17 j else if i = n then wB17 j else wM17 j) := Lib.hid (fun i => rfl)
  generalize gP17 left j = t at KG HF ⊢
  generalize wP17 n j = v at VB VE ⊢
  generalize wA17 j = a at KG VE
  generalize wM17 j = m at KG VE
  generalize wB17 j = b at KG VE
  have wn : IntKind.i64.wrap ((n : Int) + 1) = ((n + 1 : Nat) : Int) := by rw [IntWalk.i64_in _ (by omega)]; rfl
  obtain ⟨N, hN⟩ : ∃ N, n + 1 = N := ⟨_, rfl⟩
  rw [hN] at wn ⊢
  clear hl hj
  go_enter Try.func25, Try.ntmps25
  go_upto_region 2 with (go_at_call 30; (with_reducible refine (KG.out _).mono ?_); rintro e w1 ⟨rfl, hb⟩; have B1 := Lib.hid hb; clear hb)
  have X2 := Lib.hid (heap_alloc_new w1 (.cells #[.int .i64 a, .int .i64 m, .int .i64 b] 53))
  have B2 := Lib.hid (B1.out.alloc B1.out.size (.cells #[.int .i64 a, .int .i64 m, .int .i64 b] 53))
  generalize w1.alloc (.cells #[.int .i64 a, .int .i64 m, .int .i64 b] 53) = w2 at X2 B2 ⊢
  generalize w1.heap.size = q at X2 ⊢
  have QL : Hid (q < w2.heap.size) := Lib.hid (Array.getElem?_eq_some_iff.1 X2.out).1
  have QC : Hid (∀ W, Below w2.heap.size w2 W → W.cell? ⟨q, 0, none⟩ = some (.int .i64 a) ∧ W.cell? ⟨q, 1, none⟩ = some (.int .i64 m) ∧ W.cell? ⟨q, 2, none⟩ = some (.int .i64 b)) := Lib.hid (fun W hb => by
    have h0 := (hb.block q QL.out).trans X2.out
    exact ⟨by simp [World.cell?, h0], by simp [World.cell?, h0], by simp [World.cell?, h0]⟩)
  have hmk := make_ints (N) (by omega) w2
  obtain ⟨w3, hw3⟩ : ∃ W, W = w2.alloc (.cells (cellsOf .i64 (N) (fun _ => 0)) 3) := ⟨_, rfl⟩
  have W0 : Hid (Whole w3 w2.heap.size 3 (cellsOf .i64 (N) (fun _ => 0))) := Lib.hid (by rw [hw3]; exact Whole.new w2 _ _)
  have B3 : Hid (Below w2.heap.size w2 w3) := Lib.hid (by rw [hw3]; exact (Below.refl _ w2).alloc (Nat.le_refl _) _)
  rw [← hw3] at hmk
  obtain ⟨g, hg'⟩ : ∃ g, w2.heap.size = g := ⟨_, rfl⟩
  have GE : Hid (w2.heap.size ≤ g) := Lib.hid (by omega)
  rw [hg'] at W0 hmk
  clear hw3 hg' KG
  go_wp2_with fail
  clear hmk wn
  go_loopg [24] (N) (fun g1 vi wr => ∃ k : Nat, vi = .int .i64 k ∧ k ≤ N ∧ N - k ≤ g1 ∧ Hid (Whole wr g 3 (cellsOf .i64 (N) (fun y => if y < k then (m : Int) else 0))) ∧ Hid (Below w2.heap.size w2 wr))
  case atStart => exact ⟨0, rfl, by omega, by omega, Lib.hid (by
    rw [cellsOf_congr (g := fun _ => 0) (fun y hy => if_neg (Nat.not_lt_zero y))]
    exact W0.out), B3⟩
  case round =>
    obtain ⟨k, rfl, hk, hg1, HA, HC⟩ := hrel
    obtain ⟨wi, hwi⟩ : ∃ wi, wi = wr := ⟨_, rfl⟩
    subst hwi
    obtain ⟨q0, q1, q2⟩ := QC.out wi HC.out
    have NG : Hid (q ≠ g) := Lib.hid (by have := QL.out; have := GE.out; omega)
    by_cases hlt : k < N
    · have hz : (k : Int) < (N : Int) := by omega
      have hz0 : (0 : Int) ≤ k := by omega
      have wk : IntKind.i64.wrap ((k : Int) + 1) = (k : Int) + 1 := IntWalk.i64_in _ (by omega)
      have co : wi.cell? ⟨g, k, none⟩ = some (.int .i64 0) := by rw [HA.out.cell, cellsOf_get hlt, if_neg (Nat.lt_irrefl k)]
      have fo := HA.out.frozen k
      have NA : Hid (Whole (wi.setCell ⟨g, k, none⟩ (.int .i64 m)) g 3 (cellsOf .i64 (N) (fun y => if y < k + 1 then (m : Int) else 0))) := Lib.hid (cellsOf_upd17 HA.out k _ (fun y hy => by
        by_cases c : y = k
        · rw [if_pos c, if_pos (by omega)]
        · rw [if_neg c]
          by_cases c2 : y < k
          · rw [if_pos c2, if_pos (by omega)]
          · rw [if_neg c2, if_neg (by omega)]))
      have NC : Hid (Below w2.heap.size w2 (wi.setCell ⟨g, k, none⟩ (.int .i64 m))) := Lib.hid (HC.out.setCell (p := ⟨g, k, none⟩) GE.out _)
      clear HA HC q0 q2
      go_wp2_with fail
      go_roundg (N - (k + 1))
      case measure => omega
      case rel => exact ⟨k + 1, by go_num, by omega, Nat.le_refl _, NA, NC⟩
    · obtain rfl : k = N := by omega
      have hz : ¬ (k : Int) < k := by omega
      have z1 : (n : Int) < k := by omega
      have z2 : (0 : Int) ≤ (n : Nat) := by omega
      have z3 : (0 : Int) < (k : Int) := by omega
      have co : wi.cell? ⟨g, n, none⟩ = some (.int .i64 m) := by rw [HA.out.cell, cellsOf_get (by omega), if_pos (by omega)]
      have fo := HA.out.frozen n
      have N1 : Hid (Whole (wi.setCell ⟨g, n, none⟩ (.int .i64 b)) g 3 (cellsOf .i64 k (fun y => if y = n then (b : Int) else m))) := Lib.hid (cellsOf_upd17 HA.out n _ (fun y hy => by rw [if_pos hy]))
      have C1 : Hid (Below w2.heap.size w2 (wi.setCell ⟨g, n, none⟩ (.int .i64 b))) := Lib.hid (HC.out.setCell (p := ⟨g, n, none⟩) GE.out _)
      clear HA HC q0 q1
      go_upto_region 9 with fail
      clear co fo q2
      generalize wi.setCell ⟨g, n, none⟩ (.int .i64 b) = w4 at N1 C1 ⊢
      obtain ⟨q0, q1, q2⟩ := QC.out w4 C1.out
      obtain ⟨z, hz'⟩ : ∃ z : Int, (if 0 = n then (b : Int) else m) = z := ⟨_, rfl⟩
      have co : w4.cell? ⟨g, 0, none⟩ = some (.int .i64 z) := by rw [N1.out.cell, cellsOf_get (by omega), hz']
      have fo := N1.out.frozen 0
      have N2 : Hid (Whole (w4.setCell ⟨g, 0, none⟩ (.int .i64 a)) g 3 (cellsOf .i64 k (fun y => ((v y : Nat) : Int)))) := Lib.hid (cellsOf_upd17 N1.out 0 _ (fun y hy => by
        rw [VE.out y]
        by_cases c : y = 0
        · rw [if_pos c, if_pos c]
        · rw [if_neg c, if_neg c]
          by_cases c2 : y = n
          · rw [if_pos c2, if_pos c2]
          · rw [if_neg c2, if_neg c2]))
      have C2 : Hid (Below w2.heap.size w2 (w4.setCell ⟨g, 0, none⟩ (.int .i64 a))) := Lib.hid (C1.out.setCell (p := ⟨g, 0, none⟩) GE.out _)
      clear N1 C1 q1 q2 hz'
      go_upto_region 10 with fail
      clear co fo q0
      generalize w4.setCell ⟨g, 0, none⟩ (.int .i64 a) = w5 at N2 C2 ⊢
      have B5 := Lib.hid (b_nx17 B2.out C2.out)
      have KS := Lib.hid (share_yes t k k (some ⟨g, 0, none⟩) v w5 HF.out (by omega) (fun i hi => by have := VB.out i; omega) (ints_row17 N2.out (fun i hi => by have := VB.out i; omega)) (.inl (fun i hi => by
        have h1 := VB.out i
        have h2 := fit_of.1 HF.out
        have h3 : t.natAbs ≤ 1099511627776 := by omega
        have := Nat.mul_le_mul h3 h1
        omega)))
      clear N2 C2 VB VE
      go_wp2_with (go_at_call 31; (with_reducible refine KS.out.mono ?_); rintro e6 w6 ⟨gs, Y, rfl, hY, hb6, hge, hSh⟩; have MY := Lib.hid hY; have B6 := Lib.hid (b_nx17 B5.out hb6); have G6 := Lib.hid (Nat.le_trans B5.out.size hge); have SH := Lib.hid hSh; clear hY hb6 hge hSh)
      go_ret
      exact ⟨gs, Y, rfl, MY.out, SH.out, G6.out, B6.out⟩
end

section
open Go.RowKit

theorem own_row_of17 {W : World} {B g n : Nat} {f : Nat → Int} (h : Whole W g 3 (cellsOf .i64 n f)) (hg : B ≤ g) (hn : n ≤ 1048576) : ownsI17 W B (.slice (some ⟨g, 0, none⟩) n n) (listG f n) := by
  unfold ownsI17
  rw [listG_len]
  refine ⟨by rw [List.length_map, listG_len, Nat.mul_one], .inr ⟨g, n, _, rfl, hg, h, Nat.le_refl _, by unfold maxLen; omega, by simp [cellsOf], ?_⟩⟩
  apply List.ext_getElem?
  intro j
  rw [Nat.mul_one, List.getElem?_map]
  by_cases hj : j < n
  · rw [List.getElem?_take_of_lt hj, Array.getElem?_toList, cellsOf_get hj, listG_get f hj]
    rfl
  · rw [List.getElem?_eq_none (by simp; omega), List.getElem?_eq_none (by rw [listG_len]; omega)]
    rfl
theorem share_bd17 {t : Int} {v : Nat → Nat} {n : Nat} {X : Nat → Int} (h : ShareOf t v n X) (ht : Fit t) (hn : n ≤ 2048) : ∀ i, i < n → -1099511629824 ≤ X i ∧ X i ≤ 1099511629824 := by
  intro i hi
  have ht := fit_of.1 ht
  obtain ⟨Y, hG, hX⟩ := h
  have h1 := hG.bd (by omega) hn i hi
  rw [hX i hi]
  split <;> omega
theorem at_room17 (f : Nat → Int) (gap room : Int) (E : Nat → Int) (k : Nat) : atF f gap 0 false E k = atF f gap room false E k := (if_neg Bool.false_ne_true).trans (if_neg Bool.false_ne_true).symm
theorem main_ok17 {f : Nat → Int} {n : Nat} {gap room j lf : Int} {back : Bool} {X : Nat → Int} (h : askM f n gap room j = 0) (hl : leftF f gap room n = lf) (hE : 0 < n → Extra n lf j X) (fa : ∀ i, i < n → Fit (atF f gap room back X i)) : MainIs f n gap room j back (listG (atF f gap room back X) n) 0 := by
  by_cases h0 : n = 0
  · subst h0
    exact .none h rfl
  · exact .ok X h h0 (by rw [hl]; exact hE (by omega)) fa
theorem main_far17 {f : Nat → Int} {n : Nat} {gap room j lf : Int} {back : Bool} {X : Nat → Int} (h : askM f n gap room j = 0) (hl : leftF f gap room n = lf) (hE : 0 < n → Extra n lf j X) (fa : ¬ ∀ i, i < n → Fit (atF f gap room back X i)) : MainIs f n gap room j back [] 10 := by
  have h0 : n ≠ 0 := by
    rintro rfl
    exact fa (fun i hi => absurd hi (by omega))
  exact .far X h h0 (by rw [hl]; exact hE (by omega)) fa
theorem fits_g17 (A : Option Addr) (n c : Nat) (f : Nat → Int) (w : World) (h : Ints w A n f) (hn : n ≤ 300) (b : Bool) (hb : decide (∀ i, i < n → Fit (f i)) = b) :
    Calls Try.prog 22 #[.slice A n c] w fun e w' => e = .returned (.bool b) ∧ w = w' := fits_any A n c f w h (by omega) b hb
set_option maxRecDepth 100000 in
set_option maxHeartbeats 8000000 in
theorem main17_ok : MainOK 12 := by
  intro A n c f gap room j back w hI hn hc hg hr hj
  have HI := Lib.hid hI
  have NL : Hid (∀ (W : World) B, ownsI17 W B (.slice none 0 0) []) := Lib.hid (fun W B => World.ownsRow_nil W B _ _)
  have BR := Lib.hid (Below.refl w.heap.size w)
  by_cases a1 : 300 < n
  · have d1 : decide ((300 : Int) < n) = true := decide_eq_true (by omega)
    have d1n : decide (300 < n) = true := decide_eq_true a1
    have PI : Hid (MainIs f n gap room j back [] 2) := Lib.hid (bad_is (ask_two (.inl a1)) (by decide))
    clear hI hn a1
    go_enter Try.func12, Try.ntmps12
    go_wp2_with fail
    go_ret2
    exact ⟨_, [], 2, rfl, PI.out, NL.out _ _, BR.out⟩
  have d1 : decide ((300 : Int) < n) = false := decide_eq_false (by omega)
  have d1n : decide (300 < n) = false := decide_eq_false a1
  by_cases a2 : gap < 0
  · have d2 : decide (gap < 0) = true := decide_eq_true a2
    have PI : Hid (MainIs f n gap room j back [] 2) := Lib.hid (bad_is (ask_two (.inr (.inl a2))) (by decide))
    clear hI hn a2 a1
    go_enter Try.func12, Try.ntmps12
    go_wp2_with fail
    go_ret2
    exact ⟨_, [], 2, rfl, PI.out, NL.out _ _, BR.out⟩
  have d2 : decide (gap < 0) = false := decide_eq_false a2
  by_cases a3 : room < 0
  · have d3 : decide (room < 0) = true := decide_eq_true a3
    have PI : Hid (MainIs f n gap room j back [] 2) := Lib.hid (bad_is (ask_two (.inr (.inr (.inl a3)))) (by decide))
    clear hI hn a2 a1 a3
    go_enter Try.func12, Try.ntmps12
    go_wp2_with fail
    go_ret2
    exact ⟨_, [], 2, rfl, PI.out, NL.out _ _, BR.out⟩
  have d3 : decide (room < 0) = false := decide_eq_false a3
  by_cases a4 : 4 < j
  · have d4 : decide (4 < j) = true := decide_eq_true a4
    have PI : Hid (MainIs f n gap room j back [] 2) := Lib.hid (bad_is (ask_two (.inr (.inr (.inr a4)))) (by decide))
    clear hI hn a2 a1 a3 a4
    go_enter Try.func12, Try.ntmps12
    go_wp2_with fail
    go_ret2
    exact ⟨_, [], 2, rfl, PI.out, NL.out _ _, BR.out⟩
  have d4 : decide (4 < j) = false := decide_eq_false a4
  have aN : ¬ (300 < n ∨ gap < 0 ∨ room < 0 ∨ 4 < j) := by omega
  have hn3 : n ≤ 300 := by omega
  by_cases b1 : ¬ (∀ i, i < n → Fit (f i))
  · have KA := Lib.hid (fits_g17 A n c f w hI hn3 false (decide_eq_false b1))
    have PI : Hid (MainIs f n gap room j back [] 10) := Lib.hid (bad_is (ask_ten aN (fun h => b1 h.1)) (by decide))
    clear hI hn a2 a1 a3 a4 aN b1
    go_enter Try.func12, Try.ntmps12
    go_wp2_with (go_at_call 22; (with_reducible refine KA.out.mono ?_); rintro e w' ⟨rfl, rfl⟩)
    go_ret2
    exact ⟨_, [], 10, rfl, PI.out, NL.out _ _, BR.out⟩
  replace b1 := Classical.not_not.1 b1
  have KA := Lib.hid (fits_g17 A n c f w hI hn3 true (decide_eq_true b1))
  have KG := Lib.hid (fun g W hb h0 h1 => fits2_17 g gap room W hg hr hb h0 h1 _ rfl)
  have BZ : Hid (Below w.heap.size w (w.alloc (.cells #[.int .i64 gap, .int .i64 room] 3))) := Lib.hid ((Below.refl _ w).alloc (Nat.le_refl _) _)
  by_cases b2 : ¬ (Fit gap ∧ Fit room)
  · have PI : Hid (MainIs f n gap room j back [] 10) := Lib.hid (bad_is (ask_ten aN (fun h => b2 ⟨h.2.1, h.2.2⟩)) (by decide))
    rw [decide_eq_false b2] at KG
    clear hI hn a2 a1 a3 a4 aN b1 b2
    go_enter Try.func12, Try.ntmps12
    go_wp2_with (first
      | (go_at_call 22; (with_reducible refine KA.out.mono ?_); rintro e w' ⟨rfl, rfl⟩; clear KA)
      | (go_at_call 22; refine (KG.out _ _ (by simp) (by simp) (by simp)).mono ?_; rintro e w3 ⟨rfl, hw3⟩; have B3 : Hid (Below w.heap.size w w3) := Lib.hid (by rw [← hw3]; exact BZ.out); clear hw3 KG BZ))
    go_ret2
    exact ⟨_, [], 10, rfl, PI.out, NL.out _ _, B3.out⟩
  replace b2 := Classical.not_not.1 b2
  rw [decide_eq_true b2] at KG
  have AL := Lib.hid (ask_left (j := j) aN ⟨b1, b2.1, b2.2⟩)
  have g2 := fit_of.1 b2.1
  have g3 := fit_of.1 b2.2
  have BND := Lib.hid (bnd17 b1 ⟨by omega, g2.2⟩)
  have FB := Lib.hid (fun i (hi : i < n) => fit_of.1 (b1 i hi))
  have KL := Lib.hid (fun W (h : Ints W A n f) => lleftOf17 A n c f gap room W h hn3 ⟨by omega, g2.2⟩ ⟨by omega, g3.2⟩ b1)
  have l0 : -2251799813685248 ≤ leftF f gap room n ∧ leftF f gap room n ≤ 2251799813685248 := by
    have h := BND.out n (Nat.le_refl _)
    unfold leftF
    omega
  have I3 := Lib.hid (HI.out.below BZ.out)
  by_cases fl : ¬ (Fit (leftF f gap room n))
  · have PI : Hid (MainIs f n gap room j back [] 10) := Lib.hid (bad_is (by rw [AL.out, if_neg fl]) (by decide))
    have KX := Lib.hid (fun g W hb h0 => fits1_17 g (leftF f gap room n) W ⟨by omega, by omega⟩ hb h0 false (decide_eq_false fl))
    generalize leftF f gap room n = lf at KX KL
    clear hI hn a2 a1 a3 a4 aN b1 b2 fl g2 g3 l0 AL
    go_enter Try.func12, Try.ntmps12
    go_wp2_with (first
      | (go_at_call 22; (with_reducible refine KA.out.mono ?_); rintro e w' ⟨rfl, rfl⟩; clear KA)
      | (go_at_call 22; refine (KG.out _ _ (by simp) (by simp) (by simp)).mono ?_; rintro e w3 ⟨rfl, hw3⟩; have B3 : Hid (Below w.heap.size w w3) := Lib.hid (by rw [← hw3]; exact BZ.out); clear hw3 KG BZ)
      | (go_at_call 23; (with_reducible refine (KL.out _ (HI.out.below B3.out)).mono ?_); rintro e w4 ⟨rfl, rfl⟩)
      | (go_at_call 22; refine (KX.out _ _ (by simp) (by simp)).mono ?_; rintro e w5 ⟨rfl, hw5⟩; have B5 : Hid (Below w.heap.size w w5) := Lib.hid (by rw [← hw5]; exact B3.out.alloc B3.out.size _); clear hw5))
    go_ret2
    exact ⟨_, [], 10, rfl, PI.out, NL.out _ _, B5.out⟩
  replace fl := Classical.not_not.1 fl
  have AZ : Hid (askM f n gap room j = 0) := Lib.hid (by rw [AL.out, if_pos fl])
  have KX := Lib.hid (fun g W hb h0 => fits1_17 g (leftF f gap room n) W ⟨by omega, by omega⟩ hb h0 true (decide_eq_true fl))
  have KM := Lib.hid (fun W => lmore17 n (leftF f gap room n) j W hn3 fl ⟨hj.1, by omega⟩)
  have XB : Hid (∀ E, 0 < n → ShareOf (gP17 (leftF f gap room n) j) (wP17 n j) (n + 1) E → Extra n (leftF f gap room n) j E ∧ ∀ i, i ≤ n → (-1099511627776 ≤ sumB E i ∧ sumB E i ≤ 1099511627776) ∧ endP f gap E i = sumB f i + sumB E i + gapsZ gap i) := Lib.hid (fun E h0 hS => by
    have hE := extra17 h0 hS
    refine ⟨hE, fun i hi => ?_⟩
    have h := hE.facts
    have h2 := fit_of.1 fl
    refine ⟨?_, endP_sum f gap E i⟩
    by_cases c : 0 ≤ leftF f gap room n
    · have := h.up c i hi; omega
    · have := h.down (by omega) i hi; omega)
  have YB : Hid (∀ E, ShareOf (gP17 (leftF f gap room n) j) (wP17 n j) (n + 1) E → ∀ i, i < n + 1 → -1099511629824 ≤ E i ∧ E i ≤ 1099511629824) := Lib.hid (fun E hS => share_bd17 hS (fit_gP17 j fl) (by omega))
  have GB : Hid (0 ≤ gap ∧ gap ≤ 1099511627776) := Lib.hid ⟨by omega, g2.2⟩
  have RB : Hid (0 ≤ room ∧ room ≤ 1099511627776) := Lib.hid ⟨by omega, g3.2⟩
  obtain ⟨lf, hlf⟩ : ∃ lf, leftF f gap room n = lf := ⟨_, rfl⟩
  have HLF := Lib.hid hlf
  rw [hlf] at KX KL KM XB YB
  clear hI hn a2 a1 a3 a4 aN b1 b2 fl g2 g3 l0 AL hlf
  go_enter Try.func12, Try.ntmps12
  go_upto_region 8 with (first
    | (go_at_call 22; (with_reducible refine KA.out.mono ?_); rintro e w' ⟨rfl, rfl⟩; clear KA)
    | (go_at_call 22; refine (KG.out _ _ (by simp) (by simp) (by simp)).mono ?_; rintro e w3 ⟨rfl, hw3⟩; have B3 : Hid (Below w.heap.size w w3) := Lib.hid (by rw [← hw3]; exact BZ.out); clear hw3 KG BZ)
    | (go_at_call 23; (with_reducible refine (KL.out _ (HI.out.below B3.out)).mono ?_); rintro e w4 ⟨rfl, rfl⟩)
    | (go_at_call 22; refine (KX.out _ _ (by simp) (by simp)).mono ?_; rintro e w5 ⟨rfl, hw5⟩; have B5 : Hid (Below w.heap.size w w5) := Lib.hid (by rw [← hw5]; exact B3.out.alloc B3.out.size _); clear hw5))
  clear KL KX B3 d1 d1n d2 d3 d4
  have TB : Hid (∀ E, ShareOf (gP17 lf j) (wP17 n j) (n + 1) E → (∀ i, i < n → (-1099511627776 ≤ f i ∧ f i ≤ 1099511627776) ∧ (-1099511629824 ≤ E i ∧ E i ≤ 1099511629824) ∧ (-4503599627370496 ≤ toP17 f gap E i ∧ toP17 f gap E i ≤ 4503599627370496)) ∧ ∀ bk i, i < n → -9007199254740992 ≤ atF f gap room bk E i ∧ atF f gap room bk E i ≤ 9007199254740992) := Lib.hid (fun E hS => by
    have gb := GB.out
    have rb := RB.out
    refine ⟨fun i hi => ⟨FB.out i hi, YB.out E hS i (by omega), ?_⟩, fun bk i hi => ?_⟩
    · have h1 := (XB.out E (by omega) hS).2 i (by omega)
      have h2 := BND.out i (by omega)
      unfold toP17
      rw [h1.2]
      split <;> omega
    · have h1 := (XB.out E (by omega) hS).2 (i + 1) (by omega)
      have h2 := BND.out (i + 1) (by omega)
      have h3 := FB.out i hi
      unfold atF
      rw [h1.2]
      split <;> omega)
  go_upto_region 9 with (first
    | (go_at_call 25; (with_reducible refine (KM.out _).mono ?_); rintro e w6 ⟨g6, X, rfl, hX, hS, hge, hb⟩; have X6 := Lib.hid hX; have B6 := Lib.hid (b_nx17 B5.out hb); have SH := Lib.hid hS; clear hX hS hge hb)
    | (go_at_call 24; (with_reducible refine (lalong17 A n c g6 (n + 1) f X gap w6 (HI.out.below B6.out) X6.out (Nat.le_succ n) hn3 GB.out (TB.out X SH.out).1).mono ?_); rintro e w7 ⟨g, rfl, hW, hge, hb⟩; have W7 := Lib.hid hW; have B7 := Lib.hid (b_nx17 B6.out hb); have GE := Lib.hid (Nat.le_trans B6.out.size hge); clear hW hge hb))
  have AB := Lib.hid (TB.out X SH.out).2
  have EX := Lib.hid (fun h0 => (XB.out X h0 SH.out).1)
  clear KM XB YB TB X6 SH
  cases back with
  | true =>
    have KT := Lib.hid (lturn17 A n c g f (atF f gap 0 false X) room w w7 HI.out W7.out GE.out B7.out hn3 RB.out (fun i hi => ⟨FB.out i hi, by rw [at_room17 f gap room X i]; exact AB.out false i hi⟩))
    go_upto_region 11 with (go_at_call 26; (with_reducible refine KT.out.mono ?_); rintro e w8 ⟨rfl, hW, hb⟩; have W8 : Hid (Whole w8 g 3 (cellsOf .i64 n (atF f gap room true X))) := Lib.hid (by rw [cellsOf_congr (f := atF f gap room true X) (g := fun i => room - atF f gap 0 false X i - f i) (fun i hi => by rw [at_room17 f gap room X i, at_back17])]; exact hW); have B8 := Lib.hid hb; clear hW hb)
    clear KT W7 B7
    have IO := Lib.hid (ints_row17 W8.out (fun i hi => by have := AB.out true i hi; omega))
    have OO := Lib.hid (own_row_of17 W8.out GE.out (by omega))
    by_cases fa : ∀ x, x < n → Fit (atF f gap room true X x)
    · have KA := Lib.hid (fits_g17 _ n n _ w8 IO.out hn3 true (decide_eq_true fa))
      have PI := Lib.hid (main_ok17 AZ.out HLF.out EX.out fa)
      clear fa AB EX
      go_wp2_with (go_at_call 22; (with_reducible refine KA.out.mono ?_); rintro e w9 ⟨rfl, rfl⟩)
      go_ret2
      exact ⟨_, _, 0, rfl, PI.out, OO.out, B8.out⟩
    · have KA := Lib.hid (fits_g17 _ n n _ w8 IO.out hn3 false (decide_eq_false fa))
      have PI := Lib.hid (main_far17 AZ.out HLF.out EX.out fa)
      clear fa AB EX
      go_wp2_with (go_at_call 22; (with_reducible refine KA.out.mono ?_); rintro e w9 ⟨rfl, rfl⟩)
      go_ret2
      exact ⟨_, [], 10, rfl, PI.out, NL.out _ _, B8.out⟩
  | false =>
    have W8 : Hid (Whole w7 g 3 (cellsOf .i64 n (atF f gap room false X))) := Lib.hid (by rw [cellsOf_congr (f := atF f gap room false X) (g := atF f gap 0 false X) (fun i hi => (at_room17 f gap room X i).symm)]; exact W7.out)
    go_upto_region 11 with fail
    clear W7
    have IO := Lib.hid (ints_row17 W8.out (fun i hi => by have := AB.out false i hi; omega))
    have OO := Lib.hid (own_row_of17 W8.out GE.out (by omega))
    by_cases fa : ∀ x, x < n → Fit (atF f gap room false X x)
    · have KA := Lib.hid (fits_g17 _ n n _ w7 IO.out hn3 true (decide_eq_true fa))
      have PI := Lib.hid (main_ok17 AZ.out HLF.out EX.out fa)
      clear fa AB EX
      go_wp2_with (go_at_call 22; (with_reducible refine KA.out.mono ?_); rintro e w9 ⟨rfl, rfl⟩)
      go_ret2
      exact ⟨_, _, 0, rfl, PI.out, OO.out, B7.out⟩
    · have KA := Lib.hid (fits_g17 _ n n _ w7 IO.out hn3 false (decide_eq_false fa))
      have PI := Lib.hid (main_far17 AZ.out HLF.out EX.out fa)
      clear fa AB EX
      go_wp2_with (go_at_call 22; (with_reducible refine KA.out.mono ?_); rintro e w9 ⟨rfl, rfl⟩)
      go_ret2
      exact ⟨_, [], 10, rfl, PI.out, NL.out _ _, B7.out⟩
end
end Go.Proofs.Ytpjhhndjbpegcaa
