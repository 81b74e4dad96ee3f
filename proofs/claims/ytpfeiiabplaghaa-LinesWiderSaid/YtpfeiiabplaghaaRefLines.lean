/-
  The document's behind, cluster, sum, Widest, Same and Copy over items and lines.
-/
import Derived.Test.YtpfeiiabplaghaaItems
import Derived.Test.YtpfeiiabplaghaaLinesMore
import Derived.Deep.QuietTactic
import Derived.BigQuiet
import Derived.Laws.Rows
namespace Go.Proofs.Ytpfeiiabplaghaa
open Go.RowKit

/-- a pair of cells at a place -/
theorem ItIn.get {w : World} {v : Value} {l : List It} (h : ItIn w v l) {i : Nat} (hi : i < l.length) : ∃ b off c, v = .slice (some ⟨b, off, none⟩) l.length c ∧ w.cell? ⟨b, off + i * 2, none⟩ = some (.int .u8 (kd l i : Nat)) ∧ w.cell? ⟨b, off + i * 2 + 1, none⟩ = some (.int .i64 (wd l i)) := by
  obtain ⟨A, c, rfl, hc, hq⟩ := h
  obtain ⟨b, off, rfl, h2, h3⟩ := hq (by intro e; rw [e] at hi; simp at hi)
  exact ⟨b, off, c, rfl, (h3 i hi).1, (h3 i hi).2⟩
theorem behind_step {l : List It} {k : Nat} (h : kd l k = 1) : behind l k = behind l (k + 1) := by
  rw [behind, dif_pos ⟨kd_lt (by omega), h⟩]
theorem words_step {l : List It} {k : Nat} (h : kd l k = 0) : wordsT l k = wordsT l (k + 1) := by
  rw [wordsT, dif_pos ⟨kd_lt (by omega), h⟩]
theorem words_self {l : List It} {k : Nat} (h : kd l k ≠ 0) : wordsT l k = k := words_of (Nat.le_refl _) (fun j _ _ => by omega) h
set_option maxRecDepth 100000 in
set_option maxHeartbeats 4000000 in
theorem refBehind_any (l : List It) (v : Value) (w : World) (hv : ItIn w v l) (hn : l.length ≤ 1000000) (i : Nat) (hi : i ≤ l.length) :
    Calls Try.prog 20 #[v, .int .i64 i] w fun e w' => e = .returned (.int .i64 (behind l i : Nat)) ∧ w' = w := by
  have HV := Lib.hid hv
  obtain ⟨A, c, rfl, -, -⟩ := hv
  obtain ⟨r, hr⟩ : ∃ r, behind l i = r := ⟨_, rfl⟩
  rw [hr]
  obtain ⟨n, en⟩ : ∃ n, l.length = n := ⟨_, rfl⟩
  rw [en] at hi hn
  have HN := Lib.hid en
  have HR := Lib.hid hr
  rw [en]
  rw [en] at HV
  clear hr en
  go_enter Try.func20, Try.ntmps20
  go_wp2_with fail
  go_loopg [1] n (fun g1 vi wr => ∃ k : Nat, vi = .int .i64 k ∧ k ≤ n ∧ n - k ≤ g1 ∧ Hid (behind l k = r) ∧ w = wr)
  case atStart => exact ⟨i, rfl, hi, by omega, HR, rfl⟩
  case round =>
    obtain ⟨k, rfl, hk, hg1, hB, rfl⟩ := hrel
    by_cases hlt : k < n
    · have hz : (k : Int) < n := by omega
      have hz0 : (0 : Int) ≤ k := by omega
      have wi : IntKind.i64.wrap ((k : Int) + 1) = (k : Int) + 1 := IntWalk.i64_in _ (by omega)
      obtain ⟨b, off, c', e, c0, -⟩ := HV.out.get (i := k) (by have := HN.out; omega)
      obtain ⟨rfl, rfl⟩ : A = some ⟨b, off, none⟩ ∧ c = c' := by injection e with e1 e2 e3; exact ⟨e1, e3⟩
      clear e
      by_cases h : kd l k = 1
      · rw [h] at c0
        have HB : Hid (behind l (k + 1) = r) := Lib.hid (by rw [← behind_step h]; exact hB.out)
        clear h
        go_wp2_with fail
        go_roundg (n - (k + 1))
        case measure => omega
        case rel => exact ⟨k + 1, by go_num, by omega, Nat.le_refl _, HB, rfl⟩
      · have hx : ¬ ((kd l k : Nat) : Int) = 1 := by omega
        have R : Hid (r = k) := Lib.hid (by rw [← hB.out, behind_self h])
        generalize ((kd l k : Nat) : Int) = x at c0 hx
        clear h
        go_wp2_with fail
        go_ret
        exact ⟨by rw [R.out]; rfl, rfl⟩
    · obtain rfl : k = n := by omega
      have hz : ¬ (k : Int) < k := by omega
      have R : Hid (r = k) := Lib.hid (by rw [← hB.out, behind_self (by rw [kd_end (by have := HN.out; omega)]; decide)])
      go_wp2_with fail
      go_ret
      exact ⟨by rw [R.out]; rfl, rfl⟩
set_option maxRecDepth 100000 in
set_option maxHeartbeats 4000000 in
theorem refCluster_any (l : List It) (v : Value) (w : World) (hv : ItIn w v l) (hn : l.length ≤ 1000000) (i : Nat) (hi : i ≤ l.length) :
    Calls Try.prog 21 #[v, .int .i64 i] w fun e w' => e = .returned (.int .i64 (clusterT l i : Nat)) ∧ w' = w := by
  have HV := Lib.hid hv
  obtain ⟨A, c, rfl, -, -⟩ := hv
  by_cases h3 : i < l.length ∧ kd l i = 3
  · obtain ⟨hlt, h3⟩ := h3
    obtain ⟨b, off, c', e, c0, -⟩ := HV.out.get hlt
    obtain ⟨rfl, rfl⟩ : A = some ⟨b, off, none⟩ ∧ c = c' := by injection e with e1 e2 e3; exact ⟨e1, e3⟩
    have R : clusterT l i = i + 1 := by
      unfold clusterT
      rw [if_pos ⟨hlt, h3⟩]
    rw [R]
    rw [h3] at c0
    have hz : (i : Int) < l.length := by omega
    have hz0 : (0 : Int) ≤ i := by omega
    have wi : IntKind.i64.wrap ((i : Int) + 1) = (i : Int) + 1 := IntWalk.i64_in _ (by omega)
    clear e R h3 HV
    go_enter Try.func21, Try.ntmps21
    go_wp2_with fail
    go_ret
    exact ⟨by go_num, rfl⟩
  · obtain ⟨r, hr⟩ : ∃ r, clusterT l i = r := ⟨_, rfl⟩
    have HR : Hid (wordsT l i = r) := Lib.hid (by rw [← hr]; unfold clusterT; rw [if_neg h3])
    rw [hr]
    have C0 : i < l.length → ∃ b off, A = some ⟨b, off, none⟩ ∧ ∃ x : Int, ¬ x = 3 ∧ w.cell? ⟨b, off + i * 2, none⟩ = some (.int .u8 x) := fun hlt => by
      obtain ⟨b, off, c', e, c0, -⟩ := HV.out.get hlt
      injection e with e1 e2 e3
      exact ⟨b, off, e1, _, by omega, c0⟩
    obtain ⟨n, en⟩ : ∃ n, l.length = n := ⟨_, rfl⟩
    rw [en] at hi hn HV C0
    have HN := Lib.hid en
    rw [en]
    have C := Lib.hid C0
    clear hr en h3 C0
    go_enter Try.func21, Try.ntmps21
    by_cases hlt : i < n
    · have hz : (i : Int) < n := by omega
      have hz0 : (0 : Int) ≤ i := by omega
      obtain ⟨b, off, rfl, x, hx, c0⟩ := C.out hlt
      go_wp2_with fail
      rw [beq_eq_false_iff_ne.2 hx]
      clear C hx c0 hz hz0 hlt
      go_loopg [1] n (fun g1 vi wr => ∃ k : Nat, vi = .int .i64 k ∧ k ≤ n ∧ n - k ≤ g1 ∧ Hid (wordsT l k = r) ∧ w = wr)
      case atStart => exact ⟨i, rfl, hi, by omega, HR, rfl⟩
      case round =>
        obtain ⟨k, rfl, hk, hg1, hB, rfl⟩ := hrel
        by_cases hlt : k < n
        · have hz : (k : Int) < n := by omega
          have hz0 : (0 : Int) ≤ k := by omega
          have wi : IntKind.i64.wrap ((k : Int) + 1) = (k : Int) + 1 := IntWalk.i64_in _ (by omega)
          obtain ⟨b, off, c', e, c0, -⟩ := HV.out.get (i := k) (by have := HN.out; omega)
          injection e with e1 e2 e3
          injection e1 with e1
          injection e1 with e1 e4
          subst e1 e4 e3
          clear e2
          by_cases h : kd l k = 0
          · rw [h] at c0
            have HB : Hid (wordsT l (k + 1) = r) := Lib.hid (by rw [← words_step h]; exact hB.out)
            clear h
            go_wp2_with fail
            go_roundg (n - (k + 1))
            case measure => omega
            case rel => exact ⟨k + 1, by go_num, by omega, Nat.le_refl _, HB, rfl⟩
          · have hx : ¬ ((kd l k : Nat) : Int) = 0 := by omega
            have R : Hid (r = k) := Lib.hid (by rw [← hB.out, words_self h])
            generalize ((kd l k : Nat) : Int) = x at c0 hx
            clear h
            go_wp2_with fail
            go_ret
            exact ⟨by rw [R.out]; rfl, rfl⟩
        · obtain rfl : k = n := by omega
          have hz : ¬ (k : Int) < k := by omega
          have R : Hid (r = k) := Lib.hid (by rw [← hB.out, words_self (by rw [kd_end (by have := HN.out; omega)]; decide)])
          go_wp2_with fail
          go_ret
          exact ⟨by rw [R.out]; rfl, rfl⟩
    · have hz : ¬ (i : Int) < n := by omega
      go_wp2_with fail
      clear C hz hlt
      go_loopg [1] n (fun g1 vi wr => ∃ k : Nat, vi = .int .i64 k ∧ k ≤ n ∧ n - k ≤ g1 ∧ Hid (wordsT l k = r) ∧ w = wr)
      case atStart => exact ⟨i, rfl, hi, by omega, HR, rfl⟩
      case round =>
        obtain ⟨k, rfl, hk, hg1, hB, rfl⟩ := hrel
        by_cases hlt : k < n
        · have hz : (k : Int) < n := by omega
          have hz0 : (0 : Int) ≤ k := by omega
          have wi : IntKind.i64.wrap ((k : Int) + 1) = (k : Int) + 1 := IntWalk.i64_in _ (by omega)
          obtain ⟨b, off, c', e, c0, -⟩ := HV.out.get (i := k) (by have := HN.out; omega)
          injection e with e1 e2 e3
          subst e1 e3
          clear e2
          by_cases h : kd l k = 0
          · rw [h] at c0
            have HB : Hid (wordsT l (k + 1) = r) := Lib.hid (by rw [← words_step h]; exact hB.out)
            clear h
            go_wp2_with fail
            go_roundg (n - (k + 1))
            case measure => omega
            case rel => exact ⟨k + 1, by go_num, by omega, Nat.le_refl _, HB, rfl⟩
          · have hx : ¬ ((kd l k : Nat) : Int) = 0 := by omega
            have R : Hid (r = k) := Lib.hid (by rw [← hB.out, words_self h])
            generalize ((kd l k : Nat) : Int) = x at c0 hx
            clear h
            go_wp2_with fail
            go_ret
            exact ⟨by rw [R.out]; rfl, rfl⟩
        · obtain rfl : k = n := by omega
          have hz : ¬ (k : Int) < k := by omega
          have R : Hid (r = k) := Lib.hid (by rw [← hB.out, words_self (by rw [kd_end (by have := HN.out; omega)]; decide)])
          go_wp2_with fail
          go_ret
          exact ⟨by rw [R.out]; rfl, rfl⟩
/-- no width is farther from 0 than so much -/
def Within (l : List It) (M : Int) : Prop := ∀ i, i < l.length → -M ≤ wd l i ∧ wd l i ≤ M
theorem within_all {l : List It} {M : Int} (h : Within l M) (h0 : 0 ≤ M) (i : Nat) : -M ≤ wd l i ∧ wd l i ≤ M := by
  by_cases c : i < l.length
  · exact h i c
  · rw [wd_end (by omega)]
    omega
theorem sum_bound {l : List It} {M : Int} (h : Within l M) (h0 : 0 ≤ M) (a n : Nat) : -(n * M) ≤ sumI l a (a + n) ∧ sumI l a (a + n) ≤ n * M := by
  induction n with
  | zero => rw [Nat.add_zero, sum_self]; simp
  | succ n ih =>
    rw [← Nat.add_assoc, sum_succ]
    have := within_all h h0 (a + n)
    have e : ((n + 1 : Nat) : Int) * M = n * M + M := by rw [Int.natCast_add, Int.add_mul]; simp
    rw [e]
    omega
theorem sum_64 {l : List It} (h : Within l 1099511627776) (a b : Nat) (hab : a ≤ b) (hb : b ≤ 1000000) : -9223372036854775808 ≤ sumI l a b ∧ sumI l a b ≤ 9223372036854775807 := by
  obtain ⟨n, rfl⟩ := Nat.exists_eq_add_of_le hab
  have := sum_bound h (by omega) a n
  omega
set_option maxRecDepth 100000 in
set_option maxHeartbeats 4000000 in
theorem refSum_any (l : List It) (v : Value) (w : World) (hv : ItIn w v l) (hn : l.length ≤ 1000000) (hw : Within l 1099511627776) (a b : Nat) (hab : a ≤ b) (hb : b ≤ l.length) :
    Calls Try.prog 22 #[v, .int .i64 a, .int .i64 b] w fun e w' => e = .returned (.int .i64 (sumI l a b)) ∧ w' = w := by
  have HV := Lib.hid hv
  have HW := Lib.hid hw
  obtain ⟨A, c, rfl, -, -⟩ := hv
  obtain ⟨n, en⟩ : ∃ n, l.length = n := ⟨_, rfl⟩
  rw [en] at hb hn HV
  have HN := Lib.hid en
  rw [en]
  clear en hw
  go_enter Try.func22, Try.ntmps22
  go_wp2_with fail
  go_loopg [7, 8] b (fun g1 vs vi wr => ∃ k : Nat, vi = .int .i64 k ∧ vs = .int .i64 (sumI l a k) ∧ a ≤ k ∧ k ≤ b ∧ b - k ≤ g1 ∧ w = wr)
  case atStart => exact ⟨a, rfl, by rw [sum_self], Nat.le_refl _, hab, Nat.sub_le _ _, rfl⟩
  case round =>
    obtain ⟨k, rfl, rfl, hak, hkb, hg1, rfl⟩ := hrel
    by_cases hlt : k < b
    · have hz : (k : Int) < b := by omega
      have hz0 : (0 : Int) ≤ k := by omega
      have hzn : (k : Int) < n := by omega
      have wi : IntKind.i64.wrap ((k : Int) + 1) = (k : Int) + 1 := IntWalk.i64_in _ (by omega)
      obtain ⟨g, off, c', e, -, c1⟩ := HV.out.get (i := k) (by have := HN.out; omega)
      injection e with e1 e2 e3
      subst e1 e3
      clear e2
      have S := Lib.hid (sum_succ l a k)
      have ws : IntKind.i64.wrap (sumI l a k + wd l k) = sumI l a k + wd l k := by
        rw [← sum_succ]
        exact IntWalk.i64_in _ (sum_64 HW.out a (k + 1) (by omega) (by omega))
      generalize wd l k = x at c1 ws S
      generalize hs : sumI l a k = s at ws S
      clear hs
      go_wp2_with fail
      go_roundg (b - (k + 1))
      case measure => omega
      case rel => exact ⟨k + 1, by go_num, by rw [S.out], by omega, by omega, Nat.le_refl _, rfl⟩
    · obtain rfl : k = b := by omega
      have hz : ¬ (k : Int) < k := by omega
      go_wp2_with fail
      go_ret
      exact ⟨rfl, rfl⟩
theorem widest_snoc (r : List Ln) (x : Ln) : widestT (r ++ [x]) = if widestT r < x.2.2 then x.2.2 else widestT r := by
  unfold widestT
  rw [List.foldl_append]
  rfl
set_option maxRecDepth 100000 in
set_option maxHeartbeats 4000000 in
theorem refWidest_any (r : List Ln) (v : Value) (w : World) (hv : LnIn w v r) (hn : r.length ≤ 1000000) :
    Calls Try.prog 14 #[v] w fun e w' => e = .returned (.int .i64 (widestT r)) ∧ w' = w := by
  obtain ⟨A, c, rfl, -, hA⟩ := hv
  have HA := Lib.hid hA
  obtain ⟨n, en⟩ : ∃ n, r.length = n := ⟨_, rfl⟩
  rw [en] at hn
  have HN := Lib.hid en
  rw [en]
  clear en hA
  go_enter Try.func14, Try.ntmps14
  go_wp2_with fail
  go_loopg [3, 4] n (fun g1 vs vi wr => ∃ k : Nat, vi = .int .i64 k ∧ vs = .int .i64 (widestT (r.take k)) ∧ k ≤ n ∧ n - k ≤ g1 ∧ w = wr)
  case atStart => exact ⟨0, rfl, rfl, by omega, by omega, rfl⟩
  case round =>
    obtain ⟨k, rfl, rfl, hk, hg1, rfl⟩ := hrel
    by_cases hlt : k < n
    · have hz : (k : Int) < n := by omega
      have hz0 : (0 : Int) ≤ k := by omega
      have wi : IntKind.i64.wrap ((k : Int) + 1) = (k : Int) + 1 := IntWalk.i64_in _ (by omega)
      have hlp : k < r.length := by have := HN.out; omega
      obtain ⟨g, rfl, -, hat⟩ := HA.out (by intro e; rw [e] at hlp; simp at hlp)
      obtain ⟨-, -, c2⟩ := hat k _ (List.getElem?_eq_getElem hlp)
      have TK : Hid (widestT (r.take (k + 1)) = if widestT (r.take k) < (r[k]).2.2 then (r[k]).2.2 else widestT (r.take k)) := Lib.hid (by
        rw [List.take_add_one, List.getElem?_eq_getElem hlp]
        exact widest_snoc _ _)
      clear hat
      generalize (r[k]).2.2 = x at c2 TK
      generalize hm : widestT (r.take k) = m at TK
      clear hm
      by_cases h : m < x
      · have T2 := Lib.hid TK.out
        rw [if_pos h] at T2
        clear TK
        go_wp2_with fail
        go_roundg (n - (k + 1))
        case measure => omega
        case rel => exact ⟨k + 1, by go_num, by rw [T2.out], by omega, Nat.le_refl _, rfl⟩
      · have T2 := Lib.hid TK.out
        rw [if_neg h] at T2
        clear TK
        go_wp2_with fail
        go_roundg (n - (k + 1))
        case measure => omega
        case rel => exact ⟨k + 1, by go_num, by rw [T2.out], by omega, Nat.le_refl _, rfl⟩
    · obtain rfl : k = n := by omega
      have hz : ¬ (k : Int) < k := by omega
      have T2 : Hid (r.take k = r) := Lib.hid (by rw [← HN.out, List.take_length])
      rw [T2.out]
      go_wp2_with fail
      go_ret
      exact ⟨rfl, rfl⟩
theorem refCopy_any10 (l : List It) (v : Value) (w : World) (hv : ItIn w v l) (hnil : ∀ n c, v = .slice none n c → n = 0 ∧ c = 0) (hn : l.length ≤ 100000) :
    Calls Try.prog 9 #[v] w fun e w' => ∃ u, e = .returned u ∧ ownsI w' w.heap.size u l ∧ Below w.heap.size w w' := by
  have HV := Lib.hid hv
  obtain ⟨A, c, rfl, -, -⟩ := hv
  go_enter Try.func9, Try.ntmps9
  go_wp2_with (refine wpList_append_its rfl (.tmp 4) (.tmp 5) rfl w.heap.size (.slice none 0 0) [] rfl (ownsI.nil _ _) l A c rfl ?_ ?_ (by simpa using hn) (Nat.le_refl _) (fun v' w' h1 h2 _ => ?_))
  · rintro p rfl j u hu
    have hj := (List.getElem?_eq_some_iff.1 hu).1
    rw [cellsI_len] at hj
    obtain ⟨b, off, c', e, c0, c1⟩ := HV.out.get (i := j / 2) (by omega)
    injection e with e1 e2 e3
    injection e1 with e1
    subst e1
    have g0 := flat_get itCells 2 itCells_len (l := l) (j := j / 2) (by omega) (i := 0) (by omega)
    have g1 := flat_get itCells 2 itCells_len (l := l) (j := j / 2) (by omega) (i := 1) (by omega)
    rw [Go.WideShapes.add_plain]
    unfold cellsI at hu
    rw [kd_get (by omega)] at c0
    rw [wd_get (by omega)] at c1
    by_cases hp : j % 2 = 0
    · rw [show j / 2 * 2 + 0 = j by omega] at g0
      rw [g0] at hu
      rw [show off + j = off + j / 2 * 2 by omega, c0]
      exact hu
    · rw [show j / 2 * 2 + 1 = j by omega] at g1
      rw [g1] at hu
      rw [show off + j = off + j / 2 * 2 + 1 by omega, c1]
      exact hu
  · rintro rfl
    have := hnil _ _ rfl
    exact ⟨List.length_eq_zero_iff.1 this.1, this.2⟩
  · rw [List.nil_append] at h1
    go_wp2_with fail
    go_ret
    exact ⟨_, rfl, h1, h2⟩
end Go.Proofs.Ytpfeiiabplaghaa
