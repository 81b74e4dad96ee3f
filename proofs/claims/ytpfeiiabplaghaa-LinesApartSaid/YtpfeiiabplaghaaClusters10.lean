/-
  The law's clusters, of items as they lie; a row of items' part.
-/
import Derived.Test.YtpfeiiabplaghaaGreat10
namespace Go.Proofs.Ytpfeiiabplaghaa
open Go.RowKit

/-- does a cluster begin at a place? -/
def clB (l : List It) (j : Nat) : Bool := decide (kd l j = 3 ∨ (kd l j = 0 ∧ (j = 0 ∨ kd l (j - 1) ≠ 0)))
def clN (l : List It) (i : Nat) : Nat := ((List.range i).filter (clB l)).length
theorem clN_succ (l : List It) (i : Nat) : clN l (i + 1) = clN l i + (if clB l i then 1 else 0) := by
  unfold clN
  rw [List.range_succ, List.filter_append, List.length_append]
  cases h : clB l i <;> simp [h]
theorem clN_le (l : List It) (i : Nat) : clN l i ≤ i := by
  unfold clN
  have := List.length_filter_le (clB l) (List.range i)
  rwa [List.length_range] at this
set_option maxRecDepth 100000 in
set_option maxHeartbeats 4000000 in
theorem clusters_any10 (l : List It) (v : Value) (w : World) (hv : ItIn w v l) (hn : l.length ≤ 1000) :
    Calls Try.prog 18 #[v] w fun e w' => e = .returned (.int .i64 (clN l l.length : Nat)) ∧ w' = w := by
  have HV := Lib.hid hv
  obtain ⟨A, c, rfl, -, -⟩ := hv
  obtain ⟨n, en⟩ : ∃ n, l.length = n := ⟨_, rfl⟩
  have HN := Lib.hid en
  rw [en] at HV hn ⊢
  clear en
  go_enter Try.func18, Try.ntmps18
  go_wp2_with fail
  go_loopg [3, 4] n (fun g1 vm vi wr => ∃ i m : Nat, vi = .int .i64 i ∧ vm = .int .i64 m ∧ i ≤ n ∧ n - i ≤ g1 ∧ m ≤ i ∧ Hid (m = clN l i) ∧ w = wr)
  case atStart => exact ⟨0, 0, rfl, rfl, by omega, by omega, by omega, Lib.hid rfl, rfl⟩
  case round =>
    obtain ⟨i, m, rfl, rfl, hi, hg1, hmi, hM, rfl⟩ := hrel
    by_cases hlt : i < n
    · have hz : (i : Int) < n := by omega
      have hz0 : (0 : Int) ≤ i := by omega
      have wi : IntKind.i64.wrap ((i : Int) + 1) = (i : Int) + 1 := IntWalk.i64_in _ (by omega)
      have wm : IntKind.i64.wrap ((m : Int) + 1) = (m : Int) + 1 := IntWalk.i64_in _ (by omega)
      have NX := Lib.hid (clN_succ l i)
      obtain ⟨g, off, c', e, c0, -⟩ := HV.out.get (i := i) (by have := HN.out; omega)
      injection e with e1 e2 e3
      subst e1 e3
      clear e2
      by_cases k3 : kd l i = 3
      · have q1 : (((kd l i : Nat) : Int) == 3) = true := by rw [k3]; rfl
        have CB : Hid (clN l (i + 1) = m + 1) := Lib.hid (by rw [NX.out, hM.out, show clB l i = true by simp [clB, k3]]; rfl)
        generalize ((kd l i : Nat) : Int) = y at c0 q1
        clear k3 NX
        go_wp2_with fail
        go_roundg (n - (i + 1))
        case measure => omega
        case rel => exact ⟨i + 1, m + 1, by go_num, by go_num, by omega, Nat.le_refl _, by omega, Lib.hid CB.out.symm, rfl⟩
      · have q1 : (((kd l i : Nat) : Int) == 3) = false := beq_eq_false_iff_ne.2 (by omega)
        by_cases k0 : kd l i = 0
        · have q2 : (((kd l i : Nat) : Int) == 0) = true := by rw [k0]; rfl
          by_cases i0 : i = 0
          · have q3 : ((i : Int) == 0) = true := by rw [i0]; rfl
            have CB : Hid (clN l (i + 1) = m + 1) := Lib.hid (by rw [NX.out, hM.out, show clB l i = true by unfold clB; rw [decide_eq_true_iff]; omega]; rfl)
            generalize ((kd l i : Nat) : Int) = y at c0 q1 q2
            clear k3 k0 NX i0
            go_wp2_with fail
            go_roundg (n - (i + 1))
            case measure => omega
            case rel => exact ⟨i + 1, m + 1, by go_num, by go_num, by omega, Nat.le_refl _, by omega, Lib.hid CB.out.symm, rfl⟩
          · have q3 : ((i : Int) == 0) = false := beq_eq_false_iff_ne.2 (by omega)
            obtain ⟨j, hj⟩ : ∃ j, i = j + 1 := ⟨i - 1, by omega⟩
            have wj : IntKind.i64.wrap ((i : Int) - 1) = (j : Int) := by rw [IntWalk.i64_in _ (by omega)]; omega
            have hj0 : (0 : Int) ≤ j := by omega
            have hjn : (j : Int) < n := by omega
            obtain ⟨g2, off2, c2, e, d0, -⟩ := HV.out.get (i := j) (by have := HN.out; omega)
            injection e with e1 e2 e3
            injection e1 with e1
            injection e1 with e1 e4
            subst e1 e3 e4
            clear e2
            by_cases kj : kd l j = 0
            · have q4 : (((kd l j : Nat) : Int) != 0) = false := by rw [kj]; rfl
              have CB : Hid (clN l (i + 1) = m) := Lib.hid (by rw [NX.out, hM.out, show clB l i = false by unfold clB; rw [decide_eq_false_iff_not, show i - 1 = j by omega]; omega]; rfl)
              generalize ((kd l i : Nat) : Int) = y at c0 q1 q2
              generalize ((kd l j : Nat) : Int) = z at d0 q4
              clear k3 k0 NX kj hj
              go_wp2_with fail
              go_roundg (n - (i + 1))
              case measure => omega
              case rel => exact ⟨i + 1, m, by go_num, rfl, by omega, Nat.le_refl _, by omega, Lib.hid CB.out.symm, rfl⟩
            · have q4 : (((kd l j : Nat) : Int) != 0) = true := bne_iff_ne.2 (by omega)
              have CB : Hid (clN l (i + 1) = m + 1) := Lib.hid (by rw [NX.out, hM.out, show clB l i = true by unfold clB; rw [decide_eq_true_iff, show i - 1 = j by omega]; omega]; rfl)
              generalize ((kd l i : Nat) : Int) = y at c0 q1 q2
              generalize ((kd l j : Nat) : Int) = z at d0 q4
              clear k3 k0 NX kj hj
              go_wp2_with fail
              go_roundg (n - (i + 1))
              case measure => omega
              case rel => exact ⟨i + 1, m + 1, by go_num, by go_num, by omega, Nat.le_refl _, by omega, Lib.hid CB.out.symm, rfl⟩
        · have q2 : (((kd l i : Nat) : Int) == 0) = false := beq_eq_false_iff_ne.2 (by omega)
          have CB : Hid (clN l (i + 1) = m) := Lib.hid (by rw [NX.out, hM.out, show clB l i = false by simp [clB, k0, k3]]; rfl)
          generalize ((kd l i : Nat) : Int) = y at c0 q1 q2
          clear k3 k0 NX
          go_wp2_with fail
          go_roundg (n - (i + 1))
          case measure => omega
          case rel => exact ⟨i + 1, m, by go_num, rfl, by omega, Nat.le_refl _, by omega, Lib.hid CB.out.symm, rfl⟩
    · obtain rfl : i = n := by omega
      have hz : ¬ (i : Int) < i := by omega
      go_wp2_with fail
      go_ret
      exact ⟨congrArg (fun (k : Nat) => Ending.returned (Value.int IntKind.i64 (k : Int))) hM.out, rfl⟩
/-- a row's part -/
def part (l : List It) (a t : Nat) : List It := (l.drop a).take (t - a)
theorem part_len {l : List It} {a t : Nat} (h : a ≤ t) (ht : t ≤ l.length) : (part l a t).length = t - a := by
  unfold part
  rw [List.length_take, List.length_drop]
  omega
theorem part_kd {l : List It} {a t j : Nat} (hj : a + j < t) (_ht : t ≤ l.length) : kd (part l a t) j = kd l (a + j) ∧ wd (part l a t) j = wd l (a + j) := by
  have e : (part l a t)[j]? = l[a + j]? := by
    unfold part
    rw [List.getElem?_take_of_lt (by omega), List.getElem?_drop]
  unfold kd wd
  rw [e]
  exact ⟨rfl, rfl⟩
theorem part_in {w : World} {b off n c : Nat} {l : List It} (h : ItIn w (.slice (some ⟨b, off, none⟩) n c) l) {a t : Nat} (hat : a ≤ t) (ht : t ≤ n) : ItIn w (.slice (some ⟨b, off + a * 2, none⟩) (t - a) (c - a)) (part l a t) := by
  obtain ⟨A, c', e, hc, hq⟩ := h
  injection e with e1 e2 e3
  subst e2 e3
  have hl := part_len (l := l) hat ht
  refine ⟨_, _, by rw [hl], ⟨by rw [hl]; omega, by omega⟩, fun hne => ?_⟩
  have hlt : a < t := by
    refine Nat.lt_of_le_of_ne hat (fun e => hne ?_)
    apply List.length_eq_zero_iff.1
    rw [hl]
    omega
  obtain ⟨b', off', e, h2, h3⟩ := hq (by intro e; rw [e] at ht; simp at ht; omega)
  rw [← e1] at e
  cases e
  refine ⟨b, off + a * 2, rfl, h2, fun j hj => ?_⟩
  rw [hl] at hj
  obtain ⟨q1, q2⟩ := h3 (a + j) (by omega)
  obtain ⟨p1, p2⟩ := part_kd (l := l) (a := a) (t := t) (j := j) (by omega) ht
  rw [p1, p2, show off + a * 2 + j * 2 = off + (a + j) * 2 by omega]
  exact ⟨q1, q2⟩
/-- a cluster is one -/
theorem one_cluster {l : List It} {a : Nat} (h : Solid l a) : clN (part l a (clusterT l a)) (part l a (clusterT l a)).length = 1 := by
  obtain ⟨h1, h2, h3, h4, h5⟩ := cluster_facts h
  generalize clusterT l a = t at h1 h2 h3 h4 h5
  rw [part_len (by omega) h2]
  have key : ∀ k, k + 1 ≤ t - a → clN (part l a t) (k + 1) = 1 := fun k => by
    induction k with
    | zero =>
      intro _
      rw [clN_succ]
      have p := (part_kd (l := l) (a := a) (t := t) (j := 0) (by omega) h2).1
      have : clB (part l a t) 0 = true := by
        unfold clB
        rw [p, Nat.add_zero]
        unfold Solid at h
        simp
        omega
      rw [this]
      rfl
    | succ k ih =>
      intro hk
      rw [clN_succ, ih (by omega)]
      have p := (part_kd (l := l) (a := a) (t := t) (j := k + 1) (by omega) h2).1
      have q := (part_kd (l := l) (a := a) (t := t) (j := k) (by omega) h2).1
      have z := h5 (a + (k + 1)) (by omega) (by omega)
      have : clB (part l a t) (k + 1) = false := by
        unfold clB
        rw [p, Nat.add_sub_cancel, q]
        rw [show a + (k + 1) - 1 = a + k by omega] at z
        simp
        omega
      rw [this]
      rfl
  have := key (t - a - 1) (by omega)
  rwa [show t - a - 1 + 1 = t - a by omega] at this
end Go.Proofs.Ytpfeiiabplaghaa
