/-
  The laws MetricBeside and MetricMore.
-/
import Derived.Test.YtcphjmfiiodbhaaMetricA
namespace Go.Proofs.Ytcphjmfiiodbhaa
open Go.RowKit Go.Lib

theorem get_last (s : ByteArray) (c : UInt8) : (s ++ ⟨#[c]⟩).get! s.size = c := by
  rw [← getD_get!']
  have e : (s ++ ⟨#[c]⟩).data.toList = s.data.toList ++ [c] := by simp [ByteArray.data_append]
  rw [e, size_eq]
  simp [List.getD]
theorem widthA_in {s : ByteArray} {font : Int} (h : 1 ≤ font ∧ font ≤ 1000) : widthA s font = (wideR (runesOf s) * font, 0) := if_pos h
theorem mul_bd {a f k : Int} (ha : 0 ≤ a ∧ a ≤ 64 * k) (hf : 1 ≤ f ∧ f ≤ 1000) : 0 ≤ a * f ∧ a * f ≤ 64000 * k :=
  ⟨Int.mul_nonneg ha.1 (by omega), Int.le_trans (Int.mul_le_mul ha.2 hf.2 (by omega) (by omega)) (by omega)⟩
theorem wide_bd (s : ByteArray) {f : Int} (hf : 1 ≤ f ∧ f ≤ 1000) : 0 ≤ wideR (runesOf s) * f ∧ wideR (runesOf s) * f ≤ 64000 * s.size := by
  have h1 := wideR_bd (runesOf s)
  have h2 := runes_len s
  exact mul_bd ⟨h1.1, by omega⟩ hf
set_option maxRecDepth 100000 in
set_option maxHeartbeats 4000000 in
theorem walkMetricBeside (a0 : ByteArray) (a1 : ByteArray) (a2 : Int) (w0 : a0.size ≤ maxLen) (w1 : a1.size ≤ maxLen) (_w2 : (Lit.int .i64 a2).wf = true) (w : World) :
    Calls Try.prog 5 #[.string a0, .string a1, .int .i64 a2] w fun e w' => e = .returned (.bool true) ∧ Below w.heap.size w w' := by
  unfold maxLen at w0 w1
  have KA := Lib.hid (fun W => awake_any8 W)
  by_cases g : 2000 < a0.size ∨ 2000 < a1.size ∨ a2 < 1 ∨ 1000 < a2
  · have B := Lib.hid (Below.refl w.heap.size w)
    have G : Hid (2000 < a0.size ∨ 2000 < a1.size ∨ a2 < 1 ∨ 1000 < a2) := Lib.hid g
    by_cases h1 : 2000 < a0.size
    · have z1 : (2000 : Int) < a0.size := by omega
      clear w0 w1 g h1
      go_enter Try.func5, Try.ntmps5
      go_wp2_with (go_at_call 19; (with_reducible refine (KA.out _).mono ?_); rintro e w' ⟨rfl, hb⟩; replace B := Lib.hid (B.out.trans (hb.mono B.out.size)); clear hb)
      go_ret
      exact ⟨rfl, B.out⟩
    · have z1 : ¬ (2000 : Int) < a0.size := by omega
      by_cases h2 : 2000 < a1.size
      · have z2 : (2000 : Int) < a1.size := by omega
        clear w0 w1 g h1 h2
        go_enter Try.func5, Try.ntmps5
        go_wp2_with (go_at_call 19; (with_reducible refine (KA.out _).mono ?_); rintro e w' ⟨rfl, hb⟩; replace B := Lib.hid (B.out.trans (hb.mono B.out.size)); clear hb)
        go_ret
        exact ⟨rfl, B.out⟩
      · have z2 : ¬ (2000 : Int) < a1.size := by omega
        by_cases h3 : a2 < 1
        · clear w0 w1 g h1 h2
          go_enter Try.func5, Try.ntmps5
          go_wp2_with (go_at_call 19; (with_reducible refine (KA.out _).mono ?_); rintro e w' ⟨rfl, hb⟩; replace B := Lib.hid (B.out.trans (hb.mono B.out.size)); clear hb)
          go_ret
          exact ⟨rfl, B.out⟩
        · have h4 : 1000 < a2 := by omega
          clear w0 w1 g h1 h2
          go_enter Try.func5, Try.ntmps5
          go_wp2_with (go_at_call 19; (with_reducible refine (KA.out _).mono ?_); rintro e w' ⟨rfl, hb⟩; replace B := Lib.hid (B.out.trans (hb.mono B.out.size)); clear hb)
          go_ret
          exact ⟨rfl, B.out⟩
  · have z1 : ¬ (2000 : Int) < a0.size := by omega
    have z2 : ¬ (2000 : Int) < a1.size := by omega
    have z3 : ¬ a2 < 1 := by omega
    have z4 : ¬ 1000 < a2 := by omega
    have hf : 1 ≤ a2 ∧ a2 ≤ 1000 := by omega
    have s0 : a0.size ≤ 2000 := by omega
    have s1 : a1.size ≤ 2000 := by omega
    clear g w0 w1
    have su : (a0 ++ ⟨#[32]⟩).size = a0.size + 1 := by rw [ByteArray.size_append]; rfl
    have st : (a0 ++ ⟨#[32]⟩ ++ a1).size = a0.size + 1 + a1.size := by rw [ByteArray.size_append, su]
    have ra := runes_append (a0 ++ ⟨#[32]⟩) a1 a0.size su (by rw [get_last]; decide)
    have v1 := wide_bd (a0 ++ ⟨#[32]⟩) hf
    have v2 := wide_bd a1 hf
    have K1 := Lib.hid (fun W => width_any8 (a0 ++ ⟨#[32]⟩) a2 W (by omega) _ _ (widthA_in hf))
    have K2 := Lib.hid (fun W => width_any8 a1 a2 W (by omega) _ _ (widthA_in hf))
    have K3 := Lib.hid (fun W => width_any8 (a0 ++ ⟨#[32]⟩ ++ a1) a2 W (by omega) _ _ (widthA_in hf))
    have C1 := Lib.hid (fun W => count_any (a0 ++ ⟨#[32]⟩) W (by omega))
    have C2 := Lib.hid (fun W => count_any a1 W (by omega))
    have C3 := Lib.hid (fun W => count_any (a0 ++ ⟨#[32]⟩ ++ a1) W (by omega))
    have l1 := runes_len (a0 ++ ⟨#[32]⟩)
    have l2 := runes_len a1
    rw [ra, wideR_append, Int.add_mul] at K3
    rw [ra, List.length_append] at C3
    generalize (runesOf (a0 ++ ⟨#[32]⟩)).length = n1 at C1 C3 l1
    generalize (runesOf a1).length = n2 at C2 C3 l2
    generalize wideR (runesOf (a0 ++ ⟨#[32]⟩)) * a2 = x1 at K1 K3 v1
    generalize wideR (runesOf a1) * a2 = x2 at K2 K3 v2
    have B := Lib.hid (Below.refl w.heap.size w)
    have p1 : IntKind.i64.wrap (x1 + x2) = x1 + x2 := IntWalk.i64_in _ (by omega)
    have p2 : IntKind.i64.wrap ((n1 : Int) + n2) = ((n1 + n2 : Nat) : Int) := by rw [IntWalk.i64_in _ (by omega)]; omega
    obtain ⟨n3, h3⟩ : ∃ n3, n1 + n2 = n3 := ⟨_, rfl⟩
    rw [h3] at C3 p2
    have ad1 : ∀ W, (Op.stringOp .add a0 ⟨#[32]⟩).run Try.prog W = .ok (.string (a0 ++ ⟨#[32]⟩)) W := fun W => run_string_add_sum W _ _ (by show a0.size + 1 ≤ _; omega)
    have ad2 : ∀ W, (Op.stringOp .add (a0 ++ ⟨#[32]⟩) a1).run Try.prog W = .ok (.string (a0 ++ ⟨#[32]⟩ ++ a1)) W := fun W => run_string_add_sum W _ _ (by rw [su]; omega)
    generalize a0 ++ ⟨#[32]⟩ ++ a1 = t at *
    generalize a0 ++ ⟨#[32]⟩ = u at *
    clear su st ra v1 v2 l1 l2 h3 s0 s1 hf
    go_enter Try.func5, Try.ntmps5
    go_wp2_with (first
      | (go_at_call 19; (with_reducible refine (KA.out _).mono ?_); rintro e w' ⟨rfl, hb⟩; replace B := Lib.hid (B.out.trans (hb.mono B.out.size)); clear hb)
      | (go_at_call 15; (first | with_reducible refine (K1.out _).mono ?_ | with_reducible refine (K2.out _).mono ?_ | with_reducible refine (K3.out _).mono ?_); rintro e w' ⟨rfl, hb⟩; replace B := Lib.hid (B.out.trans (hb.mono B.out.size)); clear hb)
      | (go_at_call 17; (first | with_reducible refine (C1.out _).mono ?_ | with_reducible refine (C2.out _).mono ?_ | with_reducible refine (C3.out _).mono ?_); rintro e w' ⟨rfl, hb⟩; replace B := Lib.hid (B.out.trans (hb.mono B.out.size)); clear hb))
    go_ret
    exact ⟨rfl, B.out⟩
set_option maxRecDepth 100000 in
set_option maxHeartbeats 4000000 in
theorem walkMetricMore (a0 : ByteArray) (a1 : ByteArray) (a2 : Int) (w0 : a0.size ≤ maxLen) (w1 : a1.size ≤ maxLen) (_w2 : (Lit.int .i64 a2).wf = true) (w : World) :
    Calls Try.prog 8 #[.string a0, .string a1, .int .i64 a2] w fun e w' => e = .returned (.bool true) ∧ Below w.heap.size w w' := by
  unfold maxLen at w0 w1
  have KA := Lib.hid (fun W => awake_any8 W)
  by_cases g : 2000 < a0.size ∨ 2000 < a1.size ∨ a2 < 1 ∨ 1000 < a2
  · have B := Lib.hid (Below.refl w.heap.size w)
    have G : Hid (2000 < a0.size ∨ 2000 < a1.size ∨ a2 < 1 ∨ 1000 < a2) := Lib.hid g
    by_cases h1 : 2000 < a0.size
    · have z1 : (2000 : Int) < a0.size := by omega
      clear w0 w1 g h1
      go_enter Try.func8, Try.ntmps8
      go_wp2_with (go_at_call 19; (with_reducible refine (KA.out _).mono ?_); rintro e w' ⟨rfl, hb⟩; replace B := Lib.hid (B.out.trans (hb.mono B.out.size)); clear hb)
      go_ret
      exact ⟨rfl, B.out⟩
    · have z1 : ¬ (2000 : Int) < a0.size := by omega
      by_cases h2 : 2000 < a1.size
      · have z2 : (2000 : Int) < a1.size := by omega
        clear w0 w1 g h1 h2
        go_enter Try.func8, Try.ntmps8
        go_wp2_with (go_at_call 19; (with_reducible refine (KA.out _).mono ?_); rintro e w' ⟨rfl, hb⟩; replace B := Lib.hid (B.out.trans (hb.mono B.out.size)); clear hb)
        go_ret
        exact ⟨rfl, B.out⟩
      · have z2 : ¬ (2000 : Int) < a1.size := by omega
        by_cases h3 : a2 < 1
        · clear w0 w1 g h1 h2
          go_enter Try.func8, Try.ntmps8
          go_wp2_with (go_at_call 19; (with_reducible refine (KA.out _).mono ?_); rintro e w' ⟨rfl, hb⟩; replace B := Lib.hid (B.out.trans (hb.mono B.out.size)); clear hb)
          go_ret
          exact ⟨rfl, B.out⟩
        · have h4 : 1000 < a2 := by omega
          clear w0 w1 g h1 h2
          go_enter Try.func8, Try.ntmps8
          go_wp2_with (go_at_call 19; (with_reducible refine (KA.out _).mono ?_); rintro e w' ⟨rfl, hb⟩; replace B := Lib.hid (B.out.trans (hb.mono B.out.size)); clear hb)
          go_ret
          exact ⟨rfl, B.out⟩
  · have z1 : ¬ (2000 : Int) < a0.size := by omega
    have z2 : ¬ (2000 : Int) < a1.size := by omega
    have z3 : ¬ a2 < 1 := by omega
    have z4 : ¬ 1000 < a2 := by omega
    have hf : 1 ≤ a2 ∧ a2 ≤ 1000 := by omega
    have s0 : a0.size ≤ 2000 := by omega
    have s1 : a1.size ≤ 2000 := by omega
    clear g w0 w1
    have su : (a0 ++ ⟨#[97]⟩).size = a0.size + 1 := by rw [ByteArray.size_append]; rfl
    have st : (a0 ++ ⟨#[97]⟩ ++ a1).size = a0.size + 1 + a1.size := by rw [ByteArray.size_append, su]
    have ra := runes_append (a0 ++ ⟨#[97]⟩) a1 a0.size su (by rw [get_last]; decide)
    have v1 := wide_bd (a0 ++ ⟨#[97]⟩) hf
    have v2 := wide_bd a1 hf
    have K1 := Lib.hid (fun W => width_any8 (a0 ++ ⟨#[97]⟩) a2 W (by omega) _ _ (widthA_in hf))
    have K2 := Lib.hid (fun W => width_any8 a1 a2 W (by omega) _ _ (widthA_in hf))
    have K3 := Lib.hid (fun W => width_any8 (a0 ++ ⟨#[97]⟩ ++ a1) a2 W (by omega) _ _ (widthA_in hf))
    have C2 := Lib.hid (fun W => count_any a1 W (by omega))
    obtain ⟨L, hL⟩ := runes_last (a0 ++ ⟨#[97]⟩) a0.size su 97 (by rw [get_last]; decide) (by decide)
    have lo : 32 * a2 ≤ wideR (runesOf (a0 ++ ⟨#[97]⟩)) * a2 := by
      have q := (wideR_bd L).1
      rw [hL, wideR_append]
      exact Int.mul_le_mul_of_nonneg_right (by show 32 ≤ wideR L + (shareR 97 + 0); have : shareR 97 = 32 := by decide
                                               omega) (by omega)
    have po := runes_pos a1
    have l2 := runes_len a1
    rw [ra, wideR_append, Int.add_mul] at K3
    clear ra
    generalize (runesOf a1).length = n2 at C2 l2 po
    generalize wideR (runesOf (a0 ++ ⟨#[97]⟩)) * a2 = x1 at K1 K3 v1 lo
    generalize wideR (runesOf a1) * a2 = x2 at K2 K3 v2
    have B := Lib.hid (Below.refl w.heap.size w)
    have p1 : IntKind.i64.wrap (32 * a2) = 32 * a2 := IntWalk.i64_in _ (by omega)
    have q1 : x1 ≤ x1 + x2 := by omega
    have q2 : x2 ≤ x1 + x2 := by omega
    have q3 : (n2 : Int) ≤ a1.size := by omega
    have ad1 : ∀ W, (Op.stringOp .add a0 ⟨#[97]⟩).run Try.prog W = .ok (.string (a0 ++ ⟨#[97]⟩)) W := fun W => run_string_add_sum W _ _ (by show a0.size + 1 ≤ _; omega)
    have ad2 : ∀ W, (Op.stringOp .add (a0 ++ ⟨#[97]⟩) a1).run Try.prog W = .ok (.string (a0 ++ ⟨#[97]⟩ ++ a1)) W := fun W => run_string_add_sum W _ _ (by rw [su]; omega)
    generalize a0 ++ ⟨#[97]⟩ ++ a1 = t at *
    generalize a0 ++ ⟨#[97]⟩ = u at *
    generalize x1 + x2 = x3 at K3 q1 q2
    obtain ⟨b, hb⟩ : ∃ b, decide (0 < n2) = b := ⟨_, rfl⟩
    have eq2 : a1.toList.isEmpty = !b := by
      rw [← hb, ByteArray.toList_eq]
      by_cases e : a1.size = 0
      · have e2 : a1.data.toList = [] := List.length_eq_zero_iff.1 (by rw [← size_eq]; exact e)
        rw [e2, decide_eq_false (by omega)]
        rfl
      · have e2 : a1.data.toList ≠ [] := fun h => e (by rw [size_eq, h]; rfl)
        rw [decide_eq_true (po.2 e)]
        cases h : a1.data.toList with
        | nil => exact absurd h e2
        | cons x l => rfl
    clear su st v1 v2 l2 s0 s1 hf po hL L
    go_enter Try.func8, Try.ntmps8
    go_wp2_with (first
      | (go_at_call 19; (with_reducible refine (KA.out _).mono ?_); rintro e w' ⟨rfl, hb⟩; replace B := Lib.hid (B.out.trans (hb.mono B.out.size)); clear hb)
      | (go_at_call 15; (first | with_reducible refine (K1.out _).mono ?_ | with_reducible refine (K2.out _).mono ?_ | with_reducible refine (K3.out _).mono ?_); rintro e w' ⟨rfl, hb⟩; replace B := Lib.hid (B.out.trans (hb.mono B.out.size)); clear hb)
      | (go_at_call 17; (with_reducible refine (C2.out _).mono ?_); rintro e w' ⟨rfl, hb⟩; replace B := Lib.hid (B.out.trans (hb.mono B.out.size)); clear hb))
    go_ret
    exact ⟨rfl, B.out⟩
end Go.Proofs.Ytcphjmfiiodbhaa
