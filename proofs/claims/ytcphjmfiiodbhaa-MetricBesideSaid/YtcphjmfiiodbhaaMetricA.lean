/-
  The laws MetricShares and MetricWidths; the chapter's examples (awake).
-/
import Derived.Test.YtcphjmfiiodbhaaWidth8
import Derived.Deep.Slices
namespace Go.Proofs.Ytcphjmfiiodbhaa
open Go.RowKit Go.Lib

theorem i32_in8 {a : Int} (h : (Lit.int .i32 a).wf = true) : -2147483648 ≤ a ∧ a ≤ 2147483647 := by
  have h1 : IntKind.i32.min = -2147483648 := by decide
  have h2 : IntKind.i32.max = 2147483647 := by decide
  simpa only [Lit.wf, h1, h2, Bool.and_eq_true, decide_eq_true_eq] using h
theorem i64_in8 {a : Int} (h : (Lit.int .i64 a).wf = true) : -9223372036854775808 ≤ a ∧ a ≤ 9223372036854775807 := by
  have h1 : IntKind.i64.min = -9223372036854775808 := by decide
  have h2 : IntKind.i64.max = 9223372036854775807 := by decide
  simpa only [Lit.wf, h1, h2, Bool.and_eq_true, decide_eq_true_eq] using h
theorem u8_in8 {a : Int} (h : (Lit.int .u8 a).wf = true) : 0 ≤ a ∧ a < 256 := by
  have h1 : IntKind.u8.min = 0 := by decide
  have h2 : IntKind.u8.max = 255 := by decide
  simp only [Lit.wf, h1, h2, Bool.and_eq_true, decide_eq_true_eq] at h
  omega
set_option maxRecDepth 100000 in
set_option maxHeartbeats 4000000 in
theorem walkMetricShares (a0 : Int) (a1 : Int) (w0 : (Lit.int .i32 a0).wf = true) (_w1 : (Lit.int .i64 a1).wf = true) (w : World) :
    Calls Try.prog 3 #[.int .i32 a0, .int .i64 a1] w fun e w' => e = .returned (.bool true) ∧ Below w.heap.size w w' := by
  obtain ⟨x, ex, hx⟩ : ∃ x e, tallA 60 a1 = (x, e) := ⟨_, _, rfl⟩
  obtain ⟨y, ey, hy⟩ : ∃ x e, tallA 20 a1 = (x, e) := ⟨_, _, rfl⟩
  obtain ⟨n, hn⟩ : ∃ n, shareR a0 = n := ⟨_, rfl⟩
  have K1 := Lib.hid (fun W => up_any8 a1 W x ex hx)
  have K2 := Lib.hid (fun W => refUp_any a1 W x ex hx)
  have K3 := Lib.hid (fun W => down_any8 a1 W y ey hy)
  have K4 := Lib.hid (fun W => refDown_any a1 W y ey hy)
  have K5 := Lib.hid (fun W => mshare_any a0 W (i32_in8 w0) n hn)
  have K6 := Lib.hid (fun W => refShare8_any a0 W)
  rw [hn] at K6
  clear hx hy hn w0
  go_enter Try.func3, Try.ntmps3
  go_wp2_with (first
    | (go_at_call 9; (with_reducible refine (K1.out _).mono ?_); rintro e w' ⟨rfl, rfl⟩)
    | (go_at_call 10; (with_reducible refine (K2.out _).mono ?_); rintro e w' ⟨rfl, rfl⟩)
    | (go_at_call 11; (with_reducible refine (K3.out _).mono ?_); rintro e w' ⟨rfl, rfl⟩)
    | (go_at_call 12; (with_reducible refine (K4.out _).mono ?_); rintro e w' ⟨rfl, rfl⟩)
    | (go_at_call 13; (with_reducible refine (K5.out _).mono ?_); rintro e w' ⟨rfl, hb⟩; have B := Lib.hid hb; clear hb)
    | (go_at_call 14; (with_reducible refine (K6.out _).mono ?_); rintro e w' ⟨rfl, rfl⟩))
  go_ret
  exact ⟨rfl, B.out⟩
set_option maxRecDepth 100000 in
set_option maxHeartbeats 4000000 in
theorem walkMetricWidths (a0 : ByteArray) (a1 : Int) (w0 : a0.size ≤ maxLen) (_w1 : (Lit.int .i64 a1).wf = true) (w : World) :
    Calls Try.prog 4 #[.string a0, .int .i64 a1] w fun e w' => e = .returned (.bool true) ∧ Below w.heap.size w w' := by
  unfold maxLen at w0
  by_cases h : 5000 < a0.size
  · have hz : (5000 : Int) < a0.size := by omega
    clear w0 h
    go_enter Try.func4, Try.ntmps4
    go_wp2_with fail
    go_ret
    exact ⟨rfl, Below.refl _ _⟩
  · have hz : ¬ (5000 : Int) < a0.size := by omega
    obtain ⟨x, ex, hx⟩ : ∃ x e, widthA a0 a1 = (x, e) := ⟨_, _, rfl⟩
    have K1 := Lib.hid (fun W => width_any8 a0 a1 W (by omega) x ex hx)
    have K2 := Lib.hid (fun W => refWidth_any8 a0 a1 W (by omega) x ex hx)
    have K3 := Lib.hid (fun W => count_any a0 W (by omega))
    have K4 := Lib.hid (fun W => refCount_any a0 W (by omega))
    have B := Lib.hid (Below.refl w.heap.size w)
    generalize (runesOf a0).length = n at K3 K4
    clear hx w0 h
    go_enter Try.func4, Try.ntmps4
    go_wp2_with (first
      | (go_at_call 15; (with_reducible refine (K1.out _).mono ?_); rintro e w' ⟨rfl, hb⟩; replace B := Lib.hid (B.out.trans (hb.mono B.out.size)); clear hb)
      | (go_at_call 16; (with_reducible refine (K2.out _).mono ?_); rintro e w' ⟨rfl, rfl⟩)
      | (go_at_call 17; (with_reducible refine (K3.out _).mono ?_); rintro e w' ⟨rfl, hb⟩; replace B := Lib.hid (B.out.trans (hb.mono B.out.size)); clear hb)
      | (go_at_call 18; (with_reducible refine (K4.out _).mono ?_); rintro e w' ⟨rfl, rfl⟩))
    go_ret
    exact ⟨rfl, B.out⟩
def wia8 : ByteArray := ⟨#[87, 105, 32, 97]⟩
def bad8 : ByteArray := ⟨#[255, 254]⟩
theorem wia_width : widthA wia8 10 = (1120, 0) := by decide
theorem bad_width : widthA bad8 1 = (128, 0) := by decide
theorem nil_width : widthA ⟨#[]⟩ 0 = (0, 2) := by decide
theorem bad_count : (runesOf bad8).length = 2 := by decide
set_option maxRecDepth 100000 in
set_option maxHeartbeats 4000000 in
theorem awake_any8 (w : World) : Calls Try.prog 19 #[] w fun e w' => e = .returned (.bool true) ∧ Below w.heap.size w w' := by
  have K1 := Lib.hid (fun W => width_any8 wia8 10 W (by decide) _ _ wia_width)
  have K2 := Lib.hid (fun W => width_any8 bad8 1 W (by decide) _ _ bad_width)
  have K3 := Lib.hid (fun W => width_any8 ⟨#[]⟩ 0 W (by decide) _ _ nil_width)
  have K4 := Lib.hid (fun W => up_any8 16 W 960 0 (by decide))
  have K5 := Lib.hid (fun W => down_any8 16 W 320 0 (by decide))
  have K6 := Lib.hid (fun W => count_any bad8 W (by decide))
  have S1 := Lib.hid (fun W => mshare_any 105 W (by decide) 16 (by decide))
  have S2 := Lib.hid (fun W => mshare_any 97 W (by decide) 32 (by decide))
  have S3 := Lib.hid (fun W => mshare_any 87 W (by decide) 48 (by decide))
  have S4 := Lib.hid (fun W => mshare_any 81 W (by decide) 40 (by decide))
  have S5 := Lib.hid (fun W => mshare_any 26085 W (by decide) 64 (by decide))
  have S6 := Lib.hid (fun W => mshare_any 769 W (by decide) 0 (by decide))
  rw [bad_count] at K6
  unfold wia8 at K1
  unfold bad8 at K2 K6
  have B := Lib.hid (Below.refl w.heap.size w)
  go_enter Try.func19, Try.ntmps19
  go_wp2_with (first
    | (go_at_call 15; (first | with_reducible refine (K1.out _).mono ?_ | with_reducible refine (K2.out _).mono ?_ | with_reducible refine (K3.out _).mono ?_); rintro e w' ⟨rfl, hb⟩; replace B := Lib.hid (B.out.trans (hb.mono B.out.size)); clear hb)
    | (go_at_call 9; (with_reducible refine (K4.out _).mono ?_); rintro e w' ⟨rfl, rfl⟩)
    | (go_at_call 11; (with_reducible refine (K5.out _).mono ?_); rintro e w' ⟨rfl, rfl⟩)
    | (go_at_call 17; (with_reducible refine (K6.out _).mono ?_); rintro e w' ⟨rfl, hb⟩; replace B := Lib.hid (B.out.trans (hb.mono B.out.size)); clear hb)
    | (go_at_call 13; (first | with_reducible refine (S1.out _).mono ?_ | with_reducible refine (S2.out _).mono ?_ | with_reducible refine (S3.out _).mono ?_ | with_reducible refine (S4.out _).mono ?_ | with_reducible refine (S5.out _).mono ?_ | with_reducible refine (S6.out _).mono ?_); rintro e w' ⟨rfl, hb⟩; replace B := Lib.hid (B.out.trans (hb.mono B.out.size)); clear hb))
  go_ret
  exact ⟨rfl, B.out⟩
end Go.Proofs.Ytcphjmfiiodbhaa
