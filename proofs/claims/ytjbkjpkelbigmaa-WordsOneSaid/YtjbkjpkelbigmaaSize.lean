/-
  words.Size: how many bytes a number's word has.
-/
import Derived.Test.YtjbkjpkelbigmaaDigits
namespace Go.Proofs.Ytjbkjpkelbigmaa
open Go.RowKit Go.Shelf
attribute [local go_sem] Oper.semAt_some

set_option maxRecDepth 100000 in
set_option maxHeartbeats 2000000 in
theorem size_in (F : Fence) (n : Nat) (h3 : F.fn 12) (h5 : F.fn 27) (h6 : F.fn 29) (hro : F.round = none) (hn : 3 ≤ n) (m : Nat) (hm : m < 18446744073709551616) (w : World) :
    CallsIn F n Try.prog 12 #[.int .u64 (m : Nat)] w fun e W' => e = .returned (.int .i64 ((word m).length : Nat)) ∧ Below w.heap.size w W' := by
  have h1 : 1 ≤ n := by omega
  have hten := word_ten hm
  have hdl := digs_len m
  refine callsIn_of_wp_marks Try.func12 rfl h3 ?_ hro
  simp only [Try.ntmps12, List.size_toArray, List.length_cons, List.length_nil, Nat.reduceAdd, Nat.reduceSub, Array.replicate_succ, Array.replicate_zero, List.push_toArray, List.append_toArray, List.nil_append, List.cons_append]
  have HT := Lib.hid hten; have HL := Lib.hid hdl; clear hten hdl
  gi_wp2_with (gi_at_call 27; refine (digits_in F (n - 1) h5 hro m _).mono ?_; rintro e w' ⟨rfl, rfl⟩)
  have bO := Boxed.new w 3 (.int .i64 0)
  have bN := Boxed.new (w.alloc (.cells #[.int .i64 0] 3)) 22 (.int .u64 (m : Nat))
  rw [World.size_alloc] at bN
  have hB0 : Below w.heap.size w ((w.alloc (.cells #[.int .i64 0] 3)).alloc (.cells #[.int .u64 (m : Nat)] 22)) := ((Below.refl _ w).alloc (Nat.le_refl _) _).alloc (by simp) _
  refine wpIn_rangeFunc_ownG hro h1 (gf := 29) (lb := #[.pointer (some ⟨w.heap.size + 1, 0, none⟩)]) rfl h6 (enters_of Try.func29 (by kernel_rfl) rfl)
    (digits_stops F (n - 1) h6 hro (by omega) (w.heap.size + 1) w.heap.size m hm _ (by simp) bN.cell) belowK_t (belowK_b (by simp; omega)) (Below.refl _ _) (fun _ => rfl)
    (fun pre W => Boxed W w.heap.size 3 (.int .i64 (pre.length : Nat)) ∧ Below w.heap.size w W)
    (fun _ _ _ => False)
    (OwnFrom.and (Own.from (boxed_own w.heap.size 3 (fun (pre : List (Fin 128 × Bool)) => .int .i64 (pre.length : Nat))) _) (ownFrom_below (Nat.le_refl _) (by simp; omega)))
    (fun _ _ _ _ _ hs _ _ => hs)
    ⟨bO.alloc _, hB0⟩
    (fun x => { tmps := #[.int .u64 (m : Nat), undef, .int .i64 0, .pointer (some ⟨w.heap.size, 0, none⟩), .int .u64 (m : Nat), .func (.func 29) #[] #[.pointer (some ⟨w.heap.size + 1, 0, none⟩)], .int .u8 ((x.1.val : Nat) : Int), .bool x.2, undef, undef, undef], defers := [] }) ?assign ?body ?done ?stop
  case assign =>
    intro l x W K hK
    dsimp only [digEnc]
    gi_wp2
    simpa using hK
  case body =>
    rintro l pre x W ⟨hv, hB⟩ hlt
    have hc := hv.cell
    have hf := hv.frozen
    have hb : pre.length < 10 := by have := HT.out; have := HL.out; omega
    gi_wp2
    have hv2 := hv.set (.int .i64 ((pre.length : Int) + 1))
    exact ⟨(KeepsOthers.setCell W _ _).from _, (Below.refl w.heap.size W).setCell (p := ⟨w.heap.size, 0, none⟩) (Nat.le_refl _) _, by rw [List.length_append]; exact hv2, hB.setCell (p := ⟨w.heap.size, 0, none⟩) (Nat.le_refl _) _⟩
  case done =>
    rintro D ys W hD rfl ⟨hv, hB⟩ hK
    have hc := hv.cell
    gi_wp2
    refine ⟨by simp, .inl ⟨_, _, rfl, run_takeDeferred hK, ?_⟩⟩
    exact ⟨_, results_tmp rfl _ _ _, by rw [HL.out]; rfl, hB.trans (belowK_b (w := w) (Nat.le_refl _) W D _ _ (by simp at hD; omega) hK rfl rfl)⟩
  case stop =>
    rintro D c pre W _ _ h _
    exact h.elim

theorem size_any (m : Nat) (hm : m < 18446744073709551616) (w : World) :
    Calls Try.prog 12 #[.int .u64 (m : Nat)] w fun e W' => e = .returned (.int .i64 ((word m).length : Nat)) ∧ Below w.heap.size w W' :=
  (callsIn_wide (n := 3)).1 (size_in Fence.wide 3 trivial trivial trivial rfl (by omega) m hm w)
end Go.Proofs.Ytjbkjpkelbigmaa
