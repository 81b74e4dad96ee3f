/-
  metric.Count, Width, Up and Down: how many characters a text has, how wide it is; a font's heights.
-/
import Derived.Test.YtcphjmfiiodbhaaShare8
import Derived.Test.YtcphjmfiiodbhaaRefWidth8
import Derived.Laws.RangeAny
import Derived.LoopTactic
namespace Go.Proofs.Ytcphjmfiiodbhaa
open Go.RowKit Go.Lib

set_option maxRecDepth 100000 in
set_option maxHeartbeats 4000000 in
theorem count_any (s : ByteArray) (w : World) (hs : s.size ≤ 16384) :
    Calls Try.prog 17 #[.string s] w fun e w' => e = .returned (.int .i64 ((runesOf s).length : Nat)) ∧ Below w.heap.size w w' := by
  obtain ⟨n, hn⟩ : ∃ n, (runesOf s).length = n := ⟨_, rfl⟩
  rw [hn]
  have n0 : n = 0 + (rnsAt s 0).length := by rw [← hn, Nat.zero_add]; rfl
  clear hn
  go_enter Try.func17, Try.ntmps17
  go_wp2
  go_loopg [3] s.size (fun g1 vn wr => ∃ k pos : Nat, vn = .int .i64 k ∧ wr = w.iter s pos ∧ pos ≤ s.size ∧ k ≤ pos ∧ s.size - pos ≤ g1 ∧ n = k + (rnsAt s pos).length)
  case atStart => exact ⟨0, 0, rfl, rfl, by omega, by omega, by omega, n0⟩
  case round =>
    obtain ⟨k, pos, rfl, rfl, hp, hk, hg1, hn⟩ := hrel
    have HN := Lib.hid hn
    clear hn n0
    by_cases hlt : pos < s.size
    · have hnx : ∀ ty, (Instr.next (.pointer (some ⟨w.heap.size, 0, none⟩)) true ty).run Try.prog (w.iter s pos) = _ := fun ty => run_next_any w s pos ty hlt
      have hw := decode_width_pos s pos hlt
      have he := dec_size s pos hlt
      have NX := Lib.hid (rnsAt_next s pos hlt)
      have wk : IntKind.i64.wrap ((k : Int) + 1) = (k : Int) + 1 := IntWalk.i64_in _ (by omega)
      generalize (Utf8.decode s pos).1 = r at hnx NX
      generalize (Utf8.decode s pos).2 = u at hnx hw he NX
      go_wp2
      go_roundg (s.size - (pos + u))
      case measure => omega
      case rel => exact ⟨k + 1, pos + u, by go_num, rfl, he, by omega, Nat.le_refl _, by rw [HN.out, NX.out, List.length_cons]; omega⟩
    · have hnx : ∀ ty, (Instr.next (.pointer (some ⟨w.heap.size, 0, none⟩)) true ty).run Try.prog (w.iter s pos) = _ := fun ty => run_next_end w s pos ty hlt
      have R : Hid (n = k) := Lib.hid (by rw [HN.out, rnsAt_end s pos hlt]; rfl)
      go_wp2
      go_ret
      exact ⟨by rw [R.out]; rfl, (Below.refl _ _).alloc (Nat.le_refl _) _⟩
theorem isFont_any (font : Int) (w : World) (b : Bool) (hb : decide (1 ≤ font ∧ font ≤ 1000) = b) :
    Calls Try.prog 23 #[.int .i64 font] w fun e w' => e = .returned (.bool b) ∧ w' = w := by
  subst hb
  by_cases h1 : 1 ≤ font
  · by_cases h2 : font ≤ 1000
    · rw [decide_eq_true ⟨h1, h2⟩]
      go_enter Try.func23, Try.ntmps23
      go_wp2_with fail
      go_ret
      exact ⟨rfl, rfl⟩
    · rw [decide_eq_false (fun h => h2 h.2)]
      go_enter Try.func23, Try.ntmps23
      go_wp2_with fail
      go_ret
      exact ⟨rfl, rfl⟩
  · rw [decide_eq_false (fun h => h1 h.1)]
    go_enter Try.func23, Try.ntmps23
    go_wp2_with fail
    go_ret
    exact ⟨rfl, rfl⟩
theorem iter_drewN (w : World) (s : ByteArray) (pos n : Nat) : (w.iter s pos).drewN n = (w.drewN n).iter s pos := rfl
set_option maxRecDepth 100000 in
set_option maxHeartbeats 4000000 in
theorem width_any8 (s : ByteArray) (font : Int) (w : World) (hs : s.size ≤ 16384) (x e : Int) (hx : widthA s font = (x, e)) :
    Calls Try.prog 15 #[.string s, .int .i64 font] w fun y w' => y = .returned (.tuple #[.int .i64 x, .int .i64 e]) ∧ Below w.heap.size w w' := by
  unfold widthA at hx
  by_cases h1 : 1 ≤ font ∧ font ≤ 1000
  · have KF := Lib.hid (fun W => isFont_any font W true (decide_eq_true h1))
    rw [if_pos h1] at hx
    obtain ⟨hy, he⟩ := Prod.mk.inj hx
    subst he
    have x0 : x = 0 + wideR (rnsAt s 0) * font := by rw [← hy, Int.zero_add]; rfl
    clear hx hy
    go_enter Try.func15, Try.ntmps15
    go_wp2_with (first
      | (go_at_call 23; (with_reducible refine (KF.out _).mono ?_); rintro e w' ⟨rfl, hw'⟩; rw [hw'])
      | (go_at_call 21; (with_reducible refine (sharer_any _).mono ?_); rintro e w1 ⟨rfl, hb, hR⟩))
    have B := Lib.hid hb
    have RR := Lib.hid hR
    clear hb hR
    obtain ⟨H, hH⟩ : ∃ H, w.heap.size = H := ⟨_, rfl⟩
    rw [hH] at RR ⊢
    go_wp2_with fail
    go_loopg [7, 9] s.size (fun g1 vn _ wr => ∃ (a : Int) (pos q : Nat), vn = .int .i64 a ∧ wr = (w1.drewN q).iter s pos ∧ pos ≤ s.size ∧ (0 ≤ a ∧ a ≤ 64000 * pos) ∧ s.size - pos ≤ g1 ∧ x = a + wideR (rnsAt s pos) * font)
    case atStart => exact ⟨0, 0, 0, rfl, rfl, by omega, by omega, by omega, x0⟩
    case round =>
      obtain ⟨a, pos, q, rfl, rfl, hp, ha, hg1, hn⟩ := hrel
      have HN := Lib.hid hn
      clear hn x0
      by_cases hlt : pos < s.size
      · have hnx : ∀ ty, (Instr.next (.pointer (some ⟨w1.heap.size, 0, none⟩)) true ty).run Try.prog ((w1.drewN q).iter s pos) = _ := fun ty => run_next_any (w1.drewN q) s pos ty hlt
        have hw := decode_width_pos s pos hlt
        have he := dec_size s pos hlt
        have hr := dec_rune s pos
        have NX := Lib.hid (rnsAt_next s pos hlt)
        generalize (Utf8.decode s pos).1 = r at hnx NX hr
        generalize (Utf8.decode s pos).2 = u at hnx hw he NX
        have NR := Lib.hid (wide_rune r (rnsAt s (pos + u)))
        have sb := shareR_bd r
        obtain ⟨h, hh⟩ : ∃ h, shareR r = h := ⟨_, rfl⟩
        have S1 := Lib.hid (share_of H r ((w1.drewN q).iter s (pos + u)) (RR.out.below ((below_drawnN (Below.refl _ _) q).alloc (Nat.le_refl _) _)) (by omega) h hh)
        rw [hh] at sb NR
        have pb : 0 ≤ h * font ∧ h * font ≤ 64000 := ⟨Int.mul_nonneg sb.1 (by omega), Int.le_trans (Int.mul_le_mul sb.2 (show font ≤ 1000 by omega) (by omega) (by omega)) (by omega)⟩
        obtain ⟨p, hpp⟩ : ∃ p, h * font = p := ⟨_, rfl⟩
        rw [hpp] at pb
        have v1 : IntKind.i64.wrap (h * font) = p := by rw [hpp]; exact IntWalk.i64_in _ (by omega)
        have v2 : IntKind.i64.wrap (a + p) = a + p := IntWalk.i64_in _ (by omega)
        have ng : ¬ (1099511627776 : Int) < a + p := by omega
        have HP := Lib.hid hpp
        have PB := Lib.hid pb
        clear hh hpp pb
        go_wp2_with (go_at_call 27; (with_reducible refine S1.out.mono ?_); rintro e w' ⟨rfl, q2, hw'⟩; rw [hw', iter_drewN])
        go_roundg (s.size - (pos + u))
        case measure => omega
        case rel => exact ⟨a + p, pos + u, q + q2, rfl, rfl, he, by have := PB.out; omega, Nat.le_refl _, by rw [HN.out, NX.out, NR.out, ← HP.out, Int.add_mul]; omega⟩
      · have hnx : ∀ ty, (Instr.next (.pointer (some ⟨w1.heap.size, 0, none⟩)) true ty).run Try.prog ((w1.drewN q).iter s pos) = _ := fun ty => run_next_end (w1.drewN q) s pos ty hlt
        have R : Hid (x = a) := Lib.hid (by rw [HN.out, rnsAt_end s pos hlt]; simp [wideR])
        go_wp2_with fail
        go_ret2
        exact ⟨by rw [R.out]; rfl, (below_drawnN B.out q).alloc B.out.size _⟩
  · have KF := Lib.hid (fun W => isFont_any font W false (decide_eq_false h1))
    rw [if_neg h1] at hx
    obtain ⟨rfl, rfl⟩ := Prod.mk.inj hx
    clear hx h1
    go_enter Try.func15, Try.ntmps15
    go_wp2_with (go_at_call 23; (with_reducible refine (KF.out _).mono ?_); rintro e w' ⟨rfl, hw'⟩; rw [hw'])
    go_ret2
    exact ⟨rfl, Below.refl _ _⟩
theorem tall_any (k font : Int) (w : World) (hk : 0 ≤ k ∧ k ≤ 100) (x e : Int) (hx : tallA k font = (x, e)) :
    Calls Try.prog 20 #[.int .i64 k, .int .i64 font] w fun y w' => y = .returned (.tuple #[.int .i64 x, .int .i64 e]) ∧ w' = w := by
  unfold tallA at hx
  by_cases h1 : 1 ≤ font ∧ font ≤ 1000
  · have KF := Lib.hid (fun W => isFont_any font W true (decide_eq_true h1))
    rw [if_pos h1] at hx
    obtain ⟨hy, he⟩ := Prod.mk.inj hx
    subst he
    have pb : 0 ≤ k * font ∧ k * font ≤ 100000 := ⟨Int.mul_nonneg hk.1 (by omega), Int.le_trans (Int.mul_le_mul hk.2 h1.2 (by omega) (by omega)) (by omega)⟩
    have wv : IntKind.i64.wrap (k * font) = x := by rw [hy]; exact IntWalk.i64_in _ (by omega)
    clear hx hy pb h1
    go_enter Try.func20, Try.ntmps20
    go_wp2_with (go_at_call 23; (with_reducible refine (KF.out _).mono ?_); rintro e w' ⟨rfl, hw'⟩; rw [hw'])
    go_ret2
    exact ⟨rfl, rfl⟩
  · have KF := Lib.hid (fun W => isFont_any font W false (decide_eq_false h1))
    rw [if_neg h1] at hx
    obtain ⟨rfl, rfl⟩ := Prod.mk.inj hx
    clear hx h1
    go_enter Try.func20, Try.ntmps20
    go_wp2_with (go_at_call 23; (with_reducible refine (KF.out _).mono ?_); rintro e w' ⟨rfl, hw'⟩; rw [hw'])
    go_ret2
    exact ⟨rfl, rfl⟩
theorem up_any8 (font : Int) (w : World) (x e : Int) (hx : tallA 60 font = (x, e)) :
    Calls Try.prog 9 #[.int .i64 font] w fun y w' => y = .returned (.tuple #[.int .i64 x, .int .i64 e]) ∧ w' = w := by
  have K := Lib.hid (fun W => tall_any 60 font W (by omega) x e hx)
  clear hx
  go_enter Try.func9, Try.ntmps9
  go_wp2_with (go_at_call 20; (with_reducible refine (K.out _).mono ?_); rintro e w' ⟨rfl, hw'⟩; rw [hw'])
  go_ret2
  exact ⟨rfl, rfl⟩
theorem down_any8 (font : Int) (w : World) (x e : Int) (hx : tallA 20 font = (x, e)) :
    Calls Try.prog 11 #[.int .i64 font] w fun y w' => y = .returned (.tuple #[.int .i64 x, .int .i64 e]) ∧ w' = w := by
  have K := Lib.hid (fun W => tall_any 20 font W (by omega) x e hx)
  clear hx
  go_enter Try.func11, Try.ntmps11
  go_wp2_with (go_at_call 20; (with_reducible refine (K.out _).mono ?_); rintro e w' ⟨rfl, hw'⟩; rw [hw'])
  go_ret2
  exact ⟨rfl, rfl⟩
end Go.Proofs.Ytcphjmfiiodbhaa
