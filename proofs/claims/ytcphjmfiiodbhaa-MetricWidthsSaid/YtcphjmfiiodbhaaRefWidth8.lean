/-
  The document's Count, Width, Up and Down: how many characters a text has, how wide it is; a font's heights.
-/
import Derived.Test.YtcphjmfiiodbhaaRefNext
namespace Go.Proofs.Ytcphjmfiiodbhaa
open Go.RowKit Go.Lib

/-- how wide a text is in a font, and whether it is told -/
def widthA (s : ByteArray) (font : Int) : Int × Int := if 1 ≤ font ∧ font ≤ 1000 then (wideR (runesOf s) * font, 0) else (0, 2)
theorem wide_rune (r : Nat) (l : List Nat) : wideR (r :: l) = shareR r + wideR l := rfl
set_option maxRecDepth 100000 in
set_option maxHeartbeats 4000000 in
theorem refCount_any (s : ByteArray) (w : World) (hs : s.size ≤ 16384) :
    Calls Try.prog 18 #[.string s] w fun e w' => e = .returned (.int .i64 ((runesOf s).length : Nat)) ∧ w' = w := by
  have K := Lib.hid (fun W pos (h : pos < s.size) => next_any s pos W h (by omega))
  obtain ⟨n, hn⟩ : ∃ n, (runesOf s).length = n := ⟨_, rfl⟩
  rw [hn]
  have n0 : n = 0 + (rnsAt s 0).length := by rw [← hn, Nat.zero_add]; rfl
  clear hn
  go_enter Try.func18, Try.ntmps18
  go_wp2_with fail
  go_loopg [3, 4, 5, 6, 13] s.size (fun g1 vn vi _ _ _ wr => ∃ k pos : Nat, vn = .int .i64 k ∧ vi = .int .i64 pos ∧ pos ≤ s.size ∧ k ≤ pos ∧ s.size - pos ≤ g1 ∧ n = k + (rnsAt s pos).length ∧ Hid (w = wr))
  case atStart => exact ⟨0, 0, rfl, rfl, by omega, by omega, by omega, n0, Lib.hid rfl⟩
  case round =>
    obtain ⟨k, pos, rfl, rfl, hp, hk, hg1, hn, E⟩ := hrel
    obtain rfl := E.out
    have HN := Lib.hid hn
    clear E hn n0
    by_cases hlt : pos < s.size
    · have K1 := Lib.hid (K.out w pos hlt)
      have hz : (pos : Int) < s.size := by omega
      have hw := decode_width_pos s pos hlt
      have he := dec_size s pos hlt
      have NX := Lib.hid (rnsAt_next s pos hlt)
      obtain ⟨r, u, hd⟩ : ∃ r u, Utf8.decode s pos = (r, u) := ⟨_, _, rfl⟩
      rw [hd] at K1 hw he NX
      have wp : IntKind.i64.wrap ((pos : Int) + u) = ((pos + u : Nat) : Int) := by rw [IntWalk.i64_in _ (by omega)]; omega
      have wk : IntKind.i64.wrap ((k : Int) + 1) = (k : Int) + 1 := IntWalk.i64_in _ (by omega)
      have hw : 1 ≤ u := hw
      clear hd
      go_wp2_with (go_at_call 24; (with_reducible refine K1.out.mono ?_); rintro e w' ⟨rfl, hw'⟩; rw [hw'])
      go_roundg (s.size - (pos + u))
      case measure => omega
      case rel => exact ⟨k + 1, pos + u, by go_num, by go_num, he, by omega, Nat.le_refl _, by rw [HN.out, NX.out, List.length_cons]; omega, Lib.hid rfl⟩
    · have R : Hid (n = k) := Lib.hid (by rw [HN.out, rnsAt_end s pos hlt]; rfl)
      have hz : ¬ (pos : Int) < s.size := by omega
      go_wp2_with fail
      go_ret
      exact ⟨by rw [R.out]; rfl, rfl⟩
set_option maxRecDepth 100000 in
set_option maxHeartbeats 4000000 in
theorem refWidth_any8 (s : ByteArray) (font : Int) (w : World) (hs : s.size ≤ 16384) (x e : Int) (hx : widthA s font = (x, e)) :
    Calls Try.prog 16 #[.string s, .int .i64 font] w fun y w' => y = .returned (.tuple #[.int .i64 x, .int .i64 e]) ∧ w' = w := by
  have K := Lib.hid (fun W pos (h : pos < s.size) => next_any s pos W h (by omega))
  have S := Lib.hid (fun (r : Nat) W => refShare8_any r W)
  unfold widthA at hx
  by_cases h1 : font < 1
  · rw [if_neg (by omega)] at hx
    obtain ⟨rfl, rfl⟩ := Prod.mk.inj hx
    clear hx
    go_enter Try.func16, Try.ntmps16
    go_wp2_with fail
    go_ret2
    exact ⟨rfl, rfl⟩
  · by_cases h2 : 1000 < font
    · rw [if_neg (by omega)] at hx
      obtain ⟨rfl, rfl⟩ := Prod.mk.inj hx
      clear hx
      go_enter Try.func16, Try.ntmps16
      go_wp2_with fail
      go_ret2
      exact ⟨rfl, rfl⟩
    · rw [if_pos (by omega)] at hx
      obtain ⟨hy, he⟩ := Prod.mk.inj hx
      subst he
      have x0 : x = 0 + wideR (rnsAt s 0) * font := by rw [← hy, Int.zero_add]; rfl
      clear hx hy
      go_enter Try.func16, Try.ntmps16
      go_wp2_with fail
      go_loopg [6, 7, 8, 9, 20] s.size (fun g1 vn vi _ _ _ wr => ∃ (a : Int) (pos : Nat), vn = .int .i64 a ∧ vi = .int .i64 pos ∧ pos ≤ s.size ∧ (0 ≤ a ∧ a ≤ 64000 * pos) ∧ s.size - pos ≤ g1 ∧ x = a + wideR (rnsAt s pos) * font ∧ Hid (w = wr))
      case atStart => exact ⟨0, 0, rfl, rfl, by omega, by omega, by omega, x0, Lib.hid rfl⟩
      case round =>
        obtain ⟨a, pos, rfl, rfl, hp, ha, hg1, hn, E⟩ := hrel
        obtain rfl := E.out
        have HN := Lib.hid hn
        clear E hn x0
        by_cases hlt : pos < s.size
        · have K1 := Lib.hid (K.out w pos hlt)
          have hz : (pos : Int) < s.size := by omega
          have hw := decode_width_pos s pos hlt
          have he := dec_size s pos hlt
          have NX := Lib.hid (rnsAt_next s pos hlt)
          obtain ⟨r, u, hd⟩ : ∃ r u, Utf8.decode s pos = (r, u) := ⟨_, _, rfl⟩
          rw [hd] at K1 hw he NX
          have wp : IntKind.i64.wrap ((pos : Int) + u) = ((pos + u : Nat) : Int) := by rw [IntWalk.i64_in _ (by omega)]; omega
          have S1 := Lib.hid (S.out r w)
          have sb := shareR_bd r
          have NR := Lib.hid (wide_rune r (rnsAt s (pos + u)))
          obtain ⟨h, hh⟩ : ∃ h, shareR r = h := ⟨_, rfl⟩
          rw [hh] at S1 sb NR
          have pb : 0 ≤ h * font ∧ h * font ≤ 64000 := ⟨Int.mul_nonneg sb.1 (by omega), Int.le_trans (Int.mul_le_mul sb.2 (show font ≤ 1000 by omega) (by omega) (by omega)) (by omega)⟩
          obtain ⟨p, hpp⟩ : ∃ p, h * font = p := ⟨_, rfl⟩
          rw [hpp] at pb
          have w1 : IntKind.i64.wrap (h * font) = p := by rw [hpp]; exact IntWalk.i64_in _ (by omega)
          have w2 : IntKind.i64.wrap (a + p) = a + p := IntWalk.i64_in _ (by omega)
          have HP := Lib.hid hpp
          have PB := Lib.hid pb
          have hw : 1 ≤ u := hw
          clear hd hh hpp pb
          go_wp2_with (first
            | (go_at_call 24; (with_reducible refine K1.out.mono ?_); rintro e w' ⟨rfl, hw'⟩; rw [hw'])
            | (go_at_call 14; (with_reducible refine S1.out.mono ?_); rintro e w' ⟨rfl, hw'⟩; rw [hw']))
          go_roundg (s.size - (pos + u))
          case measure => omega
          case rel => exact ⟨a + p, pos + u, rfl, by go_num, he, by have := PB.out; omega, Nat.le_refl _, by rw [HN.out, NX.out, NR.out, ← HP.out, Int.add_mul]; omega, Lib.hid rfl⟩
        · have R : Hid (x = a) := Lib.hid (by rw [HN.out, rnsAt_end s pos hlt]; simp [wideR])
          have hz : ¬ (pos : Int) < s.size := by omega
          have ng : ¬ (1099511627776 : Int) < a := by omega
          go_wp2_with fail
          go_ret2
          exact ⟨by rw [R.out]; rfl, rfl⟩
/-- a font's height: so many 64ths for each point, and whether it is told -/
def tallA (k font : Int) : Int × Int := if 1 ≤ font ∧ font ≤ 1000 then (k * font, 0) else (0, 2)
set_option maxRecDepth 100000 in
set_option maxHeartbeats 4000000 in
theorem refUp_any (font : Int) (w : World) (x e : Int) (hx : tallA 60 font = (x, e)) :
    Calls Try.prog 10 #[.int .i64 font] w fun y w' => y = .returned (.tuple #[.int .i64 x, .int .i64 e]) ∧ w' = w := by
  unfold tallA at hx
  by_cases h1 : font < 1
  · rw [if_neg (by omega)] at hx
    obtain ⟨rfl, rfl⟩ := Prod.mk.inj hx
    clear hx
    go_enter Try.func10, Try.ntmps10
    go_wp2_with fail
    go_ret2
    exact ⟨rfl, rfl⟩
  · by_cases h2 : 1000 < font
    · rw [if_neg (by omega)] at hx
      obtain ⟨rfl, rfl⟩ := Prod.mk.inj hx
      clear hx
      go_enter Try.func10, Try.ntmps10
      go_wp2_with fail
      go_ret2
      exact ⟨rfl, rfl⟩
    · rw [if_pos (by omega)] at hx
      obtain ⟨rfl, rfl⟩ := Prod.mk.inj hx
      have wv : IntKind.i64.wrap (60 * font) = 60 * font := IntWalk.i64_in _ (by omega)
      clear hx
      go_enter Try.func10, Try.ntmps10
      go_wp2_with fail
      go_ret2
      exact ⟨rfl, rfl⟩
set_option maxRecDepth 100000 in
set_option maxHeartbeats 4000000 in
theorem refDown_any (font : Int) (w : World) (x e : Int) (hx : tallA 20 font = (x, e)) :
    Calls Try.prog 12 #[.int .i64 font] w fun y w' => y = .returned (.tuple #[.int .i64 x, .int .i64 e]) ∧ w' = w := by
  unfold tallA at hx
  by_cases h1 : font < 1
  · rw [if_neg (by omega)] at hx
    obtain ⟨rfl, rfl⟩ := Prod.mk.inj hx
    clear hx
    go_enter Try.func12, Try.ntmps12
    go_wp2_with fail
    go_ret2
    exact ⟨rfl, rfl⟩
  · by_cases h2 : 1000 < font
    · rw [if_neg (by omega)] at hx
      obtain ⟨rfl, rfl⟩ := Prod.mk.inj hx
      clear hx
      go_enter Try.func12, Try.ntmps12
      go_wp2_with fail
      go_ret2
      exact ⟨rfl, rfl⟩
    · rw [if_pos (by omega)] at hx
      obtain ⟨rfl, rfl⟩ := Prod.mk.inj hx
      have wv : IntKind.i64.wrap (20 * font) = 20 * font := IntWalk.i64_in _ (by omega)
      clear hx
      go_enter Try.func12, Try.ntmps12
      go_wp2_with fail
      go_ret2
      exact ⟨rfl, rfl⟩
end Go.Proofs.Ytcphjmfiiodbhaa
