/-
  math/bits.Div64: the quotient of two words by one, and what is left.
-/
import Derived.Test.YtjlnaadpiohbnaaShelf
import Derived.Test.YtjlnaadpiohbnaaDown
import Derived.Test.YtjlnaadpiohbnaaDivMath
import Derived.Lib.ItoaNum
import Derived.Deep.LoopGhost
namespace Go.Proofs.Ytjlnaadpiohbnaa
open Go.RowKit

theorem u64_wrap (n : Int) : IntKind.u64.wrap n = n % 18446744073709551616 := by
  simp [IntKind.wrap, IntKind.bits, IntKind.signed]
theorem mask32 (x : Nat) : bits BinOp.and IntKind.u64 (x : Int) 4294967295 = ((x % 4294967296 : Nat) : Int) := by
  show IntKind.u64.wrap ((BitVec.ofInt 64 (x : Int) &&& BitVec.ofInt 64 4294967295).toNat : Int) = _
  rw [BitVec.toNat_and]
  have e : (BitVec.ofInt 64 4294967295).toNat = 2 ^ 32 - 1 := by decide
  rw [e, Nat.and_two_pow_sub_one_eq_mod, BitVec.ofInt_natCast, BitVec.toNat_ofNat, u64_wrap]
  omega
theorem or_add (h l s : Nat) (hl : l < 2 ^ s) (hb : h * 2 ^ s + l < 2 ^ 64) : bits BinOp.or IntKind.u64 ((h * 2 ^ s : Nat) : Int) (l : Int) = ((h * 2 ^ s + l : Nat) : Int) := by
  show IntKind.u64.wrap ((BitVec.ofInt 64 ((h * 2 ^ s : Nat) : Int) ||| BitVec.ofInt 64 (l : Int)).toNat : Int) = _
  rw [BitVec.toNat_or, BitVec.ofInt_natCast, BitVec.ofInt_natCast, BitVec.toNat_ofNat, BitVec.toNat_ofNat, Nat.mod_eq_of_lt (by omega), Nat.mod_eq_of_lt (by omega)]
  have e : h * 2 ^ s ||| l = h * 2 ^ s + l := by
    rw [Nat.mul_comm, Nat.two_pow_add_eq_or_of_lt hl]
  rw [e, u64_wrap]
  have h9 : (2 : Nat) ^ 64 = 18446744073709551616 := rfl
  rw [h9] at hb
  omega
theorem wrap_nat {n : Nat} {z : Int} (h : z = (n : Int)) (hn : n < 18446744073709551616) : IntKind.u64.wrap z = (n : Int) := by
  rw [h, u64_wrap]; omega
theorem cast_mul_pow (x s : Nat) : (x : Int) * 2 ^ s = ((x * 2 ^ s : Nat) : Int) := by
  rw [Int.natCast_mul, Int.natCast_pow]; rfl
/-- all that the long division reckons, as plain numbers -/
structure Long (hi lo y s Y H Lh U Llo yn1 yn0 un1 un0 q1 q0 R1 R2 q r : Nat) : Prop where
  c1 : IntKind.u64.wrap ((y : Int) * 2 ^ s) = (Y : Int)
  c2 : IntKind.u64.wrap ((hi : Int) * 2 ^ s) = (H : Int)
  c3 : (lo : Int) / 2 ^ (64 - s) = (Lh : Int)
  c4 : bits BinOp.or IntKind.u64 (H : Int) (Lh : Int) = (U : Int)
  c5 : IntKind.u64.wrap ((lo : Int) * 2 ^ s) = (Llo : Int)
  c6 : bits BinOp.and IntKind.u64 (Y : Int) 4294967295 = (yn0 : Int)
  c7 : bits BinOp.and IntKind.u64 (Llo : Int) 4294967295 = (un0 : Int)
  c8 : (Y : Int) / 4294967296 = (yn1 : Int)
  c9 : (Llo : Int) / 4294967296 = (un1 : Int)
  d1 : Digit Y yn1 yn0 U un1 q1 R1
  d0 : Digit Y yn1 yn0 R1 un0 q0 R2
  eq : q1 * 4294967296 + q0 = q
  er : (R2 : Int) / 2 ^ s = (r : Int)
  hY : Y < 18446744073709551616
set_option maxRecDepth 100000 in
theorem long_mk (hi lo y : Nat) (h1 : hi < y) (h2 : y ≤ 2305843009213693952) (h3 : lo < 18446744073709551616) :
    ∃ (s Y H Lh U Llo yn1 yn0 un1 un0 q1 q0 R1 R2 : Nat), (64 : Int) - (Lib.bitLen y : Int) = (s : Int) ∧ 1 ≤ s ∧ s ≤ 63 ∧
      Long hi lo y s Y H Lh U Llo yn1 yn0 un1 un0 q1 q0 R1 R2 ((hi * 18446744073709551616 + lo) / y) ((hi * 18446744073709551616 + lo) % y) := by
  have hb := Lib.bitLenAux_bounds 64 y (by omega) (by omega)
  have hle := Lib.bitLen_le y 62 (by omega) (by omega)
  unfold Lib.bitLen at hle ⊢
  generalize Lib.bitLenAux 64 y = len at hb hle
  obtain ⟨b1, b2, b3⟩ := hb
  have p1 : 2 ^ (len - 1) * 2 ^ (64 - len) = (9223372036854775808 : Nat) := by
    rw [← Nat.pow_add, show len - 1 + (64 - len) = 63 by omega]
  have p2 : 2 ^ len * 2 ^ (64 - len) = (18446744073709551616 : Nat) := by
    rw [← Nat.pow_add, show len + (64 - len) = 64 by omega]
  have ppos : 0 < 2 ^ (64 - len) := Nat.pow_pos (by omega)
  have Y1 := Nat.mul_le_mul_right (2 ^ (64 - len)) b2
  have Y2 := (Nat.mul_lt_mul_right (a0 := ppos)).2 b3
  rw [p1] at Y1
  rw [p2] at Y2
  have h4 := Nat.mul_le_mul_right (2 ^ (64 - len)) (show hi + 1 ≤ y from h1)
  rw [Nat.succ_mul] at h4
  have Lh1 : lo / 2 ^ len < 2 ^ (64 - len) := Nat.div_lt_of_lt_mul (by rw [p2]; exact h3)
  have L1 : lo * 2 ^ (64 - len) / 18446744073709551616 = lo / 2 ^ len := by rw [← p2, Nat.mul_div_mul_right _ _ ppos]
  have L2 := Nat.div_add_mod (lo * 2 ^ (64 - len)) 18446744073709551616
  rw [L1] at L2
  have s64 : 64 - (64 - len) = len := by omega
  have D1 := digit_mk (y := y * 2 ^ (64 - len)) (a := y * 2 ^ (64 - len) / 4294967296) (b := y * 2 ^ (64 - len) % 4294967296) (u := hi * 2 ^ (64 - len) + lo / 2 ^ len) (d := lo * 2 ^ (64 - len) % 18446744073709551616 / 4294967296)
    (by omega) (by omega) (by omega) (by omega) (by omega) (by omega)
  have D0 := digit_mk (y := y * 2 ^ (64 - len)) (a := y * 2 ^ (64 - len) / 4294967296) (b := y * 2 ^ (64 - len) % 4294967296)
    (u := ((hi * 2 ^ (64 - len) + lo / 2 ^ len) * 4294967296 + lo * 2 ^ (64 - len) % 18446744073709551616 / 4294967296) % (y * 2 ^ (64 - len))) (d := lo * 2 ^ (64 - len) % 18446744073709551616 % 4294967296)
    (by omega) (by omega) (by omega) (by omega) D1.r_hi (by omega)
  have TD := two_digits D1.n_eq D0.n_eq
  have NP : (hi * 18446744073709551616 + lo) * 2 ^ (64 - len) = (hi * 2 ^ (64 - len) + lo / 2 ^ len) * 18446744073709551616 + lo * 2 ^ (64 - len) % 18446744073709551616 := by
    rw [Nat.add_mul, Nat.add_mul, Nat.mul_right_comm, Nat.add_assoc (hi * 2 ^ (64 - len) * 18446744073709551616)]
    congr 1
    rw [Nat.mul_comm (lo / 2 ^ len)]
    exact L2.symm
  have NP2 : (hi * 18446744073709551616 + lo) * 2 ^ (64 - len) = (hi * 2 ^ (64 - len) + lo / 2 ^ len) * 18446744073709551616 + lo * 2 ^ (64 - len) % 18446744073709551616 / 4294967296 * 4294967296 + lo * 2 ^ (64 - len) % 18446744073709551616 % 4294967296 := by
    rw [NP, Nat.add_assoc ((hi * 2 ^ (64 - len) + lo / 2 ^ len) * 18446744073709551616)]
    congr 1
    rw [Nat.mul_comm (lo * 2 ^ (64 - len) % 18446744073709551616 / 4294967296)]
    exact (Nat.div_add_mod _ _).symm
  rw [← NP2] at TD
  have r2 := D0.r_hi
  have Q : ((hi * 18446744073709551616 + lo) * 2 ^ (64 - len)) / (y * 2 ^ (64 - len)) = (hi * 18446744073709551616 + lo) / y := Nat.mul_div_mul_right _ _ ppos
  have R : ((hi * 18446744073709551616 + lo) * 2 ^ (64 - len)) % (y * 2 ^ (64 - len)) = (hi * 18446744073709551616 + lo) % y * 2 ^ (64 - len) := Nat.mul_mod_mul_right _ _ _
  rw [TD, Nat.mul_comm _ (y * 2 ^ (64 - len)), Nat.mul_add_div (by omega), Nat.div_eq_of_lt r2, Nat.add_zero] at Q
  rw [TD, Nat.mul_comm _ (y * 2 ^ (64 - len)), Nat.mul_add_mod, Nat.mod_eq_of_lt r2] at R
  refine ⟨64 - len, _, hi * 2 ^ (64 - len), lo / 2 ^ len, _, lo * 2 ^ (64 - len) % 18446744073709551616, _, _, _, _, _, _, _, _, by omega, by omega, by omega, ⟨?_, ?_, ?_, ?_, ?_, ?_, ?_, ?_, ?_, D1, D0, Q, ?_, Y2⟩⟩
  · exact wrap_nat (cast_mul_pow _ _) Y2
  · exact wrap_nat (cast_mul_pow _ _) (by omega)
  · rw [s64, Int.natCast_ediv, Int.natCast_pow]; rfl
  · exact or_add _ _ _ Lh1 (by have h9 : (2 : Nat) ^ 64 = 18446744073709551616 := rfl; rw [h9]; omega)
  · rw [cast_mul_pow, u64_wrap]; omega
  · exact mask32 _
  · exact mask32 _
  · omega
  · omega
  · rw [R, Int.natCast_mul, Int.natCast_pow]
    exact Int.mul_ediv_cancel _ (by
      have h9 : ((2 ^ (64 - len) : Nat) : Int) ≠ 0 := by omega
      rwa [Int.natCast_pow] at h9)
theorem wrap_digit {y a b u d q r : Nat} (h : Digit y a b u d q r) (hy : y < 18446744073709551616) :
    IntKind.u64.wrap (IntKind.u64.wrap (IntKind.u64.wrap ((u : Int) * 4294967296) + d) - IntKind.u64.wrap ((q : Int) * y)) = (r : Int) := by
  rw [u64_wrap, u64_wrap, u64_wrap, u64_wrap]
  exact wrap_left h.n_eq (Nat.lt_trans h.r_hi hy)
/-- the rest of a guess -/
theorem rest_wrap {a u k : Nat} (hu : u < 18446744073709551616) (h : k * a + u % a = u) : IntKind.u64.wrap ((u : Int) - IntKind.u64.wrap ((k : Int) * a)) = ((u % a : Nat) : Int) := by
  have e : (k : Int) * a = ((k * a : Nat) : Int) := by rw [Int.natCast_mul]
  rw [e, u64_wrap, u64_wrap]
  generalize k * a = m at h ⊢
  generalize u % a = z at h ⊢
  omega

set_option maxRecDepth 100000 in
set_option maxHeartbeats 8000000 in
theorem div_core (hi lo y q r : Nat) (w : World) (h0 : 0 < hi) (h1 : hi < y) (h2 : y ≤ 2305843009213693952) (s Y H Lh U Llo yn1 yn0 un1 un0 q1 q0 R1 R2 : Nat) (hs : (64 : Int) - (Lib.bitLen y : Int) = (s : Int)) (hs1 : 1 ≤ s) (hs2 : s ≤ 63)
    (h : Long hi lo y s Y H Lh U Llo yn1 yn0 un1 un0 q1 q0 R1 R2 q r) :
    Calls Try.prog 55 #[.int .u64 hi, .int .u64 lo, .int .u64 y] w fun e w' => e = .returned (.tuple #[.int .u64 q, .int .u64 r]) ∧ Drawn w w' := by
  have z1 : ((y : Int) == 0) = false := by simp; omega
  have z2 : ¬ (y : Int) ≤ hi := by omega
  have z3 : ((hi : Int) == 0) = false := by simp; omega
  have LZ : Hid (∀ W, Calls Try.prog 59 #[.int .u64 y] W fun e w' => e = .returned (.int .i64 s) ∧ w' = W) := Lib.hid (fun W => by
    have h9 := Try.bits_LeadingZeros64 (y : Int) W (by omega) (by omega)
    rw [Int.toNat_natCast, hs] at h9
    exact h9)
  obtain ⟨c1, c2, c3, c4, c5, c6, c7, c8, c9, d1, d0, eq, er, hY⟩ := h
  have D1 := Lib.hid d1
  have D0 := Lib.hid d0
  have EQ := Lib.hid eq
  have a1 : (1 : Int) ≤ yn1 := by have := d1.a_lo; omega
  have a2 : (yn1 : Int) ≤ 4294967295 := by have := d1.a_hi; omega
  have a3 : (un1 : Int) ≤ 4294967295 := by have := d1.d_hi; omega
  have a4 : (un0 : Int) ≤ 4294967295 := by have := d0.d_hi; omega
  have a5 : (q1 : Int) ≤ 4294967295 := by have := d1.q_hi; omega
  have a6 : (q0 : Int) ≤ 4294967295 := by have := d0.q_hi; omega
  have uy : U < 18446744073709551616 := Nat.lt_trans d1.u_hi hY
  have ry : R1 < 18446744073709551616 := Nat.lt_trans d0.u_hi hY
  have g1 := d1.guess
  have g0 := d0.guess
  have GU := Lib.hid (rest_wrap uy g1.2.2.1)
  have GR := Lib.hid (rest_wrap ry g0.2.2.1)
  have WL1 := wrap_digit d1 hY
  have WL0 := wrap_digit d0 hY
  obtain ⟨k1, hk1⟩ : ∃ k, k = U / yn1 := ⟨_, rfl⟩
  obtain ⟨k0, hk0⟩ : ∃ k, k = R1 / yn1 := ⟨_, rfl⟩
  obtain ⟨t1, ht1⟩ : ∃ k, k = U % yn1 := ⟨_, rfl⟩
  obtain ⟨t0, ht0⟩ : ∃ k, k = R1 % yn1 := ⟨_, rfl⟩
  have e1 : (U : Int) / yn1 = (k1 : Int) := by rw [hk1, Int.natCast_ediv]
  have e0 : (R1 : Int) / yn1 = (k0 : Int) := by rw [hk0, Int.natCast_ediv]
  rw [← hk1, ← ht1] at g1 GU
  rw [← hk0, ← ht0] at g0 GR
  have gu := GU.out
  have gr := GR.out
  have k1b : (k1 : Int) ≤ 4294967297 := by have := g1.2.1; omega
  have k0b : (k0 : Int) ≤ 4294967297 := by have := g0.2.1; omega
  have t1b : (t1 : Int) ≤ 4294967295 := by have := g1.2.2.2; have := d1.a_hi; omega
  have t0b : (t0 : Int) ≤ 4294967295 := by have := g0.2.2.2; have := d1.a_hi; omega
  have G1 : Hid (Guess yn1 U q1 k1 t1) := Lib.hid ⟨g1.2.2.1, g1.1, g1.2.1⟩
  have G0 : Hid (Guess yn1 R1 q0 k0 t0) := Lib.hid ⟨g0.2.2.1, g0.1, g0.2.1⟩
  have HY := Lib.hid hY
  clear h1 h2 hs d1 d0 eq uy ry g1 g0 GU GR hk1 hk0 ht1 ht0 hY
  go_enter Try.func55, Try.ntmps55
  go_wp2_with fail
  refine (LZ.out _).mono ?_
  rintro e w1 ⟨rfl, rfl⟩
  go_wp2_with fail
  go_loopg [15, 16] k1 (fun gg vk vt wr => ∃ k t : Nat, vk = .int .u64 k ∧ vt = .int .u64 t ∧ Hid (k ≤ 4294967297 ∧ t ≤ 4294967295) ∧ k ≤ gg ∧ Hid (Guess yn1 U q1 k t) ∧ Hid (wr = w1))
  case atStart => exact ⟨k1, t1, rfl, rfl, Lib.hid (by omega), Nat.le_refl _, G1, rfl⟩
  case round =>
    clear G1 k1b t1b e1 gu c1 c2 c3 c4 c5 c6 c7 c8 c9
    obtain ⟨k, t, rfl, rfl, HKT, hgg, G, HR⟩ := hrel
    obtain ⟨hk, ht⟩ := HKT.out
    obtain rfl := HR.out
    clear HR
    obtain ⟨A, hA⟩ : ∃ A, A = k * yn0 := ⟨_, rfl⟩
    have Ab : k < 4294967296 → A < 18446744073709551616 := fun hh => by
      rw [hA]
      exact Nat.lt_of_lt_of_le (Nat.mul_lt_mul_of_lt_of_lt hh D1.out.b_hi) (by omega)
    have CASES : (4294967296 ≤ k ∧ t + yn1 < 4294967296) ∨ (4294967296 ≤ k ∧ 4294967296 ≤ t + yn1) ∨ (k < 4294967296 ∧ 4294967296 * t + un1 < A ∧ t + yn1 < 4294967296) ∨
        (k < 4294967296 ∧ 4294967296 * t + un1 < A ∧ 4294967296 ≤ t + yn1) ∨ (k < 4294967296 ∧ ¬ 4294967296 * t + un1 < A) := by omega
    have dn : (4294967296 ≤ k ∨ 4294967296 * t + un1 < A) → 1 ≤ k ∧ Guess yn1 U q1 (k - 1) (t + yn1) := fun hh => D1.out.down G.out (by rw [← hA]; exact hh)
    have DN := Lib.hid dn
    have st : ¬ 4294967296 * t + un1 < A → k = q1 := fun hh => D1.out.stop G.out (by rw [← hA]; exact hh)
    have ST := Lib.hid st
    have rA : k < 4294967296 → IntKind.u64.wrap ((k : Int) * yn0) = (A : Int) := fun hh => wrap_nat (by rw [hA, Int.natCast_mul]) (Ab hh)
    have RA := Lib.hid rA
    clear hA Ab dn st rA
    have hkz : (k : Int) ≤ 4294967297 := by omega
    have htz : (t : Int) ≤ 4294967295 := by omega
    clear hk ht
    obtain ⟨u, hu⟩ : ∃ u, t + yn1 = u := ⟨_, rfl⟩
    have tu : (t : Int) + yn1 = (u : Int) := by omega
    rw [hu] at CASES DN
    clear hu
    rcases CASES with ⟨x1, x2⟩ | ⟨x1, x2⟩ | ⟨x1, x2, x3⟩ | ⟨x1, x2, x3⟩ | ⟨x1, x2⟩
    all_goals
      first
        | (have y1 : (4294967296 : Int) ≤ k := by omega)
        | (have y1 : (k : Int) < 4294967296 := by omega
           have y1b : decide ((4294967296 : Int) ≤ (k : Int)) = false := by (rw [decide_eq_false_iff_not]; omega))
      first
        | (have y2 : 4294967296 * (t : Int) + un1 < A := by omega)
        | (have y2 : ¬ 4294967296 * (t : Int) + un1 < A := by omega)
        | (have y2 : True := trivial)
      first
        | (have y3 : (4294967296 : Int) ≤ u := by omega)
        | (have y3 : (u : Int) < 4294967296 := by omega
           have y3b : decide ((4294967296 : Int) ≤ (u : Int)) = false := by (rw [decide_eq_false_iff_not]; omega))
        | (have y3 : True := trivial)
    all_goals
      first
        | (have F : u < 4294967296 := by assumption
           have dn := DN.out (by first | exact .inl ‹_› | exact .inr ‹_›)
           have dn1 := dn.1
           have G2 := Lib.hid dn.2
           clear dn DN ST G
           first
             | (have rA := RA.out ‹_›
                clear RA F x1 x2 x3
                go_wp2
                go_roundg (k - 1)
                case measure => omega
                case rel => exact ⟨k - 1, u, by congr 1; omega, rfl, Lib.hid (by omega), Nat.le_refl _, G2, rfl⟩)
             | (clear RA F x1 x2
                go_wp2
                go_roundg (k - 1)
                case measure => omega
                case rel => exact ⟨k - 1, u, by congr 1; omega, rfl, Lib.hid (by omega), Nat.le_refl _, G2, rfl⟩))
        | (have F : 4294967296 ≤ u := by assumption
           have dn := DN.out (by first | exact .inl ‹_› | exact .inr ‹_›)
           have hq : ((k : Int) - 1) = (q1 : Int) := by
             (have h9 := D1.out.break dn.2 (by have := HKT.out; omega) F; have h8 := dn.1; omega)
           have dn1 := dn.1
           clear dn DN ST G
           first
             | (have rA := RA.out ‹_›
                clear RA F x1 x2 x3
                go_wp2_with fail)
             | (clear RA F x1 x2
                go_wp2_with fail))
        | (have hq := ST.out x2
           have rA := RA.out x1
           clear RA DN ST x1 x2
           subst hq
           go_wp2_with fail)
    all_goals
      clear hkz htz HKT hgg y1 y2 y3 tu
      go_loopg [18, 16] k0 (fun gg vk vt wz => ∃ k t : Nat, vk = .int .u64 k ∧ vt = .int .u64 t ∧ Hid (k ≤ 4294967297 ∧ t ≤ 4294967295) ∧ k ≤ gg ∧ Hid (Guess yn1 R1 q0 k t) ∧ Hid (wz = wr))
      case atStart => exact ⟨k0, t0, rfl, rfl, Lib.hid (by omega), Nat.le_refl _, G0, rfl⟩
      case round =>
        clear G0 k0b t0b
        obtain ⟨k, t, rfl, rfl, HKT, hgg, G, HR⟩ := hrel
        obtain ⟨hk, ht⟩ := HKT.out
        obtain rfl := HR.out
        clear HR
        obtain ⟨A, hA⟩ : ∃ A, A = k * yn0 := ⟨_, rfl⟩
        have Ab : k < 4294967296 → A < 18446744073709551616 := fun hh => by
          rw [hA]
          exact Nat.lt_of_lt_of_le (Nat.mul_lt_mul_of_lt_of_lt hh D0.out.b_hi) (by omega)
        have CASES : (4294967296 ≤ k ∧ t + yn1 < 4294967296) ∨ (4294967296 ≤ k ∧ 4294967296 ≤ t + yn1) ∨ (k < 4294967296 ∧ 4294967296 * t + un0 < A ∧ t + yn1 < 4294967296) ∨
            (k < 4294967296 ∧ 4294967296 * t + un0 < A ∧ 4294967296 ≤ t + yn1) ∨ (k < 4294967296 ∧ ¬ 4294967296 * t + un0 < A) := by omega
        have dn : (4294967296 ≤ k ∨ 4294967296 * t + un0 < A) → 1 ≤ k ∧ Guess yn1 R1 q0 (k - 1) (t + yn1) := fun hh => D0.out.down G.out (by rw [← hA]; exact hh)
        have DN := Lib.hid dn
        have st : ¬ 4294967296 * t + un0 < A → k = q0 := fun hh => D0.out.stop G.out (by rw [← hA]; exact hh)
        have ST := Lib.hid st
        have rA : k < 4294967296 → IntKind.u64.wrap ((k : Int) * yn0) = (A : Int) := fun hh => wrap_nat (by rw [hA, Int.natCast_mul]) (Ab hh)
        have RA := Lib.hid rA
        clear hA Ab dn st rA
        have hkz : (k : Int) ≤ 4294967297 := by omega
        have htz : (t : Int) ≤ 4294967295 := by omega
        clear hk ht
        obtain ⟨u, hu⟩ : ∃ u, t + yn1 = u := ⟨_, rfl⟩
        have tu : (t : Int) + yn1 = (u : Int) := by omega
        rw [hu] at CASES DN
        clear hu
        rcases CASES with ⟨x1, x2⟩ | ⟨x1, x2⟩ | ⟨x1, x2, x3⟩ | ⟨x1, x2, x3⟩ | ⟨x1, x2⟩
        all_goals
          first
            | (have y1 : (4294967296 : Int) ≤ k := by omega)
            | (have y1 : (k : Int) < 4294967296 := by omega
               have y1b : decide ((4294967296 : Int) ≤ (k : Int)) = false := by (rw [decide_eq_false_iff_not]; omega))
          first
            | (have y2 : 4294967296 * (t : Int) + un0 < A := by omega)
            | (have y2 : ¬ 4294967296 * (t : Int) + un0 < A := by omega)
            | (have y2 : True := trivial)
          first
            | (have y3 : (4294967296 : Int) ≤ u := by omega)
            | (have y3 : (u : Int) < 4294967296 := by omega
               have y3b : decide ((4294967296 : Int) ≤ (u : Int)) = false := by (rw [decide_eq_false_iff_not]; omega))
            | (have y3 : True := trivial)
        all_goals
          first
            | (have F : u < 4294967296 := by assumption
               have dn := DN.out (by first | exact .inl ‹_› | exact .inr ‹_›)
               have dn1 := dn.1
               have G2 := Lib.hid dn.2
               clear dn DN ST G
               first
                 | (have rA := RA.out ‹_›
                    clear RA F x1 x2 x3
                    go_wp2
                    go_roundg (k - 1)
                    case measure => omega
                    case rel => exact ⟨k - 1, u, by congr 1; omega, rfl, Lib.hid (by omega), Nat.le_refl _, G2, rfl⟩)
                 | (clear RA F x1 x2
                    go_wp2
                    go_roundg (k - 1)
                    case measure => omega
                    case rel => exact ⟨k - 1, u, by congr 1; omega, rfl, Lib.hid (by omega), Nat.le_refl _, G2, rfl⟩))
            | (have F : 4294967296 ≤ u := by assumption
               have dn := DN.out (by first | exact .inl ‹_› | exact .inr ‹_›)
               have hq : ((k : Int) - 1) = (q0 : Int) := by
                 (have h9 := D0.out.break dn.2 (by have := HKT.out; omega) F; have h8 := dn.1; omega)
               have dn1 := dn.1
               clear dn DN ST G
               first
                 | (have rA := RA.out ‹_›
                    clear RA F x1 x2 x3
                    go_wp2_with fail)
                 | (clear RA F x1 x2
                    go_wp2_with fail))
            | (have hq := ST.out x2
               have rA := RA.out x1
               clear RA DN ST x1 x2
               subst hq
               go_wp2_with fail)
        all_goals
          go_ret2
          exact ⟨by rw [← EQ.out]; congr 3, 0, rfl⟩
theorem div_any : DivOK := by
  intro hi lo y q r w h0 h1 h2 h3 hq hr
  obtain ⟨s, Y, H, Lh, U, Llo, yn1, yn0, un1, un0, q1, q0, R1, R2, hs, hs1, hs2, hL⟩ := long_mk hi lo y h1 h2 h3
  rw [hq, hr] at hL
  exact div_core hi lo y q r w h0 h1 h2 s Y H Lh U Llo yn1 yn0 un1 un0 q1 q0 R1 R2 hs hs1 hs2 hL
end Go.Proofs.Ytjlnaadpiohbnaa
