/-
  The law RightPoints, of the landed code.
-/
import Derived.Test.YtieaoebphlcmpaaFill19
import Derived.Test.YtieaoebphlcmpaaRefPoints19
namespace Go.Proofs.Ytieaoebphlcmpaa
open Go.RowKit

theorem fill19 (l : List Fr) (A : Option Addr) (n c : Nat) (w : World) (hF : FrIn w (.slice A n c) l) (hl : l.length = n) (hn : n ≤ 4096) (hB : BigsF l) :
    Calls Try.prog 4 #[.slice A n c] w fun e w' => e = .returned (.tuple #[.int .i64 (fillZ l).1, .int .i64 (fillZ l).2.1, .int .i64 (fillZ l).2.2.1, .int .i64 (fillZ l).2.2.2]) ∧ Below w.heap.size w w' := by
  by_cases h : lastP oddF l l.length = -1
  · exact fill19_yes l A n c w hF hl hn hB h
  · exact fill19_no l A n c w hF hl hn hB h
set_option maxRecDepth 100000 in
set_option maxHeartbeats 4000000 in
theorem points19 (l : List Fr) (A : Option Addr) (n c : Nat) (x y : Int) (w : World) (hF : FrIn w (.slice A n c) l) (hl : l.length = n) (hB : BigsF l) (hm : n ≤ 140737488351232) :
    Calls Try.prog 3 #[.slice A n c, .int .i64 x, .int .i64 y] w fun e w' => e = .returned (.bool true) ∧ Below w.heap.size w w' := by
  by_cases hn : n ≤ 2100
  · obtain ⟨⟨z1, z2, z3, z4⟩, hz⟩ : ∃ z, fillZ l = z := ⟨_, rfl⟩
    obtain ⟨h, hh⟩ : ∃ h, lastP (coversF x y) l l.length = h := ⟨_, rfl⟩
    have K1 := fill19 l A n c w hF hl (by omega) hB
    rw [hz] at K1
    have K2 : Hid (∀ W, Below w.heap.size w W → Calls Try.prog 5 #[.slice A n c] W fun e w' => e = .returned (.tuple #[.int .i64 z1, .int .i64 z2, .int .i64 z3, .int .i64 z4]) ∧ Below W.heap.size W w') := Lib.hid (fun W hW => by
      have := refFill19 l A n c W (hF.keep hW) hl (by omega) hB
      rw [hz] at this
      exact this)
    have K3 : Hid (∀ W, Below w.heap.size w W → Calls Try.prog 6 #[.slice A n c, .int .i64 x, .int .i64 y] W fun e w' => e = .returned (.int .i64 h) ∧ Below W.heap.size W w') := Lib.hid (fun W hW => by
      rw [← hh]
      exact hit19 l A n c x y W (hF.keep hW) hl (by omega))
    have K4 : Hid (∀ W, Below w.heap.size w W → Calls Try.prog 7 #[.slice A n c, .int .i64 x, .int .i64 y] W fun e w' => e = .returned (.int .i64 h) ∧ Below W.heap.size W w') := Lib.hid (fun W hW => by
      rw [← hh]
      exact refHit19 l A n c x y W (hF.keep hW) hl (by omega))
    have K1 := Lib.hid K1
    have hz2 : ¬ (2100 : Int) < n := by omega
    dsimp only at K1
    clear hz hh hF hl hB
    go_enter Try.func3, Try.ntmps3
    go_wp2_with (first
      | (go_at_call 4; (with_reducible refine K1.out.mono ?_); rintro e w1 ⟨rfl, hb1⟩; have B1 := Lib.hid hb1; clear hb1)
      | (go_at_call 5; (with_reducible refine (K2.out _ B1.out).mono ?_); rintro e w2 ⟨rfl, hb2⟩; have B2 := Lib.hid (b_nx19 B1.out hb2); clear hb2)
      | (go_at_call 6; (with_reducible refine (K3.out _ B2.out).mono ?_); rintro e w3 ⟨rfl, hb3⟩; have B3 := Lib.hid (b_nx19 B2.out hb3); clear hb3)
      | (go_at_call 7; (with_reducible refine (K4.out _ B3.out).mono ?_); rintro e w4 ⟨rfl, hb4⟩; have B4 := Lib.hid (b_nx19 B3.out hb4); clear hb4))
    go_ret
    exact ⟨rfl, B4.out⟩
  · have hz2 : (2100 : Int) < n := by omega
    clear hF hl hB hn
    go_enter Try.func3, Try.ntmps3
    go_wp2
    go_ret
    exact ⟨rfl, Below.refl _ _⟩
theorem walkRightPoints (a0 : Option Addr) (len0 cap0 : Nat) (z0 : List Fr) (a1 : Int) (a2 : Int) (w : World) (w0 : FragsIn w a0 len0 cap0 z0) (_w1 : (Lit.int .i64 a1).wf = true) (_w2 : (Lit.int .i64 a2).wf = true) :
    Calls Try.prog 3 #[.slice a0 len0 cap0, .int .i64 a1, .int .i64 a2] w fun e w' => e = .returned (.bool true) ∧ Below w.heap.size w w' :=
  points19 z0 a0 len0 cap0 a1 a2 w w0.1 w0.2.1 w0.2.2.2.2 w0.2.2.2.1
end Go.Proofs.Ytieaoebphlcmpaa
