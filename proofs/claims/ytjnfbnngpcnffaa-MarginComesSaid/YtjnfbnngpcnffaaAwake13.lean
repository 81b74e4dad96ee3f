/-
  The chapter's examples, of any Join, One, Value, May that answer as is asked.
-/
import Derived.Test.YtjnfbnngpcnffaaRefJoin13
import Derived.Deep.RegionHeld3
import Derived.Deep.Cut
namespace Go.Proofs.Ytjnfbnngpcnffaa
open Go.RowKit

def AwakeOK13 (f : Nat) : Prop := ∀ w : World, Calls Try.prog f #[] w fun e w' => e = .returned (.bool true) ∧ Below w.heap.size w w'
set_option maxRecDepth 100000 in
set_option maxHeartbeats 8000000 in
theorem awake13_any (hJ : JoinOK 8) (hO : OneOK 12) (hM : MayOK13 10) (hV : ValueOK 14) : AwakeOK13 16 := by
  intro w
  have K5 := Lib.hid (fun W => hO 5 W)
  have K8 := Lib.hid (fun W => hO 8 W)
  have K3 := Lib.hid (fun W => hO (-3) W)
  have K0 := Lib.hid (fun W => hO 0 W)
  have KJ := Lib.hid (fun u W (hW : MgIn W u [(5, 0), (8, 0), (0, -3)]) => hJ _ u W hW (by decide))
  have KN := Lib.hid (fun W => hJ [] _ W (MgIn.nil W) (by decide))
  have KV := Lib.hid (fun W => hV (8, -3) W)
  have KM := Lib.hid (fun W => hM (8, -3) W)
  have KX := Lib.hid (fun W => hM (-1, 0) W)
  have e5 : oneM 5 = (5, 0) := by decide
  have e8 : oneM 8 = (8, 0) := by decide
  have e3 : oneM (-3) = (0, -3) := by decide
  have e0 : oneM 0 = (0, 0) := by decide
  have ej : joinM [(5, 0), (8, 0), (0, -3)] = (8, -3) := by decide
  have en : joinM [] = (0, 0) := by decide
  have ev : valueM (8, -3) = 5 := by decide
  have em : decide (MayM (8, -3)) = true := by decide
  have ex : decide (MayM (-1, 0)) = false := by decide
  rw [e5] at K5
  rw [e8] at K8
  rw [e3] at K3
  rw [e0] at K0
  rw [ej] at KJ
  rw [en] at KN
  rw [ev] at KV
  rw [em] at KM
  rw [ex] at KX
  unfold mgV at K5 K8 K3 K0 KJ KN KV KM KX
  dsimp only at K5 K8 K3 K0 KJ KN KV KM KX
  have KJ : Hid (∀ W : World, Calls Try.prog 8 #[.slice (some ⟨W.heap.size, 0, none⟩) 3 3] (W.alloc (.cells #[.int .i64 5, .int .i64 0, .int .i64 8, .int .i64 0, .int .i64 0, .int .i64 (-3)] 24)) fun e w' => e = .returned (.agg #[.int .i64 8, .int .i64 (-3)]) ∧ Below (W.alloc (.cells #[.int .i64 5, .int .i64 0, .int .i64 8, .int .i64 0, .int .i64 0, .int .i64 (-3)] 24)).heap.size (W.alloc (.cells #[.int .i64 5, .int .i64 0, .int .i64 8, .int .i64 0, .int .i64 0, .int .i64 (-3)] 24)) w') := Lib.hid (fun W => KJ.out _ _ (mgs_new [(5, 0), (8, 0), (0, -3)] (by decide) _))
  clear e5 e8 e3 e0 ej en ev em ex hJ hO hM hV
  go_enter Try.func16, Try.ntmps16
  go_upto_region 2 with (first
    | (go_at_call 12; (with_reducible refine (K5.out _).mono ?_); rintro e w1 ⟨rfl, hb⟩; have B1 : Hid (Below w.heap.size w w1) := Lib.hid hb; clear hb)
    | (go_at_call 12; (with_reducible refine (K8.out _).mono ?_); rintro e w2 ⟨rfl, hb⟩; have B2 : Hid (Below w.heap.size w w2) := Lib.hid (B1.out.trans (hb.mono B1.out.size)); clear hb)
    | (go_at_call 12; (with_reducible refine (K3.out _).mono ?_); rintro e w3 ⟨rfl, hb⟩; have B3 : Hid (Below w.heap.size w w3) := Lib.hid (B2.out.trans (hb.mono B2.out.size)); clear hb)
    | (go_at_call 8; (with_reducible refine (KJ.out _).mono ?_); rintro e w4 ⟨rfl, hb⟩; have B4 : Hid (Below w.heap.size w w4) := Lib.hid (b_next (B3.out.alloc B3.out.size _) hb); clear hb))
  have B5 : Hid (Below w.heap.size w (w4.alloc (.cells #[.int .i64 8, .int .i64 (-3)] 24))) := Lib.hid (B4.out.alloc B4.out.size _)
  have G5 : Hid (MgAt (w4.alloc (.cells #[.int .i64 8, .int .i64 (-3)] 24)) w4.heap.size (8, -3)) := Lib.hid (MgAt.new w4 (8, -3))
  generalize w4.alloc (.cells #[.int .i64 8, .int .i64 (-3)] 24) = w5 at B5 G5 ⊢
  generalize w4.heap.size = g at G5 ⊢
  clear B1 B2 B3 B4 K8 KJ
  have CS : Hid (∀ W, Below w5.heap.size w5 W → W.cell? ⟨g, 0, none⟩ = some (.int .i64 8) ∧ W.cell? ⟨g, 1, none⟩ = some (.int .i64 (-3))) := Lib.hid (fun W hW => MgAt.cells (MgAt.keep G5.out hW))
  go_wp2_with (first
    | (go_at_call 12; (with_reducible refine (K5.out _).mono ?_); rintro e w6 ⟨rfl, hb⟩; have D6 : Hid (Below w5.heap.size w5 w6) := Lib.hid hb; clear hb)
    | (go_at_call 12; (with_reducible refine (K3.out _).mono ?_); rintro e w7 ⟨rfl, hb⟩; have D7 : Hid (Below w5.heap.size w5 w7) := Lib.hid (b_next D6.out hb); clear hb)
    | (go_at_call 12; (with_reducible refine (K0.out _).mono ?_); rintro e w8 ⟨rfl, hb⟩; have D8 : Hid (Below w5.heap.size w5 w8) := Lib.hid (b_next D7.out hb); obtain ⟨a0, a1⟩ := CS.out w8 D8.out; clear hb)
    | (go_at_call 8; (with_reducible refine (KN.out _).mono ?_); rintro e w9 ⟨rfl, hb⟩; have D9 : Hid (Below w5.heap.size w5 w9) := Lib.hid (b_next D8.out hb); obtain ⟨b0, b1⟩ := CS.out w9 D9.out; clear hb)
    | (go_at_call 14; (with_reducible refine (KV.out _).mono ?_); rintro e wa ⟨rfl, hb⟩; have Da : Hid (Below w5.heap.size w5 wa) := Lib.hid (b_next D9.out hb); obtain ⟨c0, c1⟩ := CS.out wa Da.out; clear hb)
    | (go_at_call 10; (with_reducible refine (KM.out _).mono ?_); rintro e wb ⟨rfl, hb⟩; have Db : Hid (Below w5.heap.size w5 wb) := Lib.hid (b_next Da.out hb); clear hb)
    | (go_at_call 10; (with_reducible refine (KX.out _).mono ?_); rintro e wc ⟨rfl, hb⟩; have Dc : Hid (Below w5.heap.size w5 wc) := Lib.hid (b_next Db.out hb); clear hb))
  go_ret
  exact ⟨by first | rfl | simp, b_next B5.out Dc.out⟩
end Go.Proofs.Ytjnfbnngpcnffaa
