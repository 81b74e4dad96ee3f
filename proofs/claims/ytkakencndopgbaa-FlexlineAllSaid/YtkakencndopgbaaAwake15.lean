/-
  The chapter's examples, of any Order, Split that answer as is asked.
-/
import Derived.Test.YtkakencndopgbaaRefOrder15
namespace Go.Proofs.Ytkakencndopgbaa
open Go.RowKit

def atZ (l : List Int) (i : Nat) : Int := l.getD i 0
theorem ints_new15 (W : World) (l : List Int) (T : TypeId) (hl : ∀ x ∈ l, -9223372036854775808 ≤ x ∧ x ≤ 9223372036854775807) : Ints (W.alloc (.cells (l.map (Value.int .i64)).toArray T)) (some ⟨W.heap.size, 0, none⟩) l.length (atZ l) := by
  have e : ∀ i, i < l.length → l[i]? = some (atZ l i) := fun i hi => by
    unfold atZ
    rw [List.getD_eq_getElem?_getD, List.getElem?_eq_getElem hi]
    rfl
  refine ⟨fun i hi => ?_, fun _ => ⟨W.heap.size, 0, rfl, by rw [World.size_alloc]; omega, fun i hi => ?_⟩⟩
  · exact hl _ (List.mem_of_getElem? (e i hi))
  · rw [World.cell?_alloc_new, Nat.zero_add, List.getElem?_toArray, List.getElem?_map, e i hi]
    rfl
theorem order_keep {W W' : World} {g : Nat} {a b c d : Value} (h : g < W.heap.size ∧ W.cell? ⟨g, 0, none⟩ = some a ∧ W.cell? ⟨g, 1, none⟩ = some b ∧ W.cell? ⟨g, 2, none⟩ = some c ∧ W.cell? ⟨g, 3, none⟩ = some d) (hb : Below W.heap.size W W') : g < W'.heap.size ∧ W'.cell? ⟨g, 0, none⟩ = some a ∧ W'.cell? ⟨g, 1, none⟩ = some b ∧ W'.cell? ⟨g, 2, none⟩ = some c ∧ W'.cell? ⟨g, 3, none⟩ = some d :=
  ⟨Nat.lt_of_lt_of_le h.1 hb.size, (hb.cell (p := ⟨g, 0, none⟩) h.1).trans h.2.1, (hb.cell (p := ⟨g, 1, none⟩) h.1).trans h.2.2.1, (hb.cell (p := ⟨g, 2, none⟩) h.1).trans h.2.2.2.1, (hb.cell (p := ⟨g, 3, none⟩) h.1).trans h.2.2.2.2⟩
set_option maxRecDepth 100000 in
set_option maxHeartbeats 8000000 in
theorem told15 (A : Option Addr) (m c : Nat) (L : List Mg) (A2 : Option Addr) (k c2 : Nat) (g : Nat → Int) (w : World) (h : LnIn15 w (.slice A m c) L) (hl : L.length = m) (hI : Ints w A2 k g) (hk : k = 2 * m) (hm : m ≤ 1000) (he : ∀ i, i < m → mu L i = g (2 * i) ∧ md L i = g (2 * i + 1)) :
    Calls Try.prog 27 #[.slice A m c, .int .i64 0, .slice A2 k c2] w fun e w' => e = .returned (.bool true) ∧ Below w.heap.size w w' := by
  have H := Lib.hid h
  have K := Lib.hid hI
  have HL := Lib.hid hl
  have HE := Lib.hid he
  have wm : IntKind.i64.wrap (2 * (m : Int)) = (k : Int) := by rw [IntWalk.i64_in _ (by omega)]; omega
  have nn : ((k : Int) != k) = (!true) := by simp
  have HK := Lib.hid hk
  clear h hI hl he hk
  go_enter Try.func27, Try.ntmps27
  go_wp2_with fail
  go_loopg [7] m (fun g1 vi wr => ∃ i : Nat, vi = .int .i64 i ∧ i ≤ m ∧ m - i ≤ g1 ∧ Hid (Below w.heap.size w wr))
  case atStart => exact ⟨0, rfl, by omega, by omega, Lib.hid (Below.refl _ _)⟩
  case round =>
    obtain ⟨i, rfl, hi, hg1, HB⟩ := hrel
    obtain ⟨wo, hwo⟩ : ∃ wo, wo = wr := ⟨_, rfl⟩
    subst hwo
    clear wm
    by_cases hlt : i < m
    · have hz : (i : Int) < m := by omega
      have hz0 : (0 : Int) ≤ i := by omega
      have wi : IntKind.i64.wrap ((i : Int) + 1) = (i : Int) + 1 := IntWalk.i64_in _ (by omega)
      have wa : IntKind.i64.wrap (2 * (i : Int)) = ((2 * i : Nat) : Int) := by rw [IntWalk.i64_in _ (by omega)]; omega
      have wb : IntKind.i64.wrap (((2 * i : Nat) : Int) + 1) = ((2 * i + 1 : Nat) : Int) := by rw [IntWalk.i64_in _ (by omega)]; omega
      obtain ⟨b, off, c', e, x0, x1⟩ := (H.out.keep HB.out).get (i := i) (by have := HL.out; omega)
      injection e with e1 e2 e3
      subst e1 e3
      clear e2
      obtain ⟨b', off', e', -, y0⟩ := (K.out.below HB.out).at_ (show 2 * i < k by have := HK.out; omega)
      subst e'
      obtain ⟨b2, off2, e', -, y1⟩ := (K.out.below HB.out).at_ (show 2 * i + 1 < k by have := HK.out; omega)
      injection e' with e'
      injection e' with e1 e2
      subst e1 e2
      obtain ⟨q1, q2⟩ := HE.out i hlt
      rw [← q1] at y0
      rw [← q2] at y1
      clear q1 q2
      generalize mu L i = u at x0 y0
      generalize md L i = v at x1 y1
      have k1 : (u == u) = true := by simp
      have k2 : (v == v) = true := by simp
      have p0 : (0 : Int) ≤ ((2 * i : Nat) : Int) := by omega
      have p1 : ((2 * i : Nat) : Int) < k := by have := HK.out; omega
      have p2 : (0 : Int) ≤ ((2 * i + 1 : Nat) : Int) := by omega
      have p3 : ((2 * i + 1 : Nat) : Int) < k := by have := HK.out; omega
      generalize 2 * i = i2 at wa wb y0 p0 p1 y1 p2 p3
      generalize i2 + 1 = i3 at wb y1 p2 p3
      go_wp2_with fail
      go_quiet (fail)
      have B5 : Hid (Below w.heap.size w (wo.drewN nq)) := Lib.hid (b_next15 HB.out (drewN_below wo nq wo.heap.size))
      go_wp2_with fail
      go_roundg (m - (i + 1))
      case measure => omega
      case rel => exact ⟨i + 1, by go_num, by omega, Nat.le_refl _, B5⟩
    · obtain rfl : i = m := by omega
      have hz : ¬ (i : Int) < i := by omega
      go_wp2_with fail
      go_ret
      exact ⟨rfl, HB.out⟩
-- AWAKE --
theorem split_lit {F : Nat} (hS : SplitOK F) (l : List Int) (gap room : Int) (wrap : Bool) (L : List Mg) (m n : Nat) (hn : l.length = n) (hl : n ≤ 1000) (hE : splitE (atZ l) n gap room = 0) (hL : castL (splitL (atZ l) n gap room wrap) = L) (hm : L.length = m) (A : Option Addr) (c : Nat) (W : World) (hW : Ints W A n (atZ l)) (hc : n ≤ c ∧ c ≤ 9223372036854775807) :
    Calls Try.prog F #[.slice A n c, .int .i64 gap, .int .i64 room, .bool wrap] W fun e w' => ∃ A2 c2, e = .returned (.tuple #[.slice A2 m c2, .int .i64 0]) ∧ LnIn15 w' (.slice A2 m c2) L ∧ Below W.heap.size W w' := by
  refine (hS A n c (atZ l) gap room wrap W hW (by omega) hc).mono ?_
  rintro e w' ⟨v, rfl, hO, hb⟩
  rw [hE]
  rw [hL] at hO
  obtain ⟨A2, c2, ev, -, -, -⟩ := own_form hO
  rw [hm] at ev
  subst ev
  exact ⟨A2, c2, rfl, hO.mgs, hb⟩
def qA (i : Nat) : Nat := if i = 0 then 1 else if i = 1 then 3 else if i = 2 then 0 else 2
theorem qA_ord : OrdZ (atZ [0, -1, 0, -1]) qA 4 := by
  refine ⟨fun i hi => ?_, fun k hk => ?_, fun j k _ hjk hk => ?_⟩
  · have : i = 0 ∨ i = 1 ∨ i = 2 ∨ i = 3 := by omega
    rcases this with rfl | rfl | rfl | rfl
    · exact ⟨2, by decide, rfl⟩
    · exact ⟨0, by decide, rfl⟩
    · exact ⟨3, by decide, rfl⟩
    · exact ⟨1, by decide, rfl⟩
  · unfold qA
    split
    · omega
    · split
      · omega
      · split <;> omega
  · have h1 : j = 0 ∨ j = 1 ∨ j = 2 := by omega
    have h2 : k = 1 ∨ k = 2 ∨ k = 3 := by omega
    rcases h1 with rfl | rfl | rfl <;> rcases h2 with rfl | rfl | rfl <;> first | omega | (unfold T; decide)
theorem four_lt {l : List Int} (h : l.all (fun x => decide (-1000 ≤ x ∧ x ≤ 1000)) = true) : ∀ x ∈ l, -9223372036854775808 ≤ x ∧ x ≤ 9223372036854775807 := by
  intro x hx
  have := List.all_eq_true.1 h x hx
  have := of_decide_eq_true this
  omega
set_option maxRecDepth 100000 in
set_option maxHeartbeats 8000000 in
theorem awake15_any (hO : OrderOK 11) (hS : SplitOK 14) : AwakeOK15 16 := by
  intro w
  have K0 : Hid (∀ W : World, Calls Try.prog 11 #[.slice (some ⟨W.heap.size, 0, none⟩) 4 4] (W.alloc (.cells #[.int .i64 0, .int .i64 (-1), .int .i64 0, .int .i64 (-1)] 3)) fun e w' => ∃ g c, e = .returned (.slice (some ⟨g, 0, none⟩) 4 c) ∧ Hid (g < w'.heap.size ∧ w'.cell? ⟨g, 0, none⟩ = some (.int .i64 1) ∧ w'.cell? ⟨g, 1, none⟩ = some (.int .i64 3) ∧ w'.cell? ⟨g, 2, none⟩ = some (.int .i64 0) ∧ w'.cell? ⟨g, 3, none⟩ = some (.int .i64 2)) ∧ Below W.heap.size W w') := Lib.hid (fun W => by
    refine (hO _ 4 4 _ qA _ (ints_new15 W [0, -1, 0, -1] 3 (four_lt (by decide))) (by decide) ⟨by decide, by decide⟩ qA_ord).mono ?_
    rintro e w' ⟨v, rfl, ho, hb⟩
    obtain ⟨g, c, rfl, -, -, -, h1, h2, -⟩ := ho.at_ (by decide)
    exact ⟨g, c, rfl, Lib.hid ⟨h1, h2 0 1 rfl, h2 1 3 rfl, h2 2 0 rfl, h2 3 2 rfl⟩, ((Below.refl _ W).alloc (Nat.le_refl _) _).trans (hb.mono (by rw [World.size_alloc]; omega))⟩)
  have Ka : Hid (∀ (A : Option Addr) (W : World), Ints W A 3 (atZ [3, 3, 3]) → Calls Try.prog 14 #[.slice A 3 3, .int .i64 1, .int .i64 7, .bool true] W fun e w' => ∃ A2 c2, e = .returned (.tuple #[.slice A2 2 c2, .int .i64 0]) ∧ LnIn15 w' (.slice A2 2 c2) [(0, 2), (2, 3)] ∧ Below W.heap.size W w') := Lib.hid (fun A W hW => split_lit hS [3, 3, 3] 1 (7) true [(0, 2), (2, 3)] 2 3 rfl (by decide) (by kernel_rfl) (by kernel_rfl) rfl A 3 W hW ⟨by decide, by decide⟩)
  have Ta : Hid (∀ (A : Option Addr) (c : Nat) (W : World), LnIn15 W (.slice A 2 c) [(0, 2), (2, 3)] → Calls Try.prog 27 #[.slice A 2 c, .int .i64 0, .slice (some ⟨W.heap.size, 0, none⟩) 4 4] (W.alloc (.cells #[.int .i64 0, .int .i64 2, .int .i64 2, .int .i64 3] 3)) fun e w' => e = .returned (.bool true) ∧ Below W.heap.size W w') := Lib.hid (fun A c W h => by
    refine (told15 A 2 c [(0, 2), (2, 3)] _ 4 4 (atZ [0, 2, 2, 3]) _ (h.keep ((Below.refl _ W).alloc (Nat.le_refl _) _)) rfl (ints_new15 W [0, 2, 2, 3] 3 (four_lt (by decide))) (by decide) (by decide) (by decide)).mono ?_
    rintro e w' ⟨rfl, hb⟩
    exact ⟨rfl, ((Below.refl _ W).alloc (Nat.le_refl _) _).trans (hb.mono (by rw [World.size_alloc]; omega))⟩)
  have Kb : Hid (∀ (A : Option Addr) (W : World), Ints W A 3 (atZ [3, 3, 3]) → Calls Try.prog 14 #[.slice A 3 3, .int .i64 1, .int .i64 6, .bool true] W fun e w' => ∃ A2 c2, e = .returned (.tuple #[.slice A2 3 c2, .int .i64 0]) ∧ LnIn15 w' (.slice A2 3 c2) [(0, 1), (1, 2), (2, 3)] ∧ Below W.heap.size W w') := Lib.hid (fun A W hW => split_lit hS [3, 3, 3] 1 (6) true [(0, 1), (1, 2), (2, 3)] 3 3 rfl (by decide) (by kernel_rfl) (by kernel_rfl) rfl A 3 W hW ⟨by decide, by decide⟩)
  have Tb : Hid (∀ (A : Option Addr) (c : Nat) (W : World), LnIn15 W (.slice A 3 c) [(0, 1), (1, 2), (2, 3)] → Calls Try.prog 27 #[.slice A 3 c, .int .i64 0, .slice (some ⟨W.heap.size, 0, none⟩) 6 6] (W.alloc (.cells #[.int .i64 0, .int .i64 1, .int .i64 1, .int .i64 2, .int .i64 2, .int .i64 3] 3)) fun e w' => e = .returned (.bool true) ∧ Below W.heap.size W w') := Lib.hid (fun A c W h => by
    refine (told15 A 3 c [(0, 1), (1, 2), (2, 3)] _ 6 6 (atZ [0, 1, 1, 2, 2, 3]) _ (h.keep ((Below.refl _ W).alloc (Nat.le_refl _) _)) rfl (ints_new15 W [0, 1, 1, 2, 2, 3] 3 (four_lt (by decide))) (by decide) (by decide) (by decide)).mono ?_
    rintro e w' ⟨rfl, hb⟩
    exact ⟨rfl, ((Below.refl _ W).alloc (Nat.le_refl _) _).trans (hb.mono (by rw [World.size_alloc]; omega))⟩)
  have Kc : Hid (∀ (A : Option Addr) (W : World), Ints W A 3 (atZ [3, 3, 3]) → Calls Try.prog 14 #[.slice A 3 3, .int .i64 1, .int .i64 6, .bool false] W fun e w' => ∃ A2 c2, e = .returned (.tuple #[.slice A2 1 c2, .int .i64 0]) ∧ LnIn15 w' (.slice A2 1 c2) [(0, 3)] ∧ Below W.heap.size W w') := Lib.hid (fun A W hW => split_lit hS [3, 3, 3] 1 (6) false [(0, 3)] 1 3 rfl (by decide) (by kernel_rfl) (by kernel_rfl) rfl A 3 W hW ⟨by decide, by decide⟩)
  have Tc : Hid (∀ (A : Option Addr) (c : Nat) (W : World), LnIn15 W (.slice A 1 c) [(0, 3)] → Calls Try.prog 27 #[.slice A 1 c, .int .i64 0, .slice (some ⟨W.heap.size, 0, none⟩) 2 2] (W.alloc (.cells #[.int .i64 0, .int .i64 3] 3)) fun e w' => e = .returned (.bool true) ∧ Below W.heap.size W w') := Lib.hid (fun A c W h => by
    refine (told15 A 1 c [(0, 3)] _ 2 2 (atZ [0, 3]) _ (h.keep ((Below.refl _ W).alloc (Nat.le_refl _) _)) rfl (ints_new15 W [0, 3] 3 (four_lt (by decide))) (by decide) (by decide) (by decide)).mono ?_
    rintro e w' ⟨rfl, hb⟩
    exact ⟨rfl, ((Below.refl _ W).alloc (Nat.le_refl _) _).trans (hb.mono (by rw [World.size_alloc]; omega))⟩)
  have Kd : Hid (∀ (W : World), Calls Try.prog 14 #[.slice (some ⟨W.heap.size, 0, none⟩) 2 2, .int .i64 0, .int .i64 (5), .bool true] (W.alloc (.cells #[.int .i64 9, .int .i64 1] 3)) fun e w' => ∃ A2 c2, e = .returned (.tuple #[.slice A2 2 c2, .int .i64 0]) ∧ LnIn15 w' (.slice A2 2 c2) [(0, 1), (1, 2)] ∧ Below W.heap.size W w') := Lib.hid (fun W => by
    refine (split_lit hS [9, 1] 0 (5) true [(0, 1), (1, 2)] 2 2 rfl (by decide) (by kernel_rfl) (by kernel_rfl) rfl _ 2 _ (ints_new15 W [9, 1] 3 (four_lt (by decide))) ⟨by decide, by decide⟩).mono ?_
    rintro e w' ⟨A2, c2, rfl, h1, hb⟩
    exact ⟨A2, c2, rfl, h1, ((Below.refl _ W).alloc (Nat.le_refl _) _).trans (hb.mono (by rw [World.size_alloc]; omega))⟩)
  have Td : Hid (∀ (A : Option Addr) (c : Nat) (W : World), LnIn15 W (.slice A 2 c) [(0, 1), (1, 2)] → Calls Try.prog 27 #[.slice A 2 c, .int .i64 0, .slice (some ⟨W.heap.size, 0, none⟩) 4 4] (W.alloc (.cells #[.int .i64 0, .int .i64 1, .int .i64 1, .int .i64 2] 3)) fun e w' => e = .returned (.bool true) ∧ Below W.heap.size W w') := Lib.hid (fun A c W h => by
    refine (told15 A 2 c [(0, 1), (1, 2)] _ 4 4 (atZ [0, 1, 1, 2]) _ (h.keep ((Below.refl _ W).alloc (Nat.le_refl _) _)) rfl (ints_new15 W [0, 1, 1, 2] 3 (four_lt (by decide))) (by decide) (by decide) (by decide)).mono ?_
    rintro e w' ⟨rfl, hb⟩
    exact ⟨rfl, ((Below.refl _ W).alloc (Nat.le_refl _) _).trans (hb.mono (by rw [World.size_alloc]; omega))⟩)
  have Ki : Hid (∀ (W : World), Calls Try.prog 14 #[.slice (some ⟨W.heap.size, 0, none⟩) 2 2, .int .i64 0, .int .i64 (-1), .bool true] (W.alloc (.cells #[.int .i64 9, .int .i64 1] 3)) fun e w' => ∃ A2 c2, e = .returned (.tuple #[.slice A2 1 c2, .int .i64 0]) ∧ LnIn15 w' (.slice A2 1 c2) [(0, 2)] ∧ Below W.heap.size W w') := Lib.hid (fun W => by
    refine (split_lit hS [9, 1] 0 (-1) true [(0, 2)] 1 2 rfl (by decide) (by kernel_rfl) (by kernel_rfl) rfl _ 2 _ (ints_new15 W [9, 1] 3 (four_lt (by decide))) ⟨by decide, by decide⟩).mono ?_
    rintro e w' ⟨A2, c2, rfl, h1, hb⟩
    exact ⟨A2, c2, rfl, h1, ((Below.refl _ W).alloc (Nat.le_refl _) _).trans (hb.mono (by rw [World.size_alloc]; omega))⟩)
  have Ti : Hid (∀ (A : Option Addr) (c : Nat) (W : World), LnIn15 W (.slice A 1 c) [(0, 2)] → Calls Try.prog 27 #[.slice A 1 c, .int .i64 0, .slice (some ⟨W.heap.size, 0, none⟩) 2 2] (W.alloc (.cells #[.int .i64 0, .int .i64 2] 3)) fun e w' => e = .returned (.bool true) ∧ Below W.heap.size W w') := Lib.hid (fun A c W h => by
    refine (told15 A 1 c [(0, 2)] _ 2 2 (atZ [0, 2]) _ (h.keep ((Below.refl _ W).alloc (Nat.le_refl _) _)) rfl (ints_new15 W [0, 2] 3 (four_lt (by decide))) (by decide) (by decide) (by decide)).mono ?_
    rintro e w' ⟨rfl, hb⟩
    exact ⟨rfl, ((Below.refl _ W).alloc (Nat.le_refl _) _).trans (hb.mono (by rw [World.size_alloc]; omega))⟩)
  have Kx : Hid (∀ (W : World), Calls Try.prog 14 #[.slice none 0 0, .int .i64 0, .int .i64 5, .bool true] W fun e w' => ∃ A2 c2, e = .returned (.tuple #[.slice A2 0 c2, .int .i64 0]) ∧ LnIn15 w' (.slice A2 0 c2) [] ∧ Below W.heap.size W w') := Lib.hid (fun W => split_lit hS [] 0 (5) true [] 0 0 rfl (by decide) (by kernel_rfl) (by kernel_rfl) rfl none 0 W (Ints.zero _ _) ⟨by decide, by decide⟩)
  have Tx : Hid (∀ (A : Option Addr) (c : Nat) (W : World), LnIn15 W (.slice A 0 c) [] → Calls Try.prog 27 #[.slice A 0 c, .int .i64 0, .slice none 0 0] W fun e w' => e = .returned (.bool true) ∧ Below W.heap.size W w') := Lib.hid (fun A c W h => by
    exact told15 A 0 c [] none 0 0 (atZ []) W h rfl (Ints.zero _ _) rfl (by decide) (fun i hi => absurd hi (by omega)))
  have Kn : Hid (∀ (W : World), Calls Try.prog 14 #[.slice (some ⟨W.heap.size, 0, none⟩) 1 1, .int .i64 (-1), .int .i64 5, .bool true] (W.alloc (.cells #[.int .i64 1] 3)) fun e w' => ∃ A2 c2, e = .returned (.tuple #[.slice A2 0 c2, .int .i64 2]) ∧ Below W.heap.size W w') := Lib.hid (fun W => by
    refine (hS _ 1 1 (atZ [1]) (-1) 5 true _ (ints_new15 W [1] 3 (four_lt (by decide))) (by decide) ⟨by decide, by decide⟩).mono ?_
    rintro e w' ⟨v, rfl, ho, hb⟩
    obtain ⟨A2, c2, ev, -, -, -⟩ := own_form ho
    rw [show (castL (splitL (atZ [1]) 1 (-1) 5 true)).length = 0 from by kernel_rfl] at ev
    subst ev
    exact ⟨A2, c2, by rw [show splitE (atZ [1]) 1 (-1) 5 = 2 from by kernel_rfl], ((Below.refl _ W).alloc (Nat.le_refl _) _).trans (hb.mono (by rw [World.size_alloc]; omega))⟩)
  clear hO hS
  go_enter Try.func16, Try.ntmps16
  go_upto_region 2 with (go_at_call 11; (with_reducible refine (K0.out _).mono ?_); rintro e w1 ⟨go, co, rfl, hO, hb⟩; have O1 := hO; have B1 := Lib.hid hb; clear hO hb)
  have I1 := Lib.hid (ints_new15 w1 [3, 3, 3] 3 (four_lt (by decide)))
  have C1 : Hid (Below w1.heap.size w1 (w1.alloc (.cells #[.int .i64 3, .int .i64 3, .int .i64 3] 3))) := Lib.hid ((Below.refl _ _).alloc (Nat.le_refl _) _)
  simp only [List.map_cons, List.map_nil, List.length_cons, List.length_nil] at I1
  go_upto_region 3 with fail
  have B2 := Lib.hid (b_next15 B1.out C1.out)
  have O2 : Hid _ := Lib.hid (order_keep O1.out C1.out)
  have I2 : Hid (Ints (w1.alloc (.cells #[.int .i64 3, .int .i64 3, .int .i64 3] 3)) (some ⟨w1.heap.size, 0, none⟩) 3 (atZ [3, 3, 3])) := I1
  clear O1 B1 C1 I1
  generalize w1.alloc (.cells #[.int .i64 3, .int .i64 3, .int .i64 3] 3) = w2 at B2 O2 I2 ⊢
  generalize w1.heap.size = g3 at I2 ⊢
  go_upto_region 4 with (go_at_call 14; (with_reducible refine (Ka.out _ _ I2.out).mono ?_); rintro e w3 ⟨Aa, ca, rfl, hL, hb⟩; have B3 := Lib.hid (b_next15 B2.out hb); have O3 : Hid _ := Lib.hid (order_keep O2.out hb); have I3 := Lib.hid (I2.out.below hb); have La3 := Lib.hid hL; clear hb hL B2 O2 I2 )
  go_upto_region 5 with (go_at_call 14; (with_reducible refine (Kb.out _ _ I3.out).mono ?_); rintro e w4 ⟨Ab, cb, rfl, hL, hb⟩; have B4 := Lib.hid (b_next15 B3.out hb); have O4 : Hid _ := Lib.hid (order_keep O3.out hb); have I4 := Lib.hid (I3.out.below hb); have La4 := Lib.hid (La3.out.keep hb); have Lb4 := Lib.hid hL; clear hb hL B3 O3 I3 La3)
  go_upto_region 6 with (go_at_call 14; (with_reducible refine (Kc.out _ _ I4.out).mono ?_); rintro e w5 ⟨Ac, cc, rfl, hL, hb⟩; have B5 := Lib.hid (b_next15 B4.out hb); have O5 : Hid _ := Lib.hid (order_keep O4.out hb); have I5 := Lib.hid (I4.out.below hb); have La5 := Lib.hid (La4.out.keep hb); have Lb5 := Lib.hid (Lb4.out.keep hb); have Lc5 := Lib.hid hL; clear hb hL B4 O4 I4 La4 Lb4)
  go_upto_region 7 with (go_at_call 14; (with_reducible refine (Kd.out _).mono ?_); rintro e w6 ⟨Ad, cd, rfl, hL, hb⟩; have B6 := Lib.hid (b_next15 B5.out hb); have O6 : Hid _ := Lib.hid (order_keep O5.out hb); have I6 := Lib.hid (I5.out.below hb); have La6 := Lib.hid (La5.out.keep hb); have Lb6 := Lib.hid (Lb5.out.keep hb); have Lc6 := Lib.hid (Lc5.out.keep hb); have Ld6 := Lib.hid hL; clear hb hL B5 O5 I5 La5 Lb5 Lc5)
  go_upto_region 8 with (go_at_call 14; (with_reducible refine (Ki.out _).mono ?_); rintro e w7 ⟨Ai, ci, rfl, hL, hb⟩; have B7 := Lib.hid (b_next15 B6.out hb); have O7 : Hid _ := Lib.hid (order_keep O6.out hb); have I7 := Lib.hid (I6.out.below hb); have La7 := Lib.hid (La6.out.keep hb); have Lb7 := Lib.hid (Lb6.out.keep hb); have Lc7 := Lib.hid (Lc6.out.keep hb); have Ld7 := Lib.hid (Ld6.out.keep hb); have Li7 := Lib.hid hL; clear hb hL B6 O6 I6 La6 Lb6 Lc6 Ld6)
  go_upto_region 9 with (go_at_call 14; (with_reducible refine (Kx.out _).mono ?_); rintro e w8 ⟨Ax, cx, rfl, hL, hb⟩; have B8 := Lib.hid (b_next15 B7.out hb); have O8 : Hid _ := Lib.hid (order_keep O7.out hb); have I8 := Lib.hid (I7.out.below hb); have La8 := Lib.hid (La7.out.keep hb); have Lb8 := Lib.hid (Lb7.out.keep hb); have Lc8 := Lib.hid (Lc7.out.keep hb); have Ld8 := Lib.hid (Ld7.out.keep hb); have Li8 := Lib.hid (Li7.out.keep hb); have Lx8 := Lib.hid hL; clear hb hL B7 O7 I7 La7 Lb7 Lc7 Ld7 Li7)
  go_wp2_with (first
    | (go_at_call 14; (with_reducible refine (Kn.out _).mono ?_); rintro e w9 ⟨An, cn, rfl, hb⟩; have B9 := Lib.hid (b_next15 B8.out hb); have O9 : Hid _ := Lib.hid (order_keep O8.out hb); have La9 := Lib.hid (La8.out.keep hb); have Lb9 := Lib.hid (Lb8.out.keep hb); have Lc9 := Lib.hid (Lc8.out.keep hb); have Ld9 := Lib.hid (Ld8.out.keep hb); have Li9 := Lib.hid (Li8.out.keep hb); have Lx9 := Lib.hid (Lx8.out.keep hb); clear hb; obtain ⟨-, o0, o1, o2, o3⟩ := O9.out)
    | (go_at_call 27; (with_reducible refine (Ta.out _ _ _ La9.out).mono ?_); rintro e w10 ⟨rfl, hb⟩; have B10 := Lib.hid (b_next15 B9.out hb); have Lb10 := Lib.hid (Lb9.out.keep hb); have Lc10 := Lib.hid (Lc9.out.keep hb); have Ld10 := Lib.hid (Ld9.out.keep hb); have Li10 := Lib.hid (Li9.out.keep hb); have Lx10 := Lib.hid (Lx9.out.keep hb); clear hb)
    | (go_at_call 27; (with_reducible refine (Tb.out _ _ _ Lb10.out).mono ?_); rintro e w11 ⟨rfl, hb⟩; have B11 := Lib.hid (b_next15 B10.out hb); have Lc11 := Lib.hid (Lc10.out.keep hb); have Ld11 := Lib.hid (Ld10.out.keep hb); have Li11 := Lib.hid (Li10.out.keep hb); have Lx11 := Lib.hid (Lx10.out.keep hb); clear hb)
    | (go_at_call 27; (with_reducible refine (Tc.out _ _ _ Lc11.out).mono ?_); rintro e w12 ⟨rfl, hb⟩; have B12 := Lib.hid (b_next15 B11.out hb); have Ld12 := Lib.hid (Ld11.out.keep hb); have Li12 := Lib.hid (Li11.out.keep hb); have Lx12 := Lib.hid (Lx11.out.keep hb); clear hb)
    | (go_at_call 27; (with_reducible refine (Td.out _ _ _ Ld12.out).mono ?_); rintro e w13 ⟨rfl, hb⟩; have B13 := Lib.hid (b_next15 B12.out hb); have Li13 := Lib.hid (Li12.out.keep hb); have Lx13 := Lib.hid (Lx12.out.keep hb); clear hb)
    | (go_at_call 27; (with_reducible refine (Ti.out _ _ _ Li13.out).mono ?_); rintro e w14 ⟨rfl, hb⟩; have B14 := Lib.hid (b_next15 B13.out hb); have Lx14 := Lib.hid (Lx13.out.keep hb); clear hb)
    | (go_at_call 27; (with_reducible refine (Tx.out _ _ _ Lx14.out).mono ?_); rintro e w15 ⟨rfl, hb⟩; have B15 := Lib.hid (b_next15 B14.out hb); clear hb))
  go_ret
  exact ⟨by first | rfl | simp, B15.out⟩
end Go.Proofs.Ytkakencndopgbaa
