/-
  The law's awake, of any Fill and Widest that answer as is asked: the chapter's examples.
-/
import Derived.Test.YtpfeiiabplaghaaTold10b
import Derived.Test.YtpfeiiabplaghaaLinesAll
import Derived.Test.YtpfeiiabplaghaaRefFill
namespace Go.Proofs.Ytpfeiiabplaghaa
open Go.RowKit

theorem ints_new (w : World) (T : TypeId) (ws : List Int) : IntsAt (w.alloc (.cells (ws.map (Value.int .i64)).toArray T)) w.heap.size ws :=
  ⟨by rw [World.size_alloc]; omega, fun j x hx => by
    rw [World.cell?_alloc_new]
    simp [hx]⟩
theorem items_new (K : ByteArray) (ws : List Int) (w : World) (T : TypeId) (hl : K.data.toList.length = ws.length) (hn : ws.length ≤ 1000) :
    Calls Try.prog 27 #[.string K, .slice (some ⟨w.heap.size, 0, none⟩) ws.length ws.length] (w.alloc (.cells (ws.map (Value.int .i64)).toArray T)) fun e w' => ∃ v, e = .returned v ∧ ItIn w' v (itemsOf K.data.toList ws) ∧ Below w.heap.size w w' := by
  refine (items_any K ws w.heap.size ws.length _ hl hn (ints_new w T ws)).mono ?_
  rintro e w' ⟨v, rfl, h1, h2⟩
  exact ⟨v, rfl, h1.its, ((Below.refl _ w).alloc (Nat.le_refl _) _).trans (h2.mono (by rw [World.size_alloc]; omega))⟩
def tri (R : List Ln) : List Int := R.flatMap (fun x => [(x.1 : Int), (x.2.1 : Int), x.2.2])
theorem tri_get {R : List Ln} {i : Nat} {x : Ln} (h : R[i]? = some x) : (tri R)[3 * i]? = some (x.1 : Int) ∧ (tri R)[3 * i + 1]? = some (x.2.1 : Int) ∧ (tri R)[3 * i + 2]? = some x.2.2 := by
  induction R generalizing i with
  | nil => simp at h
  | cons y R ih =>
    cases i with
    | zero =>
      obtain rfl : y = x := by simpa using h
      exact ⟨rfl, rfl, rfl⟩
    | succ i =>
      obtain ⟨h1, h2, h3⟩ := ih (i := i) (by simpa using h)
      have e : tri (y :: R) = [(y.1 : Int), (y.2.1 : Int), y.2.2] ++ tri R := rfl
      rw [e]
      refine ⟨?_, ?_, ?_⟩
      · rw [List.getElem?_append_right (by simp; omega), show 3 * (i + 1) - [(y.1 : Int), (y.2.1 : Int), y.2.2].length = 3 * i by simp; omega]; exact h1
      · rw [List.getElem?_append_right (by simp; omega), show 3 * (i + 1) + 1 - [(y.1 : Int), (y.2.1 : Int), y.2.2].length = 3 * i + 1 by simp; omega]; exact h2
      · rw [List.getElem?_append_right (by simp; omega), show 3 * (i + 1) + 2 - [(y.1 : Int), (y.2.1 : Int), y.2.2].length = 3 * i + 2 by simp; omega]; exact h3
theorem tri_len (R : List Ln) : (tri R).length = 3 * R.length := by
  induction R with
  | nil => rfl
  | cons y R ih =>
    have e : tri (y :: R) = [(y.1 : Int), (y.2.1 : Int), y.2.2] ++ tri R := rfl
    rw [e, List.length_append, ih, List.length_cons]
    simp
    omega
theorem told_new (R : List Ln) (v : Value) (w : World) (T : TypeId) (hv : LnIn w v R) (hR : R.length ≤ 1000) :
    Calls Try.prog 28 #[v, .int .i64 0, .slice (some ⟨w.heap.size, 0, none⟩) (tri R).length (tri R).length] (w.alloc (.cells ((tri R).map (Value.int .i64)).toArray T)) fun e w' => e = .returned (.bool true) ∧ Below w.heap.size w w' := by
  have hb := (Below.refl w.heap.size w).alloc (Nat.le_refl _) (.cells ((tri R).map (Value.int .i64)).toArray T)
  have hi := ints_new w T (tri R)
  refine (told_yes10 R v _ _ _ _ (hv.keep hb) (tri_len R).symm hR (fun _ => ⟨_, rfl, hi.1, fun i x hx => ?_⟩)).mono ?_
  · obtain ⟨h1, h2, h3⟩ := tri_get hx
    exact ⟨hi.2 _ _ h1, hi.2 _ _ h2, hi.2 _ _ h3⟩
  · rintro e w' ⟨rfl, q, rfl⟩
    exact ⟨rfl, hb.trans ⟨rfl, rfl, rfl, Nat.le_refl _, fun _ _ => rfl⟩⟩
theorem fill_lit {f : Nat} (hF : FillOK f) (l : List It) (x : Int) (R : List Ln) (n : Nat) (h : fillA l x = (R, n)) (hl : l.length ≤ 2100) (hx : -9223372036854775808 ≤ x ∧ x ≤ 9223372036854775807) (hk : ∀ i, i < l.length → kd l i < 256 ∧ -9223372036854775808 ≤ wd l i ∧ wd l i ≤ 9223372036854775807) (v : Value) (w : World) (hv : ItIn w v l) :
    Calls Try.prog f #[v, .int .i64 x] w fun e w' => ∃ A c, e = .returned (.tuple #[.slice A R.length c, .int .i64 (n : Nat)]) ∧ LnIn w' (.slice A R.length c) R ∧ Below w.heap.size w w' := by
  refine (hF l v x w hv hl hx hk).mono ?_
  rintro e w' ⟨u, h1, h2, h3⟩
  rw [h] at h1 h2
  obtain ⟨A, c, rfl, h4⟩ := h2.lns
  exact ⟨A, c, h1, ⟨A, c, rfl, h4⟩, h3⟩

theorem ex10_0 : fillA (itemsOf [119, 95, 119, 95, 119] [3, 1, 3, 1, 3]) 7 = ([(0, 3, 7), (4, 5, 3)], 0) := by kernel_rfl
theorem ex10_1 : fillA (itemsOf [95, 119, 119, 95] [1, 9, 9, 1]) 5 = ([(1, 3, 18)], 0) := by kernel_rfl
theorem ex10_2 : fillA (itemsOf [119, 47, 47, 119, 47] [1, 0, 0, 1, 0]) 5 = ([(0, 1, 1), (2, 2, 0), (3, 4, 1)], 0) := by kernel_rfl
theorem ex10_3 : fillA (itemsOf [98, 98, 119] [2, 2, 1]) 4 = ([(0, 2, 4), (2, 3, 1)], 0) := by kernel_rfl
theorem ex10_4 : fillA [] 0 = ([], 0) := by kernel_rfl
theorem ex10_5 : fillA (itemsOf [119] [1]) (-1) = ([], 2) := by kernel_rfl
set_option maxRecDepth 100000 in
set_option maxHeartbeats 8000000 in
theorem awake10_any (hF : FillOK 11) (hW : WidestOK 13) : AwakeOK10 15 := by
  intro w
  have I0 := Lib.hid (show ∀ W : World, Calls Try.prog 27 #[.string ⟨#[119, 95, 119, 95, 119]⟩, .slice (some ⟨W.heap.size, 0, none⟩) 5 5] (W.alloc (.cells #[.int .i64 3, .int .i64 1, .int .i64 3, .int .i64 1, .int .i64 3] 3)) fun e w' => ∃ v, e = .returned v ∧ ItIn w' v (itemsOf [119, 95, 119, 95, 119] [3, 1, 3, 1, 3]) ∧ Below W.heap.size W w' from fun W => items_new ⟨#[119, 95, 119, 95, 119]⟩ [3, 1, 3, 1, 3] W 3 (by decide) (by decide))
  have F0 := Lib.hid (fun v W (hv : ItIn W v (itemsOf [119, 95, 119, 95, 119] [3, 1, 3, 1, 3])) => fill_lit hF _ 7 _ _ ex10_0 (by decide) (by omega) (by decide) v W hv)
  have T0 := Lib.hid (show ∀ (A : Option Addr) (c : Nat) (W : World), LnIn W (.slice A 2 c) [(0, 3, 7), (4, 5, 3)] → Calls Try.prog 28 #[.slice A 2 c, .int .i64 0, .slice (some ⟨W.heap.size, 0, none⟩) 6 6] (W.alloc (.cells #[.int .i64 0, .int .i64 3, .int .i64 7, .int .i64 4, .int .i64 5, .int .i64 3] 3)) fun e w' => e = .returned (.bool true) ∧ Below W.heap.size W w' from fun A c W h => told_new [(0, 3, 7), (4, 5, 3)] _ W 3 h (by decide))
  have I1 := Lib.hid (show ∀ W : World, Calls Try.prog 27 #[.string ⟨#[95, 119, 119, 95]⟩, .slice (some ⟨W.heap.size, 0, none⟩) 4 4] (W.alloc (.cells #[.int .i64 1, .int .i64 9, .int .i64 9, .int .i64 1] 3)) fun e w' => ∃ v, e = .returned v ∧ ItIn w' v (itemsOf [95, 119, 119, 95] [1, 9, 9, 1]) ∧ Below W.heap.size W w' from fun W => items_new ⟨#[95, 119, 119, 95]⟩ [1, 9, 9, 1] W 3 (by decide) (by decide))
  have F1 := Lib.hid (fun v W (hv : ItIn W v (itemsOf [95, 119, 119, 95] [1, 9, 9, 1])) => fill_lit hF _ 5 _ _ ex10_1 (by decide) (by omega) (by decide) v W hv)
  have T1 := Lib.hid (show ∀ (A : Option Addr) (c : Nat) (W : World), LnIn W (.slice A 1 c) [(1, 3, 18)] → Calls Try.prog 28 #[.slice A 1 c, .int .i64 0, .slice (some ⟨W.heap.size, 0, none⟩) 3 3] (W.alloc (.cells #[.int .i64 1, .int .i64 3, .int .i64 18] 3)) fun e w' => e = .returned (.bool true) ∧ Below W.heap.size W w' from fun A c W h => told_new [(1, 3, 18)] _ W 3 h (by decide))
  have I2 := Lib.hid (show ∀ W : World, Calls Try.prog 27 #[.string ⟨#[119, 47, 47, 119, 47]⟩, .slice (some ⟨W.heap.size, 0, none⟩) 5 5] (W.alloc (.cells #[.int .i64 1, .int .i64 0, .int .i64 0, .int .i64 1, .int .i64 0] 3)) fun e w' => ∃ v, e = .returned v ∧ ItIn w' v (itemsOf [119, 47, 47, 119, 47] [1, 0, 0, 1, 0]) ∧ Below W.heap.size W w' from fun W => items_new ⟨#[119, 47, 47, 119, 47]⟩ [1, 0, 0, 1, 0] W 3 (by decide) (by decide))
  have F2 := Lib.hid (fun v W (hv : ItIn W v (itemsOf [119, 47, 47, 119, 47] [1, 0, 0, 1, 0])) => fill_lit hF _ 5 _ _ ex10_2 (by decide) (by omega) (by decide) v W hv)
  have T2 := Lib.hid (show ∀ (A : Option Addr) (c : Nat) (W : World), LnIn W (.slice A 3 c) [(0, 1, 1), (2, 2, 0), (3, 4, 1)] → Calls Try.prog 28 #[.slice A 3 c, .int .i64 0, .slice (some ⟨W.heap.size, 0, none⟩) 9 9] (W.alloc (.cells #[.int .i64 0, .int .i64 1, .int .i64 1, .int .i64 2, .int .i64 2, .int .i64 0, .int .i64 3, .int .i64 4, .int .i64 1] 3)) fun e w' => e = .returned (.bool true) ∧ Below W.heap.size W w' from fun A c W h => told_new [(0, 1, 1), (2, 2, 0), (3, 4, 1)] _ W 3 h (by decide))
  have I3 := Lib.hid (show ∀ W : World, Calls Try.prog 27 #[.string ⟨#[98, 98, 119]⟩, .slice (some ⟨W.heap.size, 0, none⟩) 3 3] (W.alloc (.cells #[.int .i64 2, .int .i64 2, .int .i64 1] 3)) fun e w' => ∃ v, e = .returned v ∧ ItIn w' v (itemsOf [98, 98, 119] [2, 2, 1]) ∧ Below W.heap.size W w' from fun W => items_new ⟨#[98, 98, 119]⟩ [2, 2, 1] W 3 (by decide) (by decide))
  have F3 := Lib.hid (fun v W (hv : ItIn W v (itemsOf [98, 98, 119] [2, 2, 1])) => fill_lit hF _ 4 _ _ ex10_3 (by decide) (by omega) (by decide) v W hv)
  have T3 := Lib.hid (show ∀ (A : Option Addr) (c : Nat) (W : World), LnIn W (.slice A 2 c) [(0, 2, 4), (2, 3, 1)] → Calls Try.prog 28 #[.slice A 2 c, .int .i64 0, .slice (some ⟨W.heap.size, 0, none⟩) 6 6] (W.alloc (.cells #[.int .i64 0, .int .i64 2, .int .i64 4, .int .i64 2, .int .i64 3, .int .i64 1] 3)) fun e w' => e = .returned (.bool true) ∧ Below W.heap.size W w' from fun A c W h => told_new [(0, 2, 4), (2, 3, 1)] _ W 3 h (by decide))
  have I5 := Lib.hid (show ∀ W : World, Calls Try.prog 27 #[.string ⟨#[119]⟩, .slice (some ⟨W.heap.size, 0, none⟩) 1 1] (W.alloc (.cells #[.int .i64 1] 3)) fun e w' => ∃ v, e = .returned v ∧ ItIn w' v (itemsOf [119] [1]) ∧ Below W.heap.size W w' from fun W => items_new ⟨#[119]⟩ [1] W 3 (by decide) (by decide))
  have F4 := Lib.hid (fun W => fill_lit hF [] 0 _ _ ex10_4 (by decide) (by omega) (by decide) (.slice none 0 0) W ⟨none, 0, rfl, ⟨by simp, by omega⟩, fun h => absurd rfl h⟩)
  have F5 := Lib.hid (fun v W (hv : ItIn W v (itemsOf [119] [1])) => fill_lit hF _ (-1) _ _ ex10_5 (by decide) (by omega) (by decide) v W hv)
  have T4 := Lib.hid (show ∀ (A : Option Addr) (c : Nat) (W : World), LnIn W (.slice A 0 c) [] → Calls Try.prog 28 #[.slice A 0 c, .int .i64 0, .slice none 0 0] W fun e w' => e = .returned (.bool true) ∧ ∃ q, w' = W.drewN q from fun A c W h => told_yes10 [] _ none 0 0 W h rfl (by decide) (fun h => absurd rfl h))
  have KW := Lib.hid (show ∀ (A : Option Addr) (c : Nat) (W : World), LnIn W (.slice A 2 c) [(0, 3, 7), (4, 5, 3)] → Calls Try.prog 13 #[.slice A 2 c] W fun e w' => e = .returned (.int .i64 7) ∧ Below W.heap.size W w' from fun A c W h => hW [(0, 3, 7), (4, 5, 3)] _ W h (by decide))
  have B := Lib.hid (Below.refl w.heap.size w)
  clear hF hW
  go_enter Try.func15, Try.ntmps15
  go_wp2_with fail
  (with_reducible refine (I0.out _).mono ?_)
  rintro e wa0 ⟨va0, rfl, hI, hb⟩
  have V := Lib.hid hI; replace B := Lib.hid (B.out.trans (hb.mono B.out.size))
  clear hI hb I0
  go_wp2_with fail
  (with_reducible refine (F0.out _ _ V.out).mono ?_)
  rintro e wb0 ⟨A0, c0, rfl, hL, hb⟩
  replace B := Lib.hid (B.out.trans (hb.mono B.out.size))
  have L0 := Lib.hid hL
  clear hL hb F0 V
  go_wp2_with fail
  (with_reducible refine (I1.out _).mono ?_)
  rintro e wa1 ⟨va1, rfl, hI, hb⟩
  have V := Lib.hid hI; replace B := Lib.hid (B.out.trans (hb.mono B.out.size)); replace L0 := Lib.hid (L0.out.keep hb)
  clear hI hb I1
  go_wp2_with fail
  (with_reducible refine (F1.out _ _ V.out).mono ?_)
  rintro e wb1 ⟨A1, c1, rfl, hL, hb⟩
  replace B := Lib.hid (B.out.trans (hb.mono B.out.size)); replace L0 := Lib.hid (L0.out.keep hb)
  have L1 := Lib.hid hL
  clear hL hb F1 V
  go_wp2_with fail
  (with_reducible refine (I2.out _).mono ?_)
  rintro e wa2 ⟨va2, rfl, hI, hb⟩
  have V := Lib.hid hI; replace B := Lib.hid (B.out.trans (hb.mono B.out.size)); replace L0 := Lib.hid (L0.out.keep hb); replace L1 := Lib.hid (L1.out.keep hb)
  clear hI hb I2
  go_wp2_with fail
  (with_reducible refine (F2.out _ _ V.out).mono ?_)
  rintro e wb2 ⟨A2, c2, rfl, hL, hb⟩
  replace B := Lib.hid (B.out.trans (hb.mono B.out.size)); replace L0 := Lib.hid (L0.out.keep hb); replace L1 := Lib.hid (L1.out.keep hb)
  have L2 := Lib.hid hL
  clear hL hb F2 V
  go_wp2_with fail
  (with_reducible refine (I3.out _).mono ?_)
  rintro e wa3 ⟨va3, rfl, hI, hb⟩
  have V := Lib.hid hI; replace B := Lib.hid (B.out.trans (hb.mono B.out.size)); replace L0 := Lib.hid (L0.out.keep hb); replace L1 := Lib.hid (L1.out.keep hb); replace L2 := Lib.hid (L2.out.keep hb)
  clear hI hb I3
  go_wp2_with fail
  (with_reducible refine (F3.out _ _ V.out).mono ?_)
  rintro e wb3 ⟨A3, c3, rfl, hL, hb⟩
  replace B := Lib.hid (B.out.trans (hb.mono B.out.size)); replace L0 := Lib.hid (L0.out.keep hb); replace L1 := Lib.hid (L1.out.keep hb); replace L2 := Lib.hid (L2.out.keep hb)
  have L3 := Lib.hid hL
  clear hL hb F3 V
  go_wp2_with fail
  (with_reducible refine (F4.out _).mono ?_)
  rintro e wb4 ⟨A4, c4, rfl, hL, hb⟩
  replace B := Lib.hid (B.out.trans (hb.mono B.out.size)); replace L0 := Lib.hid (L0.out.keep hb); replace L1 := Lib.hid (L1.out.keep hb); replace L2 := Lib.hid (L2.out.keep hb); replace L3 := Lib.hid (L3.out.keep hb)
  have L4 := Lib.hid hL
  clear hL hb F4
  go_wp2_with fail
  (with_reducible refine (I5.out _).mono ?_)
  rintro e wa5 ⟨va5, rfl, hI, hb⟩
  have V := Lib.hid hI; replace B := Lib.hid (B.out.trans (hb.mono B.out.size)); replace L0 := Lib.hid (L0.out.keep hb); replace L1 := Lib.hid (L1.out.keep hb); replace L2 := Lib.hid (L2.out.keep hb); replace L3 := Lib.hid (L3.out.keep hb); replace L4 := Lib.hid (L4.out.keep hb)
  clear hI hb I5
  go_wp2_with fail
  (with_reducible refine (F5.out _ _ V.out).mono ?_)
  rintro e wb5 ⟨A5, c5, rfl, hL, hb⟩
  replace B := Lib.hid (B.out.trans (hb.mono B.out.size)); replace L0 := Lib.hid (L0.out.keep hb); replace L1 := Lib.hid (L1.out.keep hb); replace L2 := Lib.hid (L2.out.keep hb); replace L3 := Lib.hid (L3.out.keep hb); replace L4 := Lib.hid (L4.out.keep hb)
  clear hL hb F5 V
  go_wp2_with fail
  (with_reducible refine (T0.out _ _ _ L0.out).mono ?_)
  rintro e wc0 ⟨rfl, hb⟩
  replace B := Lib.hid (B.out.trans (hb.mono B.out.size)); replace L0 := Lib.hid (L0.out.keep hb); replace L1 := Lib.hid (L1.out.keep hb); replace L2 := Lib.hid (L2.out.keep hb); replace L3 := Lib.hid (L3.out.keep hb); replace L4 := Lib.hid (L4.out.keep hb)
  clear hb T0
  go_wp2_with fail
  (with_reducible refine (T1.out _ _ _ L1.out).mono ?_)
  rintro e wc1 ⟨rfl, hb⟩
  replace B := Lib.hid (B.out.trans (hb.mono B.out.size)); replace L0 := Lib.hid (L0.out.keep hb); replace L2 := Lib.hid (L2.out.keep hb); replace L3 := Lib.hid (L3.out.keep hb); replace L4 := Lib.hid (L4.out.keep hb)
  clear hb T1 L1
  go_wp2_with fail
  (with_reducible refine (T2.out _ _ _ L2.out).mono ?_)
  rintro e wc2 ⟨rfl, hb⟩
  replace B := Lib.hid (B.out.trans (hb.mono B.out.size)); replace L0 := Lib.hid (L0.out.keep hb); replace L3 := Lib.hid (L3.out.keep hb); replace L4 := Lib.hid (L4.out.keep hb)
  clear hb T2 L2
  go_wp2_with fail
  (with_reducible refine (T3.out _ _ _ L3.out).mono ?_)
  rintro e wc3 ⟨rfl, hb⟩
  replace B := Lib.hid (B.out.trans (hb.mono B.out.size)); replace L0 := Lib.hid (L0.out.keep hb); replace L4 := Lib.hid (L4.out.keep hb)
  clear hb T3 L3
  go_wp2_with fail
  (with_reducible refine (T4.out _ _ _ L4.out).mono ?_)
  rintro e wc4 ⟨rfl, q, rfl⟩
  have hd : ∀ (W : World) (k : Nat), Below k W (W.drewN q) := fun W k => ⟨rfl, rfl, rfl, Nat.le_refl _, fun _ _ => rfl⟩
  replace B := Lib.hid (B.out.trans (hd _ _))
  replace L0 := Lib.hid (L0.out.keep (hd _ _))
  generalize World.drewN _ q = wd4 at B L0 ⊢
  clear hd T4 L4
  go_wp2_with fail
  (with_reducible refine (KW.out _ _ _ L0.out).mono ?_)
  rintro e we ⟨rfl, hb⟩
  replace B := Lib.hid (B.out.trans (hb.mono B.out.size))
  clear hb
  go_wp2_with fail
  go_ret
  exact ⟨rfl, B.out⟩
end Go.Proofs.Ytpfeiiabplaghaa
