/-
  The law TreeBeside, of any program that answers as is asked.
-/
import Derived.Test.YtlkcmfohmkblfaaTreeNested
namespace Go.Proofs.Ytlkcmfohmkblfaa
open Go.RowKit

/-- where the next kid stands, or the tree ends -/
def Beside (dp : Nat → Int) (n a j : Nat) : Prop := a < j ∧ j ≤ endOf dp n a ∧ (j < endOf dp n a → dp a + 1 = dp j)
theorem beside_first (dp : Nat → Int) {n a : Nat} (hs : Steps dp n) (ha : a < n) : Beside dp n a (a + 1) := ⟨by omega, (endOf_gt dp ha).1, fun h => kid_first dp hs ha h⟩
theorem beside_next (dp : Nat → Int) {n a j : Nat} (ha : a < n) (h : Beside dp n a j) (hj : j < endOf dp n a) : kidsFrom dp n a j = j :: kidsFrom dp n a (endOf dp n j) ∧ Beside dp n a (endOf dp n j) := by
  obtain ⟨h1, -, h3⟩ := h
  have hd := h3 hj
  obtain ⟨e1, e2⟩ := kidsFrom_next dp ha h1 hj hd
  have hjn : j < n := by have := (endOf_gt dp ha).2; omega
  refine ⟨e1, by have := (endOf_gt dp hjn).1; omega, e2, fun hl => ?_⟩
  rcases kid_next dp ha (by omega) hj (by omega) hl with h | h
  · exact h
  · omega

theorem beside_read (dp : Nat → Int) {n a j k : Nat} {l : List Nat} (ha : a < n) (h : Beside dp n a j) (hd : l.drop k = kidsFrom dp n a j) (hk : k < l.length) : l[k]? = some j ∧ j < n ∧ l.drop (k + 1) = kidsFrom dp n a (endOf dp n j) ∧ Beside dp n a (endOf dp n j) := by
  have hj : j < endOf dp n a := by
    rcases Nat.lt_or_ge j (endOf dp n a) with h1 | h1
    · exact h1
    · have e : j = endOf dp n a := Nat.le_antisymm h.2.1 h1
      subst e
      rw [kidsFrom_end] at hd
      have := congrArg List.length hd
      simp at this
      omega
  obtain ⟨e1, e2⟩ := beside_next dp ha h hj
  rw [e1] at hd
  refine ⟨?_, by have := (endOf_gt dp ha).2; omega, ?_, e2⟩
  · have := congrArg (·[0]?) hd
    simpa using this
  · have := congrArg (List.drop 1) hd
    simpa [List.drop_drop, Nat.add_comm] using this
theorem beside_last (dp : Nat → Int) {n a j k : Nat} {l : List Nat} (ha : a < n) (h : Beside dp n a j) (hd : l.drop k = kidsFrom dp n a j) (hk : l.length ≤ k) : j = endOf dp n a := by
  rcases Nat.lt_or_ge j (endOf dp n a) with h1 | h1
  · rw [(beside_next dp ha h h1).1] at hd
    have := congrArg List.length hd
    simp at this
    omega
  · exact Nat.le_antisymm h.2.1 h1

set_option maxRecDepth 100000 in
set_option maxHeartbeats 4000000 in
theorem beside5 (hM : MayOK) (hS : SameOK5) (hC : CopyOK5) (hF : FindOK) (hE : EndOK) (hP : ParentOK) (hK : KidsOK)
    (a0 : Option Addr) (len0 cap0 : Nat) (x0 : Int) (z0 : Nat → RN) (a1 : Int) (w : World) (w0 : DocIn w a0 len0 cap0 x0 z0) (w1 : (Lit.int .i64 a1).wf = true) :
    Calls Try.prog 5 #[docV a0 len0 cap0 x0, .int .i64 a1] w fun e w' => e = .returned (.bool true) ∧ Below w.heap.size w w' := by
  have AW := Lib.hid (awake5_any hM hS hC hF hE hP hK)
  have KE := Lib.hid hE
  have KM := Lib.hid hM
  have KK := Lib.hid hK
  have b1 := i64_in w1
  have D0 := Lib.hid w0
  clear hM hS hC hF hE hP hK w0 w1
  unfold docV
  go_enter Try.func5, Try.ntmps5
  go_wp2_with fail
  have T0 := Lib.hid (one_start D0.out)
  clear D0
  refine (AW.out _).mono ?_
  rintro e v1 ⟨rfl, hb⟩
  have T1 := Lib.hid (T0.out.next hb)
  clear hb T0 AW
  obtain ⟨-, -, -, q0, q1⟩ := T1.out
  go_wp2_with fail
  clear q0 q1
  refine (great_call _ T1.out.doc).mono ?_
  rintro e v2 ⟨g, rfl, hg, hb⟩
  have T2 := Lib.hid (T1.out.next hb)
  clear hb T1
  cases g
  case true =>
    go_wp2_with fail
    go_ret
    exact ⟨rfl, T2.out.below⟩
  have hn := (hg rfl).1
  clear hg
  obtain ⟨-, -, -, q0, q1⟩ := T2.out
  go_wp2_with fail
  clear q0 q1
  refine (KM.out _ _ _ _ _ _ T2.out.doc).mono ?_
  rintro e v3 ⟨g, rfl, hg, hb⟩
  have T3 := Lib.hid (T2.out.next hb)
  clear hb T2 KM
  obtain ⟨-, -, -, q0, q1⟩ := T3.out
  cases g
  case false =>
    go_wp2_with fail
    go_ret
    exact ⟨rfl, T3.out.below⟩
  have SH := Lib.hid (hg.1 rfl)
  clear hg
  by_cases c1 : a1 < 0
  · go_wp2_with fail
    go_ret
    exact ⟨rfl, T3.out.below⟩
  by_cases c3 : (len0 : Int) ≤ a1
  · go_wp2_with fail
    go_ret
    exact ⟨rfl, T3.out.below⟩
  go_wp2_with fail
  clear q0 q1
  obtain ⟨i0, rfl⟩ := Int.eq_ofNat_of_zero_le c1
  have hi : i0 < len0 := by omega
  refine (KK.out _ _ _ _ _ _ _ T3.out.doc b1.1 b1.2).mono ?_
  rintro e v4 ⟨B, cB, rfl, hp, hb⟩
  have kv : kidsAns z0 len0 i0 = kidsOf (dps z0) len0 i0 := by unfold kidsAns; rw [if_pos ⟨by omega, by omega⟩]; rfl
  have BS : Hid (Beside (dps z0) len0 i0 (i0 + 1)) := Lib.hid (beside_first (dps z0) SH.out.steps hi)
  have HL : Hid ((kidsAns z0 len0 i0).drop 0 = kidsFrom (dps z0) len0 i0 (i0 + 1)) := Lib.hid (by rw [kv]; rfl)
  have PL := Lib.hid hp
  have T4 := Lib.hid (T3.out.next hb)
  clear hp hb kv T3 KK
  generalize kidsAns z0 len0 i0 = l at PL HL ⊢
  have hl9 : l.length ≤ 9223372036854775807 := by have := PL.out.2.2.1; omega
  go_wp2_with fail
  go_loopg [6, 7] l.length (fun g1 nx ii wr => ∃ k j : Nat, ii = .int .i64 k ∧ nx = .int .i64 j ∧ k ≤ l.length ∧ l.length - k ≤ g1 ∧ Hid (l.drop k = kidsFrom (dps z0) len0 i0 j) ∧ Hid (Beside (dps z0) len0 i0 j) ∧
    Hid (One w.heap.size w.heap.size a0 len0 cap0 x0 z0 w wr) ∧ Hid (Places wr B cB l))
  case atStart => exact ⟨0, i0 + 1, rfl, by go_num, by omega, by omega, HL, BS, T4, PL⟩
  case round =>
    obtain ⟨k, j, rfl, rfl, hk, hg1, HD, BJ, T5, P5⟩ := hrel
    clear HL BS T4 PL
    obtain ⟨-, -, -, q0, q1⟩ := T5.out
    by_cases hlt : k < l.length
    · have hkz : (k : Int) < l.length := by omega
      have hk0 : (0 : Int) ≤ k := by omega
      obtain ⟨r1, r2, r3, r4⟩ := beside_read (dps z0) hi BJ.out HD.out hlt
      obtain ⟨b, off, rfl, hbl, hc⟩ := P5.out.2.2.2 (by intro e; rw [e] at hlt; simp at hlt)
      have c := hc k j r1
      have H3 := Lib.hid r3
      have H4 := Lib.hid r4
      clear r1 r3 r4 hc
      go_wp2_with fail
      have hjb : -9223372036854775808 ≤ (j : Int) ∧ (j : Int) ≤ 9223372036854775807 := ⟨by omega, by omega⟩
      have v2' : endAns z0 len0 j = (endOf (dps z0) len0 j : Nat) := by unfold endAns; rw [if_pos ⟨by omega, by omega⟩]; rfl
      have E1 := Lib.hid (end_one KE.out hjb (H := w.heap.size) (p := w.heap.size) (A := a0) (c := cap0) (x := x0) (w := w) v2')
      clear v2' q0 q1
      go_region_held3 (fun W' => (One w.heap.size w.heap.size a0 len0 cap0 x0 z0 w W' ∧ Below wr.heap.size wr W') ∧ W'.cell? ⟨w.heap.size, 0, none⟩ = some (.slice a0 len0 cap0) ∧ W'.cell? ⟨w.heap.size, 1, none⟩ = some (.int .i64 x0) ∧ W'.cell? ⟨b, off + k, none⟩ = some (.int .i64 (j : Nat)))
        (first | (with_reducible exact ⟨⟨KB.out, KW.out⟩, KB.out.x0, KB.out.x1, (KW.out.cell hbl).trans c⟩) | (with_reducible exact ⟨⟨T5.out.drew, (Below.refl _ _).drew⟩, T5.out.drew.x0, T5.out.drew.x1, ((Below.refl wr.heap.size wr).drew.cell hbl).trans c⟩))
        (first
        | (go_at_call 14; (with_reducible refine (E1.out _ (And.left (And.left (by assumption)))).mono ?_); rintro e w5 ⟨rfl, hb⟩; have KB : Hid (One w.heap.size w.heap.size a0 len0 cap0 x0 z0 w w5) := Lib.hid (One.next (And.left (And.left (by assumption))) hb); have KW : Hid (Below wr.heap.size wr w5) := Lib.hid (Below.trans (And.right (And.left (by assumption))) (hb.mono (Below.size (And.right (And.left (by assumption)))))); clear hb))
      go_wp2_with fail
      go_roundg (l.length - (k + 1))
      case measure => omega
      case rel => exact ⟨k + 1, endOf (dps z0) len0 j, by go_num, rfl, by omega, Nat.le_refl _, H3, H4, KB, Lib.hid (P5.out.below KW.out)⟩
    · obtain rfl : k = l.length := by omega
      have HE := Lib.hid (beside_last (dps z0) hi BJ.out HD.out (Nat.le_refl _))
      go_wp2_with fail
      have v2' : endAns z0 len0 i0 = (j : Int) := by unfold endAns; rw [if_pos ⟨by omega, by omega⟩, HE.out]; rfl
      refine (end_one KE.out b1 (H := w.heap.size) (p := w.heap.size) (A := a0) (c := cap0) (x := x0) (w := w) v2' _ T5.out).mono ?_
      rintro e v9 ⟨rfl, hb⟩
      have T9 := Lib.hid (T5.out.next hb)
      go_wp2_with fail
      go_ret
      exact ⟨rfl, T9.out.below⟩
end Go.Proofs.Ytlkcmfohmkblfaa
