/-
  The law WordsStand: at any place of any bytes the word stands that the document says, or none; as a row they are the numbers that it says, or none; they stay.
-/
import Derived.Test.YtjbkjpkelbigmaaRows2
import Derived.Test.YtjbkjpkelbigmaaRefRow
import Derived.Test.YtjbkjpkelbigmaaWordsNumbers
namespace Go.Proofs.Ytjbkjpkelbigmaa
open Go.RowKit

theorem copy_as (A : Option Addr) (n c : Nat) (f : Nat → Nat) (w : World) (h : Bytes w A n f) (hn : n ≤ 1048576) (hA : A = none → n = 0 ∧ c = 0) :
    Calls Try.prog 17 #[.slice A n c] w fun e w' => ∃ A' c', e = .returned (.slice A' n c') ∧ n ≤ c' ∧ c' ≤ maxLen ∧ Bytes w' A' n f ∧ Below w.heap.size w w' := by
  refine (copy_any A n c f w h hn hA).mono ?_
  rintro e w' ⟨A', c', rfl, h1, h2, -, hb, -, hbel⟩
  rw [seg_len] at h1 hb
  rw [seg_len]
  exact ⟨A', c', rfl, h1, h2, hb.congr (fun i hi => by have := seg_get f 0 n i hi; simp [pick, this]), hbel⟩
theorem encGot_as (r : Option (Nat × Nat)) : ∃ (n k : Nat) (b : Bool), encGot r = .tuple #[.int .u64 (n : Nat), .int .i64 (k : Nat), .bool b] := by
  rcases r with _ | ⟨n, k⟩
  · exact ⟨0, 0, false, rfl⟩
  · exact ⟨n, k, true, rfl⟩
theorem rows_as {w w' : World} {r : Option (List Nat)} {e : Ending} (h : RowsMade w r e w') :
    ∃ A c, e = .returned (.tuple #[.slice A (r.getD []).length c, .bool r.isSome]) ∧ Longs w' A (r.getD []).length (pick (r.getD [])) ∧ Below w.heap.size w w' := by
  rcases r with _ | ns
  · exact ⟨none, 0, h.1, Nums.zero _ _, h.2⟩
  · obtain ⟨A, c, e, -, -, hl, hb⟩ := h
    exact ⟨A, c, e, hl, hb⟩
theorem parsed_len {l : List Nat} {r : Option (List Nat)} (h : Parsed l r) : (r.getD []).length ≤ l.length := by
  rcases r with _ | ns
  · simp
  · have := (flat_len ns h.1).1
    rw [← h.2] at this; exact this

theorem parsed_ex (l : List Nat) : ∃ r, Parsed l r := by
  by_cases h : ∃ ns : List Nat, (∀ n ∈ ns, n < 18446744073709551616) ∧ l = ns.flatMap word
  · obtain ⟨ns, hn, e⟩ := h
    exact ⟨some ns, hn, e⟩
  · exact ⟨none, fun ns hn e => h ⟨ns, hn, e⟩⟩

/-- what stands at a place -/
def At (f : Nat → Nat) (len : Nat) (a : Int) (r : Option (Nat × Nat)) : Prop :=
  ((a < 0 ∨ (len : Int) ≤ a) → r = none) ∧ ∀ p : Nat, a = (p : Nat) → p < len → Got (seg f p (len - p)) r
theorem at_ex (f : Nat → Nat) (len : Nat) (a : Int) : ∃ r, At f len a r := by
  by_cases h : a < 0 ∨ (len : Int) ≤ a
  · exact ⟨none, fun _ => rfl, fun p e hp => by omega⟩
  · obtain ⟨r, hr⟩ := got_ex (seg f a.toNat (len - a.toNat))
    exact ⟨r, fun h' => absurd h' h, fun p e hp => by
      have : a.toNat = p := by omega
      rw [this] at hr; exact hr⟩
theorem at_congr {f g : Nat → Nat} {len : Nat} {a : Int} {r : Option (Nat × Nat)} (h : At f len a r) (e : seg f 0 len = seg g 0 len) : At g len a r := by
  refine ⟨h.1, fun p ep hp => ?_⟩
  have := h.2 p ep hp
  rwa [seg_congr (g := g) (fun i hi => by have := seg_inj e (show p + i < len by omega); simpa using this)] at this

section
variable (A : Option Addr) (len c : Nat) (f : Nat → Nat) (a : Int) (w : World) (h : Bytes w A len f) (hlen : len ≤ 500) (hc : len ≤ c) (hcc : c ≤ 9223372036854775807) (h0 : -9223372036854775808 ≤ a) (h1 : a ≤ 9223372036854775807)
  (r : Option (Nat × Nat)) (hr : At f len a r)
include h hlen hc h0 h1 hr
theorem get_any : Calls Try.prog 18 #[.slice A len c, .int .i64 a] w fun e w' => e = .returned (encGot r) ∧ w = w' := by
  by_cases ho : a < 0 ∨ (len : Int) ≤ a
  · have e := hr.1 ho
    subst e
    exact get_out A len c a w h0 h1 ho
  · obtain ⟨p, rfl⟩ : ∃ p : Nat, a = p := ⟨a.toNat, by omega⟩
    exact get_in A len c f p w h (by omega) hc (by omega) r (hr.2 p rfl (by omega))
include hcc
theorem refGet_any : Calls Try.prog 19 #[.slice A len c, .int .i64 a] w fun e w' => e = .returned (encGot r) ∧ Below w.heap.size w w' := by
  by_cases ho : a < 0 ∨ (len : Int) ≤ a
  · have e := hr.1 ho
    subst e
    exact (refGet_out A len c a w (by omega) h0 h1 ho).mono fun e w' ⟨h, h'⟩ => ⟨h, h' ▸ Below.refl _ _⟩
  · obtain ⟨p, rfl⟩ : ∃ p : Nat, a = p := ⟨a.toNat, by omega⟩
    exact refGet_in A len c f p w h (by omega) hc hcc (by omega) r (hr.2 p rfl (by omega))
end

set_option maxRecDepth 100000 in
set_option maxHeartbeats 4000000 in
theorem stand_walk (A : Option Addr) (len c : Nat) (f : Nat → Nat) (a : Int) (w : World) (h : Bytes w A len f) (hA : A = none → len = 0 ∧ c = 0) (hc : len ≤ c) (hcc : c ≤ 9223372036854775807) (h0 : -9223372036854775808 ≤ a) (h1 : a ≤ 9223372036854775807) :
    Calls Try.prog 4 #[.slice A len c, .int .i64 a] w fun e w' => e = .returned (.bool true) ∧ Below w.heap.size w w' := by
  have HA := Lib.hid hA; have H := Lib.hid h
  clear hA h
  by_cases hlen : len ≤ 500
  · obtain ⟨r, hr⟩ := at_ex f len a
    obtain ⟨r2, hr2⟩ := parsed_ex (seg f 0 len)
    obtain ⟨n, k, b, he⟩ := encGot_as r
    have hpl := parsed_len hr2
    rw [seg_len] at hpl
    have R := Lib.hid hr; have R2 := Lib.hid hr2; have E := Lib.hid he
    clear hr hr2 he
    have hlen' : ¬ (500 : Int) < len := by omega
    go_enter Try.func4, Try.ntmps4
    go_wp2_with fail
    refine (copy_as A len c f w H.out (by omega) HA.out).mono ?_
    rintro e w1 ⟨A', c', rfl, hc1, hc2, hb, hbel⟩
    have hc3 : c' ≤ 9223372036854775807 := by unfold maxLen at hc2; omega
    have J := Lib.hid hb; have I := Lib.hid (H.out.below hbel); have K := Lib.hid hbel
    clear hb hbel hc2
    go_wp2_with fail
    refine (get_any A' len c' f a w1 J.out hlen hc1 h0 h1 r R.out).mono ?_
    rintro e w2 ⟨rfl, rfl⟩
    rw [E.out]
    go_wp2_with fail
    refine (refGet_any A len c f a w1 I.out hlen hc hcc h0 h1 r R.out).mono ?_
    rintro e w2 ⟨rfl, hbel⟩
    have J2 := Lib.hid (J.out.below hbel); have I2 := Lib.hid (I.out.below hbel); have K2 := Lib.hid (K.out.trans (hbel.mono K.out.size))
    clear hbel J I K
    rw [E.out]
    go_wp2_with fail
    refine (rows_any A' len c' f w2 J2.out (by omega) hc1 r2 R2.out).mono ?_
    intro e w3 hm
    obtain ⟨L, d, rfl, hl, hbel⟩ := rows_as hm
    have J3 := Lib.hid (J2.out.below hbel); have I3 := Lib.hid (I2.out.below hbel); have K3 := Lib.hid (K2.out.trans (hbel.mono K2.out.size)); have L3 := Lib.hid hl
    clear hm hl hbel J2 I2 K2
    go_wp2_with fail
    refine (refRows_any A len c f w3 I3.out (by omega) hc hcc r2 R2.out).mono ?_
    intro e w4 hm
    obtain ⟨M, d2, rfl, hl, hbel⟩ := rows_as hm
    have J4 := Lib.hid (J3.out.below hbel); have I4 := Lib.hid (I3.out.below hbel); have K4 := Lib.hid (K3.out.trans (hbel.mono K3.out.size)); have L4 := Lib.hid (L3.out.below hbel); have M4 := Lib.hid hl
    clear hm hl hbel J3 I3 K3 L3
    generalize r2.getD [] = ns at *
    generalize r2.isSome = bb
    clear R R2 E
    go_wp2_with fail
    refine (same_any A' A len len c' c f f w4 J4.out I4.out (by omega) (by omega) true (by simp)).mono ?_
    rintro e w5 ⟨rfl, hd⟩
    have K5 := Lib.hid (K4.out.trans (hd.below.mono K4.out.size)); have L5 := Lib.hid (L4.out.below hd.below); have M5 := Lib.hid (M4.out.below hd.below)
    clear hd J4 I4 K4 L4 M4
    go_wp2
    go_loopw [16] (fun i wr => ∃ j : Nat, j ≤ ns.length ∧ i = .int .i64 (j : Nat) ∧ Drawn w5 wr) (fun i _ => ns.length - (intOf i).toNat)
    case atStart => exact ⟨0, Nat.zero_le _, rfl, 0, rfl⟩
    case round =>
      obtain ⟨j, hj, rfl, hd⟩ := hrel
      by_cases hlt : j < ns.length
      · obtain ⟨q, rfl⟩ := hd
        obtain ⟨b1, off, rfl, -, hcell⟩ := L5.out.at_ hlt
        obtain ⟨b2, off2, rfl, -, hcell'⟩ := M5.out.at_ hlt
        generalize pick ns j = x at hcell hcell'
        have hx : ((x : Int) != (x : Int)) = false := by simp
        have hlt' : (j : Int) < ns.length := by omega
        have hj0 : (0 : Int) ≤ j := by omega
        go_wp2_with fail
        go_quiet (fail)
        go_wp2
        go_roundw
        case rel => exact ⟨j + 1, by omega, by go_num, _, rfl⟩
        case measure => simp [intOf]; omega
      · obtain rfl : j = ns.length := by omega
        have K6 := Lib.hid (K5.out.trans (hd.below.mono K5.out.size)); have M6 := Lib.hid (M5.out.below hd.below)
        clear hd K5 L5 M5
        have F1 := Lib.hid (flat_bd (pick ns) ns.length (fun i hi => M6.out.bd hi) ns.length (Nat.le_refl _))
        go_wp2_with fail
        refine (row_any M ns.length d2 (pick ns) wr M6.out (by omega)).mono ?_
        rintro e w7 ⟨B, p, rfl, -, -, -, hb, -, hbel⟩
        have K7 := Lib.hid (K6.out.trans (hbel.mono K6.out.size)); have M7 := Lib.hid (M6.out.below hbel); have B7 := Lib.hid hb
        clear hb hbel K6 M6
        go_wp2_with fail
        refine (refRow_any M ns.length d2 (pick ns) w7 M7.out (by omega)).mono ?_
        rintro e w8 ⟨C, p2, rfl, -, -, -, hb, -, hbel⟩
        have K8 := Lib.hid (K7.out.trans (hbel.mono K7.out.size)); have B8 := Lib.hid (B7.out.below hbel); have C8 := Lib.hid hb
        clear hb hbel K7 B7 M7
        go_wp2_with fail
        refine (same_any B C _ _ p p2 _ _ w8 B8.out C8.out (by have := F1.out; omega) (by have := F1.out; omega) true (by simp)).mono ?_
        rintro e w9 ⟨rfl, hd⟩
        have K9 := Lib.hid (K8.out.trans (hd.below.mono K8.out.size))
        clear hd
        go_wp2
        go_ret
        exact ⟨rfl, K9.out⟩
  · have hlen' : (500 : Int) < len := by omega
    go_enter Try.func4, Try.ntmps4
    go_wp2
    go_ret
    exact ⟨rfl, Below.refl _ _⟩

theorem walkWordsStand (a0 : Option Addr) (len0 cap0 : Nat) (z0 : List Int) (a1 : Int) (w : World) (w0 : RowIn .u8 w a0 len0 cap0 z0) (w1 : (Lit.int .i64 a1).wf = true) :
    Calls Try.prog 4 #[.slice a0 len0 cap0, .int .i64 a1] w fun e w' => e = .returned (.bool true) ∧ Below w.heap.size w w' :=
  stand_walk a0 len0 cap0 _ a1 w w0.bytes w0.nil w0.bd.1 w0.bd.2 (wf_i64 w1).1 (wf_i64 w1).2
end Go.Proofs.Ytjbkjpkelbigmaa
