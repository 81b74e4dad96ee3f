/-
  Rows: the numbers whose words these bytes are: by the program, and by the document.
-/
import Derived.Maps.AppendAt
import Derived.Test.YtjbkjpkelbigmaaGet
import Derived.Test.YtjbkjpkelbigmaaRefGet
namespace Go.Proofs.Ytjbkjpkelbigmaa
open Go.RowKit

theorem Try.info22 : (Try.prog.info? 22).map (fun i => (i.zero, i.size, i.bytes)) = some (some (.int .u64 0), 1, 8) := by kernel_rfl

theorem got_ex (l : List Nat) : ∃ r, Got l r := by
  by_cases h : ∃ n r, n < 18446744073709551616 ∧ l = word n ++ r
  · obtain ⟨n, r, hn, e⟩ := h
    exact ⟨some (n, (word n).length), hn, rfl, r, e⟩
  · exact ⟨none, fun n r hn e => h ⟨n, r, hn, e⟩⟩
theorem got_seg {f : Nat → Nat} {p m n k : Nat} (h : Got (seg f p m) (some (n, k))) : n < 18446744073709551616 ∧ 0 < k ∧ k ≤ m ∧ seg f p k = word n := by
  obtain ⟨hn, hk, r, e⟩ := h
  have hl := congrArg List.length e
  rw [seg_len, List.length_append] at hl
  have h0 := word_pos n
  refine ⟨hn, by omega, by omega, ?_⟩
  obtain ⟨j, rfl⟩ : ∃ j, m = k + j := ⟨m - k, by omega⟩
  rw [seg_add] at e
  exact (List.append_inj e (by rw [seg_len, hk])).1

/-- what Rows answers -/
def RowsMade (w : World) (r : Option (List Nat)) (e : Ending) (w' : World) : Prop :=
  match r with
  | none => e = .returned (.tuple #[.slice none 0 0, .bool false]) ∧ Below w.heap.size w w'
  | some ns => ∃ A c, e = .returned (.tuple #[.slice A ns.length c, .bool true]) ∧ ns.length ≤ c ∧ c ≤ maxLen ∧ Longs w' A ns.length (pick ns) ∧ Below w.heap.size w w'
theorem rows_yes {w w' : World} {ns : List Nat} {v : Value} (hl : ∀ x ∈ ns, x < 18446744073709551616) (h : owns w' w.heap.size 22 .u64 v ns) (hb : Below w.heap.size w w') : RowsMade w (some ns) (.returned (.tuple #[v, .bool true])) w' := by
  obtain ⟨A, c, rfl, h1, h2, h3⟩ := h.form
  exact ⟨A, c, rfl, h1, h2, h.nums hl, hb⟩

set_option maxRecDepth 100000 in
set_option maxHeartbeats 1000000 in
theorem refGet_out (A : Option Addr) (len c : Nat) (a : Int) (w : World) (hlen : len ≤ 4611686018427387904) (h0 : -9223372036854775808 ≤ a) (h1 : a ≤ 9223372036854775807) (ha : a < 0 ∨ (len : Int) ≤ a) :
    Calls Try.prog 19 #[.slice A len c, .int .i64 a] w fun e w' => e = .returned (encGot none) ∧ w = w' := by
  by_cases hn : a < 0
  · have hn' : decide ((0 : Int) ≤ a) = false := by simpa using hn
    go_enter Try.func19, Try.ntmps19
    go_wp2
    refine wp_loop_rounds 1 ?_
    rw [rounds_succ]
    go_wp2
    go_ret3
    exact ⟨rfl, rfl⟩
  · have hl : (len : Int) ≤ a := by omega
    have hn' : decide ((0 : Int) ≤ a) = true := by simpa using hn
    have hl' : decide (a ≤ (len : Int) - 1 - 0) = false := by simp; omega
    have hl2 : decide (a ≤ (len : Int) - 1) = false := by simp; omega
    go_enter Try.func19, Try.ntmps19
    go_wp2
    refine wp_loop_rounds 1 ?_
    rw [rounds_succ]
    go_wp2
    go_ret3
    exact ⟨rfl, rfl⟩

set_option maxRecDepth 100000 in
set_option maxHeartbeats 2000000 in
theorem rows_any (A : Option Addr) (len c : Nat) (f : Nat → Nat) (w : World) (h : Bytes w A len f) (hlen : len ≤ 1000) (hc : len ≤ c) (r : Option (List Nat)) (hr : Parsed (seg f 0 len) r) :
    Calls Try.prog 20 #[.slice A len c] w (RowsMade w r) := by
  obtain ⟨i0, hi, hz0, hz1, hz2⟩ := info_parts Try.info22
  have H := Lib.hid h; have R := Lib.hid hr
  clear h hr
  go_enter Try.func20, Try.ntmps20
  go_wp2
  go_loopw [4, 5] (fun v a wr => ∃ (ns : List Nat) (p : Nat), p ≤ len ∧ (∀ x ∈ ns, x < 18446744073709551616) ∧ seg f 0 p = ns.flatMap word ∧ a = .int .i64 (p : Nat) ∧ owns wr w.heap.size 22 .u64 v ns ∧ Below w.heap.size w wr) (fun _ a _ => len - (intOf a).toNat)
  case atStart => exact ⟨[], 0, by omega, by simp, rfl, rfl, World.ownsRow_nil _ _ _ _, Below.refl _ _⟩
  case round =>
    obtain ⟨ns, p, hp, hns, hseg, rfl, hown, hB⟩ := hrel
    have hnl : ns.length ≤ p := by
      have h1 := (flat_len ns hns).1
      rw [← hseg, seg_len] at h1
      exact h1
    have NS := Lib.hid hns; have SG := Lib.hid hseg; have O := Lib.hid hown; have B := Lib.hid hB
    have HW := Lib.hid (H.out.below hB)
    clear hns hseg hown hB
    by_cases hlt : p < len
    · obtain ⟨g, hg⟩ := got_ex (seg f p (len - p))
      have hsplit : seg f 0 len = ns.flatMap word ++ seg f p (len - p) := by
        rw [← SG.out, show len = p + (len - p) by omega, seg_add, Nat.zero_add, show p + (len - p) - p = len - p by omega]
      have SP := Lib.hid hsplit; clear hsplit
      rcases g with _ | ⟨n, k⟩
      · have hrn : none = r := by
          refine Parsed.uniq (parsed_no (l := seg f p (len - p)) ?_ hg) (SP.out ▸ R.out)
          intro e; have := congrArg List.length e; rw [seg_len] at this; simp at this; omega
        subst hrn
        go_wp2_with fail
        refine (get_in A len c f p wr HW.out (by omega) hc hlt none hg).mono ?_
        rintro e w1 ⟨rfl, rfl⟩
        simp only [encGot]
        go_wp2
        go_ret2
        exact ⟨rfl, B.out⟩
      · obtain ⟨hn, hk0, hkm, hsk⟩ := got_seg hg
        have HN := Lib.hid hn; have SK := Lib.hid hsk; clear hn hsk
        have LL : Hid (ns.length + 1 ≤ 1001) := Lib.hid (by omega)
        go_wp2_with fail
        refine (get_in A len c f p wr HW.out (by omega) hc hlt (some (n, k)) hg).mono ?_
        rintro e w1 ⟨rfl, rfl⟩
        skip
        simp only [encGot]
        go_wp2_with (at_builtin; refine wpList_append_own _ rfl _ _ 32 rfl w.heap.size 22 i0 (.int .u64 0) 1 8 Try.underlying32 hi hz0 hz1 hz2 rfl (by decide) _ ns.length _ rfl (O.out.alloc _) ⟨wr.heap.size, 0, none⟩ 1 1 [.int .u64 (n : Nat)] rfl rfl (cell_one_new _ _ _) (by simp [Value.oneCell']) (by have := LL.out; unfold maxLen; omega) (by have := LL.out; omega) (by have := B.out.size; simp; omega) ?_)
        intro v' w2 hown' hgrow _
        have O2 : Hid (owns w2 w.heap.size 22 .u64 v' (ns ++ [n])) := Lib.hid (by unfold owns; simpa using hown')
        have B2 : Hid (Below w.heap.size w w2) := Lib.hid ((B.out.alloc B.out.size _).grown hgrow (by have := B.out.size; simp; omega) (fun j e => (O.out.lt j e).1))
        clear hown' hgrow
        go_wp2
        go_roundw
        case rel => exact ⟨ns ++ [n], p + k, by omega, fun x hx => by
            rcases List.mem_append.1 hx with hx | hx
            · exact NS.out x hx
            · simp at hx; rw [hx]; exact HN.out, by rw [seg_add, SG.out, Nat.zero_add, SK.out, flat_snoc], by go_num, O2.out, B2.out⟩
        case measure => simp [intOf]; omega
    · obtain rfl : p = len := by omega
      have hrn : some ns = r := Parsed.uniq ⟨NS.out, SG.out⟩ R.out
      subst hrn
      go_wp2
      go_ret2
      exact rows_yes NS.out O.out B.out

set_option maxRecDepth 100000 in
set_option maxHeartbeats 2000000 in
theorem refRows_any (A : Option Addr) (len c : Nat) (f : Nat → Nat) (w : World) (h : Bytes w A len f) (hlen : len ≤ 1000) (hc : len ≤ c) (hcc : c ≤ 9223372036854775807) (r : Option (List Nat)) (hr : Parsed (seg f 0 len) r) :
    Calls Try.prog 21 #[.slice A len c] w (RowsMade w r) := by
  obtain ⟨i0, hi, hz0, hz1, hz2⟩ := info_parts Try.info22
  have H := Lib.hid h; have R := Lib.hid hr
  clear h hr
  go_enter Try.func21, Try.ntmps21
  go_wp2
  go_loopw [4, 5] (fun v a wr => ∃ (ns : List Nat) (p : Nat), p ≤ len ∧ (∀ x ∈ ns, x < 18446744073709551616) ∧ seg f 0 p = ns.flatMap word ∧ a = .int .i64 (p : Nat) ∧ owns wr w.heap.size 22 .u64 v ns ∧ Below w.heap.size w wr) (fun _ a _ => len - (intOf a).toNat)
  case atStart => exact ⟨[], 0, by omega, by simp, rfl, rfl, World.ownsRow_nil _ _ _ _, Below.refl _ _⟩
  case round =>
    obtain ⟨ns, p, hp, hns, hseg, rfl, hown, hB⟩ := hrel
    have hnl : ns.length ≤ p := by
      have h1 := (flat_len ns hns).1
      rw [← hseg, seg_len] at h1
      exact h1
    have NS := Lib.hid hns; have SG := Lib.hid hseg; have O := Lib.hid hown; have B := Lib.hid hB
    have HW := Lib.hid (H.out.below hB)
    clear hns hseg hown hB
    by_cases hlt : p < len
    · obtain ⟨g, hg⟩ := got_ex (seg f p (len - p))
      have hsplit : seg f 0 len = ns.flatMap word ++ seg f p (len - p) := by
        rw [← SG.out, show len = p + (len - p) by omega, seg_add, Nat.zero_add, show p + (len - p) - p = len - p by omega]
      have SP := Lib.hid hsplit; clear hsplit
      rcases g with _ | ⟨n, k⟩
      · have hrn : none = r := by
          refine Parsed.uniq (parsed_no (l := seg f p (len - p)) ?_ hg) (SP.out ▸ R.out)
          intro e; have := congrArg List.length e; rw [seg_len] at this; simp at this; omega
        subst hrn
        go_wp2_with fail
        refine (refGet_in A len c f p wr HW.out (by omega) hc hcc hlt none hg).mono ?_
        rintro e w1 ⟨rfl, hb1⟩
        simp only [encGot]
        go_wp2
        go_ret2
        exact ⟨rfl, B.out.trans (hb1.mono B.out.size)⟩
      · obtain ⟨hn, hk0, hkm, hsk⟩ := got_seg hg
        have HN := Lib.hid hn; have SK := Lib.hid hsk; clear hn hsk
        have LL : Hid (ns.length + 1 ≤ 1001) := Lib.hid (by omega)
        go_wp2_with fail
        refine (refGet_in A len c f p wr HW.out (by omega) hc hcc hlt (some (n, k)) hg).mono ?_
        rintro e w1 ⟨rfl, hb1⟩
        have O1 := Lib.hid (O.out.keep hb1); have B1 := Lib.hid (B.out.trans (hb1.mono B.out.size)); clear hb1
        simp only [encGot]
        go_wp2_with (at_builtin; refine wpList_append_own _ rfl _ _ 32 rfl w.heap.size 22 i0 (.int .u64 0) 1 8 Try.underlying32 hi hz0 hz1 hz2 rfl (by decide) _ ns.length _ rfl (O1.out.alloc _) ⟨w1.heap.size, 0, none⟩ 1 1 [.int .u64 (n : Nat)] rfl rfl (cell_one_new _ _ _) (by simp [Value.oneCell']) (by have := LL.out; unfold maxLen; omega) (by have := LL.out; omega) (by have := B1.out.size; simp; omega) ?_)
        intro v' w2 hown' hgrow _
        have O2 : Hid (owns w2 w.heap.size 22 .u64 v' (ns ++ [n])) := Lib.hid (by unfold owns; simpa using hown')
        have B2 : Hid (Below w.heap.size w w2) := Lib.hid ((B1.out.alloc B1.out.size _).grown hgrow (by have := B1.out.size; simp; omega) (fun j e => (O1.out.lt j e).1))
        clear hown' hgrow
        go_wp2
        go_roundw
        case rel => exact ⟨ns ++ [n], p + k, by omega, fun x hx => by
            rcases List.mem_append.1 hx with hx | hx
            · exact NS.out x hx
            · simp at hx; rw [hx]; exact HN.out, by rw [seg_add, SG.out, Nat.zero_add, SK.out, flat_snoc], by go_num, O2.out, B2.out⟩
        case measure => simp [intOf]; omega
    · obtain rfl : p = len := by omega
      have hrn : some ns = r := Parsed.uniq ⟨NS.out, SG.out⟩ R.out
      subst hrn
      go_wp2
      go_ret2
      exact rows_yes NS.out O.out B.out

end Go.Proofs.Ytjbkjpkelbigmaa
