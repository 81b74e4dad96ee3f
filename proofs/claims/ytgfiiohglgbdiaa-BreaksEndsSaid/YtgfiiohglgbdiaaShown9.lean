/-
  The document's Same and Shown; the laws' bare and word.
-/
import Derived.Test.YtgfiiohglgbdiaaRefCut9
import Derived.Deep.QuietTactic
import Derived.BigQuiet
import Derived.Laws.Rows
namespace Go.Proofs.Ytgfiiohglgbdiaa
open Go.RowKit

/-- a row of pieces as it lies somewhere -/
def PcIn (w : World) (v : Value) (ps : List Pc) : Prop := ∃ A c, v = .slice A ps.length c ∧ (ps ≠ [] → ∃ g, A = some ⟨g, 0, none⟩ ∧ g < w.heap.size ∧
  ∀ j p, ps[j]? = some p → w.cell? ⟨g, j * 2, none⟩ = some (.int .u8 (p.1 : Nat)) ∧ w.cell? ⟨g, j * 2 + 1, none⟩ = some (.string ⟨p.2.toArray⟩))
theorem ownsP.pcs {w : World} {base : Nat} {v : Value} {ps : List Pc} (h : ownsP w base v ps) : PcIn w v ps := by
  by_cases e : ps = []
  · obtain ⟨A, c, rfl, -, -, -⟩ := h.form
    exact ⟨A, c, rfl, fun h => absurd e h⟩
  · obtain ⟨g, c, P⟩ := h.at_ e
    exact ⟨_, c, P.val, fun _ => ⟨g, rfl, P.lt, fun j p hp => ⟨P.at0 j p hp, P.at1 j p hp⟩⟩⟩
theorem PcIn.keep {w w' : World} {v : Value} {ps : List Pc} (h : PcIn w v ps) (hb : Below w.heap.size w w') : PcIn w' v ps := by
  obtain ⟨A, c, rfl, hq⟩ := h
  refine ⟨A, c, rfl, fun e => ?_⟩
  obtain ⟨g, h1, h2, h3⟩ := hq e
  exact ⟨g, h1, Nat.lt_of_lt_of_le h2 hb.size, fun j p hp => ⟨(hb.cell (p := ⟨g, j * 2, none⟩) h2).trans (h3 j p hp).1, (hb.cell (p := ⟨g, j * 2 + 1, none⟩) h2).trans (h3 j p hp).2⟩⟩
theorem heap_new9 (w : World) (o : Obj) : (w.alloc o).heap[w.heap.size]? = some o := by
  show (w.heap.push o)[w.heap.size]? = some o
  simp
theorem word_any9 (s : ByteArray) (w : World) : Calls Try.prog 19 #[.string s] w fun e w' => e = .returned (.agg #[.int .u8 0, .string s]) ∧ Below w.heap.size w w' := by
  go_enter Try.func19, Try.ntmps19
  go_wp2_with fail
  refine bodyPost_ret (results_cell_row rfl _ _ w.heap.size _ _ _ _ rfl (heap_new9 w _) Try.underlying26 rfl (by kernel_rfl)) rfl ?_
  exact ⟨rfl, (Below.refl _ _).alloc (Nat.le_refl _) _⟩
set_option maxRecDepth 100000 in
set_option maxHeartbeats 4000000 in
theorem bare_any9 (s : ByteArray) (w : World) (hs : s.size ≤ 8192) : Calls Try.prog 14 #[.string s] w fun e w' => e = .returned (.string ⟨(bareP s.data.toList).toArray⟩) ∧ w' = w := by
  have SZ : s.data.toList.length = s.size := by simp
  go_enter Try.func14, Try.ntmps14
  go_wp2_with fail
  go_loopg [3, 4] s.size (fun g1 vo vi wr => ∃ (i : Nat), vi = .int .i64 i ∧ vo = .string ⟨(bareP (s.data.toList.take i)).toArray⟩ ∧ i ≤ s.size ∧ s.size - i ≤ g1 ∧ Hid (w = wr))
  case atStart => exact ⟨0, rfl, by simp [bareP], by omega, by omega, Lib.hid rfl⟩
  case round =>
    obtain ⟨i, rfl, rfl, hi, hg1, hR⟩ := hrel
    obtain rfl := hR.out
    clear hR
    by_cases hlt : i < s.size
    · have hz : (i : Int) < s.size := by omega
      have ix := index_byte s i hlt
      have sl := slice_byte s i hlt
      have wi : IntKind.i64.wrap ((i : Int) + 1) = (i : Int) + 1 := IntWalk.i64_in _ (by omega)
      have hbi : i < s.data.toList.length := by rw [SZ]; exact hlt
      obtain ⟨b, hb⟩ : ∃ b, s.data.toList[i] = b := ⟨_, rfl⟩
      rw [hb] at ix sl
      have TK : s.data.toList.take (i + 1) = s.data.toList.take i ++ [b] := by rw [List.take_add_one, List.getElem?_eq_getElem hbi, hb]; rfl
      have NX := Lib.hid (show bareP (s.data.toList.take (i + 1)) = bareP (s.data.toList.take i) ++ (if isB b then [] else [b]) by
        rw [TK]
        unfold bareP
        rw [List.filter_append]
        cases h : isB b <;> simp [h])
      have LT : (bareP (s.data.toList.take i)).length ≤ 8192 := by
        unfold bareP
        have h1 := List.length_filter_le (fun b => !isB b) (s.data.toList.take i)
        rw [List.length_take] at h1
        omega
      have e1 : ((b.toNat : Int) != 32) = !(b == 32) := by
        by_cases h : b = 32
        · subst h; rfl
        · have : ¬ (b.toNat : Int) = 32 := fun e => h (UInt8.toNat_inj.1 (by show b.toNat = 32; omega))
          rw [beq_eq_false_iff_ne.2 h, bne_iff_ne.2 this]
          rfl
      have e2 : ((b.toNat : Int) != 10) = !(b == 10) := by
        by_cases h : b = 10
        · subst h; rfl
        · have : ¬ (b.toNat : Int) = 10 := fun e => h (UInt8.toNat_inj.1 (by show b.toNat = 10; omega))
          rw [beq_eq_false_iff_ne.2 h, bne_iff_ne.2 this]
          rfl
      have ISB : isB b = (b == 32 || b == 10) := rfl
      generalize bareP (s.data.toList.take i) = t at NX LT ⊢
      have ad : ∀ W, (Op.stringOp .add ⟨t.toArray⟩ ⟨#[b]⟩).run Try.prog W = .ok (.string ⟨(t ++ [b]).toArray⟩) W := fun W => run_string_add_lists W t [b] (by omega) (by show ((1 : Nat) : Int) ≤ _; omega)
      clear hb TK hbi
      cases h1 : (b == 32) <;> cases h2 : (b == 10)
      all_goals
        rw [h1] at e1
        rw [h2] at e2
        rw [h1, h2] at ISB
        have NX2 := Lib.hid NX.out
        rw [ISB] at NX2
        clear NX ISB h1 h2 LT
        go_wp2_with fail
        go_roundg (s.size - (i + 1))
        case measure => omega
        case rel => exact ⟨i + 1, by go_num, by rw [NX2.out]; simp, by omega, Nat.le_refl _, Lib.hid rfl⟩
    · obtain rfl : i = s.size := by omega
      have hz : ¬ (s.size : Int) < s.size := by omega
      rw [← SZ, List.take_length]
      go_wp2_with fail
      go_ret
      exact ⟨rfl, rfl⟩
set_option maxRecDepth 100000 in
set_option maxHeartbeats 4000000 in
theorem refShown9_any (s : ByteArray) (ws : Int) (w : World) (hs : s.size ≤ 8192) (hw : 0 ≤ ws ∧ ws < 256) :
    Calls Try.prog 12 #[.string s, .int .u8 ws] w fun e w' => e = .returned (.string ⟨(shownP ws s.data.toList).toArray⟩) ∧ Below w.heap.size w w' := by
  have SL := shown_len ws s.data.toList
  have CL := cutP_len ws s.data.toList
  have PL : Hid (∀ p, p ∈ cutP ws s.data.toList → p.2.length ≤ 8192) := Lib.hid (fun p hp => by have := piece_len hp; simp at this; omega)
  have SZ : s.data.toList.length = s.size := by simp
  have K := Lib.hid (refCut9_any s ws w hs hw)
  obtain ⟨out, hout⟩ : ∃ o, shownP ws s.data.toList = o := ⟨_, rfl⟩
  have HO := Lib.hid (show showP (cutP ws s.data.toList) = out from hout)
  rw [hout] at SL ⊢
  generalize cutP ws s.data.toList = ps at CL PL K HO
  clear hout
  go_enter Try.func12, Try.ntmps12
  go_wp2_with (go_at_call 8; (with_reducible refine K.out.mono ?_); rintro e w1 ⟨v, rfl, hO, hB⟩)
  obtain ⟨A, c, rfl, hA⟩ := hO.pcs
  have HA := Lib.hid hA
  have B := Lib.hid hB
  obtain ⟨n, hn⟩ : ∃ n, ps.length = n := ⟨_, rfl⟩
  rw [hn] at CL ⊢
  have HN := Lib.hid hn
  clear hO hB hA hn K
  go_wp2_with fail
  go_loopg [6, 7] n (fun g1 vo vi wr => ∃ (i : Nat) (o : List UInt8), vi = .int .i64 i ∧ vo = .string ⟨o.toArray⟩ ∧ i ≤ n ∧ n - i ≤ g1 ∧ o ++ showP (ps.drop i) = out ∧ Hid (w1 = wr))
  case atStart => exact ⟨0, [], rfl, rfl, by omega, by omega, HO.out, Lib.hid rfl⟩
  case round =>
    obtain ⟨i, o, rfl, rfl, hi, hg1, ho, E⟩ := hrel
    obtain rfl := E.out
    have OL : o.length ≤ 8192 := by rw [← ho, List.length_append] at SL; omega
    have HO1 := Lib.hid ho
    clear ho E
    by_cases hlt : i < n
    · have hz : (i : Int) < n := by omega
      have hz0 : (0 : Int) ≤ i := by omega
      have hlp : i < ps.length := by have := HN.out; omega
      obtain ⟨g, rfl, hg, hat⟩ := HA.out (by intro e; rw [e] at hlp; simp at hlp)
      obtain ⟨k, t, hp⟩ : ∃ k t, ps[i] = (k, t) := ⟨_, _, rfl⟩
      obtain ⟨c0, c1⟩ := hat i (k, t) (by rw [List.getElem?_eq_getElem hlp, hp])
      have tl : t.length ≤ 8192 := PL.out (k, t) (by rw [← hp]; exact List.getElem_mem hlp)
      have DR := Lib.hid (List.drop_eq_getElem_cons hlp)
      rw [hp] at DR
      have wi : IntKind.i64.wrap ((i : Int) + 1) = (i : Int) + 1 := IntWalk.i64_in _ (by omega)
      have ad1 : ∀ W, (Op.stringOp .add ⟨o.toArray⟩ ⟨#[10]⟩).run Try.prog W = .ok (.string ⟨(o ++ [10]).toArray⟩) W := fun W => run_string_add_lists W o [10] (by omega) (by show ((1 : Nat) : Int) ≤ _; omega)
      have ad2 : ∀ W, (Op.stringOp .add ⟨(o ++ [10]).toArray⟩ ⟨t.toArray⟩).run Try.prog W = .ok (.string ⟨(o ++ [10] ++ t).toArray⟩) W := fun W => run_string_add_lists W (o ++ [10]) t (by simp; omega) (by omega)
      have ad3 : ∀ W, (Op.stringOp .add ⟨o.toArray⟩ ⟨t.toArray⟩).run Try.prog W = .ok (.string ⟨(o ++ t).toArray⟩) W := fun W => run_string_add_lists W o t (by omega) (by omega)
      clear hp hat OL tl hlp
      by_cases k2 : k = 2
      · subst k2
        have NX := Lib.hid (show o ++ [10] ++ t ++ showP (ps.drop (i + 1)) = out by rw [← HO1.out, DR.out, show2]; simp)
        generalize o ++ [10] ++ t = o2 at NX ad2
        generalize o ++ [10] = o1 at ad1 ad2
        go_wp2_with fail
        go_roundg (n - (i + 1))
        case measure => omega
        case rel => exact ⟨i + 1, o2, by go_num, rfl, by omega, Nat.le_refl _, NX.out, Lib.hid rfl⟩
      · have kz : ((k : Int) == 2) = false := by simp; omega
        have NX := Lib.hid (show o ++ t ++ showP (ps.drop (i + 1)) = out by rw [← HO1.out, DR.out, show_cons, if_neg k2]; simp)
        generalize o ++ t = o2 at NX ad3
        clear k2 ad1 ad2
        go_wp2_with fail
        go_roundg (n - (i + 1))
        case measure => omega
        case rel => exact ⟨i + 1, o2, by go_num, rfl, by omega, Nat.le_refl _, NX.out, Lib.hid rfl⟩
    · obtain rfl : i = n := by omega
      have hz : ¬ (i : Int) < i := by omega
      have R := Lib.hid (show o = out by rw [← HO1.out, ← HN.out, List.drop_length]; simp [showP])
      go_wp2_with fail
      go_ret
      exact ⟨by rw [R.out]; rfl, B.out⟩
end Go.Proofs.Ytgfiiohglgbdiaa
