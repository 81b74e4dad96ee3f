/-
  The function value of breaks.rows tells the rows.
-/
import Derived.Test.YtgfiiohglgbdiaaRows9
namespace Go.Proofs.Ytgfiiohglgbdiaa
open Go.RowKit Go.Shelf
attribute [local go_sem] Oper.semAt_some
theorem wide_fn (f : FuncId) : Fence.wide.fn f = True := rfl
attribute [local go_sem] wide_fn

def encR (p : List UInt8 × Bool) : Array Value := #[.string ⟨p.1.toArray⟩, .bool p.2]
/-- where the walk of a text's rows stands -/
structure RowAt (s m : ByteArray) (b1 b2 : Nat) (mine : World → Nat → Prop) (J : List (List UInt8 × Bool) → World → Prop) (d : List (List UInt8 × Bool)) (W : World) : Prop where
  j : J d W
  c1 : W.cell? ⟨b1, 0, none⟩ = some (.string s)
  c2 : W.cell? ⟨b2, 0, none⟩ = some (.string m)
  n1 : ¬ mine W b1
  n2 : ¬ mine W b2
theorem lt_of_cell9 {W : World} {b o : Nat} {v : Value} (h : W.cell? ⟨b, o, none⟩ = some v) : b < W.heap.size := by
  rcases Nat.lt_or_ge b W.heap.size with h' | h'
  · exact h'
  · simp [World.cell?, Array.getElem?_eq_none h'] at h
theorem grown_drewN9 (w : World) (q : Nat) (row : Option Nat) : w.grownBy (w.drewN q) row := ⟨rfl, rfl, rfl, Nat.le_refl _, fun _ _ _ => rfl⟩
theorem drewN_own9 {β : Type} {B : Nat} {J : β → World → Prop} (h : OwnFrom B J) {s : β} {W : World} (q : Nat) (hs : J s W) : J s (W.drewN q) := h s W _ none hs (grown_drewN9 W q none) (fun r e => by cases e)
theorem RowAt.drewN {s m : ByteArray} {b1 b2 B : Nat} {mine : World → Nat → Prop} {J : List (List UInt8 × Bool) → World → Prop} {d : List (List UInt8 × Bool)} {W : World} (h : RowAt s m b1 b2 mine J d W) (hJ : OwnFrom B J) {u8 : TypeId} (hM : MineOK u8 J mine B) (q : Nat) : RowAt s m b1 b2 mine J d (W.drewN q) :=
  ⟨drewN_own9 hJ q h.j, h.c1, h.c2, fun hm => h.n1 (hM.stay (row := none) h.j (grown_drewN9 W q none) (fun r e => by cases e) (lt_of_cell9 h.c1) rfl hm), fun hm => h.n2 (hM.stay (row := none) h.j (grown_drewN9 W q none) (fun r e => by cases e) (lt_of_cell9 h.c2) rfl hm)⟩
theorem RowAt.next {s m : ByteArray} {b1 b2 H : Nat} {mine : World → Nat → Prop} {J : List (List UInt8 × Bool) → World → Prop} {d d' : List (List UInt8 × Bool)} {W W' : World} (h : RowAt s m b1 b2 mine J d W) (hj : J d' W') (hk : Keeps mine H [b1, b2] W W') : RowAt s m b1 b2 mine J d' W' := by
  obtain ⟨e1, m1⟩ := hk.same b1 (.inr (by simp)) (lt_of_cell9 h.c1) h.n1
  obtain ⟨e2, m2⟩ := hk.same b2 (.inr (by simp)) (lt_of_cell9 h.c2) h.n2
  exact ⟨hj, (World.cell?_of_block (w := W) e1).trans h.c1, (World.cell?_of_block (w := W) e2).trans h.c2, m1, m2⟩
theorem wpIn_scope_wide {P : Program} {n : Nat} {c : Code} {Q : Exit → Act → World → Prop} {a : Act} {w : World} (h : c.wpIn Fence.wide n P (Exit.noGoto Q) a w) : (Code.scope c).wpIn Fence.wide n P Q a w :=
  wpIn_wide.2 (wp_scope_straight (wpIn_wide.1 h))
/-- the rest of a text: a row ahead, the rest behind it -/
theorem rows_step (f : UInt8 → Bool) (s : List UInt8) {i k : Nat} (hi : i < k) (hk : k ≤ s.length) (h : ∀ j (hj : j < s.length), i ≤ j → j < k → f s[j] = f (s[i]'(by omega))) (hn : ∀ hj : k < s.length, f s[k] ≠ f (s[i]'(by omega))) :
    rowsR f (s.drop i) = ((s.drop i).take (k - i), f (s[i]'(by omega))) :: rowsR f (s.drop k) := by
  have e : s.drop i = (s.drop i).take (k - i) ++ s.drop k := by
    conv => lhs; rw [← List.take_append_drop (k - i) (s.drop i)]
    rw [List.drop_drop, show i + (k - i) = k by omega]
  conv => lhs; rw [e]
  refine rowsR_row f _ _ _ (by simp; omega) (fun b hb => ?_) (fun b q hq => ?_)
  · obtain ⟨j, hj, rfl⟩ := List.mem_iff_getElem.1 hb
    simp only [List.length_take, List.length_drop] at hj
    rw [List.getElem_take, List.getElem_drop]
    exact h (i + j) (by omega) (by omega) (by omega)
  · have hkl : k < s.length := by
      rcases Nat.lt_or_ge k s.length with h' | h'
      · exact h'
      · rw [List.drop_eq_nil_of_le h'] at hq; cases hq
    rw [List.drop_eq_getElem_cons hkl] at hq
    obtain ⟨rfl, -⟩ := List.cons.inj hq
    exact hn hkl
theorem extract_str (s : ByteArray) (i k : Nat) : s.extract i k = ⟨((s.data.toList.drop i).take (k - i)).toArray⟩ := by
  apply ByteArray.ext
  apply Array.ext'
  rw [Lib.extract_data]

set_option maxRecDepth 100000 in
set_option maxHeartbeats 8000000 in
theorem rows_tell (s m : ByteArray) (b1 b2 : Nat) (w : World) (h1 : w.cell? ⟨b1, 0, none⟩ = some (.string s)) (h2 : w.cell? ⟨b2, 0, none⟩ = some (.string m)) (hs : s.size ≤ 8192) :
    Tells Try.prog 5 32 #[.pointer (some ⟨b1, 0, none⟩), .pointer (some ⟨b2, 0, none⟩)] encR (rowsR (among m.data.toList) s.data.toList) [b1, b2] w := by
  intro l J mine W hW hJ hM hsm hY h0
  have SZ : s.data.toList.length = s.size := by simp
  have hl1 := lt_of_cell9 h1
  have hl2 := lt_of_cell9 h2
  have R0 := Lib.hid (show RowAt s m b1 b2 mine J [] W from ⟨h0, (hW.cell (p := ⟨b1, 0, none⟩) hl1).trans h1, (hW.cell (p := ⟨b2, 0, none⟩) hl2).trans h2, hsm b1 (by simp), hsm b2 (by simp)⟩)
  have HY := Lib.hid hY
  have HJ := Lib.hid hJ
  have HM := Lib.hid hM
  have KA := Lib.hid (fun b W => isAmong_any b m W)
  obtain ⟨F, hF⟩ : ∃ F, among m.data.toList = F := ⟨_, rfl⟩
  rw [hF] at HY KA ⊢
  clear hY hJ hM hsm h0 h1 h2 hW hF hl1 hl2
  refine (callsIn_wide (n := 4)).1 ?_
  refine callsIn_of_wp Try.func32 rfl trivial ?_ rfl
  simp only [Try.ntmps32, List.size_toArray, List.length_cons, List.length_nil, Nat.reduceAdd, Nat.reduceSub, Array.replicate_succ, Array.replicate_zero, List.push_toArray, List.append_toArray, List.nil_append, List.cons_append]
  refine wpIn_scope_wide ?_
  gi_wp2
  refine wpIn_label ?_
  gi_wp2
  gi_loopw [4] (fun p wr => ∃ (i : Nat) (d : List (List UInt8 × Bool)), p = .int .i64 i ∧ i ≤ s.size ∧ Hid (rowsR F s.data.toList = d ++ rowsR F (s.data.toList.drop i)) ∧ Hid (RowAt s m b1 b2 mine J d wr)) (fun p wr => s.size - (intOf p).toNat)
  case atStart => exact ⟨0, [], rfl, by omega, Lib.hid rfl, R0⟩
  case round =>
    obtain ⟨i, d, rfl, hi, hD, hR⟩ := hrel
    have c1 := hR.out.c1
    have c2 := hR.out.c2
    by_cases hlt : i < s.size
    · have hz : (i : Int) < s.size := by omega
      have ix := index_byte s i hlt
      have hbi : i < s.data.toList.length := by rw [SZ]; exact hlt
      obtain ⟨b, hb⟩ : ∃ b, s.data.toList[i] = b := ⟨_, rfl⟩
      rw [hb] at ix
      have HB := Lib.hid hb
      obtain ⟨mb, hmb⟩ : ∃ mb, F b = mb := ⟨_, rfl⟩
      have K1 := Lib.hid (fun W => KA.out b W)
      rw [hmb] at K1
      have HMB := Lib.hid hmb
      have wi : IntKind.i64.wrap ((i : Int) + 1) = ((i + 1 : Nat) : Int) := IntWalk.i64_in _ (by omega)
      clear hb hmb
      gi_wp2
      gi_quiet ((gi_at_call 33; refine CallsIn.quiet_of_same (callsIn_wide.2 (K1.out _))))
      gi_wp2
      have HR1 := Lib.hid (hR.out.drewN HJ.out HM.out nq)
      generalize wr.drewN nq = wo at HR1 ⊢
      clear c1 c2 ix hR hz hi K1
      have HI := Lib.hid hlt
      clear hlt
      gi_loopw [4, 6] (fun q p W2 => ∃ k : Nat, q = .int .i64 i ∧ p = .int .i64 k ∧ i + 1 ≤ k ∧ k ≤ s.size ∧ Hid (∀ j (hj : j < s.data.toList.length), i ≤ j → j < k → F s.data.toList[j] = mb) ∧ Hid (RowAt s m b1 b2 mine J d W2)) (fun _ p W2 => s.size - (intOf p).toNat)
      case atStart => exact ⟨i + 1, rfl, by go_num, Nat.le_refl _, HI.out, Lib.hid (fun j hj h1 h2 => by
        obtain rfl : j = i := by omega
        rw [HB.out]; exact HMB.out), HR1⟩
      case round =>
        obtain ⟨k, rfl, rfl, hk1, hk2, hE, hR2⟩ := hrel
        have c1 := hR2.out.c1
        have c2 := hR2.out.c2
        clear HR1
        have K1 := Lib.hid (show 0 ≤ i ∧ i < k ∧ k ≤ s.size by omega)
        by_cases hlk : k < s.size
        · have hz : (k : Int) < s.size := by omega
          have ix := index_byte s k hlk
          have hbk : k < s.data.toList.length := by rw [SZ]; exact hlk
          obtain ⟨b', hb'⟩ : ∃ b', s.data.toList[k] = b' := ⟨_, rfl⟩
          rw [hb'] at ix
          have HB' := Lib.hid hb'
          obtain ⟨mk, hmk⟩ : ∃ mk, F b' = mk := ⟨_, rfl⟩
          have K2 := Lib.hid (fun W => KA.out b' W)
          rw [hmk] at K2
          have HMK := Lib.hid hmk
          clear hb' hmk
          by_cases he : mk = mb
          · subst he
            have wk : IntKind.i64.wrap ((k : Int) + 1) = ((k + 1 : Nat) : Int) := IntWalk.i64_in _ (by omega)
            have HE2 := Lib.hid (show ∀ j (hj : j < s.data.toList.length), i ≤ j → j < k + 1 → F s.data.toList[j] = mk from fun j hj h1 h2 => by
              by_cases e : j = k
              · subst e; rw [HB'.out]; exact HMK.out
              · exact hE.out j hj h1 (by omega))
            clear hE
            gi_wp2
            gi_quiet ((gi_at_call 33; refine CallsIn.quiet_of_same (callsIn_wide.2 (K2.out _))))
            gi_wp2
            go_roundw
            case rel => exact ⟨k + 1, rfl, by go_num, by omega, by omega, HE2, Lib.hid (hR2.out.drewN HJ.out HM.out nq)⟩
            case measure => simp [intOf]; omega
          · have hne : (mk == mb) = false := by simpa using he
            obtain ⟨seg, hseg⟩ : ∃ t, (s.data.toList.drop i).take (k - i) = t := ⟨_, rfl⟩
            have ST := Lib.hid (rows_step F s.data.toList (i := i) (k := k) (by omega) (by omega) (fun j hj h1 h2 => by rw [hE.out j hj h1 h2, HB.out]; exact HMB.out.symm) (fun hj => by rw [HB'.out, HMK.out, HB.out, HMB.out]; exact he))
            have ST2 := Lib.hid (show rowsR F s.data.toList = d ++ (seg, mb) :: rowsR F (s.data.toList.drop k) by
              rw [hD.out, ST.out, hseg, HB.out, HMB.out])
            have sl : ∀ W, (Instr.slice 9 (.string s) (some (.int .i64 (i : Nat))) (some (.int .i64 (k : Nat))) none).run Try.prog W = .ok (.string ⟨seg.toArray⟩) W := fun W => by
              rw [run_slice_string W _ _ _ _ _ _ Try.underlying9 (by omega) (by omega) (by omega), ← hseg, Int.toNat_natCast, Int.toNat_natCast, extract_str]
            clear hE ST hseg he
            gi_wp2
            gi_quiet ((gi_at_call 33; refine CallsIn.quiet_of_same (callsIn_wide.2 (K2.out _))))
            have HR3 := Lib.hid (hR2.out.drewN HJ.out HM.out nq)
            have c1 := HR3.out.c1
            have c2 := HR3.out.c2
            generalize wr.drewN nq = wy at HR3 c1 c2 ⊢
            obtain ⟨fn, tmps, assign, body, hy, hRR⟩ := HY.out d (seg, mb) wy (4 - 1) HR3.out.j ⟨_, by rw [ST2.out]; simp; rfl⟩
            dsimp only [encR] at hy
            gi_wp2
            refine hRR.mono ?_
            rintro e W3 ⟨rfl, hJ3, hk3⟩
            have HR4 := Lib.hid (HR3.out.next hJ3 hk3)
            clear hy hRR c1 c2 hJ3 hk3
            gi_wp2
            go_roundw
            case rel => exact ⟨k, _, by go_num, by omega, Lib.hid (by rw [ST2.out]; simp), HR4⟩
            case measure => simp [intOf]; omega
        · obtain rfl : k = s.size := by omega
          have hz0 : (0 : Int) ≤ i := by omega
          have hzi : (i : Int) ≤ s.size := by omega
          obtain ⟨seg, hseg⟩ : ∃ t, (s.data.toList.drop i).take (s.size - i) = t := ⟨_, rfl⟩
          have ST := Lib.hid (rows_step F s.data.toList (i := i) (k := s.size) (by omega) (by omega) (fun j hj h1 h2 => by rw [hE.out j hj h1 h2, HB.out]; exact HMB.out.symm) (fun hj => by omega))
          have ST2 := Lib.hid (show rowsR F s.data.toList = d ++ [(seg, mb)] by
            rw [hD.out, ST.out, hseg, HB.out, HMB.out, List.drop_eq_nil_of_le (by omega)]
            rfl)
          have sl : ∀ W, (Instr.slice 9 (.string s) (some (.int .i64 (i : Nat))) none none).run Try.prog W = .ok (.string ⟨seg.toArray⟩) W := fun W => by
            rw [run_slice_string_l W _ s Try.underlying9 .i64 i (by omega) (by omega), ← hseg, Int.toNat_natCast, extract_str]
          obtain ⟨fn, tmps, assign, body, hy, hRR⟩ := HY.out d (seg, mb) wr (4 - 1) hR2.out.j ⟨[], by rw [ST2.out]; simp⟩
          dsimp only [encR] at hy
          clear hE ST hseg
          gi_wp2
          refine hRR.mono ?_
          rintro e W3 ⟨rfl, hJ3, hk3⟩
          clear hy hRR c1 c2
          gi_wp2
          rw [Exit.noGoto_ret]
          refine bodyPost_ret (results_none rfl _ _ _) rfl ?_
          exact ⟨⟨_, rfl⟩, by rw [ST2.out]; exact hJ3⟩
    · obtain rfl : i = s.size := by omega
      gi_wp2
      rw [Exit.noGoto_normal]
      go_end0
      exact ⟨⟨_, rfl⟩, by
        have e := hD.out
        rw [List.drop_eq_nil_of_le (by omega)] at e
        rw [e]
        simpa [rowsR] using hR.out.j⟩
end Go.Proofs.Ytgfiiohglgbdiaa
