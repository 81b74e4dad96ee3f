/-
  The document's Take and Whole.
-/
import Derived.Test.YtkjndgnjilfobaaTakeW
import Derived.Test.YtkjndgnjilfobaaRefTakeL
namespace Go.Proofs.Ytkjndgnjilfobaa
open Go.RowKit

theorem refTake2 {c : Nat} (hl : Letter c) (A : Option Addr) (n cp : Nat) (f : Nat → Nat) (w : World) (h : Bytes w A n f) (hA : A = none → n = 0 ∧ cp = 0) (hn : n ≤ 4194304) (hc : n ≤ cp) (hcc : cp ≤ 9223372036854775807) :
    Calls Try.prog 34 #[.int .u8 (c : Nat), .slice A n cp] w fun e w' => ∃ X u, e = .returned (.tuple #[X.val, .int .i64 (u : Nat)]) ∧ Below w.heap.size w w' ∧ NewAt w w' X.bA ∧ NewAt w w' X.lA ∧ KT2 c (seg f 0 n) w' X u (decide (0 < u)) :=
  (refTake_any hl A n cp f w h hA hn hc hcc).mono fun e w' hk => by
    obtain ⟨hb, ⟨h1, h2⟩ | ⟨X, r, h1, h2, h3, h4, h5, h6, h7⟩⟩ := hk
    · exact ⟨onlyRV 0 0 false, 0, h2, hb, NewAt.none _ _, NewAt.none _ _, onlyOk _ (by decide) (by decide), .inl ⟨rfl, h1⟩⟩
    · exact ⟨X, _, h5, hb, h6, h7, h1, .inr ⟨by simpa using form_pos c X.mean, r, h2, h3, h4, rfl⟩⟩

/-- what is asked of the document's Take, as of the program's -/
def RefTakeOK : Prop := ∀ (s : ByteArray) (A : Option Addr) (n c : Nat) (f : Nat → Nat) (W : World), s.size ≤ 9223372036854775807 → Bytes W A n f → (A = none → n = 0 ∧ c = 0) → n ≤ c → c ≤ 9223372036854775807 → n ≤ 4194304 →
  Calls Try.prog 19 #[.string s, .slice A n c] W (TakeAns (letters s) (seg f 0 n) W)

set_option maxRecDepth 100000 in
set_option maxHeartbeats 8000000 in
theorem refTakes_any : RefTakeOK := by
  intro s A n c f w hs hB hA hnc hcc hn
  have SC0 := Lib.hid (refSchema_any s w hs)
  have H := Lib.hid hB
  have HA := Lib.hid hA
  have LS := Lib.hid (letters_len s)
  clear hB hA
  by_cases hsc : Schema (letters s)
  · have e0 : decide (Schema (letters s)) = true := by simpa using hsc
    rw [e0] at SC0
    have SC := Lib.hid hsc
    have h64 : s.size ≤ 64 := by have := hsc.2; rw [letters_len] at this; exact this
    clear e0 hsc
    go_enter Try.func19, Try.ntmps19
    go_wp2_with fail
    refine SC0.out.mono ?_
    rintro e w1 ⟨rfl, rfl⟩
    go_wp2_with fail
    go_loopg [7, 8, 9] s.size (fun g1 vl vu vi wr => ∃ (k p : Nat) (V : Nat → RV), vi = .int .i64 k ∧ vu = .int .i64 p ∧ k ≤ s.size ∧ s.size - k ≤ g1 ∧ p ≤ n ∧ Hid (ownsV wr w1.heap.size vl V k) ∧ Hid (RowOK wr vl V k) ∧ Hid (AllFit ((letters s).take k) (means V k) ∧ AllShort (means V k) ∧ seg f 0 p = forms ((letters s).take k) (means V k)) ∧ Hid (Below w1.heap.size w1 wr))
    case atStart => exact ⟨0, 0, fun _ => default, rfl, rfl, by omega, by omega, by omega, Lib.hid (World.ownsRow_nil _ _ _ _), Lib.hid (fun j hj => by omega), Lib.hid ⟨by simp [means, AllFit], fun v hv => by simp [means] at hv, by simp [forms, seg_zero]⟩, Lib.hid (Below.refl _ _)⟩
    case round =>
      rename World => W
      obtain ⟨k, p, V, rfl, rfl, hk, hg1, hp, O, RO, M, Bl⟩ := hrel
      by_cases hlt : k < s.size
      · have hkz : (k : Int) < s.size := by omega
        have hk0 : (0 : Int) ≤ k := by omega
        have hp0 : (0 : Int) ≤ p := by omega
        have hpn : (p : Int) ≤ n := by omega
        have PX : pick (letters s) k = s[k].toNat := by unfold pick; rw [letters_get s hlt]; rfl
        have LT : Hid (Letter (pick (letters s) k)) := Lib.hid (SC.out.1 _ (List.mem_of_getElem? (pick_get (l := letters s) (by rw [LS.out]; exact hlt))))
        obtain ⟨A', hsl, hnil, hby⟩ := slice_from A n c p f hp hnc HA.out
        have TK := fun (W' : World) (hW : Below w1.heap.size w1 W') => refTake2 LT.out A' (n - p) (c - p) (fun i => f (p + i)) W' (hby W' (H.out.below hW)) hnil (by omega) (by omega) (by omega)
        have SP : Hid (seg f 0 n = forms ((letters s).take k) (means V k) ++ seg (fun i => f (p + i)) 0 (n - p)) := Lib.hid (by
          obtain ⟨m, rfl⟩ : ∃ m, n = p + m := ⟨n - p, by omega⟩
          rw [seg_add, M.out.2.2, Nat.zero_add, show p + m - p = m by omega, seg_shift, Nat.add_zero])
        have NX : Hid ((∀ v r, Fits (pick (letters s) k) v → Short v → Real v → form (pick (letters s) k) v ++ r ≠ seg (fun i => f (p + i)) 0 (n - p)) → ∀ l r, Valid (letters s) l → forms (letters s) l ++ r ≠ seg f 0 n) := Lib.hid (fun hn => none_next SC.out.1 (by rw [LS.out]; exact hlt) M.out.1 SP.out hn)
        have MX : Hid (∀ (X : RV) (u : Nat) r, Fits (pick (letters s) k) X.mean → Short X.mean → form (pick (letters s) k) X.mean ++ r = seg (fun i => f (p + i)) 0 (n - p) → u = (form (pick (letters s) k) X.mean).length → p + u ≤ n ∧ (AllFit ((letters s).take (k + 1)) (means (joinV V k (fun _ => X)) (k + 1)) ∧ AllShort (means (joinV V k (fun _ => X)) (k + 1)) ∧ seg f 0 (p + u) = forms ((letters s).take (k + 1)) (means (joinV V k (fun _ => X)) (k + 1)))) := Lib.hid (fun X u r q1 q2 q3 q4 => by
          have ql := congrArg List.length q3
          rw [List.length_append, seg_len, ← q4] at ql
          refine ⟨by omega, ?_⟩
          rw [means_snoc, forms_snoc (by rw [LS.out]; exact hlt) (means_len _ _)]
          refine ⟨fit_next (by rw [LS.out]; exact hlt) M.out.1 q1, fun v hv => ?_, ?_⟩
          · rcases List.mem_append.1 hv with hv | hv
            · exact M.out.2.1 v hv
            · rw [List.mem_singleton.1 hv]; exact q2
          · obtain ⟨m, hm⟩ : ∃ m, n - p = u + m := ⟨n - p - u, by omega⟩
            rw [hm, seg_add] at q3
            have q5 := (List.append_inj q3 (by rw [seg_len, q4])).1
            rw [q5, seg_shift, Nat.add_zero, seg_add, M.out.2.2, Nat.zero_add])
        clear SP M
        rw [PX] at TK NX
        have TH := Lib.hid TK
        have HPX := Lib.hid PX
        clear TK hby hnil LT PX
        have T0 : Hid (Below w1.heap.size w1 W.drew) := Lib.hid Bl.out.drew
        have S0 : Hid (Below W.heap.size W W.drew) := Lib.hid (Below.refl _ W).drew
        have T1 : Hid (Below w1.heap.size w1 (W.alloc (.cells #[.int .u64 0, .int .i64 0, .bool false, .slice none 0 0, .slice none 0 0] 42)).drew) := Lib.hid (Bl.out.alloc Bl.out.size _).drew
        have T1a : Hid (Below w1.heap.size w1 (W.alloc (.cells #[.int .u64 0, .int .i64 0, .bool false, .slice none 0 0, .slice none 0 0] 42))) := Lib.hid (Bl.out.alloc Bl.out.size _)
        have S1 : Hid (Below W.heap.size W (W.alloc (.cells #[.int .u64 0, .int .i64 0, .bool false, .slice none 0 0, .slice none 0 0] 42)).drew) := Lib.hid ((Below.refl _ W).alloc (Nat.le_refl _) _).drew
        have BZ1 : Hid ((W.alloc (.cells #[.int .u64 0, .int .i64 0, .bool false, .slice none 0 0, .slice none 0 0] 42)).drew.heap[W.heap.size]? = some (.cells #[.int .u64 0, .int .i64 0, .bool false, .slice none 0 0, .slice none 0 0] 42 (0, 0))) := Lib.hid (heap_alloc_new W _)
        go_wp2_with fail
        go_region_held3 (fun W' => Below w1.heap.size w1 W')
          (first | (with_reducible exact X5.out _ _ _ _ _) | (with_reducible exact X4.out _) | (with_reducible exact B3w.out) | (with_reducible exact T1.out) | (with_reducible exact T1a.out) | (with_reducible exact T0.out) | (with_reducible exact Bl.out))
          (first
          | (go_at_call 34; (with_reducible refine (TH.out _ T0.out).mono ?_); rintro e w3 ⟨X, u, rfl, hb, na, nb, hk⟩; unfold RV.val; have B3 : Hid (Below W.heap.size W w3) := Lib.hid (S0.out.trans (hb.mono S0.out.size)); have B3w : Hid (Below w1.heap.size w1 w3) := Lib.hid (T0.out.trans (hb.mono T0.out.size)); have NA : Hid (∀ p, X.bA = some p → W.heap.size ≤ p.block ∧ p.block < w3.heap.size) := Lib.hid (fun p e => ⟨Nat.le_trans S0.out.size (na p e).1, (na p e).2⟩); have NB : Hid (∀ p, X.lA = some p → W.heap.size ≤ p.block ∧ p.block < w3.heap.size) := Lib.hid (fun p e => ⟨Nat.le_trans S0.out.size (nb p e).1, (nb p e).2⟩); have KK := Lib.hid hk; have X4 : Hid (∀ o : Obj, Below w1.heap.size w1 (w3.alloc o)) := Lib.hid (fun o => B3w.out.alloc B3w.out.size o); clear hb na nb hk)
          | (go_at_call 34; (with_reducible refine (TH.out _ T1.out).mono ?_); rintro e w3 ⟨X, u, rfl, hb, na, nb, hk⟩; unfold RV.val; have B3 : Hid (Below W.heap.size W w3) := Lib.hid (S1.out.trans (hb.mono S1.out.size)); have B3w : Hid (Below w1.heap.size w1 w3) := Lib.hid (T1.out.trans (hb.mono T1.out.size)); have NA : Hid (∀ p, X.bA = some p → W.heap.size + 1 ≤ p.block ∧ p.block < w3.heap.size) := Lib.hid (fun p e => ⟨by have := (na p e).1; simpa using this, (na p e).2⟩); have NB : Hid (∀ p, X.lA = some p → W.heap.size + 1 ≤ p.block ∧ p.block < w3.heap.size) := Lib.hid (fun p e => ⟨by have := (nb p e).1; simpa using this, (nb p e).2⟩); have KK := Lib.hid hk; have BZ : Hid (w3.heap[W.heap.size]? = some (.cells #[.int .u64 0, .int .i64 0, .bool false, .slice none 0 0, .slice none 0 0] 42 (0, 0))) := Lib.hid ((hb.block W.heap.size (by simp)).trans BZ1.out); have c0 : w3.cell? ⟨W.heap.size, 0, none⟩ = some (.int .u64 0) := (by rw [cell_of_row w3 _ 0 _ _ _ BZ.out]; rfl); have y0 : w3.frozen? ⟨W.heap.size, 0, none⟩ = false := (by simp [World.frozen?, BZ.out]); have c1 : w3.cell? ⟨W.heap.size, 1, none⟩ = some (.int .i64 0) := (by rw [cell_of_row w3 _ 1 _ _ _ BZ.out]; rfl); have y1 : w3.frozen? ⟨W.heap.size, 1, none⟩ = false := (by simp [World.frozen?, BZ.out]); have c2 : w3.cell? ⟨W.heap.size, 2, none⟩ = some (.bool false) := (by rw [cell_of_row w3 _ 2 _ _ _ BZ.out]; rfl); have y2 : w3.frozen? ⟨W.heap.size, 2, none⟩ = false := (by simp [World.frozen?, BZ.out]); have c3 : w3.cell? ⟨W.heap.size, 3, none⟩ = some (.slice none 0 0) := (by rw [cell_of_row w3 _ 3 _ _ _ BZ.out]; rfl); have y3 : w3.frozen? ⟨W.heap.size, 3, none⟩ = false := (by simp [World.frozen?, BZ.out]); have c4 : w3.cell? ⟨W.heap.size, 4, none⟩ = some (.slice none 0 0) := (by rw [cell_of_row w3 _ 4 _ _ _ BZ.out]; rfl); have y4 : w3.frozen? ⟨W.heap.size, 4, none⟩ = false := (by simp [World.frozen?, BZ.out]); have X5 : Hid (∀ a b c d e : Value, Below w1.heap.size w1 (((((w3.setCell ⟨W.heap.size, 0, none⟩ a).setCell ⟨W.heap.size, 1, none⟩ b).setCell ⟨W.heap.size, 2, none⟩ c).setCell ⟨W.heap.size, 3, none⟩ d).setCell ⟨W.heap.size, 4, none⟩ e)) := Lib.hid (fun a b c d e => box_below B3w.out Bl.out.size _ _ _ _ _); clear hb na nb hk))
        all_goals
          rename_i hS
          clear hS
          first
          | (have XB : Hid ((((((w3.setCell ⟨W.heap.size, 0, none⟩ (.int .u64 (X.n : Nat))).setCell ⟨W.heap.size, 1, none⟩ (.int .i64 X.i)).setCell ⟨W.heap.size, 2, none⟩ (.bool X.f)).setCell ⟨W.heap.size, 3, none⟩ (.slice X.bA X.bn X.bc)).setCell ⟨W.heap.size, 4, none⟩ (.slice X.lA X.ln X.lc)).heap[W.heap.size]? = some (.cells #[.int .u64 (X.n : Nat), .int .i64 X.i, .bool X.f, .slice X.bA X.bn X.bc, .slice X.lA X.ln X.lc] 42 (0, 0))) := Lib.hid (box_set BZ.out _ _ _ _ _)
             have B6 : Hid (Below W.heap.size W (((((w3.setCell ⟨W.heap.size, 0, none⟩ (.int .u64 (X.n : Nat))).setCell ⟨W.heap.size, 1, none⟩ (.int .i64 X.i)).setCell ⟨W.heap.size, 2, none⟩ (.bool X.f)).setCell ⟨W.heap.size, 3, none⟩ (.slice X.bA X.bn X.bc)).setCell ⟨W.heap.size, 4, none⟩ (.slice X.lA X.ln X.lc))) := Lib.hid (box_below B3.out (Nat.le_refl _) _ _ _ _ _)
             have ZS : Hid (w3.heap.size ≤ (((((w3.setCell ⟨W.heap.size, 0, none⟩ (.int .u64 (X.n : Nat))).setCell ⟨W.heap.size, 1, none⟩ (.int .i64 X.i)).setCell ⟨W.heap.size, 2, none⟩ (.bool X.f)).setCell ⟨W.heap.size, 3, none⟩ (.slice X.bA X.bn X.bc)).setCell ⟨W.heap.size, 4, none⟩ (.slice X.lA X.ln X.lc)).heap.size) := Lib.hid (by simp)
             have XO : Hid (X.ok (((((w3.setCell ⟨W.heap.size, 0, none⟩ (.int .u64 (X.n : Nat))).setCell ⟨W.heap.size, 1, none⟩ (.int .i64 X.i)).setCell ⟨W.heap.size, 2, none⟩ (.bool X.f)).setCell ⟨W.heap.size, 3, none⟩ (.slice X.bA X.bn X.bc)).setCell ⟨W.heap.size, 4, none⟩ (.slice X.lA X.ln X.lc))) := Lib.hid (KK.out.1.offBlock (g := W.heap.size) (fun p e => by have := (NA.out p e).1; omega) (fun p e => by have := (NB.out p e).1; omega) (fun k hk => box_other _ _ _ _ _ k hk) ZS.out)
             have NA6 : Hid (∀ p, X.bA = some p → W.heap.size ≤ p.block ∧ p.block < (((((w3.setCell ⟨W.heap.size, 0, none⟩ (.int .u64 (X.n : Nat))).setCell ⟨W.heap.size, 1, none⟩ (.int .i64 X.i)).setCell ⟨W.heap.size, 2, none⟩ (.bool X.f)).setCell ⟨W.heap.size, 3, none⟩ (.slice X.bA X.bn X.bc)).setCell ⟨W.heap.size, 4, none⟩ (.slice X.lA X.ln X.lc)).heap.size) := Lib.hid (fun p e => ⟨by have := (NA.out p e).1; omega, Nat.lt_of_lt_of_le (NA.out p e).2 ZS.out⟩)
             have NB6 : Hid (∀ p, X.lA = some p → W.heap.size ≤ p.block ∧ p.block < (((((w3.setCell ⟨W.heap.size, 0, none⟩ (.int .u64 (X.n : Nat))).setCell ⟨W.heap.size, 1, none⟩ (.int .i64 X.i)).setCell ⟨W.heap.size, 2, none⟩ (.bool X.f)).setCell ⟨W.heap.size, 3, none⟩ (.slice X.bA X.bn X.bc)).setCell ⟨W.heap.size, 4, none⟩ (.slice X.lA X.ln X.lc)).heap.size) := Lib.hid (fun p e => ⟨by have := (NB.out p e).1; omega, Nat.lt_of_lt_of_le (NB.out p e).2 ZS.out⟩)
             clear ZS X5 c0 c1 c2 c3 c4 y0 y1 y2 y3 y4 BZ
             generalize (((((w3.setCell ⟨W.heap.size, 0, none⟩ (.int .u64 (X.n : Nat))).setCell ⟨W.heap.size, 1, none⟩ (.int .i64 X.i)).setCell ⟨W.heap.size, 2, none⟩ (.bool X.f)).setCell ⟨W.heap.size, 3, none⟩ (.slice X.bA X.bn X.bc)).setCell ⟨W.heap.size, 4, none⟩ (.slice X.lA X.ln X.lc)) = w6 at XB B6 XO NA6 NB6 ⊢
             obtain ⟨bx, hbx⟩ : ∃ bx, W.heap.size = bx := ⟨_, rfl⟩)
          | (have XB : Hid ((w3.alloc (.cells #[.int .u64 (X.n : Nat), .int .i64 X.i, .bool X.f, .slice X.bA X.bn X.bc, .slice X.lA X.ln X.lc] 42)).heap[w3.heap.size]? = some (.cells #[.int .u64 (X.n : Nat), .int .i64 X.i, .bool X.f, .slice X.bA X.bn X.bc, .slice X.lA X.ln X.lc] 42 (0, 0))) := Lib.hid (heap_alloc_new w3 _)
             have B6 : Hid (Below W.heap.size W (w3.alloc (.cells #[.int .u64 (X.n : Nat), .int .i64 X.i, .bool X.f, .slice X.bA X.bn X.bc, .slice X.lA X.ln X.lc] 42))) := Lib.hid (B3.out.alloc B3.out.size _)
             have XO : Hid (X.ok (w3.alloc (.cells #[.int .u64 (X.n : Nat), .int .i64 X.i, .bool X.f, .slice X.bA X.bn X.bc, .slice X.lA X.ln X.lc] 42))) := Lib.hid (KK.out.1.below ((Below.refl _ w3).alloc (Nat.le_refl _) _))
             have NA6 : Hid (∀ p, X.bA = some p → W.heap.size ≤ p.block ∧ p.block < (w3.alloc (.cells #[.int .u64 (X.n : Nat), .int .i64 X.i, .bool X.f, .slice X.bA X.bn X.bc, .slice X.lA X.ln X.lc] 42)).heap.size) := Lib.hid (fun p e => ⟨(NA.out p e).1, by have := (NA.out p e).2; simp; omega⟩)
             have NB6 : Hid (∀ p, X.lA = some p → W.heap.size ≤ p.block ∧ p.block < (w3.alloc (.cells #[.int .u64 (X.n : Nat), .int .i64 X.i, .bool X.f, .slice X.bA X.bn X.bc, .slice X.lA X.ln X.lc] 42)).heap.size) := Lib.hid (fun p e => ⟨(NB.out p e).1, by have := (NB.out p e).2; simp; omega⟩)
             clear X4
             generalize w3.alloc (.cells #[.int .u64 (X.n : Nat), .int .i64 X.i, .bool X.f, .slice X.bA X.bn X.bc, .slice X.lA X.ln X.lc] 42) = w6 at XB B6 XO NA6 NB6 ⊢
             obtain ⟨bx, hbx⟩ : ∃ bx, w3.heap.size = bx := ⟨_, rfl⟩)
          have HBX := Lib.hid hbx
          rw [hbx] at XB
          try rw [hbx]
          have B7 : Hid (Below w1.heap.size w1 w6) := Lib.hid (Bl.out.trans (B6.out.mono Bl.out.size))
          clear hbx HBX
          by_cases hu0 : u = 0
          · subst hu0
            have NO : Hid (∀ l r, Valid (letters s) l → forms (letters s) l ++ r ≠ seg f 0 n) := Lib.hid (NX.out (by
              rcases KK.out.2 with ⟨_, h⟩ | ⟨h, _⟩
              · exact h
              · cases h))
            clear NX MX KK
            go_wp2
            go_ret3
            exact ⟨B7.out, .inr (.inl ⟨SC.out, NO.out, rfl⟩)⟩
          · have hux : ((u : Int) == 0) = false := by simp; omega
            obtain ⟨hpu, hm⟩ : p + u ≤ n ∧ (AllFit ((letters s).take (k + 1)) (means (joinV V k (fun _ => X)) (k + 1)) ∧ AllShort (means (joinV V k (fun _ => X)) (k + 1)) ∧ seg f 0 (p + u) = forms ((letters s).take (k + 1)) (means (joinV V k (fun _ => X)) (k + 1))) := by
              rcases KK.out.2 with ⟨h, _⟩ | ⟨_, r, q1, q2, q3, q4⟩
              · rw [decide_eq_false_iff_not] at h; omega
              · exact MX.out X u r (by rw [HPX.out]; exact q1) q2 (by rw [HPX.out]; exact q3) (by rw [HPX.out]; exact q4)
            have M2 := Lib.hid hm
            have O6 := Lib.hid (O.out.keep B6.out)
            have R6 := Lib.hid (RO.out.below B6.out)
            have OW := Lib.hid O.out.own
            have AX : Hid (Apart w6 u7 X.bA ∧ Apart w6 u7 X.lA) := Lib.hid ⟨NewAt.apart (w0 := W) NA6.out (fun j e => (OW.out j e).2), NewAt.apart (w0 := W) NB6.out (fun j e => (OW.out j e).2)⟩
            clear hm hu0 NX MX KK O RO NA6 NB6 Bl B6 NA NB B3 B3w TH HPX hsl T0 S0 T1 T1a S1 BZ1
            have BA7 : Hid (Below w6.heap.size w6 (w6.alloc (.cells #[.int .u64 (X.n : Nat), .int .i64 X.i, .bool X.f, .slice X.bA X.bn X.bc, .slice X.lA X.ln X.lc] 42))) := Lib.hid ((Below.refl _ w6).alloc (Nat.le_refl _) _)
            have O7 := Lib.hid (O6.out.keep BA7.out)
            have V7 := Lib.hid (vals_one XO.out)
            have S7 : Hid (w1.heap.size ≤ (w6.alloc (.cells #[.int .u64 (X.n : Nat), .int .i64 X.i, .bool X.f, .slice X.bA X.bn X.bc, .slice X.lA X.ln X.lc] 42)).heap.size) := Lib.hid (by have := B7.out.size; simp; omega)
            have hk5 : k ≤ 100000 := by omega
            have c0 : w6.cell? ⟨bx, 0, none⟩ = some (.int .u64 (X.n : Nat)) := by rw [cell_of_row w6 _ 0 _ _ _ XB.out]; rfl
            have c1 : w6.cell? ⟨bx, 1, none⟩ = some (.int .i64 X.i) := by rw [cell_of_row w6 _ 1 _ _ _ XB.out]; rfl
            have c2 : w6.cell? ⟨bx, 2, none⟩ = some (.bool X.f) := by rw [cell_of_row w6 _ 2 _ _ _ XB.out]; rfl
            have c3 : w6.cell? ⟨bx, 3, none⟩ = some (.slice X.bA X.bn X.bc) := by rw [cell_of_row w6 _ 3 _ _ _ XB.out]; rfl
            have c4 : w6.cell? ⟨bx, 4, none⟩ = some (.slice X.lA X.ln X.lc) := by rw [cell_of_row w6 _ 4 _ _ _ XB.out]; rfl
            go_wp2_with (refine wpList_append_vals1 (o := ⟨some 36, _, _, _, _, _⟩) rfl _ _ rfl w1.heap.size u7 V k rfl O7.out _ 1 X rfl V7.out hk5 S7.out ?_)
            intro g7 c7 w8 hO8 hgrow hat hlt7
            have O8 := Lib.hid hO8
            have R8 : Hid (RowOK w8 (.slice (some ⟨g7, 0, none⟩) (k + 1) c7) (joinV V k (fun _ => X)) (k + 1)) := Lib.hid ((R6.out.below BA7.out).push (XO.out.below BA7.out) (AX.out.1.up BA7.out.size) (AX.out.2.up BA7.out.size) hgrow (by simpa using hat))
            have B8 : Hid (Below w1.heap.size w1 w8) := Lib.hid ((B7.out.trans (BA7.out.mono B7.out.size)).grown hgrow S7.out (fun j e => (OW.out j e).1))
            clear hO8 hgrow hat hlt7 c0 c1 c2 c3 c4 O7 V7 S7 BA7 O6 R6 OW AX XO XB B7
            go_wp2_with fail
            go_roundg (s.size - (k + 1))
            case measure => omega
            case rel => exact ⟨k + 1, p + u, joinV V k (fun _ => X), by go_num, by go_num, by omega, Nat.le_refl _, hpu, O8, R8, M2, B8⟩
      · obtain rfl : k = s.size := by omega
        have e3 : (letters s).take s.size = letters s := List.take_of_length_le (by rw [LS.out]; omega)
        rw [e3] at M
        obtain ⟨A9, c9, rfl, q1, q2, q3⟩ := O.out.form
        have VV : Hid (ValsIn W A9 s.size c9 V) := Lib.hid ⟨O.out.vals fun j hj => (RO.out j hj).1, q3, ⟨q1, q2⟩, by omega⟩
        have MM : Hid (Valid (letters s) (means V s.size) ∧ forms (letters s) (means V s.size) ++ seg f p (n - p) = seg f 0 n ∧ p = (forms (letters s) (means V s.size)).length) := Lib.hid ⟨⟨⟨SC.out, M.out.1⟩, M.out.2.1, vals_real VV.out.1⟩, by
          obtain ⟨m, rfl⟩ : ∃ m, n = p + m := ⟨n - p, by omega⟩
          rw [seg_add, M.out.2.2, Nat.zero_add, show p + m - p = m by omega], by rw [← M.out.2.2, seg_len]⟩
        clear e3 M O RO q1 q2 q3
        go_wp2
        go_ret3
        exact ⟨Bl.out, .inr (.inr ⟨A9, s.size, c9, V, _, MM.out.1, MM.out.2.1, by rw [← MM.out.2.2]; rfl, VV.out⟩)⟩
  · have e0 : decide (Schema (letters s)) = false := by simpa using hsc
    rw [e0] at SC0
    have NG := Lib.hid hsc
    clear e0 hsc
    go_enter Try.func19, Try.ntmps19
    go_wp2_with fail
    refine SC0.out.mono ?_
    rintro e w1 ⟨rfl, rfl⟩
    go_wp2
    go_ret3
    exact ⟨Below.refl _ _, .inl ⟨NG.out, rfl⟩⟩

/-- what is asked of the document's Whole, as of the program's -/
def RefWholeOK : Prop := ∀ (s : ByteArray) (A : Option Addr) (n c : Nat) (f : Nat → Nat) (W : World), s.size ≤ 9223372036854775807 → Bytes W A n f → (A = none → n = 0 ∧ c = 0) → n ≤ c → c ≤ 9223372036854775807 → n ≤ 4194304 →
  Calls Try.prog 21 #[.string s, .slice A n c] W (WholeAns (letters s) (seg f 0 n) W)
set_option maxRecDepth 100000 in
set_option maxHeartbeats 2000000 in
theorem refWhole4_any : RefWholeOK := by
  intro s A n c f w hs hB hA hnc hcc hn
  have T := Lib.hid (refTakes_any s A n c f w hs hB hA hnc hcc hn)
  clear hB hA
  go_enter Try.func21, Try.ntmps21
  go_wp2_with fail
  refine T.out.mono ?_
  rintro e w1 ⟨hb, ⟨h1, rfl⟩ | ⟨h1, h2, rfl⟩ | ⟨B, m, d, V, r, h1, h2, rfl, h4⟩⟩
  · have B1 := Lib.hid hb
    have N1 := Lib.hid h1
    clear hb h1
    go_wp2
    go_ret2
    exact ⟨B1.out, .inl ⟨N1.out, rfl⟩⟩
  · have B1 := Lib.hid hb
    have N1 := Lib.hid h1
    have N2 : Hid (∀ l, Valid (letters s) l → forms (letters s) l ≠ seg f 0 n) := Lib.hid (fun l hl e => h2 l [] hl (by rw [List.append_nil]; exact e))
    clear hb h1 h2
    go_wp2
    go_ret2
    exact ⟨B1.out, .inr (.inl ⟨N1.out, N2.out, rfl⟩)⟩
  · have B1 := Lib.hid hb
    have hl := congrArg List.length h2
    rw [List.length_append, seg_len] at hl
    have N1 := Lib.hid h1
    have N2 := Lib.hid h2
    have V1 := Lib.hid h4
    clear hb h1 h2 h4
    by_cases hr : r = []
    · have hx : ¬ (((forms (letters s) (means V m)).length : Nat) : Int) < (n : Int) := by rw [hr] at hl; simp at hl; omega
      have hx2 : decide ((((forms (letters s) (means V m)).length : Nat) : Int) < (n : Int)) = false := by simpa using hx
      have N3 : Hid (forms (letters s) (means V m) = seg f 0 n) := Lib.hid (by have := N2.out; rwa [hr, List.append_nil] at this)
      clear hl hr
      go_wp2
      go_ret2
      exact ⟨B1.out, .inr (.inr ⟨B, m, d, V, N1.out, N3.out, rfl, V1.out⟩)⟩
    · have hx : (((forms (letters s) (means V m)).length : Nat) : Int) < (n : Int) := by
        have : 0 < r.length := List.length_pos_iff.2 hr
        omega
      have hx2 : decide ((((forms (letters s) (means V m)).length : Nat) : Int) < (n : Int)) = true := by simpa using hx
      have N3 : Hid (∀ l, Valid (letters s) l → forms (letters s) l ≠ seg f 0 n) := Lib.hid (fun l hl e => hr (valid_uniq (r := []) (t := r) hl.1 N1.out.1 (by rw [List.append_nil, N2.out]; exact e)).2.symm)
      have SC := Lib.hid N1.out.1.1
      clear hl hr
      go_wp2
      go_ret2
      exact ⟨B1.out, .inr (.inl ⟨SC.out, N3.out, rfl⟩)⟩
end Go.Proofs.Ytkjndgnjilfobaa
