/-
  The landed wire's Take and Whole.
-/
import Derived.Test.YtkjndgnjilfobaaTakeRows
namespace Go.Proofs.Ytkjndgnjilfobaa
open Go.RowKit

theorem Nums.offBlock {K : IntKind} {M g n : Nat} {w w' : World} {A : Option Addr} {f : Nat → Nat} (h : Nums K M w A n f) (hA : ∀ p, A = some p → p.block ≠ g) (hk : ∀ k, k ≠ g → w'.heap[k]? = w.heap[k]?) (hs : w.heap.size ≤ w'.heap.size) : Nums K M w' A n f :=
  ⟨h.1, fun hn => by
    obtain ⟨b, off, rfl, hb, hc⟩ := h.2 hn
    exact ⟨b, off, rfl, by omega, fun i hi => by rw [← hc i hi]; exact World.cell?_of_block (hk _ (by have := hA _ rfl; exact this))⟩⟩
theorem RV.ok.offBlock {g : Nat} {w w' : World} {X : RV} (h : X.ok w) (h1 : ∀ p, X.bA = some p → p.block ≠ g) (h2 : ∀ p, X.lA = some p → p.block ≠ g) (hk : ∀ k, k ≠ g → w'.heap[k]? = w.heap[k]?) (hs : w.heap.size ≤ w'.heap.size) : X.ok w' :=
  ⟨h.1, h.2.1, ⟨h.2.2.1.1.offBlock h1 hk hs, h.2.2.1.2⟩, ⟨h.2.2.2.1.offBlock h2 hk hs, h.2.2.2.2⟩⟩
theorem World.ownsRow.down' {w : World} {base base' e size n : Nat} {v : Value} {xs : List Value} (h : w.ownsRow base e size v n xs) (hb : base' ≤ base) : w.ownsRow base' e size v n xs := by
  refine ⟨h.1, ?_⟩
  rcases h.2 with hn | ⟨g, cap, cur, rfl, hbg, rest⟩
  · exact .inl hn
  · exact .inr ⟨g, cap, cur, rfl, by omega, rest⟩
/-- what a letter's take answers, told at once for both ways -/
def KT2 (c : Nat) (bl : List Nat) (w : World) (X : RV) (u : Nat) (b : Bool) : Prop :=
  X.ok w ∧ ((b = false ∧ ∀ v r, Fits c v → Short v → Real v → form c v ++ r ≠ bl) ∨ (b = true ∧ ∃ r, Fits c X.mean ∧ Short X.mean ∧ form c X.mean ++ r = bl ∧ u = (form c X.mean).length))
theorem takeK2 {c : Nat} (hl : Letter c) (A : Option Addr) (n cp : Nat) (f : Nat → Nat) (w : World) (h : Bytes w A n f) (hA : A = none → n = 0 ∧ cp = 0) (hn : n ≤ 4194304) (hc : n ≤ cp) (hcc : cp ≤ 9223372036854775807) :
    Calls Try.prog (fnT c) #[.slice A n cp] w fun e w' => ∃ X u b, e = .returned (.tuple #[X.val, .int .i64 (u : Nat), .bool b]) ∧ Below w.heap.size w w' ∧ NewAt w w' X.bA ∧ NewAt w w' X.lA ∧ Loose w' X.bA ∧ KT2 c (seg f 0 n) w' X u b :=
  (takeK hl A n cp f w h hA hn hc hcc).mono fun e w' hk => by
    obtain ⟨hb, ⟨h1, h2⟩ | ⟨X, r, h1, h2, h3, h4, h5, h6, h7, h8⟩⟩ := hk
    · exact ⟨onlyRV 0 0 false, 0, false, h2, hb, NewAt.none _ _, NewAt.none _ _, Loose.none _, onlyOk _ (by decide) (by decide), .inl ⟨rfl, h1⟩⟩
    · exact ⟨X, _, true, h5, hb, h6, h7, h8, h1, .inr ⟨rfl, r, h2, h3, h4, rfl⟩⟩

/-- what Take answers, and that the values' bytes are the caller's own -/
def TakeAns2 (s bl : List Nat) (W : World) (e : Ending) (w' : World) : Prop :=
  Below W.heap.size W w' ∧ ((¬ Schema s ∧ e = .returned (.tuple #[.slice none 0 0, .int .i64 0, .int .i64 2])) ∨
    (Schema s ∧ (∀ l r, Valid s l → forms s l ++ r ≠ bl) ∧ e = .returned (.tuple #[.slice none 0 0, .int .i64 0, .int .i64 40])) ∨
    (∃ A m c V r, Valid s (means V m) ∧ forms s (means V m) ++ r = bl ∧ e = .returned (.tuple #[.slice A m c, .int .i64 ((forms s (means V m)).length : Nat), .int .i64 0]) ∧ ValsIn w' A m c V ∧ RowOK w' (.slice A m c) V m ∧ RowNew W.heap.size w' V m ∧ ownsV w' W.heap.size (.slice A m c) V m))
set_option maxRecDepth 100000 in
set_option maxHeartbeats 8000000 in
theorem takeW2_any (s : ByteArray) (A : Option Addr) (n c : Nat) (f : Nat → Nat) (w : World) (hs : s.size ≤ 9223372036854775807) (hB : Bytes w A n f) (hA : A = none → n = 0 ∧ c = 0) (hnc : n ≤ c) (hcc : c ≤ 9223372036854775807) (hn : n ≤ 4194304) :
    Calls Try.prog 18 #[.string s, .slice A n c] w (TakeAns2 (letters s) (seg f 0 n) w) := by
  have KO1 := Lib.hid (fun W => kindsOf_any s W hs)
  have H := Lib.hid hB
  have HA := Lib.hid hA
  have LS := Lib.hid (letters_len s)
  clear hB hA
  go_enter Try.func18, Try.ntmps18
  go_wp2_with fail
  refine (KO1.out w).mono ?_
  rintro e w1 ⟨hb1, h | h⟩
  · obtain ⟨hns, rfl⟩ := h
    have B1 := Lib.hid hb1
    have NG := Lib.hid hns
    clear hb1 hns
    go_wp2
    go_ret3
    exact ⟨B1.out, .inl ⟨NG.out, rfl⟩⟩
  · obtain ⟨hsc, g, rfl, hg, hK⟩ := h
    have B1 := Lib.hid hb1
    have K1 := Lib.hid hK
    have SC := Lib.hid hsc
    have h64 : s.size ≤ 64 := by have := hsc.2; rw [letters_len] at this; exact this
    clear hb1 hK hsc
    go_wp2_with fail
    go_loopg [4, 5, 23] s.size (fun g1 vl vu vi wr => ∃ (k p : Nat) (V : Nat → RV), vi = .int .i64 k ∧ vu = .int .i64 p ∧ k ≤ s.size ∧ s.size - k ≤ g1 ∧ p ≤ n ∧ Hid (ownsV wr w1.heap.size vl V k) ∧ Hid (w1.heap.size ≤ wr.heap.size) ∧ Hid (RowOK wr vl V k) ∧ Hid (RowNew w.heap.size wr V k) ∧ Hid (AllFit ((letters s).take k) (means V k) ∧ AllShort (means V k) ∧ seg f 0 p = forms ((letters s).take k) (means V k)) ∧ Hid (KRow wr g s.size (letters s) s.size) ∧ Hid (Below w.heap.size w wr))
    case atStart => exact ⟨0, 0, fun _ => default, rfl, rfl, by omega, by omega, by omega, Lib.hid (World.ownsRow_nil _ _ _ _), Lib.hid (Nat.le_refl _), Lib.hid (fun j hj => by omega), Lib.hid (fun j hj => by omega), Lib.hid ⟨by simp [means, AllFit], fun v hv => by simp [means] at hv, by simp [forms, seg_zero]⟩, K1, B1⟩
    case round =>
      rename World => W
      obtain ⟨k, p, V, rfl, rfl, hk, hg1, hp, O, SW, RO, RN, M, K, Bl⟩ := hrel
      by_cases hlt : k < s.size
      · have hkz : (k : Int) < s.size := by omega
        have hk0 : (0 : Int) ≤ k := by omega
        have hp0 : (0 : Int) ≤ p := by omega
        have hpn : (p : Int) ≤ n := by omega
        have LT : Hid (Letter (pick (letters s) k)) := Lib.hid (SC.out.1 _ (List.mem_of_getElem? (pick_get (l := letters s) (by rw [LS.out]; exact hlt))))
        have F4 : Hid (FourAt W g (k * 4) (pick (letters s) k)) := Lib.hid (K.out.four hlt)
        have ZG := Lib.hid K.out.lt
        obtain ⟨A', hsl, hnil, hby⟩ := slice_from A n c p f hp hnc HA.out
        have TK := fun (W' : World) (hW : Below w.heap.size w W') => takeK2 LT.out A' (n - p) (c - p) (fun i => f (p + i)) W' (hby W' (H.out.below hW)) hnil (by omega) (by omega) (by omega)
        have SP : Hid (seg f 0 n = forms ((letters s).take k) (means V k) ++ seg (fun i => f (p + i)) 0 (n - p)) := Lib.hid (by
          obtain ⟨m, rfl⟩ : ∃ m, n = p + m := ⟨n - p, by omega⟩
          rw [seg_add, M.out.2.2, Nat.zero_add, show p + m - p = m by omega, seg_shift, Nat.add_zero])
        have NX : Hid ((∀ v r, Fits (pick (letters s) k) v → Short v → Real v → form (pick (letters s) k) v ++ r ≠ seg (fun i => f (p + i)) 0 (n - p)) → ∀ l r, Valid (letters s) l → forms (letters s) l ++ r ≠ seg f 0 n) := Lib.hid (fun hn => none_next SC.out.1 (by rw [LS.out]; exact hlt) M.out.1 SP.out hn)
        have MX : Hid (∀ (X : RV) (u : Nat) r, Fits (pick (letters s) k) X.mean → Short X.mean → form (pick (letters s) k) X.mean ++ r = seg (fun i => f (p + i)) 0 (n - p) → u = (form (pick (letters s) k) X.mean).length → p + u ≤ n ∧ (AllFit ((letters s).take (k + 1)) (means (joinV V k (fun _ => X)) (k + 1)) ∧ AllShort (means (joinV V k (fun _ => X)) (k + 1)) ∧ seg f 0 (p + u) = forms ((letters s).take (k + 1)) (means (joinV V k (fun _ => X)) (k + 1)))) := Lib.hid (fun X u r q1 q2 q3 q4 => by
          have ql := congrArg List.length q3
          rw [List.length_append, seg_len, ← q4] at ql
          refine ⟨by omega, ?_⟩
          rw [means_snoc, forms_snoc (by rw [LS.out]; exact hlt) (means_len _ _)]
          refine ⟨fit_next (by rw [LS.out]; exact hlt) M.out.1 q1, fun v hv => ?_, ?_⟩
          · rcases List.mem_append.1 hv with hv | hv
            · exact M.out.2.1 v hv
            · rw [List.mem_singleton.1 hv]; exact q2
          · obtain ⟨m, hm⟩ : ∃ m, n - p = u + m := ⟨n - p - u, by omega⟩
            rw [hm, seg_add] at q3
            have q5 := (List.append_inj q3 (by rw [seg_len, q4])).1
            rw [q5, seg_shift, Nat.add_zero, seg_add, M.out.2.2, Nat.zero_add])
        clear SP M
        generalize pick (letters s) k = x at LT F4 NX MX TK
        have EN := fnT_enters LT.out
        obtain ⟨f0, f1, f2, f3⟩ := F4.out
        have TH := Lib.hid TK
        clear TK hby hnil LT F4
        generalize fnO x = y1 at f1
        generalize fnP x = y2 at f2
        generalize fnT x = y at f3 EN TH
        have X1 : Hid ((W.alloc (.cells #[.int .u8 (x : Nat), .func (.func y1) #[] #[], .func (.func y2) #[] #[], .func (.func y) #[] #[]] 63)).cell? ⟨W.heap.size, 3, none⟩ = some (.func (.func y) #[] #[])) := Lib.hid (by simp [World.cell?_alloc_at])
        have BA : Hid (Below W.heap.size W (W.alloc (.cells #[.int .u8 (x : Nat), .func (.func y1) #[] #[], .func (.func y2) #[] #[], .func (.func y) #[] #[]] 63))) := Lib.hid ((Below.refl _ W).alloc (Nat.le_refl _) _)
        go_wp2_with fail
        generalize W.alloc (.cells #[.int .u8 (x : Nat), .func (.func y1) #[] #[], .func (.func y2) #[] #[], .func (.func y) #[] #[]] 63) = W1 at X1 BA ⊢
        have S0 : Hid (Below W.heap.size W W1.drew) := Lib.hid BA.out.drew
        have T0 : Hid (Below w.heap.size w W1.drew) := Lib.hid (Bl.out.trans (S0.out.mono Bl.out.size))
        have BX : Hid (W.heap.size ≤ W1.drew.heap.size) := Lib.hid S0.out.size
        have XD : Hid (W1.drew.cell? ⟨W.heap.size, 3, none⟩ = some (.func (.func y) #[] #[])) := Lib.hid X1.out
        clear f0 f1 f2 f3
        have T1 : Hid (Below w.heap.size w (W1.alloc (.cells #[.int .u64 0, .int .i64 0, .bool false, .slice none 0 0, .slice none 0 0] 42)).drew) := Lib.hid ((Bl.out.trans (BA.out.mono Bl.out.size)).alloc (by have := Bl.out.size; have := BA.out.size; omega) _).drew
        have X1A : Hid ((W1.alloc (.cells #[.int .u64 0, .int .i64 0, .bool false, .slice none 0 0, .slice none 0 0] 42)).cell? ⟨W.heap.size, 3, none⟩ = some (.func (.func y) #[] #[])) := Lib.hid (by rw [World.cell?_alloc_lt W1 _ _ (lt_of_cell X1.out)]; exact X1.out)
        have XAD : Hid ((W1.alloc (.cells #[.int .u64 0, .int .i64 0, .bool false, .slice none 0 0, .slice none 0 0] 42)).drew.cell? ⟨W.heap.size, 3, none⟩ = some (.func (.func y) #[] #[])) := Lib.hid X1A.out
        have BZ1 : Hid ((W1.alloc (.cells #[.int .u64 0, .int .i64 0, .bool false, .slice none 0 0, .slice none 0 0] 42)).drew.heap[W1.heap.size]? = some (.cells #[.int .u64 0, .int .i64 0, .bool false, .slice none 0 0, .slice none 0 0] 42 (0, 0))) := Lib.hid (heap_alloc_new W1 _)
        have S1 : Hid (Below W.heap.size W (W1.alloc (.cells #[.int .u64 0, .int .i64 0, .bool false, .slice none 0 0, .slice none 0 0] 42)).drew) := Lib.hid (BA.out.alloc BA.out.size _).drew
        have SZ1 : Hid (W.heap.size < W1.heap.size) := Lib.hid (lt_of_cell X1.out)
        go_region_held3 (fun W' => W'.cell? ⟨W.heap.size, 3, none⟩ = some (.func (.func y) #[] #[]))
          (first | (with_reducible exact X5.out _ _ _ _ _) | (with_reducible exact X4.out _) | (with_reducible exact X3.out) | (with_reducible exact XAD.out) | (with_reducible exact XD.out) | (with_reducible exact X1A.out) | (with_reducible exact X1.out))
          (first
          | (go_at_fn y; (with_reducible refine (TH.out _ T0.out).mono ?_); rintro e w3 ⟨X, u, ok, rfl, hb, na, nb, hlo, hk⟩; unfold RV.val; have LO := Lib.hid hlo; clear hlo; have X3 : Hid (w3.cell? ⟨W.heap.size, 3, none⟩ = some (.func (.func y) #[] #[])) := Lib.hid ((hb.cell (p := ⟨W.heap.size, 3, none⟩) (lt_of_cell XD.out)).trans XD.out); have B3 : Hid (Below W.heap.size W w3) := Lib.hid (S0.out.trans (hb.mono S0.out.size)); have NA : Hid (∀ p, X.bA = some p → W.heap.size ≤ p.block ∧ p.block < w3.heap.size) := Lib.hid (fun p e => ⟨Nat.le_trans BX.out (na p e).1, (na p e).2⟩); have NB : Hid (∀ p, X.lA = some p → W.heap.size ≤ p.block ∧ p.block < w3.heap.size) := Lib.hid (fun p e => ⟨Nat.le_trans BX.out (nb p e).1, (nb p e).2⟩); have KK := Lib.hid hk; have X4 : Hid (∀ o : Obj, (w3.alloc o).cell? ⟨W.heap.size, 3, none⟩ = some (.func (.func y) #[] #[])) := Lib.hid (fun o => by rw [World.cell?_alloc_lt w3 _ _ (lt_of_cell X3.out)]; exact X3.out); clear hb na nb hk)
          | (go_at_fn y; (with_reducible refine (TH.out _ T1.out).mono ?_); rintro e w3 ⟨X, u, ok, rfl, hb, na, nb, hlo, hk⟩; unfold RV.val; have LO := Lib.hid hlo; clear hlo; have X3 : Hid (w3.cell? ⟨W.heap.size, 3, none⟩ = some (.func (.func y) #[] #[])) := Lib.hid ((hb.cell (p := ⟨W.heap.size, 3, none⟩) (lt_of_cell XAD.out)).trans XAD.out); have B3 : Hid (Below W.heap.size W w3) := Lib.hid (S1.out.trans (hb.mono S1.out.size)); have NA : Hid (∀ p, X.bA = some p → W1.heap.size + 1 ≤ p.block ∧ p.block < w3.heap.size) := Lib.hid (fun p e => ⟨by have := (na p e).1; simpa using this, (na p e).2⟩); have NB : Hid (∀ p, X.lA = some p → W1.heap.size + 1 ≤ p.block ∧ p.block < w3.heap.size) := Lib.hid (fun p e => ⟨by have := (nb p e).1; simpa using this, (nb p e).2⟩); have KK := Lib.hid hk; have BZ : Hid (w3.heap[W1.heap.size]? = some (.cells #[.int .u64 0, .int .i64 0, .bool false, .slice none 0 0, .slice none 0 0] 42 (0, 0))) := Lib.hid ((hb.block W1.heap.size (by simp)).trans BZ1.out); have c0 : w3.cell? ⟨W1.heap.size, 0, none⟩ = some (.int .u64 0) := (by rw [cell_of_row w3 _ 0 _ _ _ BZ.out]; rfl); have y0 : w3.frozen? ⟨W1.heap.size, 0, none⟩ = false := (by simp [World.frozen?, BZ.out]); have c1 : w3.cell? ⟨W1.heap.size, 1, none⟩ = some (.int .i64 0) := (by rw [cell_of_row w3 _ 1 _ _ _ BZ.out]; rfl); have y1 : w3.frozen? ⟨W1.heap.size, 1, none⟩ = false := (by simp [World.frozen?, BZ.out]); have c2 : w3.cell? ⟨W1.heap.size, 2, none⟩ = some (.bool false) := (by rw [cell_of_row w3 _ 2 _ _ _ BZ.out]; rfl); have y2 : w3.frozen? ⟨W1.heap.size, 2, none⟩ = false := (by simp [World.frozen?, BZ.out]); have c3 : w3.cell? ⟨W1.heap.size, 3, none⟩ = some (.slice none 0 0) := (by rw [cell_of_row w3 _ 3 _ _ _ BZ.out]; rfl); have y3 : w3.frozen? ⟨W1.heap.size, 3, none⟩ = false := (by simp [World.frozen?, BZ.out]); have c4 : w3.cell? ⟨W1.heap.size, 4, none⟩ = some (.slice none 0 0) := (by rw [cell_of_row w3 _ 4 _ _ _ BZ.out]; rfl); have y4 : w3.frozen? ⟨W1.heap.size, 4, none⟩ = false := (by simp [World.frozen?, BZ.out]); have X5 : Hid (∀ a b c d e : Value, (((((w3.setCell ⟨W1.heap.size, 0, none⟩ a).setCell ⟨W1.heap.size, 1, none⟩ b).setCell ⟨W1.heap.size, 2, none⟩ c).setCell ⟨W1.heap.size, 3, none⟩ d).setCell ⟨W1.heap.size, 4, none⟩ e).cell? ⟨W.heap.size, 3, none⟩ = some (.func (.func y) #[] #[])) := Lib.hid (fun a b c d e => (World.cell?_of_block (a := ⟨W.heap.size, 3, none⟩) (box_other _ _ _ _ _ _ (by have := SZ1.out; show W.heap.size ≠ W1.heap.size; omega))).trans X3.out); clear hb na nb hk))
        all_goals
          rename_i hS
          clear hS
          first
          | (have XB : Hid ((((((w3.setCell ⟨W1.heap.size, 0, none⟩ (.int .u64 (X.n : Nat))).setCell ⟨W1.heap.size, 1, none⟩ (.int .i64 X.i)).setCell ⟨W1.heap.size, 2, none⟩ (.bool X.f)).setCell ⟨W1.heap.size, 3, none⟩ (.slice X.bA X.bn X.bc)).setCell ⟨W1.heap.size, 4, none⟩ (.slice X.lA X.ln X.lc)).heap[W1.heap.size]? = some (.cells #[.int .u64 (X.n : Nat), .int .i64 X.i, .bool X.f, .slice X.bA X.bn X.bc, .slice X.lA X.ln X.lc] 42 (0, 0))) := Lib.hid (box_set BZ.out _ _ _ _ _)
             have B6 : Hid (Below W.heap.size W (((((w3.setCell ⟨W1.heap.size, 0, none⟩ (.int .u64 (X.n : Nat))).setCell ⟨W1.heap.size, 1, none⟩ (.int .i64 X.i)).setCell ⟨W1.heap.size, 2, none⟩ (.bool X.f)).setCell ⟨W1.heap.size, 3, none⟩ (.slice X.bA X.bn X.bc)).setCell ⟨W1.heap.size, 4, none⟩ (.slice X.lA X.ln X.lc))) := Lib.hid (box_below B3.out (Nat.le_of_lt SZ1.out) _ _ _ _ _)
             have ZS : Hid (w3.heap.size ≤ (((((w3.setCell ⟨W1.heap.size, 0, none⟩ (.int .u64 (X.n : Nat))).setCell ⟨W1.heap.size, 1, none⟩ (.int .i64 X.i)).setCell ⟨W1.heap.size, 2, none⟩ (.bool X.f)).setCell ⟨W1.heap.size, 3, none⟩ (.slice X.bA X.bn X.bc)).setCell ⟨W1.heap.size, 4, none⟩ (.slice X.lA X.ln X.lc)).heap.size) := Lib.hid (by simp)
             have XO : Hid (X.ok (((((w3.setCell ⟨W1.heap.size, 0, none⟩ (.int .u64 (X.n : Nat))).setCell ⟨W1.heap.size, 1, none⟩ (.int .i64 X.i)).setCell ⟨W1.heap.size, 2, none⟩ (.bool X.f)).setCell ⟨W1.heap.size, 3, none⟩ (.slice X.bA X.bn X.bc)).setCell ⟨W1.heap.size, 4, none⟩ (.slice X.lA X.ln X.lc))) := Lib.hid (KK.out.1.offBlock (g := W1.heap.size) (fun p e => by have := (NA.out p e).1; omega) (fun p e => by have := (NB.out p e).1; omega) (fun k hk => box_other _ _ _ _ _ k hk) ZS.out)
             have NA6 : Hid (∀ p, X.bA = some p → W.heap.size ≤ p.block ∧ p.block < (((((w3.setCell ⟨W1.heap.size, 0, none⟩ (.int .u64 (X.n : Nat))).setCell ⟨W1.heap.size, 1, none⟩ (.int .i64 X.i)).setCell ⟨W1.heap.size, 2, none⟩ (.bool X.f)).setCell ⟨W1.heap.size, 3, none⟩ (.slice X.bA X.bn X.bc)).setCell ⟨W1.heap.size, 4, none⟩ (.slice X.lA X.ln X.lc)).heap.size) := Lib.hid (fun p e => ⟨by have := (NA.out p e).1; have := SZ1.out; omega, Nat.lt_of_lt_of_le (NA.out p e).2 ZS.out⟩)
             have NB6 : Hid (∀ p, X.lA = some p → W.heap.size ≤ p.block ∧ p.block < (((((w3.setCell ⟨W1.heap.size, 0, none⟩ (.int .u64 (X.n : Nat))).setCell ⟨W1.heap.size, 1, none⟩ (.int .i64 X.i)).setCell ⟨W1.heap.size, 2, none⟩ (.bool X.f)).setCell ⟨W1.heap.size, 3, none⟩ (.slice X.bA X.bn X.bc)).setCell ⟨W1.heap.size, 4, none⟩ (.slice X.lA X.ln X.lc)).heap.size) := Lib.hid (fun p e => ⟨by have := (NB.out p e).1; have := SZ1.out; omega, Nat.lt_of_lt_of_le (NB.out p e).2 ZS.out⟩)
             have LO6 : Hid (Loose (((((w3.setCell ⟨W1.heap.size, 0, none⟩ (.int .u64 (X.n : Nat))).setCell ⟨W1.heap.size, 1, none⟩ (.int .i64 X.i)).setCell ⟨W1.heap.size, 2, none⟩ (.bool X.f)).setCell ⟨W1.heap.size, 3, none⟩ (.slice X.bA X.bn X.bc)).setCell ⟨W1.heap.size, 4, none⟩ (.slice X.lA X.ln X.lc)) X.bA) := Lib.hid (LO.out.keep fun p e => box_other _ _ _ _ _ _ (by have := (NA.out p e).1; omega))
             clear ZS X5 c0 c1 c2 c3 c4 y0 y1 y2 y3 y4 BZ
             generalize (((((w3.setCell ⟨W1.heap.size, 0, none⟩ (.int .u64 (X.n : Nat))).setCell ⟨W1.heap.size, 1, none⟩ (.int .i64 X.i)).setCell ⟨W1.heap.size, 2, none⟩ (.bool X.f)).setCell ⟨W1.heap.size, 3, none⟩ (.slice X.bA X.bn X.bc)).setCell ⟨W1.heap.size, 4, none⟩ (.slice X.lA X.ln X.lc)) = w6 at XB B6 XO NA6 NB6 LO6 ⊢
             generalize W1.heap.size = bx at XB ⊢)
          | (have XB : Hid ((w3.alloc (.cells #[.int .u64 (X.n : Nat), .int .i64 X.i, .bool X.f, .slice X.bA X.bn X.bc, .slice X.lA X.ln X.lc] 42)).heap[w3.heap.size]? = some (.cells #[.int .u64 (X.n : Nat), .int .i64 X.i, .bool X.f, .slice X.bA X.bn X.bc, .slice X.lA X.ln X.lc] 42 (0, 0))) := Lib.hid (heap_alloc_new w3 _)
             have B6 : Hid (Below W.heap.size W (w3.alloc (.cells #[.int .u64 (X.n : Nat), .int .i64 X.i, .bool X.f, .slice X.bA X.bn X.bc, .slice X.lA X.ln X.lc] 42))) := Lib.hid (B3.out.alloc B3.out.size _)
             have XO : Hid (X.ok (w3.alloc (.cells #[.int .u64 (X.n : Nat), .int .i64 X.i, .bool X.f, .slice X.bA X.bn X.bc, .slice X.lA X.ln X.lc] 42))) := Lib.hid (KK.out.1.below ((Below.refl _ w3).alloc (Nat.le_refl _) _))
             have NA6 : Hid (∀ p, X.bA = some p → W.heap.size ≤ p.block ∧ p.block < (w3.alloc (.cells #[.int .u64 (X.n : Nat), .int .i64 X.i, .bool X.f, .slice X.bA X.bn X.bc, .slice X.lA X.ln X.lc] 42)).heap.size) := Lib.hid (fun p e => ⟨(NA.out p e).1, by have := (NA.out p e).2; simp; omega⟩)
             have NB6 : Hid (∀ p, X.lA = some p → W.heap.size ≤ p.block ∧ p.block < (w3.alloc (.cells #[.int .u64 (X.n : Nat), .int .i64 X.i, .bool X.f, .slice X.bA X.bn X.bc, .slice X.lA X.ln X.lc] 42)).heap.size) := Lib.hid (fun p e => ⟨(NB.out p e).1, by have := (NB.out p e).2; simp; omega⟩)
             have LO6 : Hid (Loose (w3.alloc (.cells #[.int .u64 (X.n : Nat), .int .i64 X.i, .bool X.f, .slice X.bA X.bn X.bc, .slice X.lA X.ln X.lc] 42)) X.bA) := Lib.hid (LO.out.below ((Below.refl _ w3).alloc (Nat.le_refl _) _))
             clear X4
             generalize w3.alloc (.cells #[.int .u64 (X.n : Nat), .int .i64 X.i, .bool X.f, .slice X.bA X.bn X.bc, .slice X.lA X.ln X.lc] 42) = w6 at XB B6 XO NA6 NB6 LO6 ⊢
             generalize w3.heap.size = bx at XB ⊢)
          have B7 : Hid (Below w.heap.size w w6) := Lib.hid (Bl.out.trans (B6.out.mono Bl.out.size))
          have K7 : Hid (KRow w6 g s.size (letters s) s.size) := Lib.hid (K.out.keep (B6.out.block g ZG.out))
          cases ok with
          | false =>
            have NO : Hid (∀ l r, Valid (letters s) l → forms (letters s) l ++ r ≠ seg f 0 n) := Lib.hid (NX.out (by
              rcases KK.out.2 with ⟨_, h⟩ | ⟨h, _⟩
              · exact h
              · cases h))
            clear NX MX KK
            go_wp2
            go_ret3
            exact ⟨B7.out, .inr (.inl ⟨SC.out, NO.out, rfl⟩)⟩
          | true =>
            obtain ⟨hpu, hm⟩ : p + u ≤ n ∧ (AllFit ((letters s).take (k + 1)) (means (joinV V k (fun _ => X)) (k + 1)) ∧ AllShort (means (joinV V k (fun _ => X)) (k + 1)) ∧ seg f 0 (p + u) = forms ((letters s).take (k + 1)) (means (joinV V k (fun _ => X)) (k + 1))) := by
              rcases KK.out.2 with ⟨h, _⟩ | ⟨_, r, q1, q2, q3, q4⟩
              · cases h
              · exact MX.out X u r q1 q2 q3 q4
            have M2 := Lib.hid hm
            have O6 := Lib.hid (O.out.keep B6.out)
            have R6 := Lib.hid (RO.out.below B6.out)
            have RN6 := Lib.hid (RN.out.below B6.out)
            have XN : Hid (∀ p, X.bA = some p → w.heap.size ≤ p.block) := Lib.hid (fun p e => Nat.le_trans Bl.out.size (NA6.out p e).1)
            have OW := Lib.hid O.out.own
            have S6 : Hid (w1.heap.size ≤ w6.heap.size) := Lib.hid (Nat.le_trans SW.out B6.out.size)
            have AX : Hid (Apart w6 u4 X.bA ∧ Apart w6 u4 X.lA) := Lib.hid ⟨NewAt.apart (w0 := W) NA6.out (fun j e => (OW.out j e).2), NewAt.apart (w0 := W) NB6.out (fun j e => (OW.out j e).2)⟩
            clear hm NX MX KK O RO NA6 NB6 K Bl B6 NA NB B3 X3
            have BA7 : Hid (Below w6.heap.size w6 (w6.alloc (.cells #[.int .u64 (X.n : Nat), .int .i64 X.i, .bool X.f, .slice X.bA X.bn X.bc, .slice X.lA X.ln X.lc] 42))) := Lib.hid ((Below.refl _ w6).alloc (Nat.le_refl _) _)
            have O7 := Lib.hid (O6.out.keep BA7.out)
            have V7 := Lib.hid (vals_one XO.out)
            have S7 : Hid (w1.heap.size ≤ (w6.alloc (.cells #[.int .u64 (X.n : Nat), .int .i64 X.i, .bool X.f, .slice X.bA X.bn X.bc, .slice X.lA X.ln X.lc] 42)).heap.size) := Lib.hid (by have := S6.out; simp; omega)
            have hk5 : k ≤ 100000 := by omega
            have c0 : w6.cell? ⟨bx, 0, none⟩ = some (.int .u64 (X.n : Nat)) := by rw [cell_of_row w6 _ 0 _ _ _ XB.out]; rfl
            have c1 : w6.cell? ⟨bx, 1, none⟩ = some (.int .i64 X.i) := by rw [cell_of_row w6 _ 1 _ _ _ XB.out]; rfl
            have c2 : w6.cell? ⟨bx, 2, none⟩ = some (.bool X.f) := by rw [cell_of_row w6 _ 2 _ _ _ XB.out]; rfl
            have c3 : w6.cell? ⟨bx, 3, none⟩ = some (.slice X.bA X.bn X.bc) := by rw [cell_of_row w6 _ 3 _ _ _ XB.out]; rfl
            have c4 : w6.cell? ⟨bx, 4, none⟩ = some (.slice X.lA X.ln X.lc) := by rw [cell_of_row w6 _ 4 _ _ _ XB.out]; rfl
            go_wp2_with (refine wpList_append_vals1 (o := ⟨some 42, _, _, _, _, _⟩) rfl _ _ rfl w1.heap.size u4 V k rfl O7.out _ 1 X rfl V7.out hk5 S7.out ?_)
            intro g7 c7 w8 hO8 hgrow hat hlt7
            have O8 := Lib.hid hO8
            have R8 : Hid (RowOK w8 (.slice (some ⟨g7, 0, none⟩) (k + 1) c7) (joinV V k (fun _ => X)) (k + 1)) := Lib.hid ((R6.out.below BA7.out).push (XO.out.below BA7.out) (AX.out.1.up BA7.out.size) (AX.out.2.up BA7.out.size) hgrow (by simpa using hat))
            have N8 : Hid (RowNew w.heap.size w8 (joinV V k (fun _ => X)) (k + 1)) := Lib.hid ((RN6.out.below BA7.out).push (R6.out.below BA7.out) (LO6.out.below BA7.out) XN.out (AX.out.1.up BA7.out.size) hgrow)
            have B8 : Hid (Below w.heap.size w w8) := Lib.hid ((B7.out.trans (BA7.out.mono B7.out.size)).grown hgrow (by have := B7.out.size; simp; omega) (fun j e => by have := (OW.out j e).1; have := B1.out.size; omega))
            have T8 : Hid (w1.heap.size ≤ w8.heap.size) := Lib.hid (Nat.le_trans S7.out hgrow.size)
            have K8 : Hid (KRow w8 g s.size (letters s) s.size) := Lib.hid (K7.out.keep ((hgrow.block g (by have := K7.out.lt; simp; omega) (fun e => by have := (OW.out g e.symm).1; have := K1.out.lt; omega)).trans (BA7.out.block g K7.out.lt)))
            clear hO8 hgrow hat hlt7 c0 c1 c2 c3 c4 O7 V7 S7 BA7 O6 R6 OW AX XO XB B7 K7
            go_wp2_with fail
            go_roundg (s.size - (k + 1))
            case measure => omega
            case rel => exact ⟨k + 1, p + u, joinV V k (fun _ => X), by go_num, by go_num, by omega, Nat.le_refl _, hpu, O8, T8, R8, N8, M2, K8, B8⟩
      · obtain rfl : k = s.size := by omega
        have e3 : (letters s).take s.size = letters s := List.take_of_length_le (by rw [LS.out]; omega)
        rw [e3] at M
        obtain ⟨A9, c9, rfl, q1, q2, q3⟩ := O.out.form
        have VV : Hid (ValsIn W A9 s.size c9 V) := Lib.hid ⟨O.out.vals fun j hj => (RO.out j hj).1, q3, ⟨q1, q2⟩, by omega⟩
        have MM : Hid (Valid (letters s) (means V s.size) ∧ forms (letters s) (means V s.size) ++ seg f p (n - p) = seg f 0 n ∧ p = (forms (letters s) (means V s.size)).length) := Lib.hid ⟨⟨⟨SC.out, M.out.1⟩, M.out.2.1, vals_real VV.out.1⟩, by
          obtain ⟨m, rfl⟩ : ∃ m, n = p + m := ⟨n - p, by omega⟩
          rw [seg_add, M.out.2.2, Nat.zero_add, show p + m - p = m by omega], by rw [← M.out.2.2, seg_len]⟩
        have RO9 := Lib.hid RO.out
        have OV9 : Hid (ownsV W w.heap.size (.slice A9 s.size c9) V s.size) := Lib.hid (World.ownsRow.down' O.out B1.out.size)
        clear e3 M O RO K q1 q2 q3
        go_wp2
        go_ret3
        exact ⟨Bl.out, .inr (.inr ⟨A9, s.size, c9, V, _, MM.out.1, MM.out.2.1, by rw [← MM.out.2.2]; rfl, VV.out, RO9.out, RN.out, OV9.out⟩)⟩

theorem takeW_any : TakeOK := fun s A n c f w hs hB hA hnc hcc hn => (takeW2_any s A n c f w hs hB hA hnc hcc hn).mono fun e w' h => by
  obtain ⟨hb, h | h | ⟨A, m, c, V, r, h1, h2, h3, h4, -⟩⟩ := h
  · exact ⟨hb, .inl h⟩
  · exact ⟨hb, .inr (.inl h)⟩
  · exact ⟨hb, .inr (.inr ⟨A, m, c, V, r, h1, h2, h3, h4⟩)⟩

set_option maxRecDepth 100000 in
set_option maxHeartbeats 2000000 in
theorem wholeW_any : WholeOK4 := by
  intro s A n c f w hs hB hA hnc hcc hn
  have T := Lib.hid (takeW_any s A n c f w hs hB hA hnc hcc hn)
  clear hB hA
  go_enter Try.func20, Try.ntmps20
  go_wp2_with fail
  refine T.out.mono ?_
  rintro e w1 ⟨hb, ⟨h1, rfl⟩ | ⟨h1, h2, rfl⟩ | ⟨B, m, d, V, r, h1, h2, rfl, h4⟩⟩
  · have B1 := Lib.hid hb
    have N1 := Lib.hid h1
    clear hb h1
    go_wp2
    go_ret2
    exact ⟨B1.out, .inl ⟨N1.out, rfl⟩⟩
  · have B1 := Lib.hid hb
    have N1 := Lib.hid h1
    have N2 : Hid (∀ l, Valid (letters s) l → forms (letters s) l ≠ seg f 0 n) := Lib.hid (fun l hl e => h2 l [] hl (by rw [List.append_nil]; exact e))
    clear hb h1 h2
    go_wp2
    go_ret2
    exact ⟨B1.out, .inr (.inl ⟨N1.out, N2.out, rfl⟩)⟩
  · have B1 := Lib.hid hb
    have hl := congrArg List.length h2
    rw [List.length_append, seg_len] at hl
    have N1 := Lib.hid h1
    have N2 := Lib.hid h2
    have V1 := Lib.hid h4
    clear hb h1 h2 h4
    by_cases hr : r = []
    · have hx : ¬ (((forms (letters s) (means V m)).length : Nat) : Int) < (n : Int) := by rw [hr] at hl; simp at hl; omega
      have N3 : Hid (forms (letters s) (means V m) = seg f 0 n) := Lib.hid (by have := N2.out; rwa [hr, List.append_nil] at this)
      clear hl hr
      go_wp2
      go_ret2
      exact ⟨B1.out, .inr (.inr ⟨B, m, d, V, N1.out, N3.out, rfl, V1.out⟩)⟩
    · have hx : (((forms (letters s) (means V m)).length : Nat) : Int) < (n : Int) := by
        have : 0 < r.length := List.length_pos_iff.2 hr
        omega
      have N3 : Hid (∀ l, Valid (letters s) l → forms (letters s) l ≠ seg f 0 n) := Lib.hid (fun l hl e => hr (valid_uniq (r := []) (t := r) hl.1 N1.out.1 (by rw [List.append_nil, N2.out]; exact e)).2.symm)
      have SC := Lib.hid N1.out.1.1
      clear hl hr
      go_wp2
      go_ret2
      exact ⟨B1.out, .inr (.inl ⟨SC.out, N3.out, rfl⟩)⟩
end Go.Proofs.Ytkjndgnjilfobaa
