/-
  The law WireLong: bytes, a row just as long as may be are put, and taken; such as are longer aren't.
-/
import Derived.Test.YtkjndgnjilfobaaZeros
import Derived.Test.YtkjndgnjilfobaaTakesFacts
import Derived.Deep.Cut
namespace Go.Proofs.Ytkjndgnjilfobaa
open Go.RowKit

theorem put_long {s : List Nat} {l : List WV} {W w' : World} {e : Ending} (h : PutAns s l W e w') (hg : Good s l) (hn : ¬ AllShort l) : e = .returned (.tuple #[.slice none 0 0, .int .i64 3]) ∧ Below W.heap.size W w' := by
  obtain ⟨hb, ⟨h1, h2⟩ | ⟨h1, h2, h3⟩ | ⟨h1, h2, h3⟩⟩ := h
  · exact absurd hg h1
  · exact ⟨h3, hb⟩
  · exact absurd h2 hn
theorem put_short {s : List Nat} {l : List WV} {W w' : World} {e : Ending} (h : PutAns s l W e w') (hg : Good s l) (hn : AllShort l) : ∃ A c, e = .returned (.tuple #[.slice A (forms s l).length c, .int .i64 0]) ∧ (A = none → (forms s l).length = 0 ∧ c = 0) ∧ (forms s l).length ≤ c ∧ c ≤ 9223372036854775807 ∧ Bytes w' A (forms s l).length (pick (forms s l)) ∧ Below W.heap.size W w' := by
  obtain ⟨hb, ⟨h1, h2⟩ | ⟨h1, h2, h3⟩ | ⟨h1, h2, A, c, h3, h4, h5, h6, h7⟩⟩ := h
  · exact absurd hg h1
  · exact absurd hn h2
  · exact ⟨A, c, h3, h4, h5, h6, h7, hb⟩
theorem means_one (X : RV) : means (fun _ => X) 1 = [X.mean] := rfl
theorem forms_one (c : Nat) (v : WV) : forms [c] [v] = form c v := by simp [forms]
theorem valid_one {c : Nat} {l : List WV} (h : Valid [c] l) : ∃ v, l = [v] ∧ Fits c v ∧ Short v ∧ Real v := by
  obtain ⟨⟨_, hf⟩, hs, hr⟩ := h
  have hl := hf.len
  match l, hl with
  | [v], _ => exact ⟨v, rfl, hf.1, hs v (by simp), hr v (by simp)⟩

set_option maxRecDepth 100000 in
set_option maxHeartbeats 8000000 in
theorem long_walk (more : Int) (row : Bool) (w : World) (hm1 : -9223372036854775808 ≤ more) (hm2 : more ≤ 9223372036854775807) :
    Calls Try.prog 5 #[.int .i64 more, .bool row] w fun e w' => e = .returned (.bool true) ∧ Below w.heap.size w w' := by
  by_cases h1 : more < -2
  · go_enter Try.func5, Try.ntmps5
    go_wp2
    go_ret
    exact ⟨rfl, Below.refl _ _⟩
  · by_cases h2 : 2 < more
    · have z2 : decide ((2 : Int) < more) = true := by simpa using h2
      go_enter Try.func5, Try.ntmps5
      go_wp2
      go_ret
      exact ⟨rfl, Below.refl _ _⟩
    · have z2 : decide ((2 : Int) < more) = false := by simpa using h2
      obtain ⟨N, hN⟩ : ∃ N : Nat, (262144 : Int) + more = (N : Int) := ⟨(262144 + more).toNat, by omega⟩
      obtain ⟨M, hM⟩ : ∃ M : Nat, (4096 : Int) + more = (M : Int) := ⟨(4096 + more).toNat, by omega⟩
      have hN1 : N ≤ 262146 := by omega
      have hM1 : M ≤ 4098 := by omega
      obtain ⟨cs, hmk, hby⟩ := made_bytes0 N (by omega)
      obtain ⟨cs2, hmk2, hlo⟩ := made_longs0 M (by omega)
      have BY := Lib.hid hby
      have LO := Lib.hid hlo
      have SN : Hid (262144 < N ↔ 0 < more) := Lib.hid (by omega)
      have SM : Hid (4096 < M ↔ 0 < more) := Lib.hid (by omega)
      clear hby hlo
      cases row
      · go_enter Try.func5, Try.ntmps5
        go_upto_region 8 with (fail)
        obtain ⟨X, hX⟩ : ∃ X : RV, X = ⟨0, 0, false, some ⟨w.heap.size, 0, none⟩, N, N, fun _ => 0, none, 0, 0, fun _ => 0⟩ := ⟨_, rfl⟩
        have XB : Hid (((w.alloc (.cells cs 5)).alloc (.cells #[.int .u64 0, .int .i64 0, .bool false, .slice (some ⟨w.heap.size, 0, none⟩) N N, .slice none 0 0] 42)).heap[w.heap.size + 1]? = some (.cells #[.int .u64 (X.n : Nat), .int .i64 X.i, .bool X.f, .slice X.bA X.bn X.bc, .slice X.lA X.ln X.lc] 42 (0, 0))) := Lib.hid (by rw [hX]; exact heap_alloc2_new _ _ _)
        have XO : Hid (X.ok ((w.alloc (.cells cs 5)).alloc (.cells #[.int .u64 0, .int .i64 0, .bool false, .slice (some ⟨w.heap.size, 0, none⟩) N N, .slice none 0 0] 42))) := Lib.hid (by
          rw [hX]
          exact ⟨(by decide : (0 : Nat) < 18446744073709551616), (by decide : (-9223372036854775808 : Int) ≤ 0 ∧ (0 : Int) ≤ 9223372036854775807), ⟨(BY.out w).below ((Below.refl _ _).alloc (Nat.le_refl _) _), (fun e => (by cases e)), (by show N ≤ _; omega), Nat.le_refl _, (by show N ≤ _; omega)⟩, ⟨Nums.zero _ _, fun _ => ⟨rfl, rfl⟩, Nat.zero_le _, Nat.le_refl _, Nat.zero_le _⟩⟩)
        have BW : Hid (Below w.heap.size w ((w.alloc (.cells cs 5)).alloc (.cells #[.int .u64 0, .int .i64 0, .bool false, .slice (some ⟨w.heap.size, 0, none⟩) N N, .slice none 0 0] 42))) := Lib.hid ((((Below.refl _ w).alloc (Nat.le_refl _) _).alloc (by simp) _))
        have FX : Hid (Fits 98 X.mean) := Lib.hid (by rw [hX]; simp [Fits, RV.mean, seg_zero])
        have TL : Hid (tooLong X ↔ 0 < more) := Lib.hid (by rw [hX]; unfold tooLong; dsimp only; rw [← SN.out]; simp)
        have KN : Hid (X.bn + X.ln = N) := Lib.hid (by rw [hX]; rfl)
        have GX : Hid (0 < more → ∀ l, Valid [98] l → forms [98] l ≠ word N ++ List.replicate N 0) := Lib.hid (fun hm l hl e => by
          obtain ⟨v, rfl, f1, f2, f3⟩ := valid_one hl
          rw [forms_one] at e
          exact great_b (x := N) (bl := word N ++ List.replicate N 0) rfl (SN.out.2 hm) v [] f1 f2 f3 (by rw [List.append_nil]; exact e))
        have KP : Hid (∀ A c W, ValsIn W A 1 c (fun _ => X) → Calls Try.prog 12 #[.string ({ data := #[98] } : ByteArray), .slice A 1 c] W (PutAns [98] [X.mean] W)) := Lib.hid (fun A c W h => putW_any ({ data := #[98] } : ByteArray) A 1 c (fun _ => X) W (by decide) h)
        have KW : Hid (∀ A n c f W, Bytes W A n f → (A = none → n = 0 ∧ c = 0) → n ≤ c → c ≤ 9223372036854775807 → n ≤ 4194304 → Calls Try.prog 20 #[.string ({ data := #[98] } : ByteArray), .slice A n c] W (WholeAns [98] (seg f 0 n) W)) := Lib.hid (fun A n c f W h1 h2 h3 h4 h5 => wholeW_any ({ data := #[98] } : ByteArray) A n c f W (by decide) h1 h2 h3 h4 h5)
        have LC : Hid (Letter 98) := Lib.hid (by simp [Letter])
        have KB : N ≤ 262146 := by omega
        clear hX
        generalize (w.alloc (.cells cs 5)).alloc (.cells #[.int .u64 0, .int .i64 0, .bool false, .slice (some ⟨w.heap.size, 0, none⟩) N N, .slice none 0 0] 42) = W8 at XB XO BW ⊢
        generalize hcl : (98 : Nat) = cl at FX GX KP KW LC
        generalize hNk : N = kn at KN GX KB
        clear hcl hNk
        have GD : Hid (Good [cl] [X.mean]) := Lib.hid ⟨⟨fun c hc => by rw [List.mem_singleton.1 hc]; exact LC.out, by simp⟩, FX.out, trivial⟩
        have SH : Hid (AllShort [X.mean] ↔ ¬ 0 < more) := Lib.hid (by
          rw [← TL.out]
          unfold tooLong
          constructor
          · intro h
            obtain ⟨q1, q2⟩ := h X.mean (by simp)
            have q1 : (seg X.bf 0 X.bn).length ≤ 262144 := q1
            have q2 : (seg X.lf 0 X.ln).length ≤ 4096 := q2
            rw [seg_len] at q1 q2
            omega
          · intro h v hv
            rw [List.mem_singleton.1 hv]
            refine ⟨?_, ?_⟩
            · show (seg X.bf 0 X.bn).length ≤ _
              rw [seg_len]; omega
            · show (seg X.lf 0 X.ln).length ≤ _
              rw [seg_len]; omega)
        have BA8 : Hid (Below W8.heap.size W8 (W8.alloc (.cells #[.int .u64 (X.n : Nat), .int .i64 X.i, .bool X.f, .slice X.bA X.bn X.bc, .slice X.lA X.ln X.lc] 42))) := Lib.hid ((Below.refl _ W8).alloc (Nat.le_refl _) _)
        have VI : Hid (ValsIn (W8.alloc (.cells #[.int .u64 (X.n : Nat), .int .i64 X.i, .bool X.f, .slice X.bA X.bn X.bc, .slice X.lA X.ln X.lc] 42)) (some ⟨W8.heap.size, 0, none⟩) 1 1 (fun _ => X)) := Lib.hid ⟨vals_one XO.out, fun e => (by cases e), ⟨Nat.le_refl _, by omega⟩, by omega⟩
        have P1 := Lib.hid (KP.out _ 1 _ VI.out)
        have XA : Hid ((W8.alloc (.cells #[.int .u64 (X.n : Nat), .int .i64 X.i, .bool X.f, .slice X.bA X.bn X.bc, .slice X.lA X.ln X.lc] 42)).heap[w.heap.size + 1]? = some (.cells #[.int .u64 (X.n : Nat), .int .i64 X.i, .bool X.f, .slice X.bA X.bn X.bc, .slice X.lA X.ln X.lc] 42 (0, 0))) := Lib.hid ((Below.heap_alloc _ _ _ (lt_of_block XB.out)).trans XB.out)
        have BWA : Hid (Below w.heap.size w (W8.alloc (.cells #[.int .u64 (X.n : Nat), .int .i64 X.i, .bool X.f, .slice X.bA X.bn X.bc, .slice X.lA X.ln X.lc] 42))) := Lib.hid (BW.out.alloc BW.out.size _)
        have c0 : W8.cell? ⟨w.heap.size + 1, 0, none⟩ = some (.int .u64 (X.n : Nat)) := by rw [cell_of_row W8 _ 0 _ _ _ XB.out]; rfl
        have c1 : W8.cell? ⟨w.heap.size + 1, 1, none⟩ = some (.int .i64 X.i) := by rw [cell_of_row W8 _ 1 _ _ _ XB.out]; rfl
        have c2 : W8.cell? ⟨w.heap.size + 1, 2, none⟩ = some (.bool X.f) := by rw [cell_of_row W8 _ 2 _ _ _ XB.out]; rfl
        have c3 : W8.cell? ⟨w.heap.size + 1, 3, none⟩ = some (.slice X.bA X.bn X.bc) := by rw [cell_of_row W8 _ 3 _ _ _ XB.out]; rfl
        have c4 : W8.cell? ⟨w.heap.size + 1, 4, none⟩ = some (.slice X.lA X.ln X.lc) := by rw [cell_of_row W8 _ 4 _ _ _ XB.out]; rfl
        by_cases hm : 0 < more
        · have NSH : Hid (¬ AllShort [X.mean]) := Lib.hid (fun h => SH.out.1 h hm)
          go_wp2_with (first | (go_at_call 12; refine P1.out.mono ?_))
          intro e w2 hp
          obtain ⟨rfl, hb2⟩ := put_long hp GD.out NSH.out
          have X2 : Hid (w2.heap[w.heap.size + 1]? = some (.cells #[.int .u64 (X.n : Nat), .int .i64 X.i, .bool X.f, .slice X.bA X.bn X.bc, .slice X.lA X.ln X.lc] 42 (0, 0))) := Lib.hid ((hb2.block _ (lt_of_block XA.out)).trans XA.out)
          have B2 := Lib.hid (BWA.out.trans (hb2.mono BWA.out.size))
          clear hp hb2 c0 c1 c2 c3 c4
          have hkz : (X.bn : Int) + (X.ln : Int) = (kn : Int) := by have := KN.out; omega
          have wk : IntKind.i64.wrap (kn : Int) = (kn : Int) := IntWalk.i64_in _ (by omega)
          have wu : IntKind.u64.wrap (kn : Int) = (kn : Int) := by rw [show IntKind.u64.wrap (kn : Int) = (kn : Int) % 18446744073709551616 from rfl]; omega
          have kpos : Hid (0 < kn) := Lib.hid (by have h1 := TL.out.2 hm; have := KN.out; unfold tooLong at h1; omega)
          obtain ⟨Z9, hZ9⟩ : ∃ Z, word kn ++ List.replicate kn 0 = Z := ⟨_, rfl⟩
          have HZ := Lib.hid hZ9
          have ZL : Hid (Z9.length ≤ 262200) := Lib.hid (by
            rw [← hZ9, List.length_append, List.length_replicate]
            have := word_ten (n := kn) (by omega)
            omega)
          have ZB : Hid (∀ x ∈ Z9, x < 256) := Lib.hid (fun x hx => by
            rw [← hZ9] at hx
            rcases List.mem_append.1 hx with h | h
            · exact word_byte _ x h
            · rw [List.eq_of_mem_replicate h]; omega)
          have NX : Hid (∀ l, Valid [cl] l → forms [cl] l ≠ Z9) := Lib.hid (by rw [← hZ9]; exact GX.out hm)
          clear hZ9
          have PT := Lib.hid (fun W => refPut_any kn (by omega) W)
          have WT := Lib.hid (word_ten (n := kn) (by omega))
          have WP := Lib.hid (word_pos kn)
          have D2 : Hid (w2.drew.heap[w.heap.size + 1]? = some (.cells #[.int .u64 (X.n : Nat), .int .i64 X.i, .bool X.f, .slice X.bA X.bn X.bc, .slice X.lA X.ln X.lc] 42 (0, 0))) := Lib.hid X2.out
          have BD2 : Hid (Below w.heap.size w w2.drew) := Lib.hid B2.out.drew
          have C3d : Hid (w2.drew.cell? ⟨w.heap.size + 1, 3, none⟩ = some (.slice X.bA X.bn X.bc) ∧ w2.drew.cell? ⟨w.heap.size + 1, 4, none⟩ = some (.slice X.lA X.ln X.lc)) := Lib.hid ⟨by rw [cell_of_row w2.drew _ 3 _ _ _ D2.out]; rfl, by rw [cell_of_row w2.drew _ 4 _ _ _ D2.out]; rfl⟩
          have C3 : Hid (w2.cell? ⟨w.heap.size + 1, 3, none⟩ = some (.slice X.bA X.bn X.bc) ∧ w2.cell? ⟨w.heap.size + 1, 4, none⟩ = some (.slice X.lA X.ln X.lc)) := Lib.hid ⟨by rw [cell_of_row w2 _ 3 _ _ _ X2.out]; rfl, by rw [cell_of_row w2 _ 4 _ _ _ X2.out]; rfl⟩
          go_wp2_with fail
          go_region_held3 (fun W' => W'.cell? ⟨w.heap.size + 1, 3, none⟩ = some (.slice X.bA X.bn X.bc) ∧ W'.cell? ⟨w.heap.size + 1, 4, none⟩ = some (.slice X.lA X.ln X.lc))
            (first | (with_reducible exact C3.out) | (with_reducible exact C3d.out) | (with_reducible exact C4.out) | (with_reducible exact C5.out))
            (first
            | (go_at_call 22; (with_reducible refine (PT.out _).mono ?_); rintro e w4 ⟨A4, c4, rfl, q1, q2, q3, hB, hO, hbel⟩; have X4 : Hid (w4.heap[w.heap.size + 1]? = some (.cells #[.int .u64 (X.n : Nat), .int .i64 X.i, .bool X.f, .slice X.bA X.bn X.bc, .slice X.lA X.ln X.lc] 42 (0, 0))) := Lib.hid ((hbel.block _ (lt_of_block D2.out)).trans D2.out); have C4 : Hid (w4.cell? ⟨w.heap.size + 1, 3, none⟩ = some (.slice X.bA X.bn X.bc) ∧ w4.cell? ⟨w.heap.size + 1, 4, none⟩ = some (.slice X.lA X.ln X.lc)) := Lib.hid ⟨(by rw [cell_of_row w4 _ 3 _ _ _ X4.out]; rfl), (by rw [cell_of_row w4 _ 4 _ _ _ X4.out]; rfl)⟩; have B4 : Hid (Below w.heap.size w w4) := Lib.hid (BD2.out.trans (hbel.mono BD2.out.size)); have S4 : Hid (w2.drew.heap.size ≤ w4.heap.size) := Lib.hid hbel.size; have O4 : Hid (owns w4 w2.drew.heap.size 5 .u8 (.slice A4 (word kn).length c4) (word kn)) := Lib.hid hO; have LL4 : Hid ((word kn).length + kn ≤ 100000000) := Lib.hid (by have := WT.out; omega); clear q1 q2 q3 hB hO hbel)
            | ((refine step_append_zeros (by rfl) _ _ (by rfl) w2.drew.heap.size A4 (word kn).length c4 (word kn) (by rfl) O4.out WP.out kn (by rfl) kpos.out LL4.out S4.out ?_); intro v9 w5 hO5 hb5; have X5 : Hid (w5.heap[w.heap.size + 1]? = some (.cells #[.int .u64 (X.n : Nat), .int .i64 X.i, .bool X.f, .slice X.bA X.bn X.bc, .slice X.lA X.ln X.lc] 42 (0, 0))) := Lib.hid ((hb5.block _ (lt_of_block D2.out)).trans X4.out); have C5 : Hid (w5.cell? ⟨w.heap.size + 1, 3, none⟩ = some (.slice X.bA X.bn X.bc) ∧ w5.cell? ⟨w.heap.size + 1, 4, none⟩ = some (.slice X.lA X.ln X.lc)) := Lib.hid ⟨(by rw [cell_of_row w5 _ 3 _ _ _ X5.out]; rfl), (by rw [cell_of_row w5 _ 4 _ _ _ X5.out]; rfl)⟩; have B5 : Hid (Below w.heap.size w w5) := Lib.hid (B4.out.trans (hb5.mono BD2.out.size)); rw [HZ.out] at hO5; have O5 := Lib.hid hO5; obtain ⟨A9, c9, rfl, r1, r2, r3⟩ := O5.out.form; have R3 := Lib.hid r3; clear hO5 hb5 r3))
          all_goals
            rename_i hS
            clear hS
            unfold maxLen at r2
            have T9 := Lib.hid (KW.out A9 Z9.length c9 (pick Z9) w5 (O5.out.nums ZB.out) R3.out r1 (by omega) (by have := ZL.out; omega))
            rw [pick_seg] at T9
            go_wp2_with (first | (go_at_call 20; refine T9.out.mono ?_))
            intro e w6 ht
            obtain ⟨code, m6, B6, d6, V6, rfl, hb6, wf⟩ := whole_facts ht
            have hcode : code = 40 := by
              rcases wf.2 with ⟨a1, a2, a3⟩ | ⟨a1, a2, a3, a4⟩ | ⟨a1, a2, a3⟩
              · exact absurd GD.out.1 a2
              · exact a1
              · exact absurd a3 (NX.out _ a2)
            subst hcode
            have BB6 := Lib.hid (B5.out.trans (hb6.mono B5.out.size))
            clear ht wf hb6
            go_wp2_with fail
            go_ret
            exact ⟨rfl, BB6.out⟩
        · have SHY : Hid (AllShort [X.mean]) := Lib.hid (SH.out.2 hm)
          go_wp2_with (first | (go_at_call 12; refine P1.out.mono ?_))
          intro e w2 hp
          obtain ⟨A2, c2', rfl, r3, r1, r2, hby2, hb2⟩ := put_short hp GD.out SHY.out
          have X2 : Hid (w2.heap[w.heap.size + 1]? = some (.cells #[.int .u64 (X.n : Nat), .int .i64 X.i, .bool X.f, .slice X.bA X.bn X.bc, .slice X.lA X.ln X.lc] 42 (0, 0))) := Lib.hid ((hb2.block _ (lt_of_block XA.out)).trans XA.out)
          have B2 := Lib.hid (BWA.out.trans (hb2.mono BWA.out.size))
          have XO2 := Lib.hid (XO.out.below (BA8.out.trans (hb2.mono BA8.out.size)))
          have VA : Hid (Valid [cl] [X.mean]) := Lib.hid ⟨GD.out, SHY.out, fun v hv => by rw [List.mem_singleton.1 hv]; exact ok_real XO2.out⟩
          have FLB : Hid ((forms [cl] [X.mean]).length ≤ 4194304) := Lib.hid (by
            rw [forms_one]
            have := form_short XO2.out (by have h1 := SH.out; have h2 := TL.out; unfold tooLong at h2; omega) (by have h2 := TL.out; unfold tooLong at h2; omega) cl
            omega)
          have T9 := Lib.hid (KW.out A2 (forms [cl] [X.mean]).length c2' (pick (forms [cl] [X.mean])) w2 hby2 r3 r1 r2 FLB.out)
          rw [pick_seg] at T9
          obtain ⟨L9, hL9⟩ : ∃ L9, forms [cl] [X.mean] = L9 := ⟨_, rfl⟩
          rw [hL9] at T9
          rw [hL9]
          have HL9 := Lib.hid hL9
          clear hp hb2 hby2 r3 r1 r2 c0 c1 c2 c3 c4 hL9
          go_wp2_with (first | (go_at_call 20; refine T9.out.mono ?_))
          intro e w6 ht
          obtain ⟨code, m6, B6, d6, V6, rfl, hb6, wf⟩ := whole_facts ht
          have hcode : code = 0 ∧ means V6 m6 = [X.mean] := by
            rcases wf.2 with ⟨a1, a2, a3⟩ | ⟨a1, a2, a3, a4⟩ | ⟨a1, a2, a3⟩
            · exact absurd GD.out.1 a2
            · exact absurd HL9.out (a3 _ VA.out)
            · exact ⟨a1, (valid_uniq (r := []) (t := []) a2.1 GD.out (by rw [a3, HL9.out])).1⟩
          obtain ⟨rfl, hme⟩ := hcode
          have BB6 := Lib.hid (B2.out.trans (hb6.mono B2.out.size))
          have X6 : Hid (w6.heap[w.heap.size + 1]? = some (.cells #[.int .u64 (X.n : Nat), .int .i64 X.i, .bool X.f, .slice X.bA X.bn X.bc, .slice X.lA X.ln X.lc] 42 (0, 0))) := Lib.hid ((hb6.block _ (lt_of_block X2.out)).trans X2.out)
          have XO6 := Lib.hid (XO2.out.below hb6)
          have V6H := Lib.hid wf.1
          clear ht wf hb6
          have BA6 : Hid (Below w6.heap.size w6 (w6.alloc (.cells #[.int .u64 (X.n : Nat), .int .i64 X.i, .bool X.f, .slice X.bA X.bn X.bc, .slice X.lA X.ln X.lc] 42))) := Lib.hid ((Below.refl _ w6).alloc (Nat.le_refl _) _)
          have VI6 : Hid (ValsIn (w6.alloc (.cells #[.int .u64 (X.n : Nat), .int .i64 X.i, .bool X.f, .slice X.bA X.bn X.bc, .slice X.lA X.ln X.lc] 42)) (some ⟨w6.heap.size, 0, none⟩) 1 1 (fun _ => X)) := Lib.hid ⟨vals_one XO6.out, fun e => (by cases e), ⟨Nat.le_refl _, by omega⟩, by omega⟩
          have SA := Lib.hid (sameW_any B6 (some ⟨w6.heap.size, 0, none⟩) m6 1 d6 1 V6 (fun _ => X) _ ⟨V6H.out.1.below BA6.out, V6H.out.2⟩ VI6.out)
          have hdec : decide (means V6 m6 = means (fun _ => X) 1) = true := by rw [means_one]; simp [hme]
          rw [hdec] at SA
          clear hdec hme
          have c0 : w6.cell? ⟨w.heap.size + 1, 0, none⟩ = some (.int .u64 (X.n : Nat)) := by rw [cell_of_row w6 _ 0 _ _ _ X6.out]; rfl
          have c1 : w6.cell? ⟨w.heap.size + 1, 1, none⟩ = some (.int .i64 X.i) := by rw [cell_of_row w6 _ 1 _ _ _ X6.out]; rfl
          have c2 : w6.cell? ⟨w.heap.size + 1, 2, none⟩ = some (.bool X.f) := by rw [cell_of_row w6 _ 2 _ _ _ X6.out]; rfl
          have c3 : w6.cell? ⟨w.heap.size + 1, 3, none⟩ = some (.slice X.bA X.bn X.bc) := by rw [cell_of_row w6 _ 3 _ _ _ X6.out]; rfl
          have c4 : w6.cell? ⟨w.heap.size + 1, 4, none⟩ = some (.slice X.lA X.ln X.lc) := by rw [cell_of_row w6 _ 4 _ _ _ X6.out]; rfl
          go_wp2_with (first | (go_at_call 16; refine SA.out.mono ?_))
          rintro e w7 ⟨rfl, hb7⟩
          have BB7 : Hid (Below w.heap.size w w7) := Lib.hid (BB6.out.trans ((BA6.out.trans (hb7.mono (by simp))).mono BB6.out.size))
          clear hb7
          go_wp2_with fail
          go_ret
          exact ⟨rfl, BB7.out⟩
      · go_enter Try.func5, Try.ntmps5
        go_upto_region 8 with (fail)
        obtain ⟨X, hX⟩ : ∃ X : RV, X = ⟨0, 0, false, none, 0, 0, fun _ => 0, some ⟨w.heap.size + 1 + 1, 0, none⟩, M, M, fun _ => 0⟩ := ⟨_, rfl⟩
        have XB : Hid ((((w.alloc (.cells cs 5)).alloc (.cells #[.int .u64 0, .int .i64 0, .bool false, .slice none 0 0, .slice (some ⟨w.heap.size + 1 + 1, 0, none⟩) M M] 42)).alloc (.cells cs2 39)).heap[w.heap.size + 1]? = some (.cells #[.int .u64 (X.n : Nat), .int .i64 X.i, .bool X.f, .slice X.bA X.bn X.bc, .slice X.lA X.ln X.lc] 42 (0, 0))) := Lib.hid (by rw [hX]; exact (Below.heap_alloc _ _ _ (by simp)).trans (heap_alloc2_new _ _ _))
        have XO : Hid (X.ok (((w.alloc (.cells cs 5)).alloc (.cells #[.int .u64 0, .int .i64 0, .bool false, .slice none 0 0, .slice (some ⟨w.heap.size + 1 + 1, 0, none⟩) M M] 42)).alloc (.cells cs2 39))) := Lib.hid (by
          rw [hX]
          exact ⟨(by decide : (0 : Nat) < 18446744073709551616), (by decide : (-9223372036854775808 : Int) ≤ 0 ∧ (0 : Int) ≤ 9223372036854775807), ⟨Nums.zero _ _, fun _ => ⟨rfl, rfl⟩, Nat.zero_le _, Nat.le_refl _, Nat.zero_le _⟩, ⟨by simpa using LO.out ((w.alloc (.cells cs 5)).alloc (.cells #[.int .u64 0, .int .i64 0, .bool false, .slice none 0 0, .slice (some ⟨w.heap.size + 1 + 1, 0, none⟩) M M] 42)), (fun e => (by cases e)), (by show M ≤ _; omega), Nat.le_refl _, (by show M ≤ _; omega)⟩⟩)
        have BW : Hid (Below w.heap.size w (((w.alloc (.cells cs 5)).alloc (.cells #[.int .u64 0, .int .i64 0, .bool false, .slice none 0 0, .slice (some ⟨w.heap.size + 1 + 1, 0, none⟩) M M] 42)).alloc (.cells cs2 39))) := Lib.hid (((((Below.refl _ w).alloc (Nat.le_refl _) _).alloc (by simp) _).alloc (by simp; omega) _))
        have FX : Hid (Fits 108 X.mean) := Lib.hid (by rw [hX]; simp [Fits, RV.mean, seg_zero])
        have TL : Hid (tooLong X ↔ 0 < more) := Lib.hid (by rw [hX]; unfold tooLong; dsimp only; rw [← SM.out]; simp)
        have KN : Hid (X.bn + X.ln = M) := Lib.hid (by rw [hX]; exact Nat.zero_add _)
        have GX : Hid (0 < more → ∀ l, Valid [108] l → forms [108] l ≠ word M ++ List.replicate M 0) := Lib.hid (fun hm l hl e => by
          obtain ⟨v, rfl, f1, f2, f3⟩ := valid_one hl
          rw [forms_one] at e
          exact great_l (x := M) (bl := word M ++ List.replicate M 0) rfl (SM.out.2 hm) v [] f1 f2 f3 (by rw [List.append_nil]; exact e))
        have KP : Hid (∀ A c W, ValsIn W A 1 c (fun _ => X) → Calls Try.prog 12 #[.string ({ data := #[108] } : ByteArray), .slice A 1 c] W (PutAns [108] [X.mean] W)) := Lib.hid (fun A c W h => putW_any ({ data := #[108] } : ByteArray) A 1 c (fun _ => X) W (by decide) h)
        have KW : Hid (∀ A n c f W, Bytes W A n f → (A = none → n = 0 ∧ c = 0) → n ≤ c → c ≤ 9223372036854775807 → n ≤ 4194304 → Calls Try.prog 20 #[.string ({ data := #[108] } : ByteArray), .slice A n c] W (WholeAns [108] (seg f 0 n) W)) := Lib.hid (fun A n c f W h1 h2 h3 h4 h5 => wholeW_any ({ data := #[108] } : ByteArray) A n c f W (by decide) h1 h2 h3 h4 h5)
        have LC : Hid (Letter 108) := Lib.hid (by simp [Letter])
        have KB : M ≤ 262146 := by omega
        clear hX
        generalize ((w.alloc (.cells cs 5)).alloc (.cells #[.int .u64 0, .int .i64 0, .bool false, .slice none 0 0, .slice (some ⟨w.heap.size + 1 + 1, 0, none⟩) M M] 42)).alloc (.cells cs2 39) = W8 at XB XO BW ⊢
        generalize hcl : (108 : Nat) = cl at FX GX KP KW LC
        generalize hNk : M = kn at KN GX KB
        clear hcl hNk
        have GD : Hid (Good [cl] [X.mean]) := Lib.hid ⟨⟨fun c hc => by rw [List.mem_singleton.1 hc]; exact LC.out, by simp⟩, FX.out, trivial⟩
        have SH : Hid (AllShort [X.mean] ↔ ¬ 0 < more) := Lib.hid (by
          rw [← TL.out]
          unfold tooLong
          constructor
          · intro h
            obtain ⟨q1, q2⟩ := h X.mean (by simp)
            have q1 : (seg X.bf 0 X.bn).length ≤ 262144 := q1
            have q2 : (seg X.lf 0 X.ln).length ≤ 4096 := q2
            rw [seg_len] at q1 q2
            omega
          · intro h v hv
            rw [List.mem_singleton.1 hv]
            refine ⟨?_, ?_⟩
            · show (seg X.bf 0 X.bn).length ≤ _
              rw [seg_len]; omega
            · show (seg X.lf 0 X.ln).length ≤ _
              rw [seg_len]; omega)
        have BA8 : Hid (Below W8.heap.size W8 (W8.alloc (.cells #[.int .u64 (X.n : Nat), .int .i64 X.i, .bool X.f, .slice X.bA X.bn X.bc, .slice X.lA X.ln X.lc] 42))) := Lib.hid ((Below.refl _ W8).alloc (Nat.le_refl _) _)
        have VI : Hid (ValsIn (W8.alloc (.cells #[.int .u64 (X.n : Nat), .int .i64 X.i, .bool X.f, .slice X.bA X.bn X.bc, .slice X.lA X.ln X.lc] 42)) (some ⟨W8.heap.size, 0, none⟩) 1 1 (fun _ => X)) := Lib.hid ⟨vals_one XO.out, fun e => (by cases e), ⟨Nat.le_refl _, by omega⟩, by omega⟩
        have P1 := Lib.hid (KP.out _ 1 _ VI.out)
        have XA : Hid ((W8.alloc (.cells #[.int .u64 (X.n : Nat), .int .i64 X.i, .bool X.f, .slice X.bA X.bn X.bc, .slice X.lA X.ln X.lc] 42)).heap[w.heap.size + 1]? = some (.cells #[.int .u64 (X.n : Nat), .int .i64 X.i, .bool X.f, .slice X.bA X.bn X.bc, .slice X.lA X.ln X.lc] 42 (0, 0))) := Lib.hid ((Below.heap_alloc _ _ _ (lt_of_block XB.out)).trans XB.out)
        have BWA : Hid (Below w.heap.size w (W8.alloc (.cells #[.int .u64 (X.n : Nat), .int .i64 X.i, .bool X.f, .slice X.bA X.bn X.bc, .slice X.lA X.ln X.lc] 42))) := Lib.hid (BW.out.alloc BW.out.size _)
        have c0 : W8.cell? ⟨w.heap.size + 1, 0, none⟩ = some (.int .u64 (X.n : Nat)) := by rw [cell_of_row W8 _ 0 _ _ _ XB.out]; rfl
        have c1 : W8.cell? ⟨w.heap.size + 1, 1, none⟩ = some (.int .i64 X.i) := by rw [cell_of_row W8 _ 1 _ _ _ XB.out]; rfl
        have c2 : W8.cell? ⟨w.heap.size + 1, 2, none⟩ = some (.bool X.f) := by rw [cell_of_row W8 _ 2 _ _ _ XB.out]; rfl
        have c3 : W8.cell? ⟨w.heap.size + 1, 3, none⟩ = some (.slice X.bA X.bn X.bc) := by rw [cell_of_row W8 _ 3 _ _ _ XB.out]; rfl
        have c4 : W8.cell? ⟨w.heap.size + 1, 4, none⟩ = some (.slice X.lA X.ln X.lc) := by rw [cell_of_row W8 _ 4 _ _ _ XB.out]; rfl
        by_cases hm : 0 < more
        · have NSH : Hid (¬ AllShort [X.mean]) := Lib.hid (fun h => SH.out.1 h hm)
          go_wp2_with (first | (go_at_call 12; refine P1.out.mono ?_))
          intro e w2 hp
          obtain ⟨rfl, hb2⟩ := put_long hp GD.out NSH.out
          have X2 : Hid (w2.heap[w.heap.size + 1]? = some (.cells #[.int .u64 (X.n : Nat), .int .i64 X.i, .bool X.f, .slice X.bA X.bn X.bc, .slice X.lA X.ln X.lc] 42 (0, 0))) := Lib.hid ((hb2.block _ (lt_of_block XA.out)).trans XA.out)
          have B2 := Lib.hid (BWA.out.trans (hb2.mono BWA.out.size))
          clear hp hb2 c0 c1 c2 c3 c4
          have hkz : (X.bn : Int) + (X.ln : Int) = (kn : Int) := by have := KN.out; omega
          have wk : IntKind.i64.wrap (kn : Int) = (kn : Int) := IntWalk.i64_in _ (by omega)
          have wu : IntKind.u64.wrap (kn : Int) = (kn : Int) := by rw [show IntKind.u64.wrap (kn : Int) = (kn : Int) % 18446744073709551616 from rfl]; omega
          have kpos : Hid (0 < kn) := Lib.hid (by have h1 := TL.out.2 hm; have := KN.out; unfold tooLong at h1; omega)
          obtain ⟨Z9, hZ9⟩ : ∃ Z, word kn ++ List.replicate kn 0 = Z := ⟨_, rfl⟩
          have HZ := Lib.hid hZ9
          have ZL : Hid (Z9.length ≤ 262200) := Lib.hid (by
            rw [← hZ9, List.length_append, List.length_replicate]
            have := word_ten (n := kn) (by omega)
            omega)
          have ZB : Hid (∀ x ∈ Z9, x < 256) := Lib.hid (fun x hx => by
            rw [← hZ9] at hx
            rcases List.mem_append.1 hx with h | h
            · exact word_byte _ x h
            · rw [List.eq_of_mem_replicate h]; omega)
          have NX : Hid (∀ l, Valid [cl] l → forms [cl] l ≠ Z9) := Lib.hid (by rw [← hZ9]; exact GX.out hm)
          clear hZ9
          have PT := Lib.hid (fun W => refPut_any kn (by omega) W)
          have WT := Lib.hid (word_ten (n := kn) (by omega))
          have WP := Lib.hid (word_pos kn)
          have D2 : Hid (w2.drew.heap[w.heap.size + 1]? = some (.cells #[.int .u64 (X.n : Nat), .int .i64 X.i, .bool X.f, .slice X.bA X.bn X.bc, .slice X.lA X.ln X.lc] 42 (0, 0))) := Lib.hid X2.out
          have BD2 : Hid (Below w.heap.size w w2.drew) := Lib.hid B2.out.drew
          have C3d : Hid (w2.drew.cell? ⟨w.heap.size + 1, 3, none⟩ = some (.slice X.bA X.bn X.bc) ∧ w2.drew.cell? ⟨w.heap.size + 1, 4, none⟩ = some (.slice X.lA X.ln X.lc)) := Lib.hid ⟨by rw [cell_of_row w2.drew _ 3 _ _ _ D2.out]; rfl, by rw [cell_of_row w2.drew _ 4 _ _ _ D2.out]; rfl⟩
          have C3 : Hid (w2.cell? ⟨w.heap.size + 1, 3, none⟩ = some (.slice X.bA X.bn X.bc) ∧ w2.cell? ⟨w.heap.size + 1, 4, none⟩ = some (.slice X.lA X.ln X.lc)) := Lib.hid ⟨by rw [cell_of_row w2 _ 3 _ _ _ X2.out]; rfl, by rw [cell_of_row w2 _ 4 _ _ _ X2.out]; rfl⟩
          go_wp2_with fail
          go_region_held3 (fun W' => W'.cell? ⟨w.heap.size + 1, 3, none⟩ = some (.slice X.bA X.bn X.bc) ∧ W'.cell? ⟨w.heap.size + 1, 4, none⟩ = some (.slice X.lA X.ln X.lc))
            (first | (with_reducible exact C3.out) | (with_reducible exact C3d.out) | (with_reducible exact C4.out) | (with_reducible exact C5.out))
            (first
            | (go_at_call 22; (with_reducible refine (PT.out _).mono ?_); rintro e w4 ⟨A4, c4, rfl, q1, q2, q3, hB, hO, hbel⟩; have X4 : Hid (w4.heap[w.heap.size + 1]? = some (.cells #[.int .u64 (X.n : Nat), .int .i64 X.i, .bool X.f, .slice X.bA X.bn X.bc, .slice X.lA X.ln X.lc] 42 (0, 0))) := Lib.hid ((hbel.block _ (lt_of_block D2.out)).trans D2.out); have C4 : Hid (w4.cell? ⟨w.heap.size + 1, 3, none⟩ = some (.slice X.bA X.bn X.bc) ∧ w4.cell? ⟨w.heap.size + 1, 4, none⟩ = some (.slice X.lA X.ln X.lc)) := Lib.hid ⟨(by rw [cell_of_row w4 _ 3 _ _ _ X4.out]; rfl), (by rw [cell_of_row w4 _ 4 _ _ _ X4.out]; rfl)⟩; have B4 : Hid (Below w.heap.size w w4) := Lib.hid (BD2.out.trans (hbel.mono BD2.out.size)); have S4 : Hid (w2.drew.heap.size ≤ w4.heap.size) := Lib.hid hbel.size; have O4 : Hid (owns w4 w2.drew.heap.size 5 .u8 (.slice A4 (word kn).length c4) (word kn)) := Lib.hid hO; have LL4 : Hid ((word kn).length + kn ≤ 100000000) := Lib.hid (by have := WT.out; omega); clear q1 q2 q3 hB hO hbel)
            | ((refine step_append_zeros (by rfl) _ _ (by rfl) w2.drew.heap.size A4 (word kn).length c4 (word kn) (by rfl) O4.out WP.out kn (by rfl) kpos.out LL4.out S4.out ?_); intro v9 w5 hO5 hb5; have X5 : Hid (w5.heap[w.heap.size + 1]? = some (.cells #[.int .u64 (X.n : Nat), .int .i64 X.i, .bool X.f, .slice X.bA X.bn X.bc, .slice X.lA X.ln X.lc] 42 (0, 0))) := Lib.hid ((hb5.block _ (lt_of_block D2.out)).trans X4.out); have C5 : Hid (w5.cell? ⟨w.heap.size + 1, 3, none⟩ = some (.slice X.bA X.bn X.bc) ∧ w5.cell? ⟨w.heap.size + 1, 4, none⟩ = some (.slice X.lA X.ln X.lc)) := Lib.hid ⟨(by rw [cell_of_row w5 _ 3 _ _ _ X5.out]; rfl), (by rw [cell_of_row w5 _ 4 _ _ _ X5.out]; rfl)⟩; have B5 : Hid (Below w.heap.size w w5) := Lib.hid (B4.out.trans (hb5.mono BD2.out.size)); rw [HZ.out] at hO5; have O5 := Lib.hid hO5; obtain ⟨A9, c9, rfl, r1, r2, r3⟩ := O5.out.form; have R3 := Lib.hid r3; clear hO5 hb5 r3))
          all_goals
            rename_i hS
            clear hS
            unfold maxLen at r2
            have T9 := Lib.hid (KW.out A9 Z9.length c9 (pick Z9) w5 (O5.out.nums ZB.out) R3.out r1 (by omega) (by have := ZL.out; omega))
            rw [pick_seg] at T9
            go_wp2_with (first | (go_at_call 20; refine T9.out.mono ?_))
            intro e w6 ht
            obtain ⟨code, m6, B6, d6, V6, rfl, hb6, wf⟩ := whole_facts ht
            have hcode : code = 40 := by
              rcases wf.2 with ⟨a1, a2, a3⟩ | ⟨a1, a2, a3, a4⟩ | ⟨a1, a2, a3⟩
              · exact absurd GD.out.1 a2
              · exact a1
              · exact absurd a3 (NX.out _ a2)
            subst hcode
            have BB6 := Lib.hid (B5.out.trans (hb6.mono B5.out.size))
            clear ht wf hb6
            go_wp2_with fail
            go_ret
            exact ⟨rfl, BB6.out⟩
        · have SHY : Hid (AllShort [X.mean]) := Lib.hid (SH.out.2 hm)
          go_wp2_with (first | (go_at_call 12; refine P1.out.mono ?_))
          intro e w2 hp
          obtain ⟨A2, c2', rfl, r3, r1, r2, hby2, hb2⟩ := put_short hp GD.out SHY.out
          have X2 : Hid (w2.heap[w.heap.size + 1]? = some (.cells #[.int .u64 (X.n : Nat), .int .i64 X.i, .bool X.f, .slice X.bA X.bn X.bc, .slice X.lA X.ln X.lc] 42 (0, 0))) := Lib.hid ((hb2.block _ (lt_of_block XA.out)).trans XA.out)
          have B2 := Lib.hid (BWA.out.trans (hb2.mono BWA.out.size))
          have XO2 := Lib.hid (XO.out.below (BA8.out.trans (hb2.mono BA8.out.size)))
          have VA : Hid (Valid [cl] [X.mean]) := Lib.hid ⟨GD.out, SHY.out, fun v hv => by rw [List.mem_singleton.1 hv]; exact ok_real XO2.out⟩
          have FLB : Hid ((forms [cl] [X.mean]).length ≤ 4194304) := Lib.hid (by
            rw [forms_one]
            have := form_short XO2.out (by have h1 := SH.out; have h2 := TL.out; unfold tooLong at h2; omega) (by have h2 := TL.out; unfold tooLong at h2; omega) cl
            omega)
          have T9 := Lib.hid (KW.out A2 (forms [cl] [X.mean]).length c2' (pick (forms [cl] [X.mean])) w2 hby2 r3 r1 r2 FLB.out)
          rw [pick_seg] at T9
          obtain ⟨L9, hL9⟩ : ∃ L9, forms [cl] [X.mean] = L9 := ⟨_, rfl⟩
          rw [hL9] at T9
          rw [hL9]
          have HL9 := Lib.hid hL9
          clear hp hb2 hby2 r3 r1 r2 c0 c1 c2 c3 c4 hL9
          go_wp2_with (first | (go_at_call 20; refine T9.out.mono ?_))
          intro e w6 ht
          obtain ⟨code, m6, B6, d6, V6, rfl, hb6, wf⟩ := whole_facts ht
          have hcode : code = 0 ∧ means V6 m6 = [X.mean] := by
            rcases wf.2 with ⟨a1, a2, a3⟩ | ⟨a1, a2, a3, a4⟩ | ⟨a1, a2, a3⟩
            · exact absurd GD.out.1 a2
            · exact absurd HL9.out (a3 _ VA.out)
            · exact ⟨a1, (valid_uniq (r := []) (t := []) a2.1 GD.out (by rw [a3, HL9.out])).1⟩
          obtain ⟨rfl, hme⟩ := hcode
          have BB6 := Lib.hid (B2.out.trans (hb6.mono B2.out.size))
          have X6 : Hid (w6.heap[w.heap.size + 1]? = some (.cells #[.int .u64 (X.n : Nat), .int .i64 X.i, .bool X.f, .slice X.bA X.bn X.bc, .slice X.lA X.ln X.lc] 42 (0, 0))) := Lib.hid ((hb6.block _ (lt_of_block X2.out)).trans X2.out)
          have XO6 := Lib.hid (XO2.out.below hb6)
          have V6H := Lib.hid wf.1
          clear ht wf hb6
          have BA6 : Hid (Below w6.heap.size w6 (w6.alloc (.cells #[.int .u64 (X.n : Nat), .int .i64 X.i, .bool X.f, .slice X.bA X.bn X.bc, .slice X.lA X.ln X.lc] 42))) := Lib.hid ((Below.refl _ w6).alloc (Nat.le_refl _) _)
          have VI6 : Hid (ValsIn (w6.alloc (.cells #[.int .u64 (X.n : Nat), .int .i64 X.i, .bool X.f, .slice X.bA X.bn X.bc, .slice X.lA X.ln X.lc] 42)) (some ⟨w6.heap.size, 0, none⟩) 1 1 (fun _ => X)) := Lib.hid ⟨vals_one XO6.out, fun e => (by cases e), ⟨Nat.le_refl _, by omega⟩, by omega⟩
          have SA := Lib.hid (sameW_any B6 (some ⟨w6.heap.size, 0, none⟩) m6 1 d6 1 V6 (fun _ => X) _ ⟨V6H.out.1.below BA6.out, V6H.out.2⟩ VI6.out)
          have hdec : decide (means V6 m6 = means (fun _ => X) 1) = true := by rw [means_one]; simp [hme]
          rw [hdec] at SA
          clear hdec hme
          have c0 : w6.cell? ⟨w.heap.size + 1, 0, none⟩ = some (.int .u64 (X.n : Nat)) := by rw [cell_of_row w6 _ 0 _ _ _ X6.out]; rfl
          have c1 : w6.cell? ⟨w.heap.size + 1, 1, none⟩ = some (.int .i64 X.i) := by rw [cell_of_row w6 _ 1 _ _ _ X6.out]; rfl
          have c2 : w6.cell? ⟨w.heap.size + 1, 2, none⟩ = some (.bool X.f) := by rw [cell_of_row w6 _ 2 _ _ _ X6.out]; rfl
          have c3 : w6.cell? ⟨w.heap.size + 1, 3, none⟩ = some (.slice X.bA X.bn X.bc) := by rw [cell_of_row w6 _ 3 _ _ _ X6.out]; rfl
          have c4 : w6.cell? ⟨w.heap.size + 1, 4, none⟩ = some (.slice X.lA X.ln X.lc) := by rw [cell_of_row w6 _ 4 _ _ _ X6.out]; rfl
          go_wp2_with (first | (go_at_call 16; refine SA.out.mono ?_))
          rintro e w7 ⟨rfl, hb7⟩
          have BB7 : Hid (Below w.heap.size w w7) := Lib.hid (BB6.out.trans ((BA6.out.trans (hb7.mono (by simp))).mono BB6.out.size))
          clear hb7
          go_wp2_with fail
          go_ret
          exact ⟨rfl, BB7.out⟩

theorem walkWireLong (a0 : Int) (a1 : Bool) (w0 : (Lit.int .i64 a0).wf = true) (w : World) :
    Calls Try.prog 5 #[.int .i64 a0, .bool a1] w fun e w' => e = .returned (.bool true) ∧ Below w.heap.size w w' := by
  obtain ⟨h1, h2⟩ := wf_i64' w0
  exact long_walk a0 a1 w h1 h2
end Go.Proofs.Ytkjndgnjilfobaa
