/-
  words.appendWords on a nil slice: the words of all numbers, one behind the other, in a row of the call's own. Put and Row by it.
-/
import Derived.Maps.AppendAt
import Derived.Test.YtkjndgnjilfobaaDigits
import Derived.Test.YtkjndgnjilfobaaBytes
namespace Go.Proofs.Ytkjndgnjilfobaa
open Go.RowKit Go.Shelf
attribute [local go_sem] Oper.semAt_some

def mark (d : Nat) : Deferred := { target := .collected d, args := #[] }
theorem leaves_marks {F : Fence} {n : Nat} {P : Program} {fn : Func} {tmps : Array Value} {R : Ending → World → Prop} (B : Nat) (Pw : World → Prop)
    (hP : ∀ W d, B ≤ d → Pw W → W.heap[d]? = some (.deferred (some [])) → Pw (W.putObj d (.deferred none))) (hend : ∀ W, Pw W → LeavesInM F n P fn tmps R [] .returning W) :
    ∀ (ds : List Nat) (W : World), ds.Nodup → (∀ d ∈ ds, W.heap[d]? = some (.deferred (some []))) → (∀ d ∈ ds, B ≤ d) → Pw W → LeavesInM F n P fn tmps R (ds.map mark) .returning W
  | [], W, _, _, _, h => hend W h
  | d :: ds, W, hn, hd, hB, h => by
    refine ⟨by simp, .inl ⟨d, _, rfl, run_takeDeferred (hd d (by simp)), leaves_marks B Pw hP hend ds _ (List.nodup_cons.1 hn).2 (fun d' h' => ?_) (fun d' h' => hB d' (by simp [h'])) (hP W d (hB d (by simp)) h (hd d (by simp)))⟩⟩
    have hne : d' ≠ d := fun e => (List.nodup_cons.1 hn).1 (e ▸ h')
    exact (World.putObj_heap_other hne).trans (hd d' (by simp [h']))


def flat (f : Nat → Nat) (k : Nat) : List Nat := (seg f 0 k).flatMap word
theorem flat_zero (f : Nat → Nat) : flat f 0 = [] := rfl
theorem flat_succ (f : Nat → Nat) (k : Nat) : flat f (k + 1) = flat f k ++ word (f k) := by unfold flat; rw [seg_succ, flat_snoc, Nat.zero_add]
theorem flat_bd (f : Nat → Nat) (n : Nat) (h : ∀ i, i < n → f i < 18446744073709551616) (k : Nat) (hk : k ≤ n) : (flat f k).length ≤ 10 * k := by
  have := flat_len (seg f 0 k) (fun x hx => by obtain ⟨i, hi, rfl⟩ := seg_mem hx; rw [Nat.zero_add]; exact h i (by omega))
  rw [seg_len] at this; exact this.2

set_option maxRecDepth 100000 in
set_option maxHeartbeats 4000000 in
theorem append_in (F : Fence) (n : Nat) (h3 : F.fn 66) (h5 : F.fn 69) (h6 : F.fn 70) (hro : F.round = none) (hn : 3 ≤ n) (A : Option Addr) (len c : Nat) (f : Nat → Nat) (w : World) (hL : Longs w A len f) (hlen : len ≤ 100000) :
    CallsIn F n Try.prog 66 #[.slice none 0 0, .slice A len c] w fun e W' => ∃ v, e = .returned v ∧ owns W' w.heap.size 5 .u8 v (flat f len) ∧ Below w.heap.size w W' := by
  have h1 : 1 ≤ n := by omega
  obtain ⟨i0, hi, hz0, hz1, hz2⟩ := info_parts Try.info5
  have HN := Lib.hid hL; clear hL
  refine callsIn_of_wp_marks Try.func66 rfl h3 ?_ hro
  simp only [Try.ntmps66, List.size_toArray, List.length_cons, List.length_nil, Nat.reduceAdd, Nat.reduceSub, Array.replicate_succ, Array.replicate_zero, List.push_toArray, List.append_toArray, List.nil_append, List.cons_append]
  gi_wp2
  refine wpIn_loop (fun a W => ∃ (k : Nat) (ds : List Nat) (v u6 u12 u13 u14 u15 u16 u26 : Value), k ≤ len ∧
      a = { tmps := #[.slice none 0 0, .slice A len c, .pointer (some ⟨w.heap.size, 0, none⟩), undef, .slice none 0 0, undef, u6, undef, undef, .slice A len c, .int .i64 (len : Nat), .int .i64 (k : Nat), u12, u13, u14, u15, u16, undef, undef, undef, undef, undef, undef, undef, undef, undef, u26, undef], defers := ds.map mark } ∧
      ds.Nodup ∧ (∀ d ∈ ds, W.heap[d]? = some (.deferred (some []))) ∧ (∀ d ∈ ds, w.heap.size ≤ d) ∧ Boxed W w.heap.size 25 v ∧ owns W w.heap.size 5 .u8 v (flat f k) ∧ Below w.heap.size w W)
    (fun a _ => len - (intOf (a.tmps.getD 11 undef)).toNat) ?start ?round
  case start =>
    exact ⟨0, [], _, _, _, _, _, _, _, _, Nat.zero_le _, rfl, List.nodup_nil, by simp, by simp, Boxed.new w _ _, World.ownsRow_nil _ _ _ _, (Below.refl _ w).alloc (Nat.le_refl _) _⟩
  case round =>
    rintro a W ⟨k, ds, v, u6, u12, u13, u14, u15, u16, u26, hk, rfl, hnd, hds, hdn, hv, hrow, hB⟩
    by_cases hlt : k < len
    · obtain ⟨b, off, rfl, hb, hcell⟩ := HN.out.at_ hlt
      have hfk := HN.out.bd hlt
      have hcW : W.cell? ⟨b, off + k, none⟩ = some (.int .u64 (f k : Nat)) := (hB.cell (p := ⟨b, off + k, none⟩) hb).trans hcell
      have hflen := flat_bd f len (fun i hi => HN.out.bd hi) k hk
      have hten := word_ten hfk
      have hdl := digs_len (f k)
      have HR := Lib.hid hrow; have HS := Lib.hid hds; have HF := Lib.hid hflen; have HT := Lib.hid hten; have HD := Lib.hid hdl; have HV := Lib.hid hv; have HC := Lib.hid hcell
      clear hrow hds hflen hten hdl hv hcell
      gi_wp2_with (gi_at_call 69; refine (digits_in F (n - 1) h5 hro (f k) _).mono ?_; rintro e w' ⟨rfl, rfl⟩)
      have bN := Boxed.new W 39 (.int .u64 (f k : Nat))
      have hB1 : Below w.heap.size w (W.alloc (.cells #[.int .u64 (f k : Nat)] 39)) := hB.alloc hB.size _
      have hsz : (W.alloc (.cells #[.int .u64 (f k : Nat)] 39)).heap.size = W.heap.size + 1 := World.size_alloc _ _
      obtain ⟨W1, hW1⟩ : ∃ W1, W.alloc (.cells #[.int .u64 (f k : Nat)] 39) = W1 := ⟨_, rfl⟩
      have hv1 : Boxed W1 w.heap.size 25 v := by rw [← hW1]; exact HV.out.alloc _
      have hr1 : owns W1 w.heap.size 5 .u8 v (flat f k) := by rw [← hW1]; exact HR.out.alloc _
      have hds1 : ∀ d ∈ ds, W1.heap[d]? = some (.deferred (some [])) := by
        intro d hd; rw [← hW1]; exact (Below.heap_alloc _ _ _ (Array.getElem?_eq_some_iff.1 (HS.out d hd)).1).trans (HS.out d hd)
      rw [hW1] at bN hB1 hsz ⊢
      clear hW1
      have hszW := hB.size
      refine wpIn_rangeFunc_ownG hro h1 (gf := 70) (lb := #[.pointer (some ⟨W.heap.size, 0, none⟩)]) rfl h6 (enters_of Try.func70 (by kernel_rfl) rfl)
        (digits_stops F (n - 1) h6 hro (by omega) W.heap.size w.heap.size (f k) hfk W1 (by omega) bN.cell) belowK_t (belowK_b (by omega)) (Below.refl _ _) (fun _ => rfl)
        (fun pre W' => (∃ v, Boxed W' w.heap.size 25 v ∧ W'.ownsRow w.heap.size 5 1 v (flat f k ++ pre.map byteOf).length ((flat f k ++ pre.map byteOf).map fun (x : Nat) => Value.int .u8 (x : Nat)) ∧ True) ∧ (Below w.heap.size w W' ∧ KeepsFrom 0 W1 W'))
        (fun _ _ _ => False)
        (OwnFrom.and (Own.from (holdsRow_own w.heap.size w.heap.size 25 5 1 (fun (pre : List (Fin 128 × Bool)) => (flat f k ++ pre.map byteOf).length) (fun pre => (flat f k ++ pre.map byteOf).map fun (x : Nat) => Value.int .u8 (x : Nat)) (fun _ _ => True)) _) (OwnFrom.and (ownFrom_below (Nat.le_refl _) (by omega)) (ownFrom_keepsFrom (by omega))))
        (fun _ _ _ _ _ hs _ _ => hs)
        ⟨⟨v, hv1, by simpa [owns] using hr1, trivial⟩, hB1, KeepsFrom.refl _ _⟩
        (fun x => { tmps := #[.slice none 0 0, .slice (some ⟨b, off, none⟩) len c, .pointer (some ⟨w.heap.size, 0, none⟩), undef, .slice none 0 0, undef, .int .u64 (f k : Nat), .int .u8 ((x.1.val : Nat) : Int), .bool x.2, .slice (some ⟨b, off, none⟩) len c, .int .i64 (len : Nat), .int .i64 (k : Nat), .bool true, .pointer (some ⟨b, off + k, none⟩), .int .u64 (f k : Nat), .int .u64 (f k : Nat), .func (.func 70) #[] #[.pointer (some ⟨W.heap.size, 0, none⟩)], .int .u8 ((x.1.val : Nat) : Int), .bool x.2, undef, undef, undef, undef, undef, undef, undef, u26, undef], defers := [] }) ?assign ?body ?done ?stop
      case assign =>
        intro l x W K hK
        dsimp only [digEnc]
        gi_wp2
        exact hK
      case body =>
        rintro l pre x W2 ⟨⟨v2, hv2, hrow2, -⟩, hB2, hK2⟩ hlt2
        have hpl : (flat f k ++ pre.map byteOf).length ≤ 1000010 := by have := HF.out; have := HT.out; have := HD.out; simp; omega
        obtain ⟨Lp, hLp⟩ : ∃ Lp, flat f k ++ pre.map byteOf = Lp := ⟨_, rfl⟩
        rw [hLp] at hrow2 hpl
        have HL := Lib.hid hLp; have HP := Lib.hid hpl; clear hpl hLp
        have hc := hv2.cell
        obtain ⟨⟨d, hd⟩, mo⟩ := x
        cases mo
        · gi_wp2_with (gi_at_builtin; refine wpListIn_append_own _ rfl _ _ 25 rfl w.heap.size 5 i0 (.int .u8 0) 1 1 Try.underlying25 hi hz0 hz1 hz2 rfl (by decide) _ _ _ rfl (hrow2.alloc _) ⟨W2.heap.size, 0, none⟩ 1 1 [.int .u8 ((d : Nat) : Int)] rfl rfl (cell_one_new _ _ _) (by simp [Value.oneCell']) (by have := HP.out; unfold maxLen; omega) (by have := HP.out; omega) (by have := hB2.size; simp; omega) ?_; intro v' w1 hown' hgrow _; obtain ⟨g', cap', rfl⟩ := ownsRow_succ hown'; obtain ⟨hv1, hv2, hr2, hk2, hb2⟩ := hv2.appended (by decide) hrow2 hB2.size (Nat.le_refl _) hown' hgrow; have hc1 := hv1.cell; have hf1 := hv1.frozen)
          refine ⟨hk2.from _, hb2, ⟨_, hv2, ?_, trivial⟩, hB2.trans hb2, hK2.trans (hk2.from _)⟩
          have e : flat f k ++ (pre ++ [((⟨d, hd⟩, false) : Fin 128 × Bool)]).map byteOf = Lp ++ [d] := by rw [List.map_append, ← List.append_assoc, HL.out]; simp [byteOf]
          rw [e]; simpa using hr2
        · gi_wp2_with (gi_at_builtin; refine wpListIn_append_own _ rfl _ _ 25 rfl w.heap.size 5 i0 (.int .u8 0) 1 1 Try.underlying25 hi hz0 hz1 hz2 rfl (by decide) _ _ _ rfl (hrow2.alloc _) ⟨W2.heap.size, 0, none⟩ 1 1 [.int .u8 (((d : Nat) : Int) + 128)] rfl rfl (cell_one_new _ _ _) (by simp [Value.oneCell']) (by have := HP.out; unfold maxLen; omega) (by have := HP.out; omega) (by have := hB2.size; simp; omega) ?_; intro v' w1 hown' hgrow _; obtain ⟨g', cap', rfl⟩ := ownsRow_succ hown'; obtain ⟨hv1, hv2, hr2, hk2, hb2⟩ := hv2.appended (by decide) hrow2 hB2.size (Nat.le_refl _) hown' hgrow; have hc1 := hv1.cell; have hf1 := hv1.frozen)
          refine ⟨hk2.from _, hb2, ⟨_, hv2, ?_, trivial⟩, hB2.trans hb2, hK2.trans (hk2.from _)⟩
          have e : flat f k ++ (pre ++ [((⟨d, hd⟩, true) : Fin 128 × Bool)]).map byteOf = Lp ++ [d + 128] := by rw [List.map_append, ← List.append_assoc, HL.out]; simp [byteOf]
          rw [e]; simpa using hr2
      case done =>
        rintro D ys W2 hD rfl ⟨⟨v2, hv2, hrow2, -⟩, hB2, hK2⟩ hK
        gi_wp2
        refine ⟨⟨k + 1, D :: ds, v2, _, _, _, _, _, _, _, hlt, rfl, ?_, ?_, ?_, hv2, ?_, hB2⟩, ?_⟩
        · refine List.nodup_cons.2 ⟨fun h => ?_, hnd⟩
          have := (Array.getElem?_eq_some_iff.1 (HS.out D h)).1
          omega
        · intro d hd
          rcases List.mem_cons.1 hd with rfl | hd
          · exact hK
          · exact hK2.same d _ (Nat.zero_le _) (hds1 d hd) rfl
        · intro d hd
          rcases List.mem_cons.1 hd with rfl | hd
          · omega
          · exact hdn d hd
        · rw [flat_succ]; rw [digs_word] at hrow2; exact hrow2
        · simp [intOf]; omega
      case stop =>
        rintro D c pre W _ _ h _
        exact h.elim
    · obtain rfl : k = len := by omega
      have hc := hv.cell
      gi_wp2
      refine leaves_marks w.heap.size (fun W' => owns W' w.heap.size 5 .u8 v (flat f k) ∧ Below w.heap.size w W') ?_ ?_ ds W hnd hds hdn ⟨hrow, hB⟩
      · rintro W' d hdd ⟨h, h'⟩ hW
        exact ⟨ownsRow_putObj h _ hW rfl, h'.trans (belowK_b (w := w) (Nat.le_refl _) W' d _ _ hdd hW rfl rfl)⟩
      · rintro W' ⟨h, h'⟩
        exact ⟨_, results_tmp rfl _ _ _, v, rfl, h, h'⟩

theorem append_any (A : Option Addr) (len c : Nat) (f : Nat → Nat) (w : World) (hL : Longs w A len f) (hlen : len ≤ 100000) :
    Calls Try.prog 66 #[.slice none 0 0, .slice A len c] w fun e W' => ∃ v, e = .returned v ∧ owns W' w.heap.size 5 .u8 v (flat f len) ∧ Below w.heap.size w W' :=
  (callsIn_wide (n := 3)).1 (append_in Fence.wide 3 trivial trivial trivial rfl (by omega) A len c f w hL hlen)

set_option maxHeartbeats 400000 in
theorem put_any (m : Nat) (hm : m < 18446744073709551616) (w : World) : Calls Try.prog 48 #[.int .u64 (m : Nat)] w (Made w (word m)) := by
  go_enter Try.func48, Try.ntmps48
  have hL : Longs (w.alloc (.cells #[.int .u64 (m : Nat)] 39)) (some ⟨w.heap.size, 0, none⟩) 1 (fun _ => m) :=
    ⟨fun _ _ => hm, fun _ => ⟨_, 0, rfl, by simp, fun i hi => by obtain rfl : i = 0 := by omega
                                                                 simp⟩⟩
  go_wp2_with (go_at_call 66; refine (append_any _ 1 1 (fun _ => m) _ hL (by omega)).mono ?_; rintro e w' ⟨v, rfl, ho, hb⟩)
  go_ret
  have e1 : flat (fun _ => m) 1 = word m := by simp [flat, seg]
  rw [e1] at ho
  exact made_of (word_byte m) ho (by simp) (((Below.refl _ w).alloc (Nat.le_refl _) _).trans (hb.mono (by simp)))

set_option maxHeartbeats 400000 in
theorem row_any (A : Option Addr) (len c : Nat) (f : Nat → Nat) (w : World) (hL : Longs w A len f) (hlen : len ≤ 100000) :
    Calls Try.prog 64 #[.slice A len c] w (Made w (flat f len)) := by
  have HL := Lib.hid hL; clear hL
  go_enter Try.func64, Try.ntmps64
  go_wp2_with (go_at_call 66; refine (append_any A len c f _ HL.out hlen).mono ?_; rintro e w' ⟨v, rfl, ho, hb⟩)
  go_ret
  exact made_of (flat_byte _) ho (Nat.le_refl _) hb
end Go.Proofs.Ytkjndgnjilfobaa
