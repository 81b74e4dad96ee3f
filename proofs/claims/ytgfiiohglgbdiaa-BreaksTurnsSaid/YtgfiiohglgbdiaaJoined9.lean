/-
  breaks.joined: what a function value tells, as one text; breaks.oneWord's function value.
-/
import Derived.Test.YtgfiiohglgbdiaaEndsTell
namespace Go.Proofs.Ytgfiiohglgbdiaa
open Go.RowKit Go.Shelf
attribute [local go_sem] Oper.semAt_some
attribute [local go_sem] wide_fn

theorem show_append (a b : List Pc) : showP (a ++ b) = showP a ++ showP b := by
  induction a with
  | nil => rfl
  | cons p a ih =>
    obtain ⟨k, t⟩ := p
    rw [List.cons_append, show_cons, show_cons, ih]
    simp
theorem show_one (p : Pc) : showP [p] = (if p.1 = 2 then [10] else []) ++ p.2 := by
  obtain ⟨k, t⟩ := p
  rw [show_cons]
  simp [showP]
theorem strCells_list (t : List UInt8) : Lib.strCells ⟨t.toArray⟩ = Lib.byteCells t := by simp [Lib.strCells, Lib.byteCells]
theorem byteCells_append (a b : List UInt8) : Lib.byteCells (a ++ b) = Lib.byteCells a ++ Lib.byteCells b := by simp [Lib.byteCells]
/-- a builder abides what turns no cells -/
theorem bld_kept {B b : Nat} {bs : List Value} {X Y : World} {row : Option Nat} (h : Bld B b bs X) (hg : X.grownBy Y row) (hr : ∀ r, row = some r → ∃ o : Obj, X.heap[r]? = some o ∧ o.isCells = false) : Bld B b bs Y := by
  have key : ∀ p, Lib.BuilderAtF 44 5 B b p bs X → Lib.BuilderAtF 44 5 B b p bs Y := fun p ⟨hB, v, hb, hown, hne⟩ => by
    have ne : ∀ (k : Nat) (c : Array Value) (T : TypeId) (fz : Nat × Nat), X.heap[k]? = some (.cells c T fz) → some k ≠ row := fun k c T fz hk e => by
      obtain ⟨o, h1, h2⟩ := hr k e.symm
      rw [hk] at h1
      cases h1
      cases h2
    refine ⟨hB, v, (hg.block b (Array.getElem?_eq_some_iff.1 hb).1 (ne b _ _ _ hb)).trans hb, hown.kept hg ?_, hne⟩
    cases hv : v.ownBlock with
    | none => exact .inl rfl
    | some g =>
      obtain ⟨c, fz, hgk⟩ := Lib.ownsRowF_kind hown g hv
      exact .inr (ne g _ _ _ hgk)
  exact h.imp (key _) (key _)
/-- a builder's own blocks: its variable's, and rows of bytes -/
def mineB (tb : Nat) (X : World) (k : Nat) : Prop := k = tb ∨ ∃ c fz, X.heap[k]? = some (.cells c 5 fz)
theorem bld_cells {B b : Nat} {bs : List Value} {X : World} (h : Bld B b bs X) : ∃ c, X.heap[b]? = some (.cells c 44 (0, 0)) := by
  rcases h with ⟨_, v, hb, _⟩ | ⟨_, v, hb, _⟩ <;> exact ⟨_, hb⟩
theorem mineB_ok {α : Type} {I : List α → World → Prop} {f : List α → List Value} {B tb H : Nat} (hI : ∀ {d W}, I d W → Bld B tb (f d) W) : MineOK 5 I (mineB tb) H :=
  ⟨fun {pre W k} hi hm => by
    rcases hm with rfl | ⟨c, fz, hc⟩
    · obtain ⟨c, hc⟩ := bld_cells (hI hi)
      exact ⟨_, hc, rfl⟩
    · exact ⟨_, hc, rfl⟩,
  fun _ _ _ k _ he hm => hm.imp id (fun ⟨c, fz, hc⟩ => ⟨c, fz, by rw [← he]; exact hc⟩),
  fun {pre W} c T z hi hT hm => by
    rcases hm with e | ⟨c', fz, hc⟩
    · obtain ⟨c, hc⟩ := bld_cells (hI hi)
      have := (Array.getElem?_eq_some_iff.1 hc).1
      omega
    · rw [World.alloc_heap_new] at hc
      cases hc
      exact hT rfl⟩
theorem others_keeps {tb H : Nat} {sbs : List Nat} {W W' : World} (hs : W.heap.size ≤ W'.heap.size) (h : Lib.OthersKept 5 (some tb) W W') : Keeps (mineB tb) H sbs W W' :=
  ⟨hs, fun k _ hl hm => by
    have he : W'.heap[k]? = W.heap[k]? := by
      rw [Array.getElem?_eq_getElem hl]
      exact h k _ (Array.getElem?_eq_getElem hl) (fun e => hm (.inl (by cases e; rfl))) (fun c fz e => hm (.inr ⟨c, fz, by rw [Array.getElem?_eq_getElem hl, e]⟩))
    exact ⟨he, fun hm' => hm (hm'.imp id (fun ⟨c, fz, hc⟩ => ⟨c, fz, by rw [← he]; exact hc⟩))⟩⟩
theorem write_any9 (B b : Nat) (l t : List UInt8) (X : World) (h : Bld B b (Lib.byteCells l) X) (hl : l.length ≤ 8192) (ht : t.length ≤ 8192) (hB : B ≤ X.heap.size) :
    Calls Try.prog 25 #[.pointer (some ⟨b, 0, none⟩), .string ⟨t.toArray⟩] X fun e X' => (∃ v, e = .returned (.tuple #[v, .nilIface])) ∧ Bld B b (Lib.byteCells (l ++ t)) X' ∧ Below B X X' ∧ Lib.OthersKept 5 (some b) X X' := by
  have hz : (⟨t.toArray⟩ : ByteArray).size = t.length := by simp [ByteArray.size]
  have hl2 : (Lib.byteCells l).length = l.length := by simp [Lib.byteCells]
  refine (writeString_any B b _ ⟨t.toArray⟩ X h (by omega) hB).mono ?_
  rintro e X' ⟨rfl, h1, h2, h3⟩
  rw [strCells_list, ← byteCells_append] at h1
  exact ⟨⟨_, rfl⟩, h1, h2, h3⟩
/-- where joined's loop stands -/
structure Join (w : World) (d : List Pc) (W : World) : Prop where
  bld : Bld w.heap.size w.heap.size (Lib.byteCells (showP d)) W
  below : Below w.heap.size w W
theorem Join.own {w : World} {B : Nat} (hB : w.heap.size ≤ B) : OwnFrom B (Join w) := fun _ _ _ _ h hg hr =>
  ⟨bld_kept h.bld hg (fun r e => (hr r e).2), h.below.grown hg h.below.size (fun k e => Nat.le_trans hB (hr k e).1)⟩

set_option maxRecDepth 100000 in
set_option maxHeartbeats 8000000 in
theorem joined_any (gf : Nat) (lb : Array Value) (xs : List Pc) (sbs : List Nat) (w : World) (eg : ∀ args w, (callFunc gf args).run Try.prog w = .ok (.enter gf args) w) (hT : Tells Try.prog 5 gf lb encP xs sbs w) (hsb : ∀ k ∈ sbs, k < w.heap.size) (hsc : ∀ k ∈ sbs, ¬ ∃ c fz, w.heap[k]? = some (.cells c 5 fz)) (hlen : (showP xs).length ≤ 8192) :
    Calls Try.prog 18 #[.func (.func gf) #[] lb] w fun e w' => e = .returned (.string ⟨(showP xs).toArray⟩) ∧ Below w.heap.size w w' := by
  have HT := Lib.hid hT
  clear hT
  refine (callsIn_wide (n := 6)).1 ?_
  refine callsIn_of_wp_marks Try.func18 rfl trivial ?_ rfl
  simp only [Try.ntmps18, List.size_toArray, List.length_cons, List.length_nil, Nat.reduceAdd, Nat.reduceSub, Array.replicate_succ, Array.replicate_zero, List.push_toArray, List.append_toArray, List.nil_append, List.cons_append]
  gi_wp2
  obtain ⟨W0, hW0⟩ : ∃ W0, w.alloc (.cells #[.pointer none, .slice none 0 0] 44) = W0 := ⟨_, rfl⟩
  have hz : W0.heap.size = w.heap.size + 1 := by rw [← hW0, World.size_alloc]
  have J0 : Join w [] W0 := by
    rw [← hW0]
    exact ⟨(Lib.fresh_isBuilder 44 5 w).elim (fun x => .inl (Lib.BuilderAtF.of x)) (fun x => .inr (Lib.BuilderAtF.of x)), (Below.refl _ w).alloc (Nat.le_refl _) _⟩
  have hB0 : Below w.heap.size w W0 := J0.below
  have hsm : ∀ k ∈ sbs, ¬ mineB w.heap.size W0 k := fun k hk hm => by
    have := hsb k hk
    rcases hm with e | ⟨c, fz, hc⟩
    · omega
    · exact hsc k hk ⟨c, fz, by rw [← hB0.block k this]; exact hc⟩
  rw [hW0]
  clear hW0
  refine wpIn_tells (k := 3) (u8 := 5) (w := W0) (w0 := w) (gf := gf) (lb := lb) rfl eg
    HT.out hB0 (fun k hk => by have := hsb k hk; omega) (fun _ => rfl)
    (Join w) (mineB w.heap.size) (Join.own (by omega)) (mineB_ok (fun h => h.bld)) hsm J0
    (fun pre x a' X => ∃ Bp, Bp ≠ w.heap.size ∧ X.heap[Bp]? = some (.cells #[.int .u8 (x.1 : Nat), .string ⟨x.2.toArray⟩] 26 (0, 0)) ∧ a' = { tmps := #[.func (.func gf) #[] lb, undef, .string ⟨#[]⟩, .pointer (some ⟨w.heap.size, 0, none⟩), .pointer (some ⟨Bp, 0, none⟩), .func (.func gf) #[] lb, .agg #[.int .u8 (x.1 : Nat), .string ⟨x.2.toArray⟩], undef, undef, undef, undef, undef, undef, undef, undef], defers := [] })
    (fun pre x a' => ?ax) ?assign ?body ?done
  case ax =>
    rintro _ A C row ⟨Bp, h1, h2, h3⟩ hg hr
    refine ⟨Bp, h1, (hg.block Bp (Array.getElem?_eq_some_iff.1 h2).1 (fun e => ?_)).trans h2, h3⟩
    obtain ⟨o, q1, q2⟩ := (hr Bp e.symm).2
    rw [h2] at q1
    cases q1
    cases q2
  case assign =>
    intro l' pre x X K hi hpre hK
    have hne : X.heap.size ≠ w.heap.size := by have := hi.below.size; obtain ⟨c, hc⟩ := bld_cells hi.bld; have := (Array.getElem?_eq_some_iff.1 hc).1; omega
    have KK := hK _ _ (keeps_new (mineB_ok (H := W0.heap.size) (I := Join w) (fun h => h.bld)) hi (grown_alloc9 X (.cells #[.int .u8 (x.1 : Nat), .string ⟨x.2.toArray⟩] 26))) ((Join.own (Nat.le_refl _)).alloc _ hi) ⟨X.heap.size, hne, World.alloc_heap_new X _, rfl⟩
    dsimp only [encP]
    gi_wp2
    simpa using KK
  case body =>
    rintro l' pre ⟨k, t⟩ a' X hl hi ⟨Bp, hne, hp, rfl⟩ hpre
    have LN : (showP (pre ++ [(k, t)])).length ≤ 8192 := by
      obtain ⟨post, hpost⟩ := prefix_last hpre
      rw [hpost, show pre ++ (k, t) :: post = (pre ++ [(k, t)]) ++ post by simp, show_append, List.length_append] at hlen
      omega
    rw [show_append, show_one, List.length_append, List.length_append] at LN
    dsimp only at LN
    have c0 : X.cell? ⟨Bp, 0, none⟩ = some (.int .u8 (k : Nat)) := by simp [World.cell?, hp]
    have c1 : X.cell? ⟨Bp, 1, none⟩ = some (.string ⟨t.toArray⟩) := by simp [World.cell?, hp]
    have HI := Lib.hid hi
    have HP := Lib.hid hp
    have HNE := Lib.hid hne
    have S0 := Lib.hid hi.below.size
    have E := Lib.hid (show showP (pre ++ [(k, t)]) = showP pre ++ ((if k = 2 then [10] else []) ++ t) by rw [show_append, show_one])
    clear hi hp hne hpre
    by_cases h2 : k = 2
    · subst h2
      have K1 := Lib.hid (write_any9 w.heap.size w.heap.size (showP pre) [10] X HI.out.bld (by omega) (by simp) S0.out)
      rw [if_pos rfl] at LN
      have LN2 : (showP pre).length + 1 + t.length ≤ 8192 := by simpa [Nat.add_assoc] using LN
      clear LN
      gi_wp2_with (first
        | (gi_at_call 25; (with_reducible refine (CallsIn.inRound l' (callsIn_wide.2 K1.out)).mono ?_); rintro e X1 ⟨⟨v, rfl⟩, b1, b2, b3⟩; clear K1 c0 c1; have hp1 : X1.heap[Bp]? = some (.cells #[.int .u8 2, .string ⟨t.toArray⟩] 26 (0, 0)) := b3 Bp _ HP.out (fun e => HNE.out (by cases e; rfl)) (fun c fz e => by cases e); have c2 : X1.cell? ⟨Bp, 1, none⟩ = some (.string ⟨t.toArray⟩) := (by simp [World.cell?, hp1]); have K2 := Lib.hid (write_any9 w.heap.size w.heap.size (showP pre ++ [10]) t X1 b1 (by rw [List.length_append, List.length_singleton]; omega) (by omega) (by have := S0.out; have := b2.size; omega)); have B2 := Lib.hid b2; have B3 := Lib.hid b3; clear hp1 b1 b2 b3)
        | (gi_at_call 25; (with_reducible refine (CallsIn.inRound l' (callsIn_wide.2 K2.out)).mono ?_); rintro e X2 ⟨⟨v2, rfl⟩, d1, d2, d3⟩; clear K2))
      exact ⟨(others_keeps B2.out.size B3.out).trans (others_keeps d2.size d3), by rw [E.out]; simpa using d1, (HI.out.below.trans B2.out).trans d2⟩
    · have hk : ((k : Int) == 2) = false := by simp; omega
      rw [if_neg h2] at E LN
      rw [List.length_nil] at LN
      have K2 := Lib.hid (write_any9 w.heap.size w.heap.size (showP pre) t X HI.out.bld (by omega) (by omega) S0.out)
      clear h2
      gi_wp2_with (gi_at_call 25; (with_reducible refine (CallsIn.inRound l' (callsIn_wide.2 K2.out)).mono ?_); rintro e X2 ⟨⟨v2, rfl⟩, d1, d2, d3⟩; clear K2)
      exact ⟨others_keeps d2.size d3, by rw [E.out]; simpa using d1, HI.out.below.trans d2⟩
  case done =>
    intro D X hD hi hK
    have S := Lib.hid (Try.Builder_String_any_k w.heap.size w.heap.size (showP xs) X hi.bld hi.below.size)
    gi_wp2_with (gi_at_call 26; (with_reducible refine (callsIn_wide.2 S.out).mono ?_); rintro e X1 ⟨rfl, d1, d2, d3⟩; clear S)
    have hK1 := d3 D _ hK (fun e => by cases e; omega) (fun c fz e => by cases e)
    refine ⟨by simp, .inl ⟨_, _, rfl, run_takeDeferred hK1, ?_⟩⟩
    exact ⟨_, results_tmp rfl _ _ _, rfl, (hi.below.trans d2).trans (belowK_b (w := w) (Nat.le_refl _) X1 D _ _ (by omega) hK1 rfl rfl)⟩
end Go.Proofs.Ytgfiiohglgbdiaa
