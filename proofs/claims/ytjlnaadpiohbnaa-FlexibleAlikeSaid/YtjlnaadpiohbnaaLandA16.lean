/-
  The landed Sizes: what it asks of boxes, boxesOf, lineOf, sizesOf, what settle reads.
-/
import Derived.Test.YtjlnaadpiohbnaaRoundM16
import Derived.Test.YtjlnaadpiohbnaaOpenM16
import Derived.Test.YtjlnaadpiohbnaaRefAsk16
import Derived.Deep.LoopGhost
import Derived.Deep.CutRange
import Derived.Test.YtjlnaadpiohbnaaRely3
import Derived.BigQuiet
import Derived.Deep.QuietTactic
namespace Go.Proofs.Ytjlnaadpiohbnaa

section
open Go.RowKit

theorem Try.infoBx : (Try.prog.info? 61).map (fun i => (i.zero, i.size, i.bytes)) = some (some (.agg #[.int .i64 0, .int .i64 0, .int .i64 0, .int .i64 0, .int .i64 0, .int .i64 0, .int .i64 0, .int .i64 0, .bool false]), 9, 72) := by kernel_rfl
theorem Try.infoBp : (Try.prog.info? 65).map (fun i => (i.zero, i.size, i.bytes)) = some (some (.pointer none), 1, 8) := by kernel_rfl
def bxL (x : It16) (g z : Int) (s : Bool) : List Value := [.int .i64 x.base, .int .i64 x.least, .int .i64 x.most, .int .i64 x.grow, .int .i64 x.shrink, .int .i64 x.outer, .int .i64 g, .int .i64 z, .bool s]
def bxF (X : Nat → It16) (G Z : Nat → Int) (S : Nat → Bool) (k : Nat) : Value := (bxL (X (k / 9)) (G (k / 9)) (Z (k / 9)) (S (k / 9)))[k % 9]?.getD undef
/-- boxes by their numbers: as they were handed in, their goals, their sizes, who is settled -/
def BxB (W : World) (b n : Nat) (X : Nat → It16) (G Z : Nat → Int) (S : Nat → Bool) : Prop := CellsB W b (n * 9) (bxF X G Z S)
theorem bxF_at (X : Nat → It16) (G Z : Nat → Int) (S : Nat → Bool) (i o : Nat) (ho : o < 9) : bxF X G Z S (i * 9 + o) = (bxL (X i) (G i) (Z i) (S i))[o]?.getD undef := by
  unfold bxF
  rw [show (i * 9 + o) / 9 = i by omega, show (i * 9 + o) % 9 = o by omega]
theorem nine {k : Nat} : ∃ i o, k = i * 9 + o ∧ (o = 0 ∨ o = 1 ∨ o = 2 ∨ o = 3 ∨ o = 4 ∨ o = 5 ∨ o = 6 ∨ o = 7 ∨ o = 8) := ⟨k / 9, k % 9, by omega, by omega⟩
def BxAt (W : World) (b off : Nat) (x : It16) (g z : Int) (s : Bool) : Prop :=
  W.cell? ⟨b, off, none⟩ = some (.int .i64 x.base) ∧ W.cell? ⟨b, off + 1, none⟩ = some (.int .i64 x.least) ∧ W.cell? ⟨b, off + 2, none⟩ = some (.int .i64 x.most) ∧ W.cell? ⟨b, off + 3, none⟩ = some (.int .i64 x.grow) ∧ W.cell? ⟨b, off + 4, none⟩ = some (.int .i64 x.shrink) ∧ W.cell? ⟨b, off + 5, none⟩ = some (.int .i64 x.outer) ∧
  W.cell? ⟨b, off + 6, none⟩ = some (.int .i64 g) ∧ W.cell? ⟨b, off + 7, none⟩ = some (.int .i64 z) ∧ W.cell? ⟨b, off + 8, none⟩ = some (.bool s)
section
variable {W W' : World} {b n : Nat} {X Y : Nat → It16} {G Z G' Z' : Nat → Int} {S S' : Nat → Bool}
theorem BxB.lt (h : BxB W b n X G Z S) : b < W.heap.size := CellsB.lt h
theorem BxB.at (h : BxB W b n X G Z S) {i : Nat} (hi : i < n) : BxAt W b (i * 9) (X i) (G i) (Z i) (S i) := by
  have c : ∀ o, o < 9 → W.cell? ⟨b, i * 9 + o, none⟩ = some ((bxL (X i) (G i) (Z i) (S i))[o]?.getD undef) := fun o ho => by rw [← bxF_at X G Z S i o ho]; exact CellsB.cell h (i * 9 + o) (by omega)
  exact ⟨c 0 (by omega), c 1 (by omega), c 2 (by omega), c 3 (by omega), c 4 (by omega), c 5 (by omega), c 6 (by omega), c 7 (by omega), c 8 (by omega)⟩
theorem BxB.fro (h : BxB W b n X G Z S) {i o : Nat} (hi : i < n) (ho : o < 9) : W.frozen? ⟨b, i * 9 + o, none⟩ = false := CellsB.fro h _ (by omega)
theorem BxB.keep (h : BxB W b n X G Z S) (hb : Below W.heap.size W W') : BxB W' b n X G Z S := CellsB.keep h hb
theorem BxB.keepB {B : Nat} (h : BxB W b n X G Z S) (hb : Below B W W') (hl : b < B) : BxB W' b n X G Z S := CellsB.keepB h hb hl
theorem BxB.congr (h : BxB W b n X G Z S) (e1 : ∀ i, i < n → G i = G' i) (e2 : ∀ i, i < n → Z i = Z' i) (e3 : ∀ i, i < n → S i = S' i) : BxB W b n X G' Z' S' :=
  CellsB.congr h (fun k hk => by unfold bxF; rw [e1 _ (by omega), e2 _ (by omega), e3 _ (by omega)])
theorem BxB.setG (h : BxB W b n X G Z S) {j : Nat} (hj : j < n) (u : Int) : BxB (W.setCell ⟨b, j * 9 + 6, none⟩ (.int .i64 u)) b n X (fun i => if i = j then u else G i) Z S := by
  refine CellsB.congr (CellsB.set h (j := j * 9 + 6) (by omega) (.int .i64 u)) (fun k hk => ?_)
  obtain ⟨i, o, rfl, ho⟩ := nine (k := k)
  rw [bxF_at _ _ _ _ _ _ (by omega), bxF_at _ _ _ _ _ _ (by omega)]
  by_cases e : i = j
  · subst e
    rcases ho with rfl | rfl | rfl | rfl | rfl | rfl | rfl | rfl | rfl <;> simp [bxL]
  · rw [if_neg (by omega)]
    simp [e]
theorem BxB.setZ (h : BxB W b n X G Z S) {j : Nat} (hj : j < n) (u : Int) : BxB (W.setCell ⟨b, j * 9 + 7, none⟩ (.int .i64 u)) b n X G (fun i => if i = j then u else Z i) S := by
  refine CellsB.congr (CellsB.set h (j := j * 9 + 7) (by omega) (.int .i64 u)) (fun k hk => ?_)
  obtain ⟨i, o, rfl, ho⟩ := nine (k := k)
  rw [bxF_at _ _ _ _ _ _ (by omega), bxF_at _ _ _ _ _ _ (by omega)]
  by_cases e : i = j
  · subst e
    rcases ho with rfl | rfl | rfl | rfl | rfl | rfl | rfl | rfl | rfl <;> simp [bxL]
  · rw [if_neg (by omega)]
    simp [e]
theorem BxB.setS (h : BxB W b n X G Z S) {j : Nat} (hj : j < n) (u : Bool) : BxB (W.setCell ⟨b, j * 9 + 8, none⟩ (.bool u)) b n X G Z (fun i => if i = j then u else S i) := by
  refine CellsB.congr (CellsB.set h (j := j * 9 + 8) (by omega) (.bool u)) (fun k hk => ?_)
  obtain ⟨i, o, rfl, ho⟩ := nine (k := k)
  rw [bxF_at _ _ _ _ _ _ (by omega), bxF_at _ _ _ _ _ _ (by omega)]
  by_cases e : i = j
  · subst e
    rcases ho with rfl | rfl | rfl | rfl | rfl | rfl | rfl | rfl | rfl <;> simp [bxL]
  · rw [if_neg (by omega)]
    simp [e]
/-- a box written as a whole -/
theorem BxB.put (h : BxB W b n X G Z S) {j : Nat} (hj : j < n) (x : It16) (g z : Int) (s : Bool) :
    BxB (((((((((W.setCell ⟨b, j * 9, none⟩ (.int .i64 x.base)).setCell ⟨b, j * 9 + 1, none⟩ (.int .i64 x.least)).setCell ⟨b, j * 9 + 2, none⟩ (.int .i64 x.most)).setCell ⟨b, j * 9 + 3, none⟩ (.int .i64 x.grow)).setCell ⟨b, j * 9 + 4, none⟩ (.int .i64 x.shrink)).setCell ⟨b, j * 9 + 5, none⟩ (.int .i64 x.outer)).setCell ⟨b, j * 9 + 6, none⟩ (.int .i64 g)).setCell ⟨b, j * 9 + 7, none⟩ (.int .i64 z)).setCell ⟨b, j * 9 + 8, none⟩ (.bool s)) b n
      (fun i => if i = j then x else X i) (fun i => if i = j then g else G i) (fun i => if i = j then z else Z i) (fun i => if i = j then s else S i) := by
  have h0 := CellsB.set h (j := j * 9) (by omega) (.int .i64 x.base)
  have h1 := h0.set (j := j * 9 + 1) (by omega) (.int .i64 x.least)
  have h2 := h1.set (j := j * 9 + 2) (by omega) (.int .i64 x.most)
  have h3 := h2.set (j := j * 9 + 3) (by omega) (.int .i64 x.grow)
  have h4 := h3.set (j := j * 9 + 4) (by omega) (.int .i64 x.shrink)
  have h5 := h4.set (j := j * 9 + 5) (by omega) (.int .i64 x.outer)
  have h6 := h5.set (j := j * 9 + 6) (by omega) (.int .i64 g)
  have h7 := h6.set (j := j * 9 + 7) (by omega) (.int .i64 z)
  have h8 := h7.set (j := j * 9 + 8) (by omega) (.bool s)
  refine CellsB.congr h8 (fun k hk => ?_)
  clear h0 h1 h2 h3 h4 h5 h6 h7 h8
  obtain ⟨i, o, rfl, ho⟩ := nine (k := k)
  rw [bxF_at _ _ _ _ _ _ (by omega), bxF_at _ _ _ _ _ _ (by omega)]
  by_cases e : i = j
  · subst e
    rcases ho with rfl | rfl | rfl | rfl | rfl | rfl | rfl | rfl | rfl <;> simp [bxL]
  · rw [if_neg (by omega), if_neg (by omega), if_neg (by omega), if_neg (by omega), if_neg (by omega), if_neg (by omega), if_neg (by omega), if_neg (by omega), if_neg (by omega)]
    simp [e]
theorem BxB.congrX (h : BxB W b n X G Z S) (e0 : ∀ i, i < n → X i = Y i) (e1 : ∀ i, i < n → G i = G' i) (e2 : ∀ i, i < n → Z i = Z' i) (e3 : ∀ i, i < n → S i = S' i) : BxB W b n Y G' Z' S' :=
  CellsB.congr h (fun k hk => by unfold bxF; rw [e0 _ (by omega), e1 _ (by omega), e2 _ (by omega), e3 _ (by omega)])
end
/-- a line: where its boxes are, the room, whether they grow -/
structure LnAt (W : World) (p b n : Nat) (R : Int) (g : Bool) : Prop where
  lt : p < W.heap.size
  c0 : W.cell? ⟨p, 0, none⟩ = some (.slice (some ⟨b, 0, none⟩) n n)
  c1 : W.cell? ⟨p, 1, none⟩ = some (.int .i64 R)
  c2 : W.cell? ⟨p, 2, none⟩ = some (.bool g)
section
variable {W W' : World} {p b n : Nat} {R : Int} {g : Bool}
theorem LnAt.same (h : LnAt W p b n R g) (e : W'.heap[p]? = W.heap[p]?) (hs : W.heap.size ≤ W'.heap.size) : LnAt W' p b n R g := by
  obtain ⟨h0, h1, h2, h3⟩ := h
  refine ⟨Nat.lt_of_lt_of_le h0 hs, ?_, ?_, ?_⟩
  · unfold World.cell? at h1 ⊢; rwa [e]
  · unfold World.cell? at h2 ⊢; rwa [e]
  · unfold World.cell? at h3 ⊢; rwa [e]
theorem LnAt.keep (h : LnAt W p b n R g) (hb : Below W.heap.size W W') : LnAt W' p b n R g := h.same (hb.block p h.lt) hb.size
theorem LnAt.keepB {B : Nat} (h : LnAt W p b n R g) (hb : Below B W W') (hl : p < B) : LnAt W' p b n R g := h.same (hb.block p hl) hb.size
theorem LnAt.but {B a : Nat} (h : LnAt W p b n R g) (hb : But2 B a a W W') (hn : p ≠ a) : LnAt W' p b n R g := h.same (hb.rest p h.lt hn hn) hb.below.size
end
/-- addresses of boxes, in a row of the call's own -/
def ownsB16 (w : World) (base b : Nat) (v : Value) (l : List Nat) : Prop := w.ownsRow base 65 1 v l.length (l.map (fun i => Value.pointer (some ⟨b, i * 9, none⟩)))
theorem wpList_append_b16 {w : World} {ops : Array Oper} {rest : List Oper} {o : Oper} {a : Act} {Q : Exit → Act → World → Prop} (hgd : o.guard = none) (s x : Operand)
    (ho : o.op = .call { callee := .builtin .append, args := #[s, x], argTypes := #[66, 66] })
    (base b : Nat) (v : Value) (l : List Nat) (hs : a.eval s = v) (hown : ownsB16 w base b v l) (y : Nat) (T : TypeId) (hx : a.eval x = .slice (some ⟨w.heap.size, 0, none⟩) 1 1)
    (hb : l.length ≤ 90000) (hbase : base ≤ w.heap.size)
    (h : ∀ v' w', ownsB16 w' base b v' (l ++ [y]) → Below base w w' → wpList Try.prog ops Q rest (a.put o.dst v') w') :
    wpList Try.prog ops Q (o :: rest) a (w.alloc (.cells #[.pointer (some ⟨b, y * 9, none⟩)] T)) := by
  obtain ⟨i0, hi, hz0, hz1, hz2⟩ := info_parts10 Try.infoBp
  have ha : Below base w (w.alloc (.cells #[.pointer (some ⟨b, y * 9, none⟩)] T)) := (Below.refl _ _).alloc hbase _
  have hown2 : (w.alloc (.cells #[.pointer (some ⟨b, y * 9, none⟩)] T)).ownsRow base 65 1 v l.length (l.map (fun i => Value.pointer (some ⟨b, i * 9, none⟩))) := hown.alloc _
  refine wpList_append_own _ hgd s x 66 ho base 65 i0 (.pointer none) 1 8 Try.underlying66 hi hz0 hz1 hz2 rfl (by decide) v l.length _ hs hown2 ⟨w.heap.size, 0, none⟩ 1 1 [.pointer (some ⟨b, y * 9, none⟩)] hx rfl (fun j u hj => ?_) (fun u hu => by simp at hu; subst hu; rfl) (by unfold maxLen; omega) (by omega) (by have := ha.size; omega) ?_
  · match j, hj with
    | 0, hj => simp at hj; subst hj; simp [Addr.add, World.cell?_alloc_at]
  · intro v' w' hown' hgrow _
    have ho2 : Below base (w.alloc (.cells #[.pointer (some ⟨b, y * 9, none⟩)] T)) w' := (Below.refl base _).grown hgrow (by have := ha.size; omega) (fun k e => by
      rcases hown2.2 with ⟨rfl, _⟩ | ⟨g, cap, cur, rfl, hbg, _⟩
      · cases e
      · cases e; exact hbg)
    refine h v' w' ?_ (ha.trans ho2)
    unfold ownsB16
    rw [List.map_append, List.length_append]
    exact hown'
/-- the addresses of boxes that aren't settled, as cells -/
abbrev OpB16 (W : World) (o b m : Nat) (q : Nat → Nat) : Prop := CellsB W o m (fun k => .pointer (some ⟨b, q k * 9, none⟩))
theorem own_open16 {w : World} {base b : Nat} {v : Value} {S : Nat → Bool} {n : Nat} (h : ownsB16 w base b v (opensL S n)) (hm : 0 < openN S n) : ∃ o c, v = .slice (some ⟨o, 0, none⟩) (openN S n) c ∧ base ≤ o ∧ OpB16 w o b (openN S n) (opA S n) := by
  have h' := h
  unfold ownsB16 at h'
  rw [opensL_len] at h'
  obtain ⟨g, c, rfl, -, -, hB, h5, h6, h7⟩ := own_at h' (by omega)
  refine ⟨g, c, rfl, hB, ⟨h5, fun i hi => h6 i _ ?_, fun i _ => h7 i⟩⟩
  rw [List.getElem?_map]
  unfold opA
  rw [List.getElem?_eq_getElem (by rw [opensL_len]; exact hi)]
  rfl
theorem made_boxes16 (n : Nat) (hn : n ≤ 1000000) (W : World) :
    (Instr.makeSlice 48 (.int .i64 (n : Nat)) (.int .i64 (n : Nat))).run Try.prog W = .ok (.slice (some ⟨W.heap.size, 0, none⟩) n n) (W.alloc (.cells (madeCells #[.int .i64 0, .int .i64 0, .int .i64 0, .int .i64 0, .int .i64 0, .int .i64 0, .int .i64 0, .int .i64 0, .bool false] (n * 9)) 61)) := by
  obtain ⟨i0, hi, hz0, hz1, hz2⟩ := info_parts10 Try.infoBx
  have := run_make (P := Try.prog) W 48 61 i0 _ Try.underlying48 hi hz0 .i64 .i64 (n : Nat) (n : Nat) (by omega) (by omega) (by rw [hz2]; omega) (by omega)
  rw [Int.toNat_natCast, hz1] at this
  exact this
theorem noughts16 (W : World) (n : Nat) : BxB (W.alloc (.cells (madeCells #[.int .i64 0, .int .i64 0, .int .i64 0, .int .i64 0, .int .i64 0, .int .i64 0, .int .i64 0, .int .i64 0, .bool false] (n * 9)) 61)) W.heap.size n (fun _ => itZ) (fun _ => 0) (fun _ => 0) (fun _ => false) := by
  refine ⟨by rw [World.size_alloc]; omega, fun k hk => ?_, fun k hk => by simp⟩
  rw [World.cell?_alloc_new]
  obtain ⟨i, o, rfl, ho⟩ := nine (k := k)
  rw [bxF_at _ _ _ _ _ _ (by omega)]
  unfold madeCells
  have hr : (Array.range (n * 9))[i * 9 + o]? = some (i * 9 + o) := by simp [hk]
  rw [Array.getElem?_map, hr]
  simp only [Option.map_some, List.size_toArray, List.length_cons, List.length_nil]
  rw [show (i * 9 + o) % (0 + 1 + 1 + 1 + 1 + 1 + 1 + 1 + 1 + 1) = o by omega]
  rcases ho with rfl | rfl | rfl | rfl | rfl | rfl | rfl | rfl | rfl <;> rfl
end

section
open Go.RowKit

set_option maxRecDepth 100000 in
theorem first16_ok : FirstOK 13 := by
  intro x w
  have D : Hid (Below w.heap.size w (w.alloc (.cells (tmCells x).toArray 32))) := Lib.hid ((Below.refl _ w).alloc (Nat.le_refl _) _)
  have KC := Lib.hid (fun W => clamp_any x.base x.least x.most W (firstI x) rfl)
  generalize firstI x = y at KC ⊢
  obtain ⟨x0, x1, x2, x3, x4, x5⟩ := x
  unfold tmV
  unfold tmCells at D
  dsimp only at D KC ⊢
  go_enter Try.func13, Try.ntmps13
  go_wp2_with (go_at_call 30; (with_reducible refine (KC.out _).mono ?_); rintro e w5 ⟨rfl, hw⟩; have D5 : Hid (Below w.heap.size w w5) := Lib.hid (by rw [← hw]; exact D.out); clear hw)
  go_ret
  exact ⟨rfl, D5.out⟩
def least5 (x a b c d : Int) : Int := if d < (if c < (if b < (if a < x then a else x) then b else (if a < x then a else x)) then c else (if b < (if a < x then a else x) then b else (if a < x then a else x))) then d else (if c < (if b < (if a < x then a else x) then b else (if a < x then a else x)) then c else (if b < (if a < x then a else x) then b else (if a < x then a else x)))
theorem least5_iff (x a b c d : Int) : least5 x a b c d < 0 ↔ x < 0 ∨ a < 0 ∨ b < 0 ∨ c < 0 ∨ d < 0 := by
  unfold least5
  repeat' split
  all_goals omega
theorem run_least5 {P : Program} (w : World) (ts : Array TypeId) (t : TypeId) (k k1 k2 k3 k4 : IntKind) (x a b c d : Int) : (Builtin.min_ ts t #[.int k x, .int k1 a, .int k2 b, .int k3 c, .int k4 d]).run P w = .ok (.int k (least5 x a b c d)) w := by
  simp [Builtin.min_, Builtin.min2, least5]
attribute [local go_sem] run_least5
theorem badT_split (x : It16) : decide (BadT x) = (decide (least5 x.base x.least x.most x.grow x.shrink < 0) || decide (1000 < max x.grow x.shrink)) := by
  rw [Bool.eq_iff_iff, Bool.or_eq_true, decide_eq_true_eq, decide_eq_true_eq, decide_eq_true_eq, least5_iff]
  unfold BadT
  omega
set_option maxRecDepth 100000 in
set_option maxHeartbeats 4000000 in
theorem isWrong16 (x : It16) (w : World) : Calls Try.prog 23 #[tmV x] w fun e w' => e = .returned (.bool (decide (BadT x))) ∧ Below w.heap.size w w' := by
  have D : Hid (Below w.heap.size w (w.alloc (.cells (tmCells x).toArray 32))) := Lib.hid ((Below.refl _ w).alloc (Nat.le_refl _) _)
  have SP := Lib.hid (badT_split x)
  obtain ⟨r, hr⟩ : ∃ r, decide (BadT x) = r := ⟨_, rfl⟩
  rw [hr] at SP ⊢
  clear hr
  obtain ⟨x0, x1, x2, x3, x4, x5⟩ := x
  unfold tmV
  unfold tmCells at D
  dsimp only at D SP ⊢
  obtain ⟨y, hy⟩ : ∃ y, least5 x0 x1 x2 x3 x4 = y := ⟨_, rfl⟩
  rw [hy] at SP
  obtain ⟨z, hz⟩ : ∃ z, max x3 x4 = z := ⟨_, rfl⟩
  rw [hz] at SP
  by_cases h1 : y < 0
  · have d1 : decide (y < 0) = true := decide_eq_true h1
    have R : Hid (r = true) := Lib.hid (by rw [SP.out, d1]; rfl)
    clear h1 SP
    go_enter Try.func23, Try.ntmps23
    go_wp2_with fail
    go_ret
    exact ⟨by rw [R.out]; rfl, D.out⟩
  · have d1 : decide (y < 0) = false := decide_eq_false h1
    have R : Hid (r = decide (1000 < z)) := Lib.hid (by rw [SP.out, d1]; rfl)
    obtain ⟨q, hq⟩ : ∃ q, decide (1000 < z) = q := ⟨_, rfl⟩
    rw [hq] at R
    clear h1 SP
    go_enter Try.func23, Try.ntmps23
    go_wp2_with fail
    go_ret
    exact ⟨by rw [R.out]; rfl, D.out⟩
abbrev Big16 (x : It16) : Prop := ∀ y ∈ [x.base, x.least, x.most, x.grow, x.shrink, x.outer], -9223372036854775808 ≤ y ∧ y ≤ 9223372036854775807
set_option maxRecDepth 100000 in
set_option maxHeartbeats 4000000 in
theorem isOver16 (x : It16) (w : World) (hbig : Big16 x) : Calls Try.prog 25 #[tmV x] w fun e w' => e = .returned (.bool (decide (¬ FitT x))) ∧ Below w.heap.size w w' := by
  have D : Hid (Below w.heap.size w (w.alloc (.cells (tmCells x).toArray 32))) := Lib.hid ((Below.refl _ w).alloc (Nat.le_refl _) _)
  have FK := Lib.hid (fitT_iff x)
  have HB : Hid (∀ y ∈ [x.base, x.least, x.most, x.outer], -9223372036854775808 ≤ y ∧ y ≤ 9223372036854775807) := Lib.hid (fun y hy => hbig y (by simp at hy ⊢; omega))
  obtain ⟨r, hr⟩ : ∃ r, decide (¬ FitT x) = r := ⟨_, rfl⟩
  rw [hr]
  have HR := Lib.hid hr
  clear hr hbig
  obtain ⟨x0, x1, x2, x3, x4, x5⟩ := x
  unfold tmV
  unfold tmCells at D
  dsimp only at D HB FK ⊢
  go_enter Try.func25, Try.ntmps25
  obtain ⟨w5, hw5⟩ : ∃ w5, w.alloc (.cells #[.int .i64 x0, .int .i64 x1, .int .i64 x2, .int .i64 x3, .int .i64 x4, .int .i64 x5] 32) = w5 := ⟨_, rfl⟩
  obtain ⟨f5, hf5⟩ : ∃ b, decide (∀ y ∈ [x0, x1, x2, x5], Fit y) = b := ⟨_, rfl⟩
  have I5 := Lib.hid (pk_new w5 3 [x0, x1, x2, x5] HB.out)
  have K5 := Lib.hid (fits_any _ _ 4 _ _ I5.out (by simp) f5 ((pk_all [x0, x1, x2, x5]).trans hf5))
  have C5 : Hid (Below w.heap.size w (w5.alloc (.cells #[.int .i64 x0, .int .i64 x1, .int .i64 x2, .int .i64 x5] 3))) := Lib.hid (by
    rw [← hw5]
    exact D.out.alloc D.out.size _)
  have E : Hid (r = !f5) := Lib.hid (by
    rw [← HR.out, ← hf5]
    by_cases h : FitT ⟨x0, x1, x2, x3, x4, x5⟩
    · have h' := FK.out.2 h
      rw [decide_eq_false (fun c => c h), decide_eq_true h']
      rfl
    · have h' : ¬ ∀ y ∈ [x0, x1, x2, x5], Fit y := fun c => h (FK.out.1 c)
      rw [decide_eq_true h, decide_eq_false h']
      rfl)
  subst hw5
  rw [World.size_alloc] at K5
  clear hf5 I5 HB FK HR
  go_wp2_with (go_at_call 24; refine K5.out.mono ?_; rintro e6 w6 ⟨rfl, hw'⟩; have B6 : Hid (Below w.heap.size w w6) := Lib.hid (by rw [← hw']; exact C5.out); clear hw')
  go_ret
  exact ⟨by rw [E.out]; rfl, B6.out⟩
/-- the place of the first of which it is so, or -1 -/
def First16 (P : Prop) (w : World) (e : Ending) (w' : World) : Prop := ∃ r : Int, e = .returned (.int .i64 r) ∧ -1 ≤ r ∧ r ≤ 9223372036854775807 ∧ (0 ≤ r ↔ P) ∧ Below w.heap.size w w'
set_option maxRecDepth 100000 in
set_option maxHeartbeats 4000000 in
theorem indexWrong16 (l : List It16) (v : Value) (w : World) (hv : TmIn w v l) (hn : l.length ≤ 100000) (hbig : ∀ i, i < l.length → Big16 (itA l i)) :
    Calls Try.prog 36 #[v, .func (.func 23) #[] #[]] w (First16 (∃ j, j < l.length ∧ BadT (itA l j)) w) := by
  have HV := Lib.hid hv
  obtain ⟨A, c, rfl, -, -, -⟩ := hv
  obtain ⟨n, en⟩ : ∃ n, l.length = n := ⟨_, rfl⟩
  have HL := Lib.hid en
  rw [en] at HV hn ⊢
  have HG := Lib.hid hbig
  clear en hbig
  go_enter Try.func36, Try.ntmps36
  go_wp2_with fail
  go_loopg [8] n (fun g1 vi wr => ∃ k : Nat, vi = .int .i64 k ∧ k ≤ n ∧ n - k ≤ g1 ∧ Hid (∀ j, j < k → ¬ BadT (itA l j)) ∧ Hid (Below w.heap.size w wr))
  case atStart => exact ⟨0, rfl, by omega, by omega, Lib.hid (fun j hj => by omega), Lib.hid (Below.refl _ _)⟩
  case round =>
    obtain ⟨k, rfl, hk, hg1, P, Bl⟩ := hrel
    obtain ⟨wo, hwo⟩ : ∃ wo, wo = wr := ⟨_, rfl⟩
    subst hwo
    by_cases hlt : k < n
    · have hkz : (k : Int) < n := by omega
      have hk0 : (0 : Int) ≤ k := by omega
      have wi : IntKind.i64.wrap ((k : Int) + 1) = (k : Int) + 1 := IntWalk.i64_in _ (by omega)
      obtain ⟨b, off, c1, e, hbl, -, hk6⟩ := HV.out.get (i := k) (by have := HL.out; omega)
      injection e with e1 e2 e3
      subst e1 e3
      clear e2
      have K6 : TmAt wo b (off + k * 6) (itA l k) := (hk6 k (by have := HL.out; omega)).keep hbl Bl.out
      have FB : Big16 (itA l k) := HG.out k (by have := HL.out; omega)
      have KI := Lib.hid (isWrong16 (itA l k) wo)
      have PE : Hid (¬ BadT (itA l k) → ∀ j, j < k + 1 → ¬ BadT (itA l j)) := Lib.hid (fun he j hj => by
        rcases Nat.lt_or_ge j k with h | h
        · exact P.out j h
        · obtain rfl : j = k := by omega
          exact he)
      have PY2 : Hid (BadT (itA l k) → ∀ W', Below w.heap.size w W' → First16 (∃ j, j < n ∧ BadT (itA l j)) w (.returned (.int .i64 (k : Nat))) W') := Lib.hid (fun he W' hW => ⟨k, rfl, by omega, by omega, ⟨fun _ => ⟨k, hlt, he⟩, fun _ => by omega⟩, hW⟩)
      clear hbl hk6 FB P
      obtain ⟨r, hr⟩ : ∃ r, decide (BadT (itA l k)) = r := ⟨_, rfl⟩
      have HR := Lib.hid hr
      rw [hr] at KI
      clear hr
      generalize itA l k = x at K6 KI PE PY2 HR
      obtain ⟨x0, x1, x2, x3, x4, x5⟩ := x
      unfold TmAt at K6
      unfold tmV at KI
      dsimp only at K6 KI
      obtain ⟨a0, a1, a2, a3, a4, a5⟩ := K6
      go_wp2_with (go_at_call 23; (with_reducible refine KI.out.mono ?_); rintro e5 w5 ⟨rfl, hb⟩; have B5 := Lib.hid (b_nx16 Bl.out hb); clear hb; cases r)
      · have P2 := Lib.hid (PE.out (of_decide_eq_false HR.out))
        clear PE PY2 KI a0 a1 a2 a3 a4 a5
        go_wp2_with fail
        go_roundg (n - (k + 1))
        case measure => omega
        case rel => exact ⟨k + 1, by go_num, by omega, Nat.le_refl _, P2, B5⟩
      · have Y := Lib.hid (PY2.out (of_decide_eq_true HR.out))
        clear PE PY2 KI a0 a1 a2 a3 a4 a5
        go_wp2_with fail
        go_ret
        exact Y.out _ B5.out
    · obtain rfl : k = n := by omega
      have Y : Hid (First16 (∃ j, j < k ∧ BadT (itA l j)) w (.returned (.int .i64 (-1))) wo) := Lib.hid ⟨-1, rfl, by omega, by omega, ⟨fun h => by omega, fun ⟨j, hj, h⟩ => absurd h (P.out j hj)⟩, Bl.out⟩
      have hz : ¬ (k : Int) < k := by omega
      go_wp2_with fail
      go_ret
      exact Y.out
set_option maxRecDepth 100000 in
set_option maxHeartbeats 4000000 in
theorem anyWrong16 (l : List It16) (v : Value) (w : World) (hv : TmIn w v l) (hn : l.length ≤ 100000) (hbig : ∀ i, i < l.length → Big16 (itA l i)) :
    Calls Try.prog 22 #[v, .func (.func 23) #[] #[]] w fun e w' => ∃ r : Bool, e = .returned (.bool r) ∧ (r = true ↔ ∃ j, j < l.length ∧ BadT (itA l j)) ∧ Below w.heap.size w w' := by
  have I := Lib.hid (indexWrong16 l v w hv hn hbig)
  obtain ⟨A, c, rfl, -, -, -⟩ := hv
  clear hn hbig
  go_enter Try.func22, Try.ntmps22
  go_wp2_with (go_at_call 36; refine I.out.mono ?_; rintro e w5 ⟨x, rfl, x1, x2, x3, hb⟩; have X3 := Lib.hid x3; clear x3)
  go_ret
  refine ⟨decide (0 ≤ x), rfl, ?_, hb⟩
  rw [decide_eq_true_eq]
  exact X3.out
set_option maxRecDepth 100000 in
set_option maxHeartbeats 4000000 in
theorem indexOver16 (l : List It16) (v : Value) (w : World) (hv : TmIn w v l) (hn : l.length ≤ 100000) (hbig : ∀ i, i < l.length → Big16 (itA l i)) :
    Calls Try.prog 36 #[v, .func (.func 25) #[] #[]] w (First16 (∃ j, j < l.length ∧ ¬ FitT (itA l j)) w) := by
  have HV := Lib.hid hv
  obtain ⟨A, c, rfl, -, -, -⟩ := hv
  obtain ⟨n, en⟩ : ∃ n, l.length = n := ⟨_, rfl⟩
  have HL := Lib.hid en
  rw [en] at HV hn ⊢
  have HG := Lib.hid hbig
  clear en hbig
  go_enter Try.func36, Try.ntmps36
  go_wp2_with fail
  go_loopg [8] n (fun g1 vi wr => ∃ k : Nat, vi = .int .i64 k ∧ k ≤ n ∧ n - k ≤ g1 ∧ Hid (∀ j, j < k → ¬ ¬ FitT (itA l j)) ∧ Hid (Below w.heap.size w wr))
  case atStart => exact ⟨0, rfl, by omega, by omega, Lib.hid (fun j hj => by omega), Lib.hid (Below.refl _ _)⟩
  case round =>
    obtain ⟨k, rfl, hk, hg1, P, Bl⟩ := hrel
    obtain ⟨wo, hwo⟩ : ∃ wo, wo = wr := ⟨_, rfl⟩
    subst hwo
    by_cases hlt : k < n
    · have hkz : (k : Int) < n := by omega
      have hk0 : (0 : Int) ≤ k := by omega
      have wi : IntKind.i64.wrap ((k : Int) + 1) = (k : Int) + 1 := IntWalk.i64_in _ (by omega)
      obtain ⟨b, off, c1, e, hbl, -, hk6⟩ := HV.out.get (i := k) (by have := HL.out; omega)
      injection e with e1 e2 e3
      subst e1 e3
      clear e2
      have K6 : TmAt wo b (off + k * 6) (itA l k) := (hk6 k (by have := HL.out; omega)).keep hbl Bl.out
      have FB : Big16 (itA l k) := HG.out k (by have := HL.out; omega)
      have KI := Lib.hid (isOver16 (itA l k) wo FB)
      have PE : Hid (¬ ¬ FitT (itA l k) → ∀ j, j < k + 1 → ¬ ¬ FitT (itA l j)) := Lib.hid (fun he j hj => by
        rcases Nat.lt_or_ge j k with h | h
        · exact P.out j h
        · obtain rfl : j = k := by omega
          exact he)
      have PY2 : Hid (¬ FitT (itA l k) → ∀ W', Below w.heap.size w W' → First16 (∃ j, j < n ∧ ¬ FitT (itA l j)) w (.returned (.int .i64 (k : Nat))) W') := Lib.hid (fun he W' hW => ⟨k, rfl, by omega, by omega, ⟨fun _ => ⟨k, hlt, he⟩, fun _ => by omega⟩, hW⟩)
      clear hbl hk6 FB P
      obtain ⟨r, hr⟩ : ∃ r, decide (¬ FitT (itA l k)) = r := ⟨_, rfl⟩
      have HR := Lib.hid hr
      rw [hr] at KI
      clear hr
      generalize itA l k = x at K6 KI PE PY2 HR
      obtain ⟨x0, x1, x2, x3, x4, x5⟩ := x
      unfold TmAt at K6
      unfold tmV at KI
      dsimp only at K6 KI
      obtain ⟨a0, a1, a2, a3, a4, a5⟩ := K6
      go_wp2_with (go_at_call 25; (with_reducible refine KI.out.mono ?_); rintro e5 w5 ⟨rfl, hb⟩; have B5 := Lib.hid (b_nx16 Bl.out hb); clear hb; cases r)
      · have P2 := Lib.hid (PE.out (of_decide_eq_false HR.out))
        clear PE PY2 KI a0 a1 a2 a3 a4 a5
        go_wp2_with fail
        go_roundg (n - (k + 1))
        case measure => omega
        case rel => exact ⟨k + 1, by go_num, by omega, Nat.le_refl _, P2, B5⟩
      · have Y := Lib.hid (PY2.out (of_decide_eq_true HR.out))
        clear PE PY2 KI a0 a1 a2 a3 a4 a5
        go_wp2_with fail
        go_ret
        exact Y.out _ B5.out
    · obtain rfl : k = n := by omega
      have Y : Hid (First16 (∃ j, j < k ∧ ¬ FitT (itA l j)) w (.returned (.int .i64 (-1))) wo) := Lib.hid ⟨-1, rfl, by omega, by omega, ⟨fun h => by omega, fun ⟨j, hj, h⟩ => absurd h (P.out j hj)⟩, Bl.out⟩
      have hz : ¬ (k : Int) < k := by omega
      go_wp2_with fail
      go_ret
      exact Y.out
set_option maxRecDepth 100000 in
set_option maxHeartbeats 4000000 in
theorem anyOver16 (l : List It16) (v : Value) (w : World) (hv : TmIn w v l) (hn : l.length ≤ 100000) (hbig : ∀ i, i < l.length → Big16 (itA l i)) :
    Calls Try.prog 22 #[v, .func (.func 25) #[] #[]] w fun e w' => ∃ r : Bool, e = .returned (.bool r) ∧ (r = true ↔ ∃ j, j < l.length ∧ ¬ FitT (itA l j)) ∧ Below w.heap.size w w' := by
  have I := Lib.hid (indexOver16 l v w hv hn hbig)
  obtain ⟨A, c, rfl, -, -, -⟩ := hv
  clear hn hbig
  go_enter Try.func22, Try.ntmps22
  go_wp2_with (go_at_call 36; refine I.out.mono ?_; rintro e w5 ⟨x, rfl, x1, x2, x3, hb⟩; have X3 := Lib.hid x3; clear x3)
  go_ret
  refine ⟨decide (0 ≤ x), rfl, ?_, hb⟩
  rw [decide_eq_true_eq]
  exact X3.out
end

section
open Go.RowKit

set_option maxRecDepth 100000 in
set_option maxHeartbeats 8000000 in
theorem boxes16 (l : List It16) (v : Value) (w : World) (hv : TmIn w v l) (hn : l.length ≤ 2048) :
    Calls Try.prog 26 #[v] w fun e w' => ∃ b, e = .returned (.slice (some ⟨b, 0, none⟩) l.length l.length) ∧ w.heap.size ≤ b ∧ BxB w' b l.length (itA l) (fun _ => 0) (out0 l) (fun _ => false) ∧ Below w.heap.size w w' := by
  have HV := Lib.hid hv
  obtain ⟨A, c, rfl, -, -, -⟩ := hv
  obtain ⟨n, en⟩ : ∃ n, l.length = n := ⟨_, rfl⟩
  have HL := Lib.hid en
  rw [en] at HV hn ⊢
  clear en
  have hmk := made_boxes16 n (by omega) w
  have M0 := Lib.hid (noughts16 w n)
  have B0 : Hid (Below w.heap.size w (w.alloc (.cells (madeCells #[.int .i64 0, .int .i64 0, .int .i64 0, .int .i64 0, .int .i64 0, .int .i64 0, .int .i64 0, .int .i64 0, .bool false] (n * 9)) 61))) := Lib.hid ((Below.refl _ w).alloc (Nat.le_refl _) _)
  generalize w.alloc (.cells (madeCells #[.int .i64 0, .int .i64 0, .int .i64 0, .int .i64 0, .int .i64 0, .int .i64 0, .int .i64 0, .int .i64 0, .bool false] (n * 9)) 61) = w1 at hmk M0 B0
  obtain ⟨b, hb⟩ : ∃ b, w.heap.size = b := ⟨_, rfl⟩
  have HB := Lib.hid hb
  rw [hb] at hmk M0
  clear hb
  go_enter Try.func26, Try.ntmps26
  go_wp2_with fail
  clear hmk
  go_loopg [11] n (fun g1 vi wr => ∃ k : Nat, vi = .int .i64 k ∧ k ≤ n ∧ n - k ≤ g1 ∧ Hid (BxB wr b n (fun i => if i < k then itA l i else itZ) (fun _ => 0) (fun i => if i < k then out0 l i else 0) (fun _ => false)) ∧ Hid (Below w.heap.size w wr))
  case atStart => exact ⟨0, rfl, by omega, by omega, Lib.hid (BxB.congrX M0.out (fun i _ => by simp) (fun i _ => rfl) (fun i _ => by simp) (fun i _ => rfl)), B0⟩
  case round =>
    obtain ⟨k, rfl, hk, hg1, M, Bl⟩ := hrel
    obtain ⟨wo, hwo⟩ : ∃ wo, wo = wr := ⟨_, rfl⟩
    subst hwo
    clear M0 B0
    by_cases hlt : k < n
    · have hkz : (k : Int) < n := by omega
      have hk0 : (0 : Int) ≤ k := by omega
      have wi : IntKind.i64.wrap ((k : Int) + 1) = (k : Int) + 1 := IntWalk.i64_in _ (by omega)
      obtain ⟨bb, off, c1, e, hbl, -, hk6⟩ := HV.out.get (i := k) (by have := HL.out; omega)
      injection e with e1 e2 e3
      subst e1 e3
      clear e2
      have K6 : TmAt wo bb (off + k * 6) (itA l k) := (hk6 k (by have := HL.out; omega)).keep hbl Bl.out
      have KI := Lib.hid (fun W => first16_ok (itA l k) W)
      have D : Hid (Below wo.heap.size wo (wo.alloc (.cells (tmCells (itA l k)).toArray 32))) := Lib.hid ((Below.refl _ wo).alloc (Nat.le_refl _) _)
      have DA : Hid (TmAt (wo.alloc (.cells (tmCells (itA l k)).toArray 32)) wo.heap.size 0 (itA l k)) := Lib.hid (TmAt.of (fun i u _ hu => by rw [Nat.zero_add, World.cell?_alloc_new, List.getElem?_toArray]; exact hu))
      have LT : Hid (wo.heap.size < (wo.alloc (.cells (tmCells (itA l k)).toArray 32)).heap.size) := Lib.hid (by rw [World.size_alloc]; omega)
      have NX : Hid (∀ W', BxB W' b n (fun i => if i = k then itA l k else if i < k then itA l i else itZ) (fun i => if i = k then 0 else 0) (fun i => if i = k then firstI (itA l k) else if i < k then out0 l i else 0) (fun i => if i = k then false else false) → BxB W' b n (fun i => if i < k + 1 then itA l i else itZ) (fun _ => 0) (fun i => if i < k + 1 then out0 l i else 0) (fun _ => false)) := Lib.hid (fun W' h => BxB.congrX h
        (fun i _ => by
          by_cases e : i = k
          · subst e; rw [if_pos rfl, if_pos (by omega)]
          · by_cases h : i < k
            · rw [if_neg e, if_pos h, if_pos (by omega)]
            · rw [if_neg e, if_neg h, if_neg (by omega)])
        (fun i _ => by split <;> rfl)
        (fun i _ => by
          by_cases e : i = k
          · subst e; rw [if_pos rfl, if_pos (by omega)]; rfl
          · by_cases h : i < k
            · rw [if_neg e, if_pos h, if_pos (by omega)]
            · rw [if_neg e, if_neg h, if_neg (by omega)])
        (fun i _ => by split <;> rfl))
      clear hbl hk6
      generalize firstI (itA l k) = fi at KI NX
      generalize itA l k = x at K6 KI D DA LT NX
      obtain ⟨x0, x1, x2, x3, x4, x5⟩ := x
      unfold TmAt at K6 DA
      unfold tmV at KI
      unfold tmCells at D DA LT
      dsimp only at K6 KI D DA LT
      obtain ⟨a0, a1, a2, a3, a4, a5⟩ := K6
      go_upto_region 5 with fail
      generalize wo.alloc (.cells #[.int .i64 x0, .int .i64 x1, .int .i64 x2, .int .i64 x3, .int .i64 x4, .int .i64 x5] 32) = wn at D DA LT ⊢
      have BN := Lib.hid (b_nx16 Bl.out D.out)
      have MN : Hid _ := Lib.hid (M.out.keep D.out)
      clear D M Bl a0 a1 a2 a3 a4 a5
      generalize wo.heap.size = gn at DA LT ⊢
      have CT : Hid (∀ W, Below wn.heap.size wn W → TmAt W gn 0 ⟨x0, x1, x2, x3, x4, x5⟩) := Lib.hid (fun W hW => TmAt.keep DA.out LT.out hW)
      unfold TmAt at CT
      simp only [Nat.zero_add] at CT
      clear DA LT HV
      refine' wp_region_last [opV (.slice (some ⟨b, 0, none⟩) n n), opV (.int .i64 (k : Nat)), opV (.agg #[.int .i64 x0, .int .i64 x1, .int .i64 x2, .int .i64 x3, .int .i64 x4, .int .i64 x5]), opV (.agg #[.int .i64 x0, .int .i64 x1, .int .i64 x2, .int .i64 x3, .int .i64 x4, .int .i64 x5]), opV (.int .i64 fi), opV (.agg #[.int .i64 x0, .int .i64 x1, .int .i64 x2, .int .i64 x3, .int .i64 x4, .int .i64 x5, .int .i64 0, .int .i64 fi, .bool false]), opV (.pointer (some ⟨b, k * 9, none⟩))] 7 _ rfl (by kernel_rfl) rfl (by kernel_rfl) ⟨?s0, ?s1, ?s2, ?s3, ?s4, ?s5, ?s6, trivial⟩ rfl ?fin
      case s0 =>
        refine BStep.of [] [] (opV (.slice (some ⟨b, 0, none⟩) n n)) (by kernel_rfl) (fun _ _ => by kernel_rfl) rfl ?_
        intro vs wv hB hA
        clear hA
        simp only [fillP]
        have ct := CT.out wv hB; have a0 := ct.1; have a1 := ct.2.1; have a2 := ct.2.2.1; have a3 := ct.2.2.2.1; have a4 := ct.2.2.2.2.1; have a5 := ct.2.2.2.2.2; clear ct CT NX MN BN HL HB; go_wp2_with fail; exact postB_val (by first | rfl | simp) (Below.refl _ _)
      case s1 =>
        refine BStep.of [] [] (opV (.int .i64 (k : Nat))) (by kernel_rfl) (fun _ _ => by kernel_rfl) rfl ?_
        intro vs wv hB hA
        clear hA
        simp only [fillP]
        have ct := CT.out wv hB; have a0 := ct.1; have a1 := ct.2.1; have a2 := ct.2.2.1; have a3 := ct.2.2.2.1; have a4 := ct.2.2.2.2.1; have a5 := ct.2.2.2.2.2; clear ct CT NX MN BN HL HB; go_wp2_with fail; exact postB_val (by first | rfl | simp) (Below.refl _ _)
      case s2 =>
        refine BStep.of [] [] (opV (.agg #[.int .i64 x0, .int .i64 x1, .int .i64 x2, .int .i64 x3, .int .i64 x4, .int .i64 x5])) (by kernel_rfl) (fun _ _ => by kernel_rfl) rfl ?_
        intro vs wv hB hA
        clear hA
        simp only [fillP]
        have ct := CT.out wv hB; have a0 := ct.1; have a1 := ct.2.1; have a2 := ct.2.2.1; have a3 := ct.2.2.2.1; have a4 := ct.2.2.2.2.1; have a5 := ct.2.2.2.2.2; clear ct CT NX MN BN HL HB; go_wp2_with fail; exact postB_val (by first | rfl | simp) (Below.refl _ _)
      case s3 =>
        refine BStep.of [] [] (opV (.agg #[.int .i64 x0, .int .i64 x1, .int .i64 x2, .int .i64 x3, .int .i64 x4, .int .i64 x5])) (by kernel_rfl) (fun _ _ => by kernel_rfl) rfl ?_
        intro vs wv hB hA
        clear hA
        simp only [fillP]
        have ct := CT.out wv hB; have a0 := ct.1; have a1 := ct.2.1; have a2 := ct.2.2.1; have a3 := ct.2.2.2.1; have a4 := ct.2.2.2.2.1; have a5 := ct.2.2.2.2.2; clear ct CT NX MN BN HL HB; go_wp2_with fail; exact postB_val (by first | rfl | simp) (Below.refl _ _)
      case s4 =>
        refine BStep.of [3] [(19, 3)] (opV (.int .i64 fi)) (by kernel_rfl) (fun _ _ => by kernel_rfl) rfl ?_
        intro vs wv hB hA
        have h3 : vs 3 = _ := hA.1
        clear hA
        simp only [fillP, List.setIfInBounds_toArray, List.set_cons_zero, List.set_cons_succ, h3]
        clear CT NX MN BN HL HB; (go_wp2_with (go_at_call 13; (with_reducible refine (KI.out _).mono ?_); rintro e w7 ⟨rfl, hb⟩)); exact postB_val rfl hb
      case s5 =>
        refine BStep.of [2, 4] [(18, 2), (20, 4)] (opV (.agg #[.int .i64 x0, .int .i64 x1, .int .i64 x2, .int .i64 x3, .int .i64 x4, .int .i64 x5, .int .i64 0, .int .i64 fi, .bool false])) (by kernel_rfl) (fun _ _ => by kernel_rfl) rfl ?_
        intro vs wv hB hA
        have h2 : vs 2 = _ := hA.1
        have h4 : vs 4 = _ := hA.2.1
        clear hA
        simp only [fillP, List.setIfInBounds_toArray, List.set_cons_zero, List.set_cons_succ, h2, h4]
        have ct := CT.out wv hB; have a0 := ct.1; have a1 := ct.2.1; have a2 := ct.2.2.1; have a3 := ct.2.2.2.1; have a4 := ct.2.2.2.2.1; have a5 := ct.2.2.2.2.2; clear ct CT NX MN BN HL HB; go_wp2_with fail; exact postB_val (by first | rfl | simp) (Below.refl _ _)
      case s6 =>
        refine BStep.of [0, 1, 2, 3, 4, 5] [(16, 0), (17, 1), (18, 2), (19, 3), (20, 4), (21, 5)] (opV (.pointer (some ⟨b, k * 9, none⟩))) (by kernel_rfl) (fun _ _ => by kernel_rfl) rfl ?_
        intro vs wv hB hA
        have h0 : vs 0 = _ := hA.1
        have h1 : vs 1 = _ := hA.2.1
        have h2 : vs 2 = _ := hA.2.2.1
        have h3 : vs 3 = _ := hA.2.2.2.1
        have h4 : vs 4 = _ := hA.2.2.2.2.1
        have h5 : vs 5 = _ := hA.2.2.2.2.2.1
        clear hA
        simp only [fillP, List.setIfInBounds_toArray, List.set_cons_zero, List.set_cons_succ, h0, h1, h2, h3, h4, h5]
        have ct := CT.out wv hB; have a0 := ct.1; have a1 := ct.2.1; have a2 := ct.2.2.1; have a3 := ct.2.2.2.1; have a4 := ct.2.2.2.2.1; have a5 := ct.2.2.2.2.2; clear ct CT NX MN BN HL HB; go_wp2_with fail; exact postB_val (by first | rfl | simp) (Below.refl _ _)
      case fin =>
        refine last_of [0, 1, 2, 3, 4, 5, 6] [(16, 0), (17, 1), (18, 2), (19, 3), (20, 4), (21, 5), (22, 6)] (by kernel_rfl) (fun _ _ => by kernel_rfl) ?_
        intro vs wv hB hA
        have h0 : vs 0 = _ := hA.1
        have h1 : vs 1 = _ := hA.2.1
        have h2 : vs 2 = _ := hA.2.2.1
        have h3 : vs 3 = _ := hA.2.2.2.1
        have h4 : vs 4 = _ := hA.2.2.2.2.1
        have h5 : vs 5 = _ := hA.2.2.2.2.2.1
        have h6 : vs 6 = _ := hA.2.2.2.2.2.2.1
        clear hA
        simp only [fillP, List.setIfInBounds_toArray, List.set_cons_zero, List.set_cons_succ, h0, h1, h2, h3, h4, h5, h6]
        have MV := Lib.hid (MN.out.keep hB); have BV := Lib.hid (b_nx16 BN.out hB); clear MN BN CT KI hB
        obtain ⟨c0, c1, c2, c3, c4, c5, c6, c7, c8⟩ := MV.out.at hlt
        have f0 : wv.frozen? ⟨b, k * 9, none⟩ = false := MV.out.fro hlt (show 0 < 9 by omega)
        have f1 := MV.out.fro hlt (show 1 < 9 by omega)
        have f2 := MV.out.fro hlt (show 2 < 9 by omega)
        have f3 := MV.out.fro hlt (show 3 < 9 by omega)
        have f4 := MV.out.fro hlt (show 4 < 9 by omega)
        have f5 := MV.out.fro hlt (show 5 < 9 by omega)
        have f6 := MV.out.fro hlt (show 6 < 9 by omega)
        have f7 := MV.out.fro hlt (show 7 < 9 by omega)
        have f8 := MV.out.fro hlt (show 8 < 9 by omega)
        have PT := Lib.hid (NX.out _ (MV.out.put hlt ⟨x0, x1, x2, x3, x4, x5⟩ 0 fi false))
        clear NX MV
        have BS : Hid (Below w.heap.size w (((((((((wv.setCell ⟨b, k * 9, none⟩ (.int .i64 x0)).setCell ⟨b, k * 9 + 1, none⟩ (.int .i64 x1)).setCell ⟨b, k * 9 + 2, none⟩ (.int .i64 x2)).setCell ⟨b, k * 9 + 3, none⟩ (.int .i64 x3)).setCell ⟨b, k * 9 + 4, none⟩ (.int .i64 x4)).setCell ⟨b, k * 9 + 5, none⟩ (.int .i64 x5)).setCell ⟨b, k * 9 + 6, none⟩ (.int .i64 0)).setCell ⟨b, k * 9 + 7, none⟩ (.int .i64 fi)).setCell ⟨b, k * 9 + 8, none⟩ (.bool false))) := Lib.hid (by
          have hg : w.heap.size ≤ b := by rw [HB.out]; exact Nat.le_refl _
          exact ((((((((BV.out.setCell (p := ⟨b, k * 9, none⟩) hg _).setCell (p := ⟨b, k * 9 + 1, none⟩) hg _).setCell (p := ⟨b, k * 9 + 2, none⟩) hg _).setCell (p := ⟨b, k * 9 + 3, none⟩) hg _).setCell (p := ⟨b, k * 9 + 4, none⟩) hg _).setCell (p := ⟨b, k * 9 + 5, none⟩) hg _).setCell (p := ⟨b, k * 9 + 6, none⟩) hg _).setCell (p := ⟨b, k * 9 + 7, none⟩) hg _).setCell (p := ⟨b, k * 9 + 8, none⟩) hg _)
        clear BV
        go_wp2_with fail
        go_roundg (n - (k + 1))
        case measure => omega
        case rel => exact ⟨k + 1, by go_num, by omega, Nat.le_refl _, PT, BS⟩
    · obtain rfl : k = n := by omega
      have hz : ¬ (k : Int) < k := by omega
      have MF : Hid (BxB wo b k (itA l) (fun _ => 0) (out0 l) (fun _ => false)) := Lib.hid (BxB.congrX M.out (fun i hi => if_pos hi) (fun _ _ => rfl) (fun i hi => if_pos hi) (fun _ _ => rfl))
      clear M
      go_wp2_with fail
      go_ret
      exact ⟨b, rfl, by rw [HB.out]; exact Nat.le_refl _, MF.out, Bl.out⟩
theorem cells9 {W W' : World} {b off : Nat} {x : It16} {g z : Int} {s : Bool} (h : BxAt W b off x g z s) (hl : b < W.heap.size) (hb : Below W.heap.size W W') : BxAt W' b off x g z s := by
  obtain ⟨h0, h1, h2, h3, h4, h5, h6, h7, h8⟩ := h
  exact ⟨(hb.cell (p := ⟨b, off, none⟩) hl).trans h0, (hb.cell (p := ⟨b, off + 1, none⟩) hl).trans h1, (hb.cell (p := ⟨b, off + 2, none⟩) hl).trans h2, (hb.cell (p := ⟨b, off + 3, none⟩) hl).trans h3, (hb.cell (p := ⟨b, off + 4, none⟩) hl).trans h4, (hb.cell (p := ⟨b, off + 5, none⟩) hl).trans h5, (hb.cell (p := ⟨b, off + 6, none⟩) hl).trans h6, (hb.cell (p := ⟨b, off + 7, none⟩) hl).trans h7, (hb.cell (p := ⟨b, off + 8, none⟩) hl).trans h8⟩
/-- what is left behind the first so many -/
def roomP (l : List It16) (gap room : Int) (k : Nat) : Int := room - aroundI l gap k
theorem roomP_succ (l : List It16) (gap room : Int) (k : Nat) : roomP l gap room (k + 1) = (if 0 < k then roomP l gap room k - gap else roomP l gap room k) - (itA l k).outer := by
  unfold roomP
  rw [around_succ]
  split <;> omega
set_option maxRecDepth 100000 in
set_option maxHeartbeats 8000000 in
theorem line16 (l : List It16) (gap room : Int) (b n : Nat) (w : World) (h : BxB w b n (itA l) (fun _ => 0) (out0 l) (fun _ => false)) (hl : l.length = n) (ha : askT l gap room = 0) :
    Calls Try.prog 27 #[.slice (some ⟨b, 0, none⟩) n n, .int .i64 gap, .int .i64 room] w fun e w' => ∃ p, e = .returned (.pointer (some ⟨p, 0, none⟩)) ∧ w.heap.size ≤ p ∧ LnAt w' p b n (room - aroundI l gap n) (growI l n gap room) ∧ Below w.heap.size w w' := by
  obtain ⟨hn', hgap, hroom, hI⟩ := askT_ok ha
  rw [hl] at hn' hI
  have H := Lib.hid h
  have HI := Lib.hid hI
  have AB := Lib.hid (fun k (hk : k ≤ n) => around_bd2 (l := l) (gap := gap) (k := k) (by omega) hgap (fun i hi => (hI i (by omega)).2))
  have LB := Lib.hid (fun k (hk : k ≤ n) => all_bd2 (l := l) (k := k) (by omega) (fun i hi => (hI i (by omega)).1))
  clear h hI ha hl
  go_enter Try.func27, Try.ntmps27
  go_wp2_with fail
  go_loopg [2, 7, 12] n (fun g1 vr vf vi wr => ∃ k : Nat, vi = .int .i64 k ∧ vr = .int .i64 (roomP l gap room k) ∧ vf = .int .i64 (allI l k) ∧ k ≤ n ∧ n - k ≤ g1 ∧ Hid (Below w.heap.size w wr))
  case atStart => exact ⟨0, rfl, by simp [roomP, aroundI, sumB], rfl, by omega, by omega, Lib.hid (Below.refl _ _)⟩
  case round =>
    obtain ⟨k, rfl, rfl, rfl, hk, hg1, Bl⟩ := hrel
    obtain ⟨wo, hwo⟩ : ∃ wo, wo = wr := ⟨_, rfl⟩
    subst hwo
    by_cases hlt : k < n
    · have hkz : (k : Int) < n := by omega
      have hk0 : (0 : Int) ≤ k := by omega
      have wi : IntKind.i64.wrap ((k : Int) + 1) = (k : Int) + 1 := IntWalk.i64_in _ (by omega)
      obtain ⟨c0, c1, c2, c3, c4, c5, c6, c7, c8⟩ := (H.out.keep Bl.out).at hlt
      have a0 := AB.out k (by omega)
      have a1 := AB.out (k + 1) (by omega)
      have b0 := LB.out k (by omega)
      have b1 := LB.out (k + 1) (by omega)
      have EA := Lib.hid (roomP_succ l gap room k)
      have EB : Hid (allI l (k + 1) = allI l k + out0 l k) := Lib.hid rfl
      have OX := (HI.out k hlt).2
      rw [EB.out] at b1
      have r1 : roomP l gap room k = room - aroundI l gap k := rfl
      have r2 : roomP l gap room (k + 1) = room - aroundI l gap (k + 1) := rfl
      generalize roomP l gap room k = rk at r1 EA ⊢
      obtain ⟨rk2, hrk2⟩ : ∃ y, roomP l gap room (k + 1) = y := ⟨_, rfl⟩
      rw [hrk2] at r2 EA
      have EK := Lib.hid hrk2
      clear hrk2
      generalize aroundI l gap k = ar at a0 r1
      generalize aroundI l gap (k + 1) = ar2 at a1 r2
      generalize allI l k = al at b0 b1 EB ⊢
      generalize out0 l k = fi at c7 b1 EB
      generalize itA l k = x at c0 c1 c2 c3 c4 c5 EA OX
      obtain ⟨x0, x1, x2, x3, x4, x5⟩ := x
      dsimp only at c0 c1 c2 c3 c4 c5 EA OX
      have wf : IntKind.i64.wrap (al + fi) = al + fi := IntWalk.i64_in _ (by omega)
      have D : Hid (Below w.heap.size w (wo.alloc (.cells #[.int .i64 x0, .int .i64 x1, .int .i64 x2, .int .i64 x3, .int .i64 x4, .int .i64 x5, .int .i64 0, .int .i64 fi, .bool false] 61))) := Lib.hid (Bl.out.alloc Bl.out.size _)
      by_cases hk1 : 0 < k
      · have d1 : decide ((0 : Int) < k) = true := decide_eq_true (by omega)
        have d2 : decide (0 < k) = true := decide_eq_true hk1
        have e1 := EA.out
        rw [if_pos hk1] at e1
        have wg : IntKind.i64.wrap (rk - gap) = rk - gap := IntWalk.i64_in _ (by omega)
        have wo1 : IntKind.i64.wrap (rk - gap - x5) = rk - gap - x5 := IntWalk.i64_in _ (by omega)
        have E2 := Lib.hid e1
        clear e1 EA a0 a1 b0 b1 r1 r2 OX hk1 hgap hroom
        go_wp2_with fail
        go_roundg (n - (k + 1))
        case measure => omega
        case rel => exact ⟨k + 1, by go_num, by rw [EK.out, E2.out], by rw [EB.out], by omega, Nat.le_refl _, D⟩
      · have d1 : decide ((0 : Int) < k) = false := decide_eq_false (by omega)
        have d2 : decide (0 < k) = false := decide_eq_false hk1
        have e1 := EA.out
        rw [if_neg hk1] at e1
        have wo1 : IntKind.i64.wrap (rk - x5) = rk - x5 := IntWalk.i64_in _ (by omega)
        have E2 := Lib.hid e1
        clear e1 EA a0 a1 b0 b1 r1 r2 OX hk1 hgap hroom
        go_wp2_with fail
        go_roundg (n - (k + 1))
        case measure => omega
        case rel => exact ⟨k + 1, by go_num, by rw [EK.out, E2.out], by rw [EB.out], by omega, Nat.le_refl _, D⟩
    · obtain rfl : k = n := by omega
      have hz : ¬ (k : Int) < k := by omega
      have GR : Hid (growI l k gap room = decide (allI l k < roomP l gap room k)) := Lib.hid (by
        unfold growI roomP
        exact decide_eq_decide.2 (by omega))
      obtain ⟨q, hq⟩ : ∃ q, decide (allI l k < roomP l gap room k) = q := ⟨_, rfl⟩
      rw [hq] at GR
      have RP : Hid (roomP l gap room k = room - aroundI l gap k) := Lib.hid rfl
      generalize roomP l gap room k = rk at hq RP ⊢
      generalize allI l k = al at hq ⊢
      clear AB LB HI
      have BN : Hid (Below w.heap.size w (wo.alloc (.cells #[.slice (some ⟨b, 0, none⟩) k k, .int .i64 rk, .bool q] 63))) := Lib.hid (Bl.out.alloc Bl.out.size _)
      have LA : Hid (LnAt (wo.alloc (.cells #[.slice (some ⟨b, 0, none⟩) k k, .int .i64 rk, .bool q] 63)) wo.heap.size b k rk q) := Lib.hid ⟨by rw [World.size_alloc]; omega, by rw [World.cell?_alloc_new]; rfl, by rw [World.cell?_alloc_new]; rfl, by rw [World.cell?_alloc_new]; rfl⟩
      go_wp2_with fail
      go_ret
      exact ⟨wo.heap.size, rfl, Bl.out.size, by rw [← RP.out, GR.out]; exact LA.out, BN.out⟩
set_option maxRecDepth 100000 in
set_option maxHeartbeats 8000000 in
theorem sizes16_of (b n : Nat) (X : Nat → It16) (G Z : Nat → Int) (S : Nat → Bool) (w : World) (h : BxB w b n X G Z S) (hn : n ≤ 2048) :
    Calls Try.prog 29 #[.slice (some ⟨b, 0, none⟩) n n] w fun e w' => ∃ g, e = .returned (.slice (some ⟨g, 0, none⟩) n n) ∧ w.heap.size ≤ g ∧ Whole w' g 3 (cellsOf .i64 n Z) ∧ Below w.heap.size w w' := by
  have H := Lib.hid h
  have hmk := make_ints n (by omega) w
  have M0 : Hid (Whole (w.alloc (.cells (cellsOf .i64 n (fun _ => 0)) 3)) w.heap.size 3 (cellsOf .i64 n (fun _ => 0))) := Lib.hid (Whole.new w _ _)
  have B0 : Hid (Below w.heap.size w (w.alloc (.cells (cellsOf .i64 n (fun _ => 0)) 3))) := Lib.hid ((Below.refl _ w).alloc (Nat.le_refl _) _)
  generalize w.alloc (.cells (cellsOf .i64 n (fun _ => 0)) 3) = w1 at hmk M0 B0
  obtain ⟨g, hg⟩ : ∃ g, w.heap.size = g := ⟨_, rfl⟩
  have HG := Lib.hid hg
  rw [hg] at hmk M0
  clear hg h
  go_enter Try.func29, Try.ntmps29
  go_wp2_with fail
  clear hmk
  go_loopg [11] n (fun g1 vi wr => ∃ k : Nat, vi = .int .i64 k ∧ k ≤ n ∧ n - k ≤ g1 ∧ Hid (Whole wr g 3 (cellsOf .i64 n (fun i => if i < k then Z i else 0))) ∧ Hid (Below w.heap.size w wr))
  case atStart => exact ⟨0, rfl, by omega, by omega, Lib.hid (by rw [cellsOf_congr (f := fun i => if i < 0 then Z i else 0) (g := fun _ => 0) (fun i _ => by simp)]; exact M0.out), B0⟩
  case round =>
    obtain ⟨k, rfl, hk, hg1, M, Bl⟩ := hrel
    obtain ⟨wo, hwo⟩ : ∃ wo, wo = wr := ⟨_, rfl⟩
    subst hwo
    clear M0 B0
    by_cases hlt : k < n
    · have hkz : (k : Int) < n := by omega
      have hk0 : (0 : Int) ≤ k := by omega
      have wi : IntKind.i64.wrap ((k : Int) + 1) = (k : Int) + 1 := IntWalk.i64_in _ (by omega)
      obtain ⟨c0, c1, c2, c3, c4, c5, c6, c7, c8⟩ := (H.out.keep Bl.out).at hlt
      have CG : Hid (∀ y, (cellsOf .i64 n (upd (fun i => if i < k then Z i else 0) k y) = cellsOf .i64 n (fun i => if i < k + 1 then Z i else 0)) ∨ y ≠ Z k) := Lib.hid (fun y => by
        by_cases e : y = Z k
        · refine .inl (cellsOf_congr (fun i _ => ?_))
          subst e
          unfold upd
          show (if i = k then Z k else if i < k then Z i else 0) = if i < k + 1 then Z i else 0
          by_cases e : i = k
          · subst e; rw [if_pos rfl, if_pos (by omega)]
          · by_cases h : i < k
            · rw [if_neg e, if_pos h, if_pos (by omega)]
            · rw [if_neg e, if_neg h, if_neg (by omega)]
        · exact .inr e)
      have CZ : Hid (cellsOf .i64 n (upd (fun i => if i < k then Z i else 0) k (Z k)) = cellsOf .i64 n (fun i => if i < k + 1 then Z i else 0)) := Lib.hid ((CG.out (Z k)).resolve_right (fun h => h rfl))
      clear CG
      generalize Z k = z at c7 CZ
      generalize G k = gz at c6
      generalize S k = sz at c8
      generalize X k = x at c0 c1 c2 c3 c4 c5
      obtain ⟨x0, x1, x2, x3, x4, x5⟩ := x
      dsimp only at c0 c1 c2 c3 c4 c5
      have D : Hid (Below wo.heap.size wo (wo.alloc (.cells #[.int .i64 x0, .int .i64 x1, .int .i64 x2, .int .i64 x3, .int .i64 x4, .int .i64 x5, .int .i64 gz, .int .i64 z, .bool sz] 61))) := Lib.hid ((Below.refl _ _).alloc (Nat.le_refl _) _)
      have MN := Lib.hid (M.out.alloc (.cells #[.int .i64 x0, .int .i64 x1, .int .i64 x2, .int .i64 x3, .int .i64 x4, .int .i64 x5, .int .i64 gz, .int .i64 z, .bool sz] 61))
      have m0 := MN.out.cell k
      have g0 : (cellsOf .i64 n (fun i => if i < k then Z i else 0))[k]? = some (.int .i64 (if k < k then Z k else 0)) := cellsOf_get hlt
      rw [g0] at m0
      have f0 := MN.out.frozen k
      have MS := Lib.hid (MN.out.set_ k (.int .i64 z))
      rw [cellsOf_set, CZ.out] at MS
      have BN := Lib.hid ((b_nx16 Bl.out D.out).setCell (p := ⟨g, k, none⟩) (by rw [HG.out]; exact Nat.le_refl _) (.int .i64 z))
      clear g0 CZ MN D M
      go_wp2_with fail
      go_roundg (n - (k + 1))
      case measure => omega
      case rel => exact ⟨k + 1, by go_num, by omega, Nat.le_refl _, MS, BN⟩
    · obtain rfl : k = n := by omega
      have hz : ¬ (k : Int) < k := by omega
      have MF : Hid (Whole wo g 3 (cellsOf .i64 k Z)) := Lib.hid (by rw [← cellsOf_congr (f := fun i => if i < k then Z i else 0) (g := Z) (fun i hi => if_pos hi)]; exact M.out)
      clear M
      go_wp2_with fail
      go_ret
      exact ⟨g, rfl, by rw [HG.out]; exact Nat.le_refl _, MF.out, Bl.out⟩
end

section
open Go.RowKit

theorem drewN_below16 (w : World) (q k : Nat) : Below k w (w.drewN q) := ⟨rfl, rfl, rfl, Nat.le_refl _, fun _ _ => rfl⟩
def stayB (g : Bool) (x : It16) (z : Int) : Bool := if g = true then decide (x.grow = 0 ∨ z < x.base) else decide (x.shrink = 0 ∨ x.base < z)
set_option maxRecDepth 100000 in
set_option maxHeartbeats 4000000 in
theorem stays16 {w : World} {p b n off B : Nat} {R : Int} {g : Bool} {x : It16} {gz z : Int} {s : Bool} (hl : LnAt w p B n R g) (hb : BxAt w b off x gz z s) :
    Calls Try.prog 37 #[.pointer (some ⟨p, 0, none⟩), .pointer (some ⟨b, off, none⟩)] w fun e w' => e = .returned (.bool (stayB g x z)) ∧ Below w.heap.size w w' := by
  have l2 := hl.c2
  obtain ⟨x0, x1, x2, x3, x4, x5⟩ := x
  obtain ⟨c0, c1, c2, c3, c4, c5, c6, c7, c8⟩ := hb
  dsimp only at c0 c1 c2 c3 c4 c5
  clear hl
  cases g with
  | true =>
    by_cases h1 : x3 = 0
    · have d1 : (x3 == 0) = true := by simp [h1]
      have R : Hid (stayB true ⟨x0, x1, x2, x3, x4, x5⟩ z = true) := Lib.hid (by unfold stayB; rw [if_pos rfl]; exact decide_eq_true (.inl h1))
      rw [R.out]
      clear h1 R
      go_enter Try.func37, Try.ntmps37
      go_upto_region 2 with fail
      go_quiet (fail)
      go_wp2_with fail
      go_ret
      exact ⟨rfl, drewN_below16 _ _ _⟩
    · have d1 : (x3 == 0) = false := by simp [h1]
      have R : Hid (stayB true ⟨x0, x1, x2, x3, x4, x5⟩ z = decide (z < x0)) := Lib.hid (by unfold stayB; rw [if_pos rfl]; exact decide_eq_decide.2 ⟨fun h => h.resolve_left h1, .inr⟩)
      rw [R.out]
      obtain ⟨q, hq⟩ : ∃ q, decide (z < x0) = q := ⟨_, rfl⟩
      rw [hq]
      clear h1 R
      go_enter Try.func37, Try.ntmps37
      go_upto_region 2 with fail
      go_quiet (fail)
      go_wp2_with fail
      go_ret
      exact ⟨rfl, drewN_below16 _ _ _⟩
  | false =>
    by_cases h1 : x4 = 0
    · have d1 : (x4 == 0) = true := by simp [h1]
      have R : Hid (stayB false ⟨x0, x1, x2, x3, x4, x5⟩ z = true) := Lib.hid (by unfold stayB; rw [if_neg (by decide)]; exact decide_eq_true (.inl h1))
      rw [R.out]
      clear h1 R
      go_enter Try.func37, Try.ntmps37
      go_upto_region 3 with fail
      go_quiet (fail)
      go_wp2_with fail
      go_ret
      exact ⟨rfl, drewN_below16 _ _ _⟩
    · have d1 : (x4 == 0) = false := by simp [h1]
      have R : Hid (stayB false ⟨x0, x1, x2, x3, x4, x5⟩ z = decide (x0 < z)) := Lib.hid (by unfold stayB; rw [if_neg (by decide)]; exact decide_eq_decide.2 ⟨fun h => h.resolve_left h1, .inr⟩)
      rw [R.out]
      obtain ⟨q, hq⟩ : ∃ q, decide (x0 < z) = q := ⟨_, rfl⟩
      rw [hq]
      clear h1 R
      go_enter Try.func37, Try.ntmps37
      go_upto_region 3 with fail
      go_quiet (fail)
      go_wp2_with fail
      go_ret
      exact ⟨rfl, drewN_below16 _ _ _⟩
set_option maxRecDepth 100000 in
set_option maxHeartbeats 4000000 in
theorem weight16 {w : World} {p b n off B : Nat} {R : Int} {g : Bool} {x : It16} {gz z : Int} {s : Bool} (hl : LnAt w p B n R g) (hb : BxAt w b off x gz z s) (hx : GoodT x) :
    Calls Try.prog 43 #[.pointer (some ⟨p, 0, none⟩), .pointer (some ⟨b, off, none⟩)] w fun e w' => e = .returned (.int .i64 (wI g x)) ∧ Below w.heap.size w w' := by
  have l2 := hl.c2
  have hw := hx.w false
  obtain ⟨y, hy⟩ : ∃ y, wI g x = y := ⟨_, rfl⟩
  rw [hy]
  unfold wI at hw hy
  obtain ⟨x0, x1, x2, x3, x4, x5⟩ := x
  obtain ⟨c0, c1, c2, c3, c4, c5, c6, c7, c8⟩ := hb
  dsimp only at c0 c1 c2 c3 c4 c5 hw hy
  rw [if_neg (by decide)] at hw
  clear hl hx
  cases g with
  | true =>
    rw [if_pos rfl] at hy
    subst hy
    clear hw
    go_enter Try.func43, Try.ntmps43
    go_wp2_with fail
    go_ret
    exact ⟨rfl, Below.refl _ _⟩
  | false =>
    rw [if_neg (by decide)] at hy
    rw [hy] at hw
    have wm : IntKind.i64.wrap (x4 * x0) = y := by rw [hy]; exact IntWalk.i64_in _ (by omega)
    clear hw hy
    go_enter Try.func43, Try.ntmps43
    go_upto_region 3 with fail
    go_quiet (fail)
    go_wp2_with fail
    go_ret
    exact ⟨rfl, drewN_below16 _ _ _⟩
set_option maxRecDepth 100000 in
set_option maxHeartbeats 4000000 in
theorem given16 {w : World} {p n B : Nat} {R : Int} {g : Bool} (y : Int) (hl : LnAt w p B n R g) :
    Calls Try.prog 45 #[.pointer (some ⟨p, 0, none⟩), .int .i64 y] w fun e w' => e = .returned (.int .i64 (leftG g y)) ∧ w = w' := by
  have l2 := hl.c2
  clear hl
  cases g with
  | true =>
    have E : Hid (leftG true y = max y 0) := Lib.hid (by unfold leftG; simp; omega)
    rw [E.out]
    obtain ⟨m, hm⟩ : ∃ m, max y 0 = m := ⟨_, rfl⟩
    rw [hm]
    go_enter Try.func45, Try.ntmps45
    go_wp2_with fail
    go_ret
    exact ⟨rfl, rfl⟩
  | false =>
    have E : Hid (leftG false y = min y 0) := Lib.hid (by unfold leftG; simp; omega)
    rw [E.out]
    obtain ⟨m, hm⟩ : ∃ m, min y 0 = m := ⟨_, rfl⟩
    rw [hm]
    go_enter Try.func45, Try.ntmps45
    go_wp2_with fail
    go_ret
    exact ⟨rfl, rfl⟩
set_option maxRecDepth 100000 in
set_option maxHeartbeats 4000000 in
theorem changed16 {w : World} {b off : Nat} {x : It16} {gz z : Int} {s : Bool} (hb : BxAt w b off x gz z s) (hd : -9223372036854775808 ≤ z - gz ∧ z - gz ≤ 9223372036854775807) :
    Calls Try.prog 46 #[.pointer (some ⟨b, off, none⟩)] w fun e w' => e = .returned (.int .i64 (z - gz)) ∧ Below w.heap.size w w' := by
  obtain ⟨c0, c1, c2, c3, c4, c5, c6, c7, c8⟩ := hb
  have ws : IntKind.i64.wrap (z - gz) = z - gz := IntWalk.i64_in _ hd
  clear hd
  go_enter Try.func46, Try.ntmps46
  go_upto_region 1 with fail
  go_quiet (fail)
  go_wp2_with fail
  go_ret
  exact ⟨rfl, drewN_below16 _ _ _⟩
def cmpI16 (x y : Int) : Int := if x < y then -1 else if y < x then 1 else 0
theorem cmp16 (x y : Int) (w : World) :
    Calls Try.prog 47 #[.int .i64 x, .int .i64 y] w fun e w' => e = .returned (.int .i64 (cmpI16 x y)) ∧ w = w' := by
  obtain ⟨r, hr⟩ : ∃ r, cmpI16 x y = r := ⟨_, rfl⟩
  rw [hr]
  have R := Lib.hid hr
  clear hr
  have hx : (x != x) = false := by simp
  have hy : (y != y) = false := by simp
  have ret : ∀ {a b : Int}, a = b → Ending.returned (.int .i64 a) = .returned (.int .i64 b) := fun h => by rw [h]
  by_cases h1 : x < y
  · go_enter Try.func47, Try.ntmps47
    go_wp2
    go_ret
    exact ⟨ret (by rw [← R.out]; unfold cmpI16; rw [if_pos h1]), rfl⟩
  · by_cases h2 : y < x
    · go_enter Try.func47, Try.ntmps47
      go_wp2
      go_ret
      exact ⟨ret (by rw [← R.out]; unfold cmpI16; rw [if_neg (by omega), if_pos h2]), rfl⟩
    · go_enter Try.func47, Try.ntmps47
      go_wp2
      go_ret
      exact ⟨ret (by rw [← R.out]; unfold cmpI16; rw [if_neg (by omega), if_neg (by omega)]), rfl⟩
set_option maxRecDepth 100000 in
set_option maxHeartbeats 8000000 in
theorem open16 {w : World} {p b n : Nat} {R : Int} {g : Bool} {X : Nat → It16} {G Z : Nat → Int} {S : Nat → Bool} (hl : LnAt w p b n R g) (hb : BxB w b n X G Z S) (hn : n ≤ 2048) :
    Calls Try.prog 38 #[.pointer (some ⟨p, 0, none⟩)] w fun e w' => ∃ v, e = .returned v ∧ ownsB16 w' w.heap.size b v (opensL S n) ∧ Below w.heap.size w w' := by
  have HL := Lib.hid hl
  have HB := Lib.hid hb
  have l0 := hl.c0
  clear hl hb
  go_enter Try.func38, Try.ntmps38
  go_wp2_with fail
  clear l0
  go_loopg [3, 11] n (fun g1 vo vi wr => ∃ (k : Nat) (v : Value), vi = .int .i64 k ∧ vo = v ∧ k ≤ n ∧ n - k ≤ g1 ∧ Hid (ownsB16 wr w.heap.size b v (opensL S k)) ∧ Hid (Below w.heap.size w wr))
  case atStart => exact ⟨0, _, rfl, rfl, by omega, by omega, Lib.hid ⟨rfl, .inl ⟨rfl, rfl⟩⟩, Lib.hid (Below.refl _ _)⟩
  case round =>
    obtain ⟨k, v, rfl, hv, hk, hg1, O, Bl⟩ := hrel
    obtain rfl := hv.symm
    clear hv
    obtain ⟨wo, hwo⟩ : ∃ wo, wo = wr := ⟨_, rfl⟩
    subst hwo
    by_cases hlt : k < n
    · have hkz : (k : Int) < n := by omega
      have hk0 : (0 : Int) ≤ k := by omega
      have wi : IntKind.i64.wrap ((k : Int) + 1) = (k : Int) + 1 := IntWalk.i64_in _ (by omega)
      have l0 := (HL.out.keep Bl.out).c0
      obtain ⟨-, -, -, -, -, -, -, -, c8⟩ := (HB.out.keep Bl.out).at hlt
      have LE : Hid ((opensL S k).length ≤ k) := Lib.hid (by rw [opensL_len]; exact openN_at S k)
      have NX : Hid (opensL S (k + 1) = opensL S k ++ (if S k = true then [] else [k])) := Lib.hid rfl
      generalize opensL S (k + 1) = ol at NX
      obtain ⟨s, hs⟩ : ∃ s, S k = s := ⟨_, rfl⟩
      rw [hs] at c8 NX
      have KE : Hid (opensL S (k + 1) = opensL S k ++ (if s = true then [] else [k])) := Lib.hid (by rw [← hs]; rfl)
      clear hs NX
      cases s with
      | true =>
        have NO : Hid (ownsB16 wo w.heap.size b v (opensL S (k + 1))) := Lib.hid (by rw [KE.out, if_pos rfl, List.append_nil]; exact O.out)
        clear O KE
        go_wp2_with fail
        go_roundg (n - (k + 1))
        case measure => omega
        case rel => exact ⟨k + 1, _, by go_num, rfl, by omega, Nat.le_refl _, NO, Bl⟩
      | false =>
        go_wp2_with ((with_reducible change wpList _ _ _ (Oper.mk (some 28) _ _ _ _ _ :: _) _ _); refine wpList_append_b16 rfl _ _ rfl w.heap.size b _ (opensL S k) rfl O.out k _ rfl (by have := LE.out; omega) Bl.out.size ?_; intro v6 w6 hO hB; have O6 := Lib.hid hO; have B6 := Lib.hid hB; clear hO hB)
        go_roundg (n - (k + 1))
        case measure => omega
        case rel => exact ⟨k + 1, _, by go_num, rfl, by omega, Nat.le_refl _, Lib.hid (by rw [KE.out, if_neg (by decide)]; exact O6.out), Lib.hid (Bl.out.trans B6.out)⟩
    · obtain rfl : k = n := by omega
      have hz : ¬ (k : Int) < k := by omega
      go_wp2_with fail
      go_ret
      exact ⟨v, rfl, O.out, Bl.out⟩
set_option maxRecDepth 100000 in
set_option maxHeartbeats 8000000 in
theorem left16 {w : World} {p b n : Nat} {R : Int} {g : Bool} {l : List It16} {G Z : Nat → Int} {S : Nat → Bool} (hl : LnAt w p b n R g) (hb : BxB w b n (itA l) G Z S) (hn : n ≤ 2048)
    (hR : -9007199254740992 ≤ R ∧ R ≤ 9007199254740992) (hgd : ∀ i, i < n → GoodT (itA l i)) (ho : ∀ i, i < n → S i = true → 0 ≤ Z i ∧ Z i ≤ 1099511627776) :
    Calls Try.prog 39 #[.pointer (some ⟨p, 0, none⟩)] w fun e w' => e = .returned (.int .i64 (left0 l n R Z S)) ∧ Below w.heap.size w w' := by
  have HB := Lib.hid hb
  have l0 := hl.c0
  have l1 := hl.c1
  have LB := Lib.hid (fun k (hk : k ≤ n) => leftP_bd (l := l) (R := R) (out := Z) (S := S) (k := k) (by omega) hR (fun i hi => hgd i (by omega)) (fun i hi => ho i (by omega)))
  clear hl hb hR hgd ho
  go_enter Try.func39, Try.ntmps39
  go_wp2_with fail
  clear l0 l1
  go_loopg [3, 15] n (fun g1 vl vi wr => ∃ k : Nat, vi = .int .i64 k ∧ vl = .int .i64 (leftP l R Z S k) ∧ k ≤ n ∧ n - k ≤ g1 ∧ Hid (Below w.heap.size w wr))
  case atStart => exact ⟨0, rfl, by simp [leftP, sumB], by omega, by omega, Lib.hid (Below.refl _ _)⟩
  case round =>
    obtain ⟨k, rfl, rfl, hk, hg1, Bl⟩ := hrel
    obtain ⟨wo, hwo⟩ : ∃ wo, wo = wr := ⟨_, rfl⟩
    subst hwo
    by_cases hlt : k < n
    · have hkz : (k : Int) < n := by omega
      have hk0 : (0 : Int) ≤ k := by omega
      have wi : IntKind.i64.wrap ((k : Int) + 1) = (k : Int) + 1 := IntWalk.i64_in _ (by omega)
      obtain ⟨c0, c1, c2, c3, c4, c5, c6, c7, c8⟩ := (HB.out.keep Bl.out).at hlt
      have a0 := LB.out k (by omega)
      have a1 := LB.out (k + 1) (by omega)
      have EA := leftP_succ l R Z S k
      rw [EA] at a1
      obtain ⟨t2, ht2⟩ : ∃ y, leftP l R Z S (k + 1) = y := ⟨_, rfl⟩
      rw [ht2] at EA
      have E2 := Lib.hid ht2
      clear ht2
      generalize leftP l R Z S k = t at a0 a1 EA ⊢
      generalize Z k = z at c7 EA a1
      generalize G k = gz at c6
      generalize S k = s at c8 EA a1
      generalize itA l k = x at c0 c1 c2 c3 c4 c5 EA a1
      obtain ⟨x0, x1, x2, x3, x4, x5⟩ := x
      dsimp only at c0 c1 c2 c3 c4 c5 EA a1
      have D : Hid (Below w.heap.size w (wo.alloc (.cells #[.int .i64 x0, .int .i64 x1, .int .i64 x2, .int .i64 x3, .int .i64 x4, .int .i64 x5, .int .i64 gz, .int .i64 z, .bool s] 61))) := Lib.hid (Bl.out.alloc Bl.out.size _)
      cases s with
      | true =>
        rw [if_pos rfl] at EA a1
        have wl : IntKind.i64.wrap (t - z) = t - z := IntWalk.i64_in _ (by omega)
        have E3 := Lib.hid EA
        clear EA a0 a1
        go_wp2_with fail
        go_roundg (n - (k + 1))
        case measure => omega
        case rel => exact ⟨k + 1, by go_num, by rw [E2.out, E3.out], by omega, Nat.le_refl _, D⟩
      | false =>
        rw [if_neg (by decide)] at EA a1
        have wl : IntKind.i64.wrap (t - x0) = t - x0 := IntWalk.i64_in _ (by omega)
        have E3 := Lib.hid EA
        clear EA a0 a1
        go_wp2_with fail
        go_roundg (n - (k + 1))
        case measure => omega
        case rel => exact ⟨k + 1, by go_num, by rw [E2.out, E3.out], by omega, Nat.le_refl _, D⟩
    · obtain rfl : k = n := by omega
      have hz : ¬ (k : Int) < k := by omega
      go_wp2_with fail
      go_ret
      exact ⟨rfl, Bl.out⟩
end
end Go.Proofs.Ytjlnaadpiohbnaa
