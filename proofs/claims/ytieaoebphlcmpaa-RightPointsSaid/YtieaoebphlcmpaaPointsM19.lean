/-
  What fragments hit, and fill: the mathematics.
-/
import Derived.Test.YtieaoebphlcmpaaFrag20
import Derived.Test.YtieaoebphlcmpaaFits
namespace Go.Proofs.Ytieaoebphlcmpaa
open Go.RowKit

theorem results_tmp4_19 {fn : Func} {t u v s : Tmp} (h : fn.results = #[.tmp t, .tmp u, .tmp v, .tmp s]) (tmps : Array Value) (P : Program) (w : World) :
    (results fn tmps).run P w = .ok (.tuple #[tmps.getD t undef, tmps.getD u undef, tmps.getD v undef, tmps.getD s undef]) w := by
  simp [results, h]
theorem below_drewN19 {B : Nat} {a w : World} (h : Below B a w) (n : Nat) : Below B a (w.drewN n) := ⟨h.os, h.tape, h.output, h.size, h.block⟩
def coversF (x y : Int) (f : Fr) : Bool := decide (f.x ≤ x ∧ x < IntKind.i64.wrap (f.x + f.w) ∧ f.y ≤ y ∧ y < IntKind.i64.wrap (f.y + f.h))
/-- the last one of the first k of which p holds; -1: of none -/
def lastP (p : Fr → Bool) (l : List Fr) : Nat → Int
  | 0 => -1
  | k + 1 => if p (frA l k) = true then (k : Int) else lastP p l k
theorem lastP_lo (p : Fr → Bool) (l : List Fr) (k : Nat) : -1 ≤ lastP p l k ∧ lastP p l k < k := by
  induction k with
  | zero => simp [lastP]
  | succ k ih => unfold lastP; split <;> omega
theorem lastP_yes {p : Fr → Bool} {l : List Fr} {k : Nat} (h : p (frA l k) = true) : lastP p l (k + 1) = k := if_pos h
theorem lastP_no {p : Fr → Bool} {l : List Fr} {k : Nat} (h : p (frA l k) = false) : lastP p l (k + 1) = lastP p l k := if_neg (by rw [h]; simp)
theorem lastP_none {p : Fr → Bool} {l : List Fr} {k : Nat} : lastP p l k = -1 ↔ ∀ i, i < k → p (frA l i) = false := by
  induction k with
  | zero => simp [lastP]
  | succ k ih =>
    cases h : p (frA l k) with
    | true =>
      rw [lastP_yes h]
      constructor
      · intro e; omega
      · intro e; have := e k (by omega); rw [h] at this; cases this
    | false =>
      rw [lastP_no h, ih]
      constructor
      · intro e i hi
        by_cases e' : i = k
        · rw [e']; exact h
        · exact e i (by omega)
      · intro e i hi; exact e i (by omega)
/-- fragments with their places, the last one first -/
def behF (l : List Fr) : Nat → List (Nat × Fr)
  | 0 => []
  | k + 1 => (k, frA l k) :: behF l k
theorem behF_len (l : List Fr) (k : Nat) : (behF l k).length = k := by
  induction k with
  | zero => rfl
  | succ k ih => simp [behF, ih]
theorem behF_mem {l : List Fr} {k : Nat} {x : Nat × Fr} (h : x ∈ behF l k) : x.1 < k ∧ x.2 = frA l x.1 := by
  induction k with
  | zero => cases h
  | succ k ih =>
    rcases List.mem_cons.1 h with rfl | h
    · exact ⟨by simp, rfl⟩
    · have := ih h; exact ⟨by omega, this.2⟩
theorem behF_get {l : List Fr} {k i : Nat} (h : i < k) : (i, frA l i) ∈ behF l k := by
  induction k with
  | zero => omega
  | succ k ih =>
    by_cases e : i = k
    · subst e; exact List.mem_cons_self
    · exact List.mem_cons_of_mem _ (ih (by omega))
theorem last_stop {p : Fr → Bool} {l : List Fr} {n : Nat} {pre : List (Nat × Fr)} {x : Nat × Fr} (h : pre ++ [x] <+: behF l n) (hq : ∀ q ∈ pre, p q.2 = false) (hx : p x.2 = true) : lastP p l n = x.1 := by
  induction n generalizing pre with
  | zero => have := h.length_le; simp [behF] at this
  | succ n ih =>
    cases pre with
    | nil =>
      obtain ⟨t, ht⟩ := h
      injection ht with h1 h2
      rw [h1] at hx
      rw [lastP_yes hx, h1]
    | cons y ys =>
      obtain ⟨t, ht⟩ := h
      injection ht with h1 h2
      have h3 : p (frA l n) = false := by have := hq y List.mem_cons_self; rwa [h1] at this
      rw [lastP_no h3]
      exact ih ⟨t, h2⟩ (fun q hq' => hq q (List.mem_cons_of_mem _ hq'))
theorem last_none {p : Fr → Bool} {l : List Fr} {n : Nat} (hq : ∀ q ∈ behF l n, p q.2 = false) : lastP p l n = -1 :=
  lastP_none.2 fun _ hi => hq _ (behF_get hi)

def fitF (f : Fr) : Bool := decide (Fit f.x ∧ Fit f.y ∧ Fit f.w ∧ Fit f.h)
theorem fitF_iff {f : Fr} : fitF f = true ↔ Fit f.x ∧ Fit f.y ∧ Fit f.w ∧ Fit f.h := by unfold fitF; simp
theorem fit4_19 (f : Fr) : decide (∀ y ∈ [f.x, f.y, f.w, f.h], Fit y) = fitF f := by
  unfold fitF
  exact decide_eq_decide.2 ⟨fun h => ⟨h _ (by simp), h _ (by simp), h _ (by simp), h _ (by simp)⟩, fun h y hy => by
    simp only [List.mem_cons, List.not_mem_nil, or_false] at hy
    rcases hy with rfl | rfl | rfl | rfl
    · exact h.1
    · exact h.2.1
    · exact h.2.2.1
    · exact h.2.2.2⟩
def oddF (f : Fr) : Bool := !fitF f
def greatF (f : Fr) : Bool := decide (0 < f.w ∧ 0 < f.h)
def greatsF (l : List Fr) : List Fr := l.filter greatF
structure Ar where
  l : Int
  t : Int
  r : Int
  b : Int
def arZ : Ar := ⟨0, 0, 0, 0⟩
def arV (a : Ar) : Value := .agg #[.int .i64 a.l, .int .i64 a.t, .int .i64 a.r, .int .i64 a.b]
def emptyA (a : Ar) : Bool := decide (a.r ≤ a.l ∨ a.b ≤ a.t)
def withA (a b : Ar) : Ar := if emptyA b = true then a else if emptyA a = true then b else ⟨min a.l b.l, min a.t b.t, max a.r b.r, max a.b b.b⟩
def arOf (f : Fr) : Ar := ⟨f.x, f.y, f.x + f.w, f.y + f.h⟩
def foldA (q : List (Nat × Fr)) : Ar := q.foldl (fun a x => withA a (arOf x.2)) arZ
theorem foldA_snoc (q : List (Nat × Fr)) (x : Nat × Fr) : foldA (q ++ [x]) = withA (foldA q) (arOf x.2) := by simp [foldA]
def NearA (a : Ar) : Prop := (-4398046511104 ≤ a.l ∧ a.l ≤ 4398046511104) ∧ (-4398046511104 ≤ a.t ∧ a.t ≤ 4398046511104) ∧ (-4398046511104 ≤ a.r ∧ a.r ≤ 4398046511104) ∧ (-4398046511104 ≤ a.b ∧ a.b ≤ 4398046511104)
theorem near_arOf {f : Fr} (h : fitF f = true) : NearA (arOf f) := by
  have := fitF_iff.1 h
  unfold Fit at this
  unfold NearA arOf
  simp only
  omega
theorem near_withA {a b : Ar} (ha : NearA a) (hb : NearA b) : NearA (withA a b) := by
  unfold withA
  split
  · exact ha
  · split
    · exact hb
    · unfold NearA at *; simp only at *; omega
theorem near_foldA (q : List (Nat × Fr)) (h : ∀ x ∈ q, fitF x.2 = true) : NearA (foldA q) := by
  suffices ∀ (q : List (Nat × Fr)) a, NearA a → (∀ x ∈ q, fitF x.2 = true) → NearA (q.foldl (fun a x => withA a (arOf x.2)) a) from this q arZ (by unfold NearA arZ; simp only; omega) h
  intro q
  induction q with
  | nil => intro a ha _; exact ha
  | cons x q ih => intro a ha hq; exact ih _ (near_withA ha (near_arOf (hq x List.mem_cons_self))) (fun y hy => hq y (List.mem_cons_of_mem _ hy))

/-- the least of so many numbers; the most of them -/
def Least {α : Type} (S : α → Prop) (f : α → Int) (m : Int) : Prop := (∀ x, S x → m ≤ f x) ∧ ∃ x, S x ∧ f x = m
def Most {α : Type} (S : α → Prop) (f : α → Int) (m : Int) : Prop := (∀ x, S x → f x ≤ m) ∧ ∃ x, S x ∧ f x = m
theorem Least.uniq {α : Type} {S : α → Prop} {f : α → Int} {m n : Int} (h : Least S f m) (k : Least S f n) : m = n := by
  obtain ⟨h1, x, hx, h2⟩ := h
  obtain ⟨k1, y, hy, k2⟩ := k
  have := h1 y hy
  have := k1 x hx
  omega
theorem Most.uniq {α : Type} {S : α → Prop} {f : α → Int} {m n : Int} (h : Most S f m) (k : Most S f n) : m = n := by
  obtain ⟨h1, x, hx, h2⟩ := h
  obtain ⟨k1, y, hy, k2⟩ := k
  have := h1 y hy
  have := k1 x hx
  omega
/-- an area is the least about fragments that have a width and a height -/
structure About (S : Fr → Prop) (a : Ar) : Prop where
  l : Least S Fr.x a.l
  t : Least S Fr.y a.t
  r : Most S (fun f => f.x + f.w) a.r
  b : Most S (fun f => f.y + f.h) a.b
theorem About.uniq {S : Fr → Prop} {a b : Ar} (h : About S a) (k : About S b) : a = b := by
  have h1 := h.l.uniq k.l
  have h2 := h.t.uniq k.t
  have h3 := h.r.uniq k.r
  have h4 := h.b.uniq k.b
  cases a; cases b; simp_all
theorem About.full {S : Fr → Prop} {a : Ar} (h : About S a) (hS : ∀ f, S f → greatF f = true) : emptyA a = false := by
  obtain ⟨f, hf, -⟩ := h.l.2
  have h1 := h.l.1 f hf
  have h2 := h.t.1 f hf
  have h3 : f.x + f.w ≤ a.r := h.r.1 f hf
  have h4 : f.y + f.h ≤ a.b := h.b.1 f hf
  have h5 := hS f hf
  simp only [greatF, decide_eq_true_eq] at h5
  simp only [emptyA, decide_eq_false_iff_not]
  omega
def ofF (q : List (Nat × Fr)) (f : Fr) : Prop := (∃ x ∈ q, x.2 = f) ∧ greatF f = true
theorem least_add {S T : Fr → Prop} {g : Fr → Int} {m n : Int} {f : Fr} (h : Least S g m) (e : g f = n) (hT : ∀ x, T x ↔ S x ∨ x = f) : Least T g (min m n) := by
  obtain ⟨h1, x, hx, h2⟩ := h
  refine ⟨fun y hy => ?_, ?_⟩
  · rcases (hT y).1 hy with h | rfl
    · have := h1 y h; omega
    · omega
  · by_cases c : m ≤ n
    · exact ⟨x, (hT x).2 (.inl hx), by omega⟩
    · exact ⟨f, (hT f).2 (.inr rfl), by omega⟩
theorem most_add {S T : Fr → Prop} {g : Fr → Int} {m n : Int} {f : Fr} (h : Most S g m) (e : g f = n) (hT : ∀ x, T x ↔ S x ∨ x = f) : Most T g (max m n) := by
  obtain ⟨h1, x, hx, h2⟩ := h
  refine ⟨fun y hy => ?_, ?_⟩
  · rcases (hT y).1 hy with h | rfl
    · have := h1 y h; omega
    · omega
  · by_cases c : n ≤ m
    · exact ⟨x, (hT x).2 (.inl hx), by omega⟩
    · exact ⟨f, (hT f).2 (.inr rfl), by omega⟩
theorem foldA_about (q : List (Nat × Fr)) : ((∀ x ∈ q, greatF x.2 = false) ∧ foldA q = arZ) ∨ About (ofF q) (foldA q) := by
  suffices ∀ q : List (Nat × Fr), ((∀ x ∈ q.reverse, greatF x.2 = false) ∧ foldA q.reverse = arZ) ∨ About (ofF q.reverse) (foldA q.reverse) by have := this q.reverse; rwa [List.reverse_reverse] at this
  intro q
  induction q with
  | nil => exact .inl ⟨fun x hx => (by cases hx), rfl⟩
  | cons x q ih =>
    rw [List.reverse_cons, foldA_snoc]
    generalize q.reverse = p at ih ⊢
    cases hg : greatF x.2 with
    | false =>
      have he : emptyA (arOf x.2) = true := by
        simp only [greatF, decide_eq_false_iff_not] at hg
        refine decide_eq_true ?_
        show x.2.x + x.2.w ≤ x.2.x ∨ x.2.y + x.2.h ≤ x.2.y
        omega
      have hw : withA (foldA p) (arOf x.2) = foldA p := if_pos he
      rw [hw]
      rcases ih with ⟨h1, h2⟩ | h
      · refine .inl ⟨fun y hy => ?_, h2⟩
        rcases List.mem_append.1 hy with h | h
        · exact h1 y h
        · obtain rfl : y = x := by simpa using h
          exact hg
      · refine .inr ?_
        have hS : ofF (p ++ [x]) = ofF p := by
          funext f
          apply propext
          constructor
          · rintro ⟨⟨y, hy, rfl⟩, h2⟩
            rcases List.mem_append.1 hy with h | h
            · exact ⟨⟨y, h, rfl⟩, h2⟩
            · obtain rfl : y = x := by simpa using h
              rw [hg] at h2; cases h2
          · rintro ⟨⟨y, hy, rfl⟩, h2⟩
            exact ⟨⟨y, List.mem_append_left _ hy, rfl⟩, h2⟩
        rw [hS]
        exact h
    | true =>
      have he : emptyA (arOf x.2) = false := by
        simp only [greatF, decide_eq_true_eq] at hg
        refine decide_eq_false ?_
        show ¬ (x.2.x + x.2.w ≤ x.2.x ∨ x.2.y + x.2.h ≤ x.2.y)
        omega
      refine .inr ?_
      rcases ih with ⟨h1, h2⟩ | h
      · have hw : withA (foldA p) (arOf x.2) = arOf x.2 := by
          unfold withA
          rw [he, h2, if_neg (by simp), if_pos (by decide)]
        rw [hw]
        have hS : ∀ f, ofF (p ++ [x]) f ↔ f = x.2 := by
          intro f
          constructor
          · rintro ⟨⟨y, hy, rfl⟩, h2⟩
            rcases List.mem_append.1 hy with h | h
            · rw [h1 y h] at h2; cases h2
            · obtain rfl : y = x := by simpa using h
              rfl
          · rintro rfl
            exact ⟨⟨x, by simp, rfl⟩, hg⟩
        have one : ∀ g : Fr → Int, Least (ofF (p ++ [x])) g (g x.2) ∧ Most (ofF (p ++ [x])) g (g x.2) := fun g =>
          ⟨⟨fun y hy => by rw [(hS y).1 hy]; exact Int.le_refl _, x.2, (hS _).2 rfl, rfl⟩, ⟨fun y hy => by rw [(hS y).1 hy]; exact Int.le_refl _, x.2, (hS _).2 rfl, rfl⟩⟩
        exact ⟨(one Fr.x).1, (one Fr.y).1, (one fun f => f.x + f.w).2, (one fun f => f.y + f.h).2⟩
      · have hf := h.full (fun f hf => hf.2)
        have hw : withA (foldA p) (arOf x.2) = ⟨min (foldA p).l x.2.x, min (foldA p).t x.2.y, max (foldA p).r (x.2.x + x.2.w), max (foldA p).b (x.2.y + x.2.h)⟩ := by
          unfold withA
          rw [he, hf, if_neg (by simp), if_neg (by simp)]
          rfl
        rw [hw]
        have hS : ∀ f, ofF (p ++ [x]) f ↔ ofF p f ∨ f = x.2 := by
          intro f
          constructor
          · rintro ⟨⟨y, hy, rfl⟩, h2⟩
            rcases List.mem_append.1 hy with h | h
            · exact .inl ⟨⟨y, h, rfl⟩, h2⟩
            · obtain rfl : y = x := by simpa using h
              exact .inr rfl
          · rintro (⟨⟨y, hy, rfl⟩, h2⟩ | rfl)
            · exact ⟨⟨y, List.mem_append_left _ hy, rfl⟩, h2⟩
            · exact ⟨⟨x, by simp, rfl⟩, hg⟩
        exact ⟨least_add h.l rfl hS, least_add h.t rfl hS, most_add h.r rfl hS, most_add h.b rfl hS⟩

/-- what fragments fill -/
def fillAr (l : List Fr) : Ar := foldA (behF l l.length)
def fillZ (l : List Fr) : Int × Int × Int × Int := if lastP oddF l l.length = -1 then ((fillAr l).l, (fillAr l).t, (fillAr l).r - (fillAr l).l, (fillAr l).b - (fillAr l).t) else (0, 0, 0, 0)
theorem fill_near {l : List Fr} (h : lastP oddF l l.length = -1) : NearA (fillAr l) := near_foldA _ fun x hx => by
  obtain ⟨h1, h2⟩ := behF_mem hx
  have := lastP_none.1 h x.1 h1
  rw [h2]
  unfold oddF at this
  simpa using this
theorem odd_fit {l : List Fr} (h : ∀ i, i < l.length → fitF (frA l i) = true) : lastP oddF l l.length = -1 := lastP_none.2 fun i hi => by unfold oddF; rw [h i hi]; rfl
/-- the document's way: none that is great -/
theorem fill_none {l : List Fr} (h : ∀ i, i < l.length → fitF (frA l i) = true) (hg : greatsF l = []) : fillZ l = (0, 0, 0, 0) := by
  unfold fillZ
  rw [if_pos (odd_fit h)]
  have e : fillAr l = arZ := by
    rcases foldA_about (behF l l.length) with ⟨-, h2⟩ | h2
    · exact h2
    · obtain ⟨f, ⟨⟨x, hx, rfl⟩, hf⟩, -⟩ := h2.l.2
      obtain ⟨h3, h4⟩ := behF_mem hx
      have hm : x.2 ∈ l := by rw [h4, frA_get h3]; exact List.getElem_mem h3
      have : x.2 ∈ greatsF l := List.mem_filter.2 ⟨hm, hf⟩
      rw [hg] at this
      cases this
  rw [e]
  rfl
/-- and with such -/
theorem fill_some {l : List Fr} (h : ∀ i, i < l.length → fitF (frA l i) = true) {a : Ar} (ha : About (· ∈ greatsF l) a) : fillZ l = (a.l, a.t, a.r - a.l, a.b - a.t) := by
  unfold fillZ
  rw [if_pos (odd_fit h)]
  have hS : ofF (behF l l.length) = (· ∈ greatsF l) := by
    funext f
    apply propext
    constructor
    · rintro ⟨⟨x, hx, rfl⟩, h2⟩
      obtain ⟨h3, h4⟩ := behF_mem hx
      exact List.mem_filter.2 ⟨by rw [h4, frA_get h3]; exact List.getElem_mem h3, h2⟩
    · intro hf
      obtain ⟨h1, h2⟩ := List.mem_filter.1 hf
      obtain ⟨i, hi, rfl⟩ := List.getElem_of_mem h1
      exact ⟨⟨(i, frA l i), behF_get hi, frA_get hi⟩, h2⟩
  have e : fillAr l = a := by
    rcases foldA_about (behF l l.length) with ⟨h1, -⟩ | h2
    · obtain ⟨f, hf, -⟩ := ha.l.2
      have hf2 : ofF (behF l l.length) f := by rw [hS]; exact hf
      obtain ⟨⟨x, hx, rfl⟩, h2⟩ := hf2
      rw [h1 x hx] at h2
      cases h2
    · rw [hS] at h2
      exact h2.uniq ha
  rw [e]
theorem fill_odd {l : List Fr} {i : Nat} (hi : i < l.length) (h : fitF (frA l i) = false) : fillZ l = (0, 0, 0, 0) := by
  unfold fillZ
  rw [if_neg]
  intro e
  have := lastP_none.1 e i hi
  unfold oddF at this
  rw [h] at this
  cases this
end Go.Proofs.Ytieaoebphlcmpaa
