/-
  Words for slices of bytes, or of uint64, that are read: 'Nums K M w A n f': the slice at A of n elements of the kind K reads as the naturals f 0, .., f (n - 1), each below M. Plain lemmas; nothing of the program.
-/
import Derived.WalkKit
import Derived.Lib.Hide
import Derived.Laws.OwnMore
import Derived.Deep.AppendLies
import Derived.Deep.Draws
import Derived.ShutString
import Derived.Below
namespace Go.Proofs.Ytmodegkpfdlccaa
open Go.RowKit

def Nums (K : IntKind) (M : Nat) (w : World) (A : Option Addr) (n : Nat) (f : Nat → Nat) : Prop :=
  (∀ i, i < n → f i < M) ∧
  (0 < n → ∃ b off, A = some ⟨b, off, none⟩ ∧ b < w.heap.size ∧ ∀ i, i < n → w.cell? ⟨b, off + i, none⟩ = some (.int K (f i : Nat)))
def Bytes : World → Option Addr → Nat → (Nat → Nat) → Prop := Nums .u8 256
def Longs : World → Option Addr → Nat → (Nat → Nat) → Prop := Nums .u64 18446744073709551616

section
variable {K : IntKind} {M : Nat} {w w' : World} {A : Option Addr} {n : Nat} {f g : Nat → Nat}
theorem Nums.bd {k : Nat} (h : Nums K M w A n f) (hk : k < n) : f k < M := h.1 k hk
theorem Nums.at_ {k : Nat} (h : Nums K M w A n f) (hk : k < n) : ∃ b off, A = some ⟨b, off, none⟩ ∧ b < w.heap.size ∧ w.cell? ⟨b, off + k, none⟩ = some (.int K (f k : Nat)) := by
  obtain ⟨b, off, e, hb, hc⟩ := h.2 (by omega)
  exact ⟨b, off, e, hb, hc k hk⟩
theorem Nums.zero (A : Option Addr) (f : Nat → Nat) : Nums K M w A 0 f := ⟨fun i hi => absurd hi (by omega), fun hn => absurd hn (by omega)⟩
theorem Nums.keep (h : Nums K M w A n f) (hs : w.heap.size ≤ w'.heap.size) (hk : ∀ p : Addr, p.block < w.heap.size → w'.cell? p = w.cell? p) : Nums K M w' A n f :=
  ⟨h.1, fun hn => by
    obtain ⟨b, off, e, hb, hc⟩ := h.2 hn
    exact ⟨b, off, e, by omega, fun i hi => (hk ⟨b, off + i, none⟩ hb).trans (hc i hi)⟩⟩
theorem Nums.below (h : Nums K M w A n f) (hb : Below w.heap.size w w') : Nums K M w' A n f := h.keep hb.size fun _ hp => hb.cell hp
theorem Nums.alloc (h : Nums K M w A n f) (o : Obj) : Nums K M (w.alloc o) A n f := h.keep (by simp) fun p hp => World.cell?_alloc_lt w o p hp
theorem Nums.congr (h : Nums K M w A n f) (e : ∀ i, i < n → f i = g i) : Nums K M w A n g :=
  ⟨fun i hi => by rw [← e i hi]; exact h.1 i hi, fun hn => by
    obtain ⟨b, off, e', hb, hc⟩ := h.2 hn
    exact ⟨b, off, e', hb, fun i hi => by rw [← e i hi]; exact hc i hi⟩⟩
theorem Nums.less {m : Nat} (h : Nums K M w A n f) (hm : m ≤ n) : Nums K M w A m f :=
  ⟨fun i hi => h.1 i (by omega), fun h0 => by
    obtain ⟨b, off, e', hb, hc⟩ := h.2 (by omega)
    exact ⟨b, off, e', hb, fun i hi => hc i (by omega)⟩⟩
/-- from the k-th element on -/
theorem Nums.from_ {k m : Nat} {b off : Nat} (h : Nums K M w (some ⟨b, off, none⟩) n f) (hm : k + m ≤ n) : Nums K M w (some ⟨b, off + k, none⟩) m (fun i => f (k + i)) :=
  ⟨fun i hi => h.1 (k + i) (by omega), fun h0 => by
    obtain ⟨b', off', e', hb, hc⟩ := h.2 (by omega)
    cases e'
    exact ⟨b, off + k, rfl, hb, fun i hi => by have := hc (k + i) (by omega); rwa [← Nat.add_assoc] at this⟩⟩
theorem Nums.of_own {base e c : Nat} {zs : List Nat} (h : w.ownsRow base e 1 (.slice A n c) n (zs.map fun (x : Nat) => Value.int K (x : Nat))) (hz : ∀ i, i < n → zs[i]? = some (f i))
    (hb : ∀ i, i < n → f i < M) : Nums K M w A n f := by
  refine ⟨hb, fun hn => ?_⟩
  obtain ⟨g, cap, hv, _, hlt⟩ := h.form hn
  have hA : A = some ⟨g, 0, none⟩ := by injection hv
  subst hA
  refine ⟨g, 0, rfl, hlt, fun i hi => ?_⟩
  have := h.cells (g := g) rfl i (.int K (f i : Nat)) (by simp [hz i hi])
  have e : (Addr.add ⟨g, 0, none⟩ i) = ⟨g, 0 + i, none⟩ := by unfold Addr.add; split <;> simp_all
  rw [e] at this; exact this
end

/-- the elements from a on, k of them -/
def seg (f : Nat → Nat) (a k : Nat) : List Nat := (List.range k).map fun i => f (a + i)
theorem seg_len (f : Nat → Nat) (a k : Nat) : (seg f a k).length = k := by simp [seg]
theorem seg_get (f : Nat → Nat) (a k i : Nat) (h : i < k) : (seg f a k)[i]? = some (f (a + i)) := by simp [seg, h]
theorem seg_zero (f : Nat → Nat) (a : Nat) : seg f a 0 = [] := rfl
theorem seg_succ (f : Nat → Nat) (a k : Nat) : seg f a (k + 1) = seg f a k ++ [f (a + k)] := by simp [seg, List.range_succ]
theorem seg_add (f : Nat → Nat) (a k m : Nat) : seg f a (k + m) = seg f a k ++ seg f (a + k) m := by
  induction m with
  | zero => simp [seg_zero]
  | succ m ih => rw [← Nat.add_assoc, seg_succ, ih, seg_succ, ← List.append_assoc, Nat.add_assoc]
theorem seg_cons (f : Nat → Nat) (a k : Nat) : seg f a (k + 1) = f a :: seg f (a + 1) k := by
  rw [Nat.add_comm, seg_add]; simp [seg]
theorem seg_shift (f : Nat → Nat) (a b k : Nat) : seg (fun i => f (a + i)) b k = seg f (a + b) k := by simp [seg, Nat.add_assoc]
theorem seg_congr {f g : Nat → Nat} {a k : Nat} (h : ∀ i, i < k → f (a + i) = g (a + i)) : seg f a k = seg g a k := by
  apply List.ext_getElem?
  intro i
  by_cases hi : i < k
  · rw [seg_get f a k i hi, seg_get g a k i hi, h i hi]
  · rw [List.getElem?_eq_none (by simp [seg_len]; omega), List.getElem?_eq_none (by simp [seg_len]; omega)]
theorem seg_mem {f : Nat → Nat} {a k x : Nat} (h : x ∈ seg f a k) : ∃ i, i < k ∧ x = f (a + i) := by
  simp only [seg, List.mem_map, List.mem_range] at h
  obtain ⟨i, hi, e⟩ := h
  exact ⟨i, hi, e.symm⟩
/-- a list as a function of places -/
def pick (l : List Nat) (i : Nat) : Nat := l[i]?.getD 0
theorem pick_seg (l : List Nat) : seg (pick l) 0 l.length = l := by
  apply List.ext_getElem?
  intro i
  by_cases hi : i < l.length
  · rw [seg_get _ _ _ i hi]; simp [pick, hi]
  · rw [List.getElem?_eq_none (by simp [seg_len]; omega), List.getElem?_eq_none (by omega)]
theorem pick_get {l : List Nat} {i : Nat} (h : i < l.length) : l[i]? = some (pick l i) := by simp [pick, h]
theorem pick_lt {l : List Nat} {M : Nat} (hl : ∀ x ∈ l, x < M) {i : Nat} (h : i < l.length) : pick l i < M := hl _ (List.mem_of_getElem? (pick_get h))
theorem seg_inj {f g : Nat → Nat} {a b k : Nat} (h : seg f a k = seg g b k) {i : Nat} (hi : i < k) : f (a + i) = g (b + i) := by
  have := congrArg (·[i]?) h
  simpa [seg_get, hi] using this

/-- An owned row of naturals. -/
def owns (w : World) (base e : Nat) (K : IntKind) (v : Value) (l : List Nat) : Prop := w.ownsRow base e 1 v l.length (l.map fun (x : Nat) => Value.int K (x : Nat))
theorem owns.form {w : World} {base e : Nat} {K : IntKind} {v : Value} {l : List Nat} (h : owns w base e K v l) : ∃ A c, v = .slice A l.length c ∧ l.length ≤ c ∧ c ≤ maxLen ∧ (A = none → l.length = 0 ∧ c = 0) := by
  rcases h.2 with ⟨rfl, h0⟩ | ⟨g, cap, cur, rfl, _, _, h1, h2, _⟩
  · exact ⟨none, 0, by rw [h0], by omega, by unfold maxLen; omega, fun _ => ⟨h0, rfl⟩⟩
  · exact ⟨some ⟨g, 0, none⟩, cap, rfl, h1, h2, fun e => by cases e⟩
theorem owns.nums {w : World} {base e c : Nat} {K : IntKind} {M : Nat} {A : Option Addr} {l : List Nat} (h : owns w base e K (.slice A l.length c) l) (hl : ∀ x ∈ l, x < M) : Nums K M w A l.length (pick l) :=
  Nums.of_own h (fun _ hi => pick_get hi) (fun _ hi => pick_lt hl hi)
theorem owns.keep {w w' : World} {base e : Nat} {K : IntKind} {v : Value} {l : List Nat} (h : owns w base e K v l) (hb : Below w.heap.size w w') : owns w' base e K v l := by
  refine ⟨h.1, ?_⟩
  rcases h.2 with hn | ⟨g, cap, cur, rfl, hbg, hg, rest⟩
  · exact .inl hn
  · exact .inr ⟨g, cap, cur, rfl, hbg, by rw [hb.block g (Array.getElem?_eq_some_iff.1 hg).1]; exact hg, rest⟩
theorem owns.down {w : World} {base base' e : Nat} {K : IntKind} {v : Value} {l : List Nat} (h : owns w base e K v l) (hb : base' ≤ base) : owns w base' e K v l := by
  refine ⟨h.1, ?_⟩
  rcases h.2 with hn | ⟨g, cap, cur, rfl, hbg, rest⟩
  · exact .inl hn
  · exact .inr ⟨g, cap, cur, rfl, by omega, rest⟩

theorem block_of_add (a : Addr) (n : Nat) : (a.add n).block = a.block := by unfold Addr.add; split <;> rfl
theorem lt_of_cell {w : World} {v : Value} : ∀ {a : Addr}, w.cell? a = some v → a.block < w.heap.size := by
  intro a h
  rcases Nat.lt_or_ge a.block w.heap.size with hlt | hge
  · exact hlt
  · simp [World.cell?, Array.getElem?_eq_none hge] at h

/-- what is known of a slice of numbers of one kind that came in -/
def RowIn (K : IntKind) (w : World) (a : Option Addr) (len cap : Nat) (zs : List Int) : Prop :=
  (a = none ∧ len = 0 ∧ cap = 0 ∧ zs = []) ∨
  ∃ x, a = some x ∧ len ≤ cap ∧ cap ≤ maxLen ∧ zs.length = cap ∧ (∀ i, i < zs.length → w.cell? (x.add i) = some (.int K (zs.getD i 0))) ∧ ∀ n ∈ zs, (Lit.int K n).wf = true
theorem RowIn.nil {K : IntKind} {w : World} {a : Option Addr} {len cap : Nat} {zs : List Int} (h : RowIn K w a len cap zs) : a = none → len = 0 ∧ cap = 0 := by
  rcases h with ⟨rfl, rfl, rfl, rfl⟩ | ⟨x, rfl, _⟩
  · exact fun _ => ⟨rfl, rfl⟩
  · exact fun e => by cases e
theorem RowIn.bd {K : IntKind} {w : World} {a : Option Addr} {len cap : Nat} {zs : List Int} (h : RowIn K w a len cap zs) : len ≤ cap ∧ cap ≤ 9223372036854775807 := by
  rcases h with ⟨rfl, rfl, rfl, rfl⟩ | ⟨x, rfl, hl, hm, _⟩
  · omega
  · unfold maxLen at hm; omega
theorem RowIn.nums {K : IntKind} {M : Nat} {w : World} {a : Option Addr} {len cap : Nat} {zs : List Int} (h : RowIn K w a len cap zs) (h0 : K.min = 0) (h1 : K.max < M) : Nums K M w a len (fun i => (zs.getD i 0).toNat) := by
  rcases h with ⟨rfl, rfl, rfl, rfl⟩ | ⟨x, rfl, hl, hm, hz, hc, hw⟩
  · exact Nums.zero _ _
  · have hwf : ∀ i, i < len → 0 ≤ zs.getD i 0 ∧ zs.getD i 0 < M := by
      intro i hi
      have hmem : zs.getD i 0 ∈ zs := by
        have hlt : i < zs.length := by omega
        simp [hlt]
      have := hw _ hmem
      simp only [Lit.wf, h0, Bool.and_eq_true, decide_eq_true_eq] at this
      omega
    refine ⟨fun i hi => by have := hwf i hi; dsimp only; omega, fun hn => ?_⟩
    have h0 := hc 0 (by omega)
    have hb : x.block < w.heap.size := by
      have := lt_of_cell h0
      rwa [block_of_add] at this
    obtain ⟨b, off, spot⟩ := x
    have hspot : spot = none := by simpa [Addr.add] using World.cell?_spot h0
    subst hspot
    refine ⟨b, off, rfl, hb, fun i hi => ?_⟩
    have := hc i (by omega)
    have e : (Addr.add ⟨b, off, none⟩ i) = ⟨b, off + i, none⟩ := by unfold Addr.add; split <;> simp_all
    rw [e] at this
    rw [this]
    have := hwf i hi
    rw [Int.toNat_of_nonneg this.1]
theorem RowIn.bytes {w : World} {a : Option Addr} {len cap : Nat} {zs : List Int} (h : RowIn .u8 w a len cap zs) : Bytes w a len (fun i => (zs.getD i 0).toNat) := h.nums (by decide) (by decide)
theorem RowIn.longs {w : World} {a : Option Addr} {len cap : Nat} {zs : List Int} (h : RowIn .u64 w a len cap zs) : Longs w a len (fun i => (zs.getD i 0).toNat) := h.nums (by decide) (by decide)
end Go.Proofs.Ytmodegkpfdlccaa
