/-
  A node's style, its fields by name.
-/
import Derived.Test.YtmodegkpfdlccaaNodes
import Derived.Test.YtmodegkpfdlccaaOpenStyle
import Derived.ChangeKeys
namespace Go.Proofs.Ytmodegkpfdlccaa
open Go.RowKit Go.ChangeShapes Go.WideShapes

set_option maxRecDepth 100000 in
theorem alike_int {k : IntKind} {n : Int} {r l : List Lit} (h : Alike (.int k n :: r) l) (w : ∀ c ∈ l, c.keyWf) : ∃ m l', l = .int k m :: l' ∧ (Lit.int k m).wf = true ∧ Alike r l' ∧ ∀ c ∈ l', c.keyWf := by
  match l, h, w with
  | .int k' m :: l', ⟨h1, h2⟩, w =>
    simp only [Lit.sameKind] at h1
    subst h1
    have w0 : (Lit.int k m).keyWf := w (.int k m) (List.mem_cons_self ..)
    exact ⟨m, l', rfl, w0, h2, fun c hc => w c (by simp [hc])⟩
set_option maxRecDepth 100000 in
theorem alike_bool {b : Bool} {r l : List Lit} (h : Alike (.bool b :: r) l) (w : ∀ c ∈ l, c.keyWf) : ∃ m l', l = .bool m :: l' ∧ Alike r l' ∧ ∀ c ∈ l', c.keyWf := by
  match l, h, w with
  | .bool m :: l', ⟨_, h2⟩, w => exact ⟨m, l', rfl, h2, fun c hc => w c (by simp [hc])⟩
set_option maxRecDepth 100000 in
theorem alike_nil {l : List Lit} (h : Alike [] l) : l = [] := by
  match l, h with
  | [], _ => rfl
def noughtS : RS := ⟨0, false, ⟨0, 0⟩, ⟨0, 0⟩, ⟨0, 0⟩, ⟨0, 0⟩, ⟨0, 0⟩, ⟨0, 0⟩, fun _ => ⟨0, 0⟩, fun _ => 0, fun _ => 0, 0, 0, 0, 0, 0, 0, 0, 0, false, 0, 0, 0, 0, 0, ⟨0, 0⟩, 0⟩
def by4 {α : Type} (a b c d : α) (i : Nat) : α := if i = 0 then a else if i = 1 then b else if i = 2 then c else d
set_option maxRecDepth 100000 in
theorem styled {d : Nat} {cs : List Value} {l : List Lit} (h : Try.prog.keyLits d 30 cs = some l) : ∃ s : RS, l = s.lits ∧ s.ok := by
  have hz : Try.prog.keyLits 5 30 (noughtS.lits.map Lit.toCell) = some noughtS.lits := by kernel_rfl
  have al := keyLits_alike hz h
  have w := keyLits_wf h
  clear h hz
  obtain ⟨n0, l0, rfl, f0, al, w⟩ := alike_int (k := .u8) (n := 0) al w
  obtain ⟨n1, l1, rfl, al, w⟩ := alike_bool (b := false) al w
  obtain ⟨n2, l2, rfl, f2, al, w⟩ := alike_int (k := .u8) (n := 0) al w
  obtain ⟨n3, l3, rfl, f3, al, w⟩ := alike_int (k := .i64) (n := 0) al w
  obtain ⟨n4, l4, rfl, f4, al, w⟩ := alike_int (k := .u8) (n := 0) al w
  obtain ⟨n5, l5, rfl, f5, al, w⟩ := alike_int (k := .i64) (n := 0) al w
  obtain ⟨n6, l6, rfl, f6, al, w⟩ := alike_int (k := .u8) (n := 0) al w
  obtain ⟨n7, l7, rfl, f7, al, w⟩ := alike_int (k := .i64) (n := 0) al w
  obtain ⟨n8, l8, rfl, f8, al, w⟩ := alike_int (k := .u8) (n := 0) al w
  obtain ⟨n9, l9, rfl, f9, al, w⟩ := alike_int (k := .i64) (n := 0) al w
  obtain ⟨n10, l10, rfl, f10, al, w⟩ := alike_int (k := .u8) (n := 0) al w
  obtain ⟨n11, l11, rfl, f11, al, w⟩ := alike_int (k := .i64) (n := 0) al w
  obtain ⟨n12, l12, rfl, f12, al, w⟩ := alike_int (k := .u8) (n := 0) al w
  obtain ⟨n13, l13, rfl, f13, al, w⟩ := alike_int (k := .i64) (n := 0) al w
  obtain ⟨n14, l14, rfl, f14, al, w⟩ := alike_int (k := .u8) (n := 0) al w
  obtain ⟨n15, l15, rfl, f15, al, w⟩ := alike_int (k := .i64) (n := 0) al w
  obtain ⟨n16, l16, rfl, f16, al, w⟩ := alike_int (k := .u8) (n := 0) al w
  obtain ⟨n17, l17, rfl, f17, al, w⟩ := alike_int (k := .i64) (n := 0) al w
  obtain ⟨n18, l18, rfl, f18, al, w⟩ := alike_int (k := .u8) (n := 0) al w
  obtain ⟨n19, l19, rfl, f19, al, w⟩ := alike_int (k := .i64) (n := 0) al w
  obtain ⟨n20, l20, rfl, f20, al, w⟩ := alike_int (k := .u8) (n := 0) al w
  obtain ⟨n21, l21, rfl, f21, al, w⟩ := alike_int (k := .i64) (n := 0) al w
  obtain ⟨n22, l22, rfl, f22, al, w⟩ := alike_int (k := .i64) (n := 0) al w
  obtain ⟨n23, l23, rfl, f23, al, w⟩ := alike_int (k := .i64) (n := 0) al w
  obtain ⟨n24, l24, rfl, f24, al, w⟩ := alike_int (k := .i64) (n := 0) al w
  obtain ⟨n25, l25, rfl, f25, al, w⟩ := alike_int (k := .i64) (n := 0) al w
  obtain ⟨n26, l26, rfl, f26, al, w⟩ := alike_int (k := .i64) (n := 0) al w
  obtain ⟨n27, l27, rfl, f27, al, w⟩ := alike_int (k := .i64) (n := 0) al w
  obtain ⟨n28, l28, rfl, f28, al, w⟩ := alike_int (k := .i64) (n := 0) al w
  obtain ⟨n29, l29, rfl, f29, al, w⟩ := alike_int (k := .i64) (n := 0) al w
  obtain ⟨n30, l30, rfl, f30, al, w⟩ := alike_int (k := .i64) (n := 0) al w
  obtain ⟨n31, l31, rfl, f31, al, w⟩ := alike_int (k := .i64) (n := 0) al w
  obtain ⟨n32, l32, rfl, f32, al, w⟩ := alike_int (k := .i64) (n := 0) al w
  obtain ⟨n33, l33, rfl, f33, al, w⟩ := alike_int (k := .u8) (n := 0) al w
  obtain ⟨n34, l34, rfl, f34, al, w⟩ := alike_int (k := .u8) (n := 0) al w
  obtain ⟨n35, l35, rfl, f35, al, w⟩ := alike_int (k := .u8) (n := 0) al w
  obtain ⟨n36, l36, rfl, f36, al, w⟩ := alike_int (k := .u8) (n := 0) al w
  obtain ⟨n37, l37, rfl, f37, al, w⟩ := alike_int (k := .u8) (n := 0) al w
  obtain ⟨n38, l38, rfl, al, w⟩ := alike_bool (b := false) al w
  obtain ⟨n39, l39, rfl, f39, al, w⟩ := alike_int (k := .u8) (n := 0) al w
  obtain ⟨n40, l40, rfl, f40, al, w⟩ := alike_int (k := .i64) (n := 0) al w
  obtain ⟨n41, l41, rfl, f41, al, w⟩ := alike_int (k := .i64) (n := 0) al w
  obtain ⟨n42, l42, rfl, f42, al, w⟩ := alike_int (k := .i64) (n := 0) al w
  obtain ⟨n43, l43, rfl, f43, al, w⟩ := alike_int (k := .i64) (n := 0) al w
  obtain ⟨n44, l44, rfl, f44, al, w⟩ := alike_int (k := .u8) (n := 0) al w
  obtain ⟨n45, l45, rfl, f45, al, w⟩ := alike_int (k := .i64) (n := 0) al w
  obtain ⟨n46, l46, rfl, f46, al, w⟩ := alike_int (k := .i64) (n := 0) al w
  obtain rfl := alike_nil al
  exact ⟨⟨n0, n1, ⟨n2, n3⟩, ⟨n4, n5⟩, ⟨n6, n7⟩, ⟨n8, n9⟩, ⟨n10, n11⟩, ⟨n12, n13⟩, by4 ⟨n14, n15⟩ ⟨n16, n17⟩ ⟨n18, n19⟩ ⟨n20, n21⟩, by4 n22 n23 n24 n25, by4 n26 n27 n28 n29, n30, n31, n32, n33, n34, n35, n36, n37, n38, n39, n40, n41, n42, n43, ⟨n44, n45⟩, n46⟩, rfl, ⟨u8_in f0, ⟨u8_in f2, i64_in f3⟩, ⟨u8_in f4, i64_in f5⟩, ⟨u8_in f6, i64_in f7⟩, ⟨u8_in f8, i64_in f9⟩, ⟨u8_in f10, i64_in f11⟩, ⟨u8_in f12, i64_in f13⟩, (fun i hi => by
    obtain rfl | rfl | rfl | rfl : i = 0 ∨ i = 1 ∨ i = 2 ∨ i = 3 := by omega
    · exact ⟨u8_in f14, i64_in f15⟩
    · exact ⟨u8_in f16, i64_in f17⟩
    · exact ⟨u8_in f18, i64_in f19⟩
    · exact ⟨u8_in f20, i64_in f21⟩), (fun i hi => by
    obtain rfl | rfl | rfl | rfl : i = 0 ∨ i = 1 ∨ i = 2 ∨ i = 3 := by omega
    · exact i64_in f22
    · exact i64_in f23
    · exact i64_in f24
    · exact i64_in f25), (fun i hi => by
    obtain rfl | rfl | rfl | rfl : i = 0 ∨ i = 1 ∨ i = 2 ∨ i = 3 := by omega
    · exact i64_in f26
    · exact i64_in f27
    · exact i64_in f28
    · exact i64_in f29), i64_in f30, i64_in f31, i64_in f32, u8_in f33, u8_in f34, u8_in f35, u8_in f36, u8_in f37, u8_in f39, i64_in f40, i64_in f41, i64_in f42, i64_in f43, ⟨u8_in f44, i64_in f45⟩, i64_in f46⟩⟩
set_option maxRecDepth 100000 in
theorem RN.ok.styled {v : RN} (h : v.ok) : ∃ s : RS, v.style = s.lits ∧ s.ok := Go.Proofs.Ytmodegkpfdlccaa.styled h.style
end Go.Proofs.Ytmodegkpfdlccaa
