/-
  The laws' Items and told, over rows in memory.
-/
import Derived.Test.YtpfeiiabplaghaaSame10
namespace Go.Proofs.Ytpfeiiabplaghaa
open Go.RowKit

def kindOf (b : UInt8) : Nat := if b = 95 then 1 else if b = 47 then 2 else if b = 98 then 3 else 0
/-- the items of a text and widths -/
def itemsOf (K : List UInt8) (ws : List Int) : List It := List.zipWith (fun b x => (kindOf b, x)) K ws
theorem itemsOf_take (K : List UInt8) (ws : List Int) (i : Nat) (b : UInt8) (x : Int) (h1 : K[i]? = some b) (h2 : ws[i]? = some x) : itemsOf (K.take (i + 1)) (ws.take (i + 1)) = itemsOf (K.take i) (ws.take i) ++ [(kindOf b, x)] := by
  have e1 : K.take (i + 1) = K.take i ++ [b] := by rw [List.take_add_one, h1]; rfl
  have e2 : ws.take (i + 1) = ws.take i ++ [x] := by rw [List.take_add_one, h2]; rfl
  have l1 : (K.take i).length = i := by rw [List.length_take]; have := (List.getElem?_eq_some_iff.1 h1).1; omega
  have l2 : (ws.take i).length = i := by rw [List.length_take]; have := (List.getElem?_eq_some_iff.1 h2).1; omega
  unfold itemsOf
  rw [e1, e2, List.zipWith_append (by rw [l1, l2])]
  rfl
theorem index_byte10 (s : ByteArray) (i : Nat) (b : UInt8) (h : s.data.toList[i]? = some b) (W : World) : (Instr.index 9 (.string s) (.int .i64 (i : Nat))).run Try.prog W = .ok (.int .u8 (b.toNat : Nat)) W := by
  obtain ⟨hi, hb⟩ := List.getElem?_eq_some_iff.1 h
  have hs : i < s.size := by simpa using hi
  rw [run_index_string W _ _ _ _ Try.underlying9, dif_pos ⟨by omega, by omega⟩]
  rw [← hb]
  rfl
/-- ints as they lie in a block -/
def IntsAt (w : World) (g : Nat) (ws : List Int) : Prop := g < w.heap.size ∧ ∀ j x, ws[j]? = some x → w.cell? ⟨g, j, none⟩ = some (.int .i64 x)
theorem IntsAt.keep {w w' : World} {g : Nat} {ws : List Int} (h : IntsAt w g ws) (hb : Below w.heap.size w w') : IntsAt w' g ws := ⟨Nat.lt_of_lt_of_le h.1 hb.size, fun j x hx => (hb.cell (p := ⟨g, j, none⟩) h.1).trans (h.2 j x hx)⟩
set_option maxRecDepth 100000 in
set_option maxHeartbeats 4000000 in
theorem items_any (K : ByteArray) (ws : List Int) (g c : Nat) (w : World) (hl : K.data.toList.length = ws.length) (hn : ws.length ≤ 1000) (hw : IntsAt w g ws) :
    Calls Try.prog 27 #[.string K, .slice (some ⟨g, 0, none⟩) ws.length c] w fun e w' => ∃ v, e = .returned v ∧ ownsI w' w.heap.size v (itemsOf K.data.toList ws) ∧ Below w.heap.size w w' := by
  have HW := Lib.hid hw
  obtain ⟨H, hH⟩ : ∃ H, w.heap.size = H := ⟨_, rfl⟩
  have SZ : K.size = ws.length := by rw [← hl]; simp
  obtain ⟨n, en⟩ : ∃ n, ws.length = n := ⟨_, rfl⟩
  have HN := Lib.hid en
  have HL := Lib.hid hl
  rw [hH]
  rw [en] at SZ hn ⊢
  have ST := Lib.hid (show ownsI w H (.slice none 0 0) (itemsOf (K.data.toList.take 0) (ws.take 0)) ∧ Below H w w from ⟨ownsI.nil _ _, Below.refl _ _⟩)
  clear hw hl en
  go_enter Try.func27, Try.ntmps27
  go_wp2_with fail
  go_loopg [5, 6] n (fun g1 vo vi wr => ∃ (i : Nat) (vv : Value), vi = .int .i64 i ∧ vo = vv ∧ i ≤ n ∧ n - i ≤ g1 ∧ Hid (ownsI wr H vv (itemsOf (K.data.toList.take i) (ws.take i)) ∧ Below H w wr))
  case atStart => exact ⟨0, _, rfl, rfl, by omega, by omega, ST⟩
  case round =>
    obtain ⟨i, vo, rfl, ev, hi, hg1, hR⟩ := hrel
    replace ev := ev.symm
    subst ev
    by_cases hlt : i < n
    · have hz : (i : Int) < n := by omega
      have hz1 : (i : Int) < K.size := by omega
      have hz0 : (0 : Int) ≤ i := by omega
      have wi : IntKind.i64.wrap ((i : Int) + 1) = (i : Int) + 1 := IntWalk.i64_in _ (by omega)
      obtain ⟨x, hx⟩ : ∃ x, ws[i]? = some x := ⟨_, List.getElem?_eq_getElem (by have := HN.out; omega)⟩
      obtain ⟨b, hb⟩ : ∃ b, K.data.toList[i]? = some b := ⟨_, List.getElem?_eq_getElem (by have := HN.out; have := HL.out; omega)⟩
      have ix := index_byte10 K i b hb
      have NX := Lib.hid (itemsOf_take K.data.toList ws i b x hb hx)
      have LN : Hid ((itemsOf (K.data.toList.take i) (ws.take i)).length ≤ 1000) := Lib.hid (by
        unfold itemsOf
        rw [List.length_zipWith, List.length_take]
        omega)
      obtain ⟨hO, hB⟩ := hR.out
      have hcx : wr.cell? ⟨g, i, none⟩ = some (.int .i64 x) := by
        have hg : g < H := by rw [← hH]; exact HW.out.1
        exact (hB.cell (p := ⟨g, i, none⟩) hg).trans (HW.out.2 i x hx)
      have hHs : H ≤ wr.heap.size := by rw [← hH]; exact hB.size
      have O1 : ∀ o, ownsI (wr.alloc o) H vo (itemsOf (K.data.toList.take i) (ws.take i)) := fun o => hO.keep ((Below.refl _ wr).alloc (Nat.le_refl _) _)
      have HO1 := Lib.hid O1
      have HB1 := Lib.hid hB
      obtain ⟨A, c', e, -, -, -⟩ := own_form hO
      generalize itemsOf (K.data.toList.take i) (ws.take i) = pl at NX LN HO1 e
      subst e
      clear hb hx hO hB O1 hR
      by_cases b1 : b = 95
      · have e1 : ((b.toNat : Int) == 95) = true := by subst b1; rfl
        rw [show kindOf b = 1 by simp [kindOf, b1]] at NX
        go_wp2_with ((with_reducible change wpList _ _ _ (Oper.mk (some 40) _ _ _ _ _ :: _) _ _); refine wpList_append_it rfl _ _ rfl H _ _ rfl (HO1.out _) (1, x) _ (by rw [World.size_alloc]; rfl) (by have := LN.out; omega) (by rw [World.size_alloc]; omega) ?_; intro v1 w1 hv1 hb1 _; have OW1 := Lib.hid hv1; have BW1 := Lib.hid ((HB1.out.alloc hHs _).trans hb1); clear hv1 hb1)
        go_roundg (n - (i + 1))
        case measure => omega
        case rel => exact ⟨i + 1, _, by go_num, rfl, by omega, Nat.le_refl _, Lib.hid ⟨by rw [NX.out]; exact OW1.out, BW1.out⟩⟩
      · have e1 : ((b.toNat : Int) == 95) = false := by
          rw [beq_eq_false_iff_ne]; intro h; exact b1 (UInt8.toNat_inj.1 (by show b.toNat = 95; omega))
        by_cases b2 : b = 47
        · have e2 : ((b.toNat : Int) == 47) = true := by subst b2; rfl
          rw [show kindOf b = 2 by simp [kindOf, b2]] at NX
          go_wp2_with ((with_reducible change wpList _ _ _ (Oper.mk (some 40) _ _ _ _ _ :: _) _ _); refine wpList_append_it rfl _ _ rfl H _ _ rfl (HO1.out _) (2, x) _ (by rw [World.size_alloc]; rfl) (by have := LN.out; omega) (by rw [World.size_alloc]; omega) ?_; intro v1 w1 hv1 hb1 _; have OW1 := Lib.hid hv1; have BW1 := Lib.hid ((HB1.out.alloc hHs _).trans hb1); clear hv1 hb1)
          go_roundg (n - (i + 1))
          case measure => omega
          case rel => exact ⟨i + 1, _, by go_num, rfl, by omega, Nat.le_refl _, Lib.hid ⟨by rw [NX.out]; exact OW1.out, BW1.out⟩⟩
        · have e2 : ((b.toNat : Int) == 47) = false := by
            rw [beq_eq_false_iff_ne]; intro h; exact b2 (UInt8.toNat_inj.1 (by show b.toNat = 47; omega))
          by_cases b3 : b = 98
          · have e3 : ((b.toNat : Int) == 98) = true := by subst b3; rfl
            rw [show kindOf b = 3 by simp [kindOf, b3]] at NX
            go_wp2_with ((with_reducible change wpList _ _ _ (Oper.mk (some 40) _ _ _ _ _ :: _) _ _); refine wpList_append_it rfl _ _ rfl H _ _ rfl (HO1.out _) (3, x) _ (by rw [World.size_alloc]; rfl) (by have := LN.out; omega) (by rw [World.size_alloc]; omega) ?_; intro v1 w1 hv1 hb1 _; have OW1 := Lib.hid hv1; have BW1 := Lib.hid ((HB1.out.alloc hHs _).trans hb1); clear hv1 hb1)
            go_roundg (n - (i + 1))
            case measure => omega
            case rel => exact ⟨i + 1, _, by go_num, rfl, by omega, Nat.le_refl _, Lib.hid ⟨by rw [NX.out]; exact OW1.out, BW1.out⟩⟩
          · have e3 : ((b.toNat : Int) == 98) = false := by
              rw [beq_eq_false_iff_ne]; intro h; exact b3 (UInt8.toNat_inj.1 (by show b.toNat = 98; omega))
            rw [show kindOf b = 0 by simp [kindOf, b1, b2, b3]] at NX
            go_wp2_with ((with_reducible change wpList _ _ _ (Oper.mk (some 40) _ _ _ _ _ :: _) _ _); refine wpList_append_it rfl _ _ rfl H _ _ rfl (HO1.out _) (0, x) _ (by rw [World.size_alloc]; rfl) (by have := LN.out; omega) (by rw [World.size_alloc]; omega) ?_; intro v1 w1 hv1 hb1 _; have OW1 := Lib.hid hv1; have BW1 := Lib.hid ((HB1.out.alloc hHs _).trans hb1); clear hv1 hb1)
            go_roundg (n - (i + 1))
            case measure => omega
            case rel => exact ⟨i + 1, _, by go_num, rfl, by omega, Nat.le_refl _, Lib.hid ⟨by rw [NX.out]; exact OW1.out, BW1.out⟩⟩
    · obtain rfl : i = n := by omega
      have hz : ¬ (i : Int) < i := by omega
      have hz1 : ¬ (i : Int) < K.size := by omega
      obtain ⟨hO, hB⟩ := hR.out
      rw [List.take_of_length_le (by rw [HL.out, HN.out]; omega), List.take_of_length_le (by rw [HN.out]; omega)] at hO
      go_wp2_with fail
      go_ret
      exact ⟨_, rfl, hO, hB⟩
end Go.Proofs.Ytpfeiiabplaghaa
