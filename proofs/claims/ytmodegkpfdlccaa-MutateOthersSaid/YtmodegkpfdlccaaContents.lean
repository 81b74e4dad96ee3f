/-
  tree.contentsMay of the landed code.
-/
import Derived.Test.YtmodegkpfdlccaaDepths
namespace Go.Proofs.Ytmodegkpfdlccaa
open Go.RowKit

def ContentsTo (N : Nat → RN) (k : Nat) : Prop := ∀ i, i < k → ContentMay (N i)
def ContentsOK (N : Nat → RN) (n : Nat) : Prop := ContentsTo N n ∧ bytesTo N n ≤ 1500
set_option maxRecDepth 100000 in
theorem ContentMay.short {v : RN} (h : ContentMay v) : v.text.length ≤ 200 := by
  rcases h with ⟨_, h⟩ | ⟨_, _, h⟩
  · rw [h]; simp
  · exact h
set_option maxRecDepth 100000 in
theorem ContentsTo.bytes {N : Nat → RN} : ∀ {k : Nat}, ContentsTo N k → bytesTo N k ≤ 200 * k
  | 0, _ => Nat.le_refl _
  | k + 1, h => by
    have h1 := ContentsTo.bytes (N := N) (k := k) fun i hi => h i (by omega)
    have h2 := (h k (by omega)).short
    unfold bytesTo
    omega

set_option maxRecDepth 100000 in
set_option maxHeartbeats 8000000 in
theorem contents_any (A : Option Addr) (n c : Nat) (N : Nat → RN) (w : World) (hN : Nodes w A n N) (h0 : 0 < n) (hn : n ≤ 300) :
    Calls Try.prog 45 #[.slice A n c] w (ToldB (ContentsOK N n) w) := by
  obtain ⟨b, off, rfl, hb, -⟩ := hN.2 h0
  have HN := Lib.hid hN
  have HL : Hid (∀ j, j < n → Hid ((Try.prog.info? 32).map (·.size) = some (N j).cells.length)) := Lib.hid (fun j hj => Lib.hid (by rw [(hN.1 j hj).len]; exact node_isize))
  have B1 : Hid (Below w.heap.size w w) := Lib.hid (Below.refl _ _)
  clear hN
  go_enter Try.func45, Try.ntmps45
  go_wp2
  go_loopg [3, 8] n (fun g1 v3 v8 wr => ∃ k : Nat, v8 = .int .i64 k ∧ k ≤ n ∧ n - k ≤ g1 ∧ v3 = .int .i64 (bytesTo N k : Nat) ∧ Hid (ContentsTo N k) ∧ Hid (Below w.heap.size w wr))
  case atStart => exact ⟨0, rfl, by omega, by omega, rfl, Lib.hid (fun i h => absurd h (by omega)), B1⟩
  case round =>
    obtain ⟨k, rfl, hk, hg1, rfl, CT, BW⟩ := hrel
    clear B1
    have HW := Lib.hid (HN.out.below BW.out)
    have hbt := CT.out.bytes
    by_cases hlt : k < n
    · have hltz : (k : Int) < n := by omega
      have hk0 : (0 : Int) ≤ k := by omega
      obtain ⟨b', off', e', hb', hat⟩ := HW.out.2 (by omega)
      obtain ⟨rfl, rfl⟩ : b = b' ∧ off = off' := by
        simp only [Option.some.injEq, Addr.mk.injEq, and_true] at e'
        exact e'
      have okk := HW.out.1 k hlt
      have rk : Hid (wr.rangeAt b (off + k * 51) (N k).cells) := Lib.hid (node_range okk (hat k hlt))
      have Lk := HL.out k hlt
      have e50 := okk.last
      have ones := Lib.hid (N k).cells_one
      have XL : Hid ((N k).cells.length = 51) := Lib.hid okk.len
      have DC := Lib.hid (fun W => content_any (N k) okk W)
      have BY : Hid (bytesTo N (k + 1) = bytesTo N k + (N k).text.length) := Lib.hid rfl
      have SH : Hid (ContentMay (N k) → (N k).text.length ≤ 200) := Lib.hid ContentMay.short
      have BAD : Hid (¬ ContentMay (N k) → ¬ ContentsOK N n) := Lib.hid (fun h hn => h (hn.1 k hlt))
      have NX : Hid (ContentMay (N k) → ContentsTo N (k + 1)) := Lib.hid (fun h i hi => by
        rcases Nat.lt_or_ge i k with hl | hl
        · exact CT.out i hl
        · obtain rfl : i = k := by omega
          exact h)
      clear okk hat e' hb' HW
      generalize (N k).cells = X at rk Lk e50 ones DC XL
      generalize (N k).text = T at e50 BY SH
      generalize ContentMay (N k) = M at DC SH BAD NX
      have RN3 : Hid ((wr.alloc (.cells X.toArray 32)).rangeAt wr.heap.size 0 X) := Lib.hid node_alloc_range
      have C50 : Hid ((wr.alloc (.cells X.toArray 32)).cell? ⟨wr.heap.size, 50, none⟩ = some (.string ⟨T.toArray⟩)) := Lib.hid (by rw [World.cell?_alloc_new]; simpa using e50)
      have B3 : Hid (Below w.heap.size w (wr.alloc (.cells X.toArray 32))) := Lib.hid (BW.out.alloc BW.out.size _)
      clear e50
      go_wp2_with (first
        | ((with_reducible change wpList _ _ _ (Oper.mk (some 11) _ _ _ _ _ :: _) _ _); refine wpList_load_mid rfl 32 _ rfl b (off + k * 51) rfl X _ rk.out Try.underlying32 rfl Lk.out ?_)
        | ((with_reducible change wpList _ _ _ (Oper.mk (some 5) _ _ _ _ _ :: _) _ _); refine wpList_alloc_node rfl rfl ?_)
        | ((with_reducible change wpList _ _ _ (Oper.mk none (.store 32 _ _) _ _ _ _ :: _) _ _); refine wpList_store_new rfl 32 _ _ rfl nodeZero X.toArray rfl rfl (by rw [nodeZero_size, List.size_toArray, XL.out]) (by rw [List.size_toArray]; exact Lk.out) (by simpa using ones.out) ?_)
        | ((with_reducible change wpList _ _ _ (Oper.mk (some 12) _ _ _ _ _ :: _) _ _); refine wpList_load_mid rfl 32 _ rfl wr.heap.size 0 rfl X _ RN3.out Try.underlying32 rfl Lk.out ?_)
        | fail)
      refine (DC.out _).mono ?_
      rintro e w3 ⟨g, rfl, hg, hb3⟩
      have B4 : Hid (Below w.heap.size w w3) := Lib.hid (B3.out.trans (hb3.mono (by simp; have := BW.out.size; omega)))
      have c50 : w3.cell? ⟨wr.heap.size, 50, none⟩ = some (.string ⟨T.toArray⟩) := (hb3.cell (p := ⟨wr.heap.size, 50, none⟩) (by simp)).trans C50.out
      cases g
      · have HM : Hid (¬ M) := Lib.hid (fun h => by simpa using hg.2 h)
        clear hg hb3 c50
        go_wp2
        go_ret
        exact told_no (BAD.out HM.out) B4.out
      · have HM : Hid M := Lib.hid (hg.1 rfl)
        have hs := SH.out HM.out
        clear hg hb3
        have hsum : (bytesTo N k : Int) + T.length ≤ 100000 := by omega
        have BY2 : Hid ((bytesTo N k : Int) + T.length = (bytesTo N (k + 1) : Nat)) := Lib.hid (by rw [BY.out]; omega)
        generalize hY2 : bytesTo N (k + 1) = y2 at BY2 ⊢
        have HY2 := Lib.hid hY2
        clear hY2
        go_wp2
        go_roundg (n - (k + 1))
        case measure => omega
        case rel => exact ⟨k + 1, by go_num, by omega, Nat.le_refl _, by rw [BY2.out, HY2.out], Lib.hid (NX.out HM.out), B4⟩
    · obtain rfl : k = n := by omega
      go_wp2
      go_ret
      refine toldB (b := decide ((bytesTo N k : Int) ≤ 1500)) ?_ BW.out
      rw [decide_eq_true_iff]
      exact ⟨fun h => ⟨CT.out, by omega⟩, fun h => by have := h.2; omega⟩
end Go.Proofs.Ytmodegkpfdlccaa
