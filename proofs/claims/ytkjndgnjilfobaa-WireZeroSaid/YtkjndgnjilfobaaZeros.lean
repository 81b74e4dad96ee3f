/-
  Noughts: rows of them that are made, or put on to a row of bytes of the call's own.
-/
import Derived.Test.YtkjndgnjilfobaaTakeW
import Derived.Lib.AppendZerosOnto
namespace Go.Proofs.Ytkjndgnjilfobaa
open Go.RowKit

theorem zeroCells_list (v : Value) (k : Nat) : (Builtin.zeroCells #[v] k).toList = List.replicate k v := by
  apply List.ext_getElem?
  intro i
  by_cases h : i < k
  · simp [Builtin.zeroCells, h, Nat.mod_one]
  · rw [List.getElem?_eq_none (by simp [Builtin.zeroCells]; omega), List.getElem?_eq_none (by simp; omega)]
theorem take_zeros (xs : List Value) (z : Value) (a b : Nat) : List.take (xs.length + a) (xs ++ List.replicate (a + b) z) = xs ++ List.replicate a z := by
  rw [← List.replicate_append_replicate, ← List.append_assoc, List.take_left' (by simp)]
theorem run_append_zeros {w : World} {ty : TypeId} {base n cap k : Nat} {A : Option Addr} {l : List Nat} (h : owns w base 5 .u8 (.slice A n cap) l) (hA : 0 < l.length) (hk : 0 < k) (hb : l.length + k ≤ 100000000) (hbase : base ≤ w.heap.size) :
    ∃ v' w', (Builtin.append_ #[25, 3] ty #[.slice A n cap, .int .i64 (k : Nat)]).run Try.prog w = .ok v' w' ∧ owns w' base 5 .u8 v' (l ++ List.replicate k 0) ∧ w.grownBy w' (Value.slice A n cap).ownBlock := by
  obtain ⟨i0, hi, hz0, hz1, hz2⟩ := info_parts Try.info5
  have hl2 : (l ++ List.replicate k 0).length = l.length + k := by simp
  have hml : (l ++ List.replicate k 0).map (fun (x : Nat) => Value.int .u8 (x : Nat)) = l.map (fun (x : Nat) => Value.int .u8 (x : Nat)) ++ List.replicate k (.int .u8 0) := by simp
  rcases h.2 with ⟨_, h0⟩ | ⟨g, cp, cur, hv, hbg, hg, hnc, hcm, hcs, ht⟩
  · omega
  · injection hv with v1 v2 v3
    subst v1 v2 v3
    have hkw : IntKind.i64.wrap (k : Int) = k := by rw [IntKind.wrap_i64]; omega
    have hk0 : k ≠ 0 := by omega
    have hneg : ¬ ((k : Int) < 0) := by omega
    have h48 : ¬ (281474976710656 < (k : Int)) := by omega
    by_cases hroom : l.length + k ≤ cap
    · have hst := run_storeCells_at Try.prog g (l.length * i0.size) 5 (List.replicate k (Value.int .u8 0)) 0 cur w hg (by rw [hz1]; simp; omega) (fun u hu => by rw [List.eq_of_mem_replicate hu]; rfl)
      simp only [Nat.add_zero] at hst
      refine ⟨.slice (some ⟨g, 0, none⟩) (l.length + k) cap, w.setRow g (cur.toList.take (l.length * i0.size) ++ List.replicate k (Value.int .u8 0) ++ cur.toList.drop (l.length * i0.size + (List.replicate k (Value.int .u8 0)).length)).toArray, ?_, ?_, ⟨rfl, rfl, rfl, by simp, fun j _ hj => setRow_other w g j _ (fun e => hj (by simp [Value.ownBlock, e]))⟩⟩
      · simp [Builtin.append_, run_underlying Try.underlying25, run_underlying Try.underlying3, sizeOf, typeInfo, zeroValue, hi, hz0, hz1, hz2, asInt, asIntOf, hkw, hk0, hneg, h48, hroom, Addr.add_lit]
        rw [hz1] at hst
        rw [show (Value.int IntKind.u8 0).cells = #[.int .u8 0] from rfl, zeroCells_list]
        simp at hst
        simp [hst, Result.andThen]
      · unfold owns
        rw [hl2, hml]
        refine ⟨by simp, .inr ⟨g, cap, _, rfl, hbg, setRow_heap w g cur _ _ _ hg, hroom, hcm, ?_, ?_⟩⟩
        · simp only [List.size_toArray, List.length_append, List.length_take, List.length_drop, List.length_replicate, Array.length_toList, hz1]
          omega
        · rw [hz1, ht]
          have := List.take_left' (l₁ := l.map (fun (x : Nat) => Value.int .u8 (x : Nat)) ++ List.replicate k (.int .u8 0)) (l₂ := cur.toList.drop (l.length * 1 + (List.replicate k (Value.int .u8 0)).length)) (i := (l.length + k) * 1) (by simp)
          simpa using this
    · have hold : (Builtin.firstCells i0.size l.length (.slice (some ⟨g, 0, none⟩) l.length cap)).run Try.prog w.drew = .ok (l.map (fun (x : Nat) => Value.int .u8 (x : Nat))).toArray w.drew :=
        run_firstCells_some w.drew i0.size l.length ⟨g, 0, none⟩ l.length cap _ (by rw [hz1]; simp) (fun j u hu => (World.ownsRow.cells h (g := g) rfl) j u hu)
      have hr := Lib.run_append_grow_zeros (P := Try.prog) w 25 3 ty 5 i0 (.int .u8 0) .i64 .i64 Try.underlying25 Try.underlying3 hi hz0 (some ⟨g, 0, none⟩) l.length cap _ hold k hk (by omega) (by omega) (by omega) (by rw [hz2]; omega) (growslice_fits (by omega) (by rw [hz2]; omega))
      have hge := grownCap_ge w (l.length + k) cap 5
      have hcm2 : grownCap w (l.length + k) cap 5 ≤ maxLen := grownCap_le_maxLen w (l.length + k) cap 5 (by unfold maxLen; omega)
      refine ⟨_, _, hr, ?_, ⟨rfl, rfl, rfl, by simp, fun j hj _ => Below.heap_alloc w.drew _ j hj⟩⟩
      unfold owns
      rw [hl2, hml]
      refine ⟨by simp, .inr ⟨w.heap.size, _, _, rfl, hbase, heap_alloc_new w.drew _, hge, hcm2, ?_, ?_⟩⟩
      · simp [size_zeroCells, Value.cells]
        omega
      · simp [zeroCells_list, Value.cells]
        have := take_zeros (l.map (fun (x : Nat) => Value.int .u8 (x : Nat))) (.int .u8 0) k (grownCap w (l.length + k) cap 5 - (l.length + k))
        simpa using this
theorem step_append_zeros {w : World} {ops : Array Oper} {o : Oper} {a : Act} {K : Act → World → Prop} {Q : Exit → Act → World → Prop} {E : Prop} (hgd : o.guard = none) (s x : Operand)
    (ho : o.op = .call { callee := .builtin .append, args := #[s, x], argTypes := #[25, 3] })
    (base : Nat) (A : Option Addr) (n cap : Nat) (l : List Nat) (hs : a.eval s = .slice A n cap) (hown : owns w base 5 .u8 (.slice A n cap) l) (hA : 0 < l.length) (k : Nat) (hx : a.eval x = .int .i64 (k : Nat)) (hk : 0 < k)
    (hb : l.length + k ≤ 100000000) (hbase : base ≤ w.heap.size)
    (h : ∀ v' w', owns w' base 5 .u8 v' (l ++ List.replicate k 0) → Below base w w' → K (a.put o.dst v') w') :
    if Region.wanted o (yielded ops a.tmps) = true then Oper.wp Try.prog o a w K Q else E := by
  have hw : Region.wanted o (yielded ops a.tmps) = true := by simp [Region.wanted, hgd]
  rw [if_pos hw]
  obtain ⟨v', w', hr, h1, h2⟩ := run_append_zeros (ty := o.type) hown hA hk hb hbase
  exact Lib.wp_append_run w s x _ _ ho _ _ hs hx v' w' hr (h v' w' h1 ((Below.refl _ _).grown h2 hbase (fun j e => (World.ownsRow.lt hown j e).1)))
theorem madeCells_get (v : Value) (n i : Nat) (h : i < n) : (madeCells #[v] n)[i]? = some v := by simp [madeCells, h, Nat.mod_one]
/-- noughts in a block of their own -/
theorem made_bytes0 (n : Nat) (hn : n ≤ 1000000) : ∃ cs : Array Value, (∀ W : World, (Instr.makeSlice 25 (.int .i64 (n : Nat)) (.int .i64 (n : Nat))).run Try.prog W = .ok (.slice (some ⟨W.heap.size, 0, none⟩) n n) (W.alloc (.cells cs 5))) ∧ ∀ W : World, Bytes (W.alloc (.cells cs 5)) (some ⟨W.heap.size, 0, none⟩) n (fun _ => 0) := by
  obtain ⟨i0, hi, hz0, hz1, hz2⟩ := info_parts Try.info5
  refine ⟨madeCells #[.int .u8 0] (n * 1), fun W => ?_, fun W => ⟨fun _ _ => by dsimp only; omega, fun _ => ⟨_, 0, rfl, by simp, fun i h => ?_⟩⟩⟩
  · have := run_make (P := Try.prog) W 25 5 i0 _ Try.underlying25 hi hz0 .i64 .i64 (n : Nat) (n : Nat) (by omega) (by omega) (by rw [hz2]; omega) (by omega)
    rw [Int.toNat_natCast, hz1] at this
    exact this
  · rw [cell_of_row _ _ _ _ _ _ (heap_alloc_new W _), Nat.zero_add, madeCells_get _ _ _ (by omega)]
    rfl
theorem made_longs0 (n : Nat) (hn : n ≤ 1000000) : ∃ cs : Array Value, (∀ W : World, (Instr.makeSlice 40 (.int .i64 (n : Nat)) (.int .i64 (n : Nat))).run Try.prog W = .ok (.slice (some ⟨W.heap.size, 0, none⟩) n n) (W.alloc (.cells cs 39))) ∧ ∀ W : World, Longs (W.alloc (.cells cs 39)) (some ⟨W.heap.size, 0, none⟩) n (fun _ => 0) := by
  obtain ⟨i0, hi, hz0, hz1, hz2⟩ := info_parts Try.infoL
  refine ⟨madeCells #[.int .u64 0] (n * 1), fun W => ?_, fun W => ⟨fun _ _ => by dsimp only; omega, fun _ => ⟨_, 0, rfl, by simp, fun i h => ?_⟩⟩⟩
  · have := run_make (P := Try.prog) W 40 39 i0 _ Try.underlying40 hi hz0 .i64 .i64 (n : Nat) (n : Nat) (by omega) (by omega) (by rw [hz2]; omega) (by omega)
    rw [Int.toNat_natCast, hz1] at this
    exact this
  · rw [cell_of_row _ _ _ _ _ _ (heap_alloc_new W _), Nat.zero_add, madeCells_get _ _ _ (by omega)]
    rfl
theorem put_long {s : List Nat} {l : List WV} {W w' : World} {e : Ending} (h : PutAns s l W e w') (hg : Good s l) (hn : ¬ AllShort l) : e = .returned (.tuple #[.slice none 0 0, .int .i64 3]) ∧ Below W.heap.size W w' := by
  obtain ⟨hb, ⟨h1, h2⟩ | ⟨h1, h2, h3⟩ | ⟨h1, h2, h3⟩⟩ := h
  · exact absurd hg h1
  · exact ⟨h3, hb⟩
  · exact absurd h2 hn
theorem put_short {s : List Nat} {l : List WV} {W w' : World} {e : Ending} (h : PutAns s l W e w') (hg : Good s l) (hn : AllShort l) : ∃ A c, e = .returned (.tuple #[.slice A (forms s l).length c, .int .i64 0]) ∧ (A = none → (forms s l).length = 0 ∧ c = 0) ∧ (forms s l).length ≤ c ∧ c ≤ 9223372036854775807 ∧ Bytes w' A (forms s l).length (pick (forms s l)) ∧ Below W.heap.size W w' := by
  obtain ⟨hb, ⟨h1, h2⟩ | ⟨h1, h2, h3⟩ | ⟨h1, h2, A, c, h3, h4, h5, h6, h7⟩⟩ := h
  · exact absurd hg h1
  · exact absurd hn h2
  · exact ⟨A, c, h3, h4, h5, h6, h7, hb⟩
theorem means_one (X : RV) : means (fun _ => X) 1 = [X.mean] := rfl
theorem forms_one (c : Nat) (v : WV) : forms [c] [v] = form c v := by simp [forms]
theorem valid_one {c : Nat} {l : List WV} (h : Valid [c] l) : ∃ v, l = [v] ∧ Fits c v ∧ Short v ∧ Real v := by
  obtain ⟨⟨_, hf⟩, hs, hr⟩ := h
  have hl := hf.len
  match l, hl with
  | [v], _ => exact ⟨v, rfl, hf.1, hs v (by simp), hr v (by simp)⟩

end Go.Proofs.Ytkjndgnjilfobaa
