/-
  The law MarginMore: of any Join, One, May that answer as is asked.
-/
import Derived.Test.YtidbfkbeploagaaAwake13
import Derived.Test.YtidbfkbeploagaaRely
namespace Go.Proofs.Ytidbfkbeploagaa
open Go.RowKit

theorem new_two (W : World) (a b : Mg) : MgIn (W.alloc (.cells #[.int .i64 a.1, .int .i64 a.2, .int .i64 b.1, .int .i64 b.2] 25)) (.slice (some ⟨W.heap.size, 0, none⟩) 2 2) [a, b] := mgs_new [a, b] (by simp) _
/-- a call of Join with two -/
theorem join_two {f : Nat} (hJ : JoinOK f) (a b : Mg) (W : World) : Calls Try.prog f #[.slice (some ⟨W.heap.size, 0, none⟩) 2 2] (W.alloc (.cells #[.int .i64 a.1, .int .i64 a.2, .int .i64 b.1, .int .i64 b.2] 25)) fun e w' => e = .returned (mgV (mjoin a b)) ∧ Below W.heap.size W w' := by
  refine (hJ [a, b] _ _ (new_two W a b) (by simp)).mono ?_
  rintro e w' ⟨rfl, hb⟩
  exact ⟨rfl, ((Below.refl _ W).alloc (Nat.le_refl _) _).trans (hb.mono (by rw [World.size_alloc]; omega))⟩
def opM (l : List Mg) : OpB := ⟨fun v w => MgIn w v l, fun _ _ _ hb h => h.keep hb⟩
theorem more_iff {a : Mg} (h : MayM a) (n : Int) : mjoin a (oneM n) = (if n > a.1 then n else a.1, if n < a.2 then n else a.2) := by
  obtain ⟨⟨h1, h2⟩, h3, h4⟩ := h
  unfold mjoin oneM
  ext
  · dsimp only; repeat' split <;> simp_all <;> omega
  · dsimp only; repeat' split <;> simp_all <;> omega

end Go.Proofs.Ytidbfkbeploagaa
