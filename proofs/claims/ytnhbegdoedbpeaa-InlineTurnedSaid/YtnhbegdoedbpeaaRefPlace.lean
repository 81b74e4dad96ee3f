/-
  The document's Place over spots.
-/
import Derived.Test.YtnhbegdoedbpeaaRefAsked
import Derived.Test.YtnhbegdoedbpeaaRefHeight
import Derived.Deep.Cut
namespace Go.Proofs.Ytnhbegdoedbpeaa
open Go.RowKit

theorem results_tmp4 {fn : Func} {t u v s : Tmp} (h : fn.results = #[.tmp t, .tmp u, .tmp v, .tmp s]) (tmps : Array Value) (P : Program) (w : World) :
    (results fn tmps).run P w = .ok (.tuple #[tmps.getD t undef, tmps.getD u undef, tmps.getD v undef, tmps.getD s undef]) w := by
  simp [results, h]
/-- how Place ends -/
def PlaceEnd (l : List Sp) (u d x : Int) (g : Nat) (w : World) (e : Ending) (w' : World) : Prop :=
  ∃ v, e = .returned (.tuple #[v, .int .i64 (placeA l u d x g).2.1, .int .i64 (placeA l u d x g).2.2.1, .int .i64 ((placeA l u d x g).2.2.2 : Nat)]) ∧ ownsP w' w.heap.size v (placeA l u d x g).1 ∧ Below w.heap.size w w'
theorem place_ends {l : List Sp} {u d x : Int} {g : Nat} (h0 : askedA l u d x g = 0) (w : World) :
    (((Far (heightT l u d) ∨ Far (baseT l u)) ∨ ∃ j, j < l.length ∧ (Far (placeT l u d x g j).1 ∨ Far (placeT l u d x g j).2)) → ∀ w', Below w.heap.size w w' → PlaceEnd l u d x g w (.returned (.tuple #[.slice none 0 0, .int .i64 0, .int .i64 0, .int .i64 10])) w') ∧
    (¬ ((Far (heightT l u d) ∨ Far (baseT l u)) ∨ ∃ j, j < l.length ∧ (Far (placeT l u d x g j).1 ∨ Far (placeT l u d x g j).2)) → ∀ w' v, ownsP w' w.heap.size v (placesT l u d x g l.length) → Below w.heap.size w w' → PlaceEnd l u d x g w (.returned (.tuple #[v, .int .i64 (heightT l u d), .int .i64 (baseT l u), .int .i64 0])) w') := by
  refine ⟨fun h w' hb => ?_, fun h w' v ho hb => ?_⟩
  · have R : placeA l u d x g = ([], 0, 0, 10) := by
      unfold placeA
      rw [if_neg (fun c => c h0), if_pos h]
    exact ⟨_, by rw [R]; rfl, by rw [R]; exact ownsP.nil _ _, hb⟩
  · have R : placeA l u d x g = (placesT l u d x g l.length, heightT l u d, baseT l u, 0) := by
      unfold placeA
      rw [if_neg (fun c => c h0), if_neg h]
    exact ⟨_, by rw [R]; rfl, by rw [R]; exact ho, hb⟩
theorem lead_bound {l : List Sp} {u d x : Int} {g : Nat} (ok : Ok11 l u d x g) : 0 ≤ leadT l x g ∧ leadT l x g ≤ 9007199254740992 := by
  have h1 := sumS_bound ok.w l.length (Nat.le_refl _)
  have h2 := ok.len
  have h3 := ok.width
  have h4 : 0 ≤ restT l x ∧ restT l x ≤ 9007199254740992 := by
    unfold restT
    split <;> omega
  unfold leadT
  split
  · omega
  · split <;> omega
set_option maxRecDepth 100000 in
set_option maxHeartbeats 8000000 in
theorem refPlace_any (l : List Sp) (v : Value) (u d x : Int) (g : Nat) (hg : g < 256) (w : World) (hv : SpIn w v l) (hn : l.length ≤ 1000000) :
    Calls Try.prog 8 #[v, .int .i64 u, .int .i64 d, .int .i64 x, .int .u8 (g : Nat)] w (PlaceEnd l u d x g w) := by
  have HV := Lib.hid hv
  have KA := Lib.hid (refAsked_any l v u d x g hg w hv hn)
  by_cases h0 : askedA l u d x g = 0
  · have ok := asked_zero.1 h0
    have KH := Lib.hid (refHeight_any l v u d x g ok w hv)
    have PA := Lib.hid (place_ends h0 w)
    have OK := Lib.hid ok
    have SB : Hid (∀ k, k ≤ l.length → -2251799813685248 ≤ sumS l k ∧ sumS l k ≤ 2251799813685248) := Lib.hid (fun k hk => by
      have := sumS_bound ok.w k hk
      have := ok.len
      omega)
    obtain ⟨HT, hHT⟩ : ∃ y, heightT l u d = y := ⟨_, rfl⟩
    obtain ⟨BT, hBT⟩ : ∃ y, baseT l u = y := ⟨_, rfl⟩
    have BBT : Hid (-1099511627776 ≤ BT ∧ BT ≤ 1099511627776) := Lib.hid (by rw [← hBT]; exact upS_in ok.u ok.up _ (Nat.le_refl _))
    have HBT : Hid (-2199023255552 ≤ HT ∧ HT ≤ 2199023255552) := Lib.hid (by
      rw [← hHT]
      have h1 := upS_in ok.u ok.up _ (Nat.le_refl _)
      have h2 := dnS_in ok.d ok.dn _ (Nat.le_refl _)
      exact hS_in (lo := -1099511627776) (hi := 1099511627776) (by omega) ok.up ok.dn _ (Nat.le_refl _))
    have hgl := ok.lines
    have hnl := ok.len
    have EH := Lib.hid hHT
    have EB := Lib.hid hBT
    rw [h0] at KA
    rw [hHT, hBT] at KH
    obtain ⟨A, c, rfl, -, -⟩ := hv
    obtain ⟨n, en⟩ : ∃ n, l.length = n := ⟨_, rfl⟩
    rw [en] at KA KH HV hn SB hnl ⊢
    have HN := Lib.hid en
    obtain ⟨H0, hH⟩ : ∃ H0, w.heap.size = H0 := ⟨_, rfl⟩
    have KO := Lib.hid (fun y W b hb => refOver_any y W b hb)
    obtain ⟨LD, hLD⟩ : ∃ y, leadT l x g = y := ⟨_, rfl⟩
    have LBX : Hid (0 ≤ LD ∧ LD ≤ 9007199254740992) := Lib.hid (by rw [← hLD]; exact lead_bound ok)
    have EL := Lib.hid hLD
    obtain ⟨b1, hb1⟩ : ∃ b, decide (Far HT) = b := ⟨_, rfl⟩
    have J1 := Lib.hid (fun W => KO.out HT W b1 hb1)
    have NB : ¬ Far BT := by have := BBT.out; unfold Far; omega
    have J2 := Lib.hid (fun W => KO.out BT W false (decide_eq_false NB))
    have F0 : Hid (b1 = true ↔ (Far HT ∨ Far BT)) := Lib.hid (by
      rw [← hb1, decide_eq_true_iff]
      exact ⟨.inl, fun h => h.resolve_right NB⟩)
    obtain ⟨gy, hgy⟩ : ∃ y : Int, ((g : Nat) : Int) = y := ⟨_, rfl⟩
    rw [hgy] at KA ⊢
    have hgs : Hid ((g = 0 ∧ gy = 0) ∨ (g = 1 ∧ gy = 1) ∨ (g = 2 ∧ gy = 2)) := Lib.hid (by omega)
    clear h0 ok hHT hBT en hb1 hgl hgy hLD NB
    go_enter Try.func8, Try.ntmps8
    go_upto_if 40 with (first
      | (go_at_call 13; (with_reducible refine KA.out.mono ?_); rintro e w' ⟨rfl, hw⟩; obtain rfl := hw.symm)
      | (go_at_call 14; (with_reducible refine KH.out.mono ?_); rintro e w' ⟨rfl, q, rfl⟩))
    have V1 := Lib.hid (HV.out.keep (drewN_below w q _))
    have B1 := Lib.hid (show Below H0 w (w.drewN q) from drewN_below w q _)
    clear KA KH
    generalize w.drewN q = w1 at V1 B1 ⊢
    go_cut [17, 18] from 23 (fun p17 p18 wx => p17 = .int .i64 LD ∧ (∃ y, p18 = y) ∧ wx = w1)
    case first =>
      as_aux_lemma =>
        have hg3 := hgs.out
        rcases hg3 with ⟨rfl, rfl⟩ | ⟨rfl, rfl⟩ | ⟨rfl, rfl⟩
        · have E0 : Hid (LD = 0) := Lib.hid (by rw [← EL.out]; rfl)
          go_wp2_with fail
          go_meet
          exact ⟨by rw [E0.out], ⟨_, rfl⟩, rfl⟩
        · go_wp2_with fail
          go_loopg [17, 18] n (fun g1 va vi wr => ∃ k : Nat, vi = .int .i64 k ∧ va = .int .i64 (-sumS l k) ∧ k ≤ n ∧ n - k ≤ g1 ∧ w1 = wr)
          case atStart => exact ⟨0, rfl, rfl, by omega, by omega, rfl⟩
          case round =>
            obtain ⟨k, rfl, rfl, hk, hg1, rfl⟩ := hrel
            by_cases hlt : k < n
            · have hz : (k : Int) < n := by omega
              have hz0 : (0 : Int) ≤ k := by omega
              have wi : IntKind.i64.wrap ((k : Int) + 1) = (k : Int) + 1 := IntWalk.i64_in _ (by omega)
              obtain ⟨b, off, c', e, c0, -, -, -⟩ := V1.out.get (i := k) (by have := HN.out; omega)
              injection e with e1 e2 e3
              subst e1 e3
              clear e2
              have hww := OK.out.w k (by have := HN.out; omega)
              have SB0 := SB.out k (by omega)
              have ss := sumS_succ (l := l) (k := k) (by have := HN.out; omega)
              have ws : IntKind.i64.wrap (-sumS l k - sw l k) = -sumS l (k + 1) := by
                rw [ss, show -(sumS l k + sw l k) = -sumS l k - sw l k by omega]
                exact IntWalk.i64_in _ (by omega)
              clear hww SB0 ss
              generalize sw l k = z at c0 ws
              generalize -sumS l k = s at ws
              go_wp2_with fail
              go_roundg (n - (k + 1))
              case measure => omega
              case rel => exact ⟨k + 1, by go_num, rfl, by omega, Nat.le_refl _, rfl⟩
            · obtain rfl : k = n := by omega
              have hz : ¬ (k : Int) < k := by omega
              have SBn := SB.out k (by omega)
              have hxx := OK.out.width
              have wx : IntKind.i64.wrap (-sumS l k + x) = -sumS l k + x := IntWalk.i64_in _ (by omega)
              have LDr : Hid (restT l x = if -sumS l k + x < 0 then 0 else -sumS l k + x) := Lib.hid (by unfold restT; rw [HN.out, show x - sumS l k = -sumS l k + x by omega])
              have LE : Hid (LD = restT l x) := Lib.hid (by rw [← EL.out]; rfl)
              by_cases hs : -sumS l k + x < 0
              · have E0 : Hid (LD = 0) := Lib.hid (by rw [LE.out, LDr.out, if_pos hs])
                clear LDr LE SBn hxx
                generalize -sumS l k = t at wx hs ⊢
                go_wp2_with fail
                go_meet
                exact ⟨by rw [E0.out], ⟨_, rfl⟩, rfl⟩
              · have E0 : Hid (LD = -sumS l k + x) := Lib.hid (by rw [LE.out, LDr.out, if_neg hs])
                clear LDr LE SBn hxx
                generalize -sumS l k = t at wx hs E0 ⊢
                go_wp2_with fail
                go_meet
                exact ⟨by rw [E0.out], ⟨_, rfl⟩, rfl⟩
        · go_wp2_with fail
          go_loopg [17, 18] n (fun g1 va vi wr => ∃ k : Nat, vi = .int .i64 k ∧ va = .int .i64 (-sumS l k) ∧ k ≤ n ∧ n - k ≤ g1 ∧ w1 = wr)
          case atStart => exact ⟨0, rfl, rfl, by omega, by omega, rfl⟩
          case round =>
            obtain ⟨k, rfl, rfl, hk, hg1, rfl⟩ := hrel
            by_cases hlt : k < n
            · have hz : (k : Int) < n := by omega
              have hz0 : (0 : Int) ≤ k := by omega
              have wi : IntKind.i64.wrap ((k : Int) + 1) = (k : Int) + 1 := IntWalk.i64_in _ (by omega)
              obtain ⟨b, off, c', e, c0, -, -, -⟩ := V1.out.get (i := k) (by have := HN.out; omega)
              injection e with e1 e2 e3
              subst e1 e3
              clear e2
              have hww := OK.out.w k (by have := HN.out; omega)
              have SB0 := SB.out k (by omega)
              have ss := sumS_succ (l := l) (k := k) (by have := HN.out; omega)
              have ws : IntKind.i64.wrap (-sumS l k - sw l k) = -sumS l (k + 1) := by
                rw [ss, show -(sumS l k + sw l k) = -sumS l k - sw l k by omega]
                exact IntWalk.i64_in _ (by omega)
              clear hww SB0 ss
              generalize sw l k = z at c0 ws
              generalize -sumS l k = s at ws
              go_wp2_with fail
              go_roundg (n - (k + 1))
              case measure => omega
              case rel => exact ⟨k + 1, by go_num, rfl, by omega, Nat.le_refl _, rfl⟩
            · obtain rfl : k = n := by omega
              have hz : ¬ (k : Int) < k := by omega
              have SBn := SB.out k (by omega)
              have hxx := OK.out.width
              have wx : IntKind.i64.wrap (-sumS l k + x) = -sumS l k + x := IntWalk.i64_in _ (by omega)
              have LDr : Hid (restT l x = if -sumS l k + x < 0 then 0 else -sumS l k + x) := Lib.hid (by unfold restT; rw [HN.out, show x - sumS l k = -sumS l k + x by omega])
              have LE : Hid (LD = restT l x / 2) := Lib.hid (by rw [← EL.out]; rfl)
              by_cases hs : -sumS l k + x < 0
              · have E0 : Hid (LD = 0) := Lib.hid (by rw [LE.out, LDr.out, if_pos hs]; rfl)
                clear LDr LE SBn hxx
                generalize -sumS l k = t at wx hs ⊢
                go_wp2_with fail
                go_meet
                exact ⟨by rw [E0.out], ⟨_, rfl⟩, rfl⟩
              · have E0 : Hid (LD = (-sumS l k + x) / 2) := Lib.hid (by rw [LE.out, LDr.out, if_neg hs])
                have wq : IntKind.i64.wrap ((-sumS l k + x).tdiv 2) = (-sumS l k + x) / 2 := by
                  rw [Int.tdiv_eq_ediv_of_nonneg (by omega)]
                  exact IntWalk.i64_in _ (by omega)
                clear LDr LE SBn hxx
                generalize -sumS l k = t at wx hs E0 wq ⊢
                go_wp2_with fail
                go_meet
                exact ⟨by rw [E0.out], ⟨_, rfl⟩, rfl⟩
    case rest =>
      obtain ⟨rfl, -, rfl⟩ := hcut
      go_upto_region 16 with fail
      go_cut [19] from 23 (fun p19 wx => p19 = .bool b1 ∧ wx = wc)
      case first =>
        as_aux_lemma =>
          have KK := Lib.hid (J1.out)
          clear F0 J1
          cases b1
          all_goals (
            go_wp2_with (first
              | (go_at_call 15; (with_reducible refine (KK.out _).mono ?_); rintro e w' ⟨rfl, rfl⟩)
              | (go_at_call 15; (with_reducible refine (J2.out _).mono ?_); rintro e w' ⟨rfl, rfl⟩))
            go_meet
            exact ⟨rfl, rfl⟩)
      case rest =>
        obtain ⟨rfl, rfl⟩ := hcut
        go_wp2_with fail
        go_loopg [17, 19, 20, 21] n (fun g1 va vf vo vi wr => ∃ (k : Nat) (o : Bool), vi = .int .i64 k ∧ va = .int .i64 (LD + sumS l k) ∧ vf = .bool o ∧ k ≤ n ∧ n - k ≤ g1 ∧ Hid (o = true ↔ (Far HT ∨ Far BT) ∨ ∃ j, j < k ∧ (Far (placeT l u d x g j).1 ∨ Far (placeT l u d x g j).2)) ∧ Hid (ownsP wr H0 vo (placesT l u d x g k)) ∧ Hid (Below H0 w wr))
        case atStart => exact ⟨0, _, rfl, by rw [sumS_zero, Int.add_zero], rfl, by omega, by omega, Lib.hid (by
          rw [show (∃ j, j < 0 ∧ (Far (placeT l u d x g j).1 ∨ Far (placeT l u d x g j).2)) ↔ False from ⟨fun ⟨j, h, _⟩ => absurd h (by omega), False.elim⟩, or_false]
          exact F0.out), Lib.hid (ownsP.nil _ _), B1⟩
        case round =>
          obtain ⟨k, o, rfl, rfl, rfl, hk, hg1, hO, hP, hB⟩ := hrel
          obtain ⟨wo, hwo⟩ : ∃ wo, wo = wr := ⟨_, rfl⟩
          subst hwo
          have HS : Hid (H0 ≤ wo.heap.size) := Lib.hid (by have := hB.out.size; omega)
          by_cases hlt : k < n
          · have hz : (k : Int) < n := by omega
            have hz0 : (0 : Int) ≤ k := by omega
            have wi : IntKind.i64.wrap ((k : Int) + 1) = (k : Int) + 1 := IntWalk.i64_in _ (by omega)
            have HVr := Lib.hid (HV.out.keep (by rw [hH]; exact hB.out))
            obtain ⟨b, off, c', e, -, c1, c2, c3⟩ := HVr.out.get (i := k) (by have := HN.out; omega)
            injection e with e1 e2 e3
            subst e1 e3
            clear e2
            have C5 : Hid (∀ W, SpIn W (.slice (some ⟨b, off, none⟩) n c) l → W.cell? ⟨b, off + k * 4, none⟩ = some (.int .i64 (sw l k))) := Lib.hid (fun W hW => by
              obtain ⟨b', off', c', e, h, -⟩ := hW.get (i := k) (by have := HN.out; omega)
              injection e with e1
              injection e1 with e1
              injection e1 with e1 e2
              subst e1 e2
              exact h)
            have hal := OK.out.al k (by have := HN.out; omega)
            have hup := OK.out.up k (by have := HN.out; omega)
            have hdn := OK.out.dn k (by have := HN.out; omega)
            have hww := OK.out.w k (by have := HN.out; omega)
            have SB0 := SB.out k (by omega)
            have SB1 := SB.out (k + 1) (by omega)
            have ss := sumS_succ (l := l) (k := k) (by have := HN.out; omega)
            have LB := LBX.out
            have ws : IntKind.i64.wrap (LD + sumS l k + sw l k) = LD + sumS l (k + 1) := by
              rw [ss, Int.add_assoc]
              exact IntWalk.i64_in _ (by omega)
            obtain ⟨Y, hY⟩ : ∃ Y, yT HT BT (sp l k) = Y := ⟨_, rfl⟩
            have PT : Hid (placeT l u d x g k = (LD + sumS l k, Y)) := Lib.hid (by
              unfold placeT xT
              rw [EL.out, ← hY, EH.out, EB.out])
            have PS : Hid (placesT l u d x g (k + 1) = placesT l u d x g k ++ [(LD + sumS l k, Y)]) := Lib.hid (by rw [placesT_succ, PT.out])
            have PL : Hid ((placesT l u d x g k).length ≤ 90000) := Lib.hid (by rw [placesT_len]; omega)
            obtain ⟨X', hX'⟩ : ∃ X', LD + sumS l (k + 1) = X' := ⟨_, rfl⟩
            obtain ⟨X, hX⟩ : ∃ X, LD + sumS l k = X := ⟨_, rfl⟩
            obtain ⟨f1, hf1⟩ : ∃ b, decide (Far X) = b := ⟨_, rfl⟩
            obtain ⟨f2, hf2⟩ : ∃ b, decide (Far Y) = b := ⟨_, rfl⟩
            have K1 := Lib.hid (fun W => KO.out X W f1 hf1)
            have K2 := Lib.hid (fun W => KO.out Y W f2 hf2)
            have HO2 : Hid ((o || (f1 || f2)) = true ↔ (Far HT ∨ Far BT) ∨ ∃ j, j < k + 1 ∧ (Far (placeT l u d x g j).1 ∨ Far (placeT l u d x g j).2)) := Lib.hid (by
              have hk : (f1 || f2) = true ↔ (Far (placeT l u d x g k).1 ∨ Far (placeT l u d x g k).2) := by
                rw [PT.out, hX, ← hf1, ← hf2, Bool.or_eq_true, decide_eq_true_iff, decide_eq_true_iff]
              rw [Bool.or_eq_true, hO.out, hk]
              constructor
              · rintro ((h | ⟨j, hj, h⟩) | h)
                · exact .inl h
                · exact .inr ⟨j, by omega, h⟩
                · exact .inr ⟨k, by omega, h⟩
              · rintro (h | ⟨j, hj, h⟩)
                · exact .inl (.inl h)
                · by_cases e : j = k
                  · subst e
                    exact .inr h
                  · exact .inl (.inr ⟨j, by omega, h⟩))
            have HX' := Lib.hid hX'
            rw [hX] at PS
            rw [hX, hX'] at ws
            rw [hX]
            have wb : IntKind.i64.wrap (BT - su l k) = BT - su l k := IntWalk.i64_in _ (by have := BBT.out; omega)
            have wh : IntKind.i64.wrap (HT - su l k) = HT - su l k := IntWalk.i64_in _ (by have := HBT.out; omega)
            have wh2 : IntKind.i64.wrap (HT - su l k - sd l k) = HT - su l k - sd l k := IntWalk.i64_in _ (by have := HBT.out; omega)
            have Y0 : Hid (sa l k = 0 → Y = BT - su l k) := Lib.hid (fun h => by
              rw [← hY]
              unfold yT
              rw [if_neg (by show ¬ sa l k = 2; omega), if_pos (show (sp l k).2.2.2 = 0 from h)]
              rfl)
            have Y1 : Hid (sa l k = 1 → Y = 0) := Lib.hid (fun h => by
              rw [← hY]
              unfold yT
              rw [if_neg (by show ¬ sa l k = 2; omega), if_neg (by show ¬ sa l k = 0; omega)])
            have Y2 : Hid (sa l k = 2 → Y = HT - su l k - sd l k) := Lib.hid (fun h => by
              rw [← hY]
              unfold yT
              rw [if_pos (show (sp l k).2.2.2 = 2 from h)]
              rfl)
            clear hX hX' hY hf1 hf2 ss SB0 SB1 hup hdn hww PT hO LB
            generalize sw l k = z0 at C5 ws
            generalize su l k = z1 at c1 wb wh wh2 Y0 Y2
            generalize sd l k = z2 at c2 wh2 Y2
            have hos : o = true ∨ (o = false ∧ f1 = true) ∨ (o = false ∧ f1 = false) := by cases o <;> cases f1 <;> simp
            have h3 : sa l k = 0 ∨ sa l k = 1 ∨ sa l k = 2 := by omega
            clear hal
            rcases h3 with h3 | h3 | h3
            · have EY := Lib.hid (Y0.out h3)
              rw [h3] at c3
              replace wb := wb.trans EY.out.symm
              clear Y0 Y1 Y2 h3 wh wh2 c2 EY
              rcases hos with rfl | ⟨rfl, rfl⟩ | ⟨rfl, rfl⟩
              all_goals (
                go_wp2_with (first
                  | ((with_reducible change wpList _ _ _ (Oper.mk (some 112) _ _ _ _ _ :: _) _ _); refine wpList_append_ps rfl _ _ rfl H0 _ _ rfl hP.out (X, Y) _ rfl PL.out HS.out ?_; intro v1 w1 hv1 hb1 hk1; have OW1 := Lib.hid hv1; have BW1 := Lib.hid (hB.out.trans hb1); have HV1 := Lib.hid (HV.out.keep (by rw [hH]; exact BW1.out)); have c5 := C5.out w1 HV1.out; clear hv1 hb1 hk1; rw [← PS.out] at OW1)
                  | (go_at_call 15; (with_reducible refine (K1.out _).mono ?_); rintro e w' ⟨rfl, rfl⟩)
                  | (go_at_call 15; (with_reducible refine (K2.out _).mono ?_); rintro e w' ⟨rfl, rfl⟩))
                go_roundg (n - (k + 1))
                case measure => omega
                case rel => exact ⟨k + 1, _, by go_num, by rw [HX'.out], rfl, by omega, Nat.le_refl _, HO2, OW1, BW1⟩)
            · have EY := Lib.hid (Y1.out h3)
              rw [h3] at c3
              obtain rfl := EY.out
              clear Y0 Y1 Y2 h3 wh wh2 wb c1 c2 EY
              rcases hos with rfl | ⟨rfl, rfl⟩ | ⟨rfl, rfl⟩
              all_goals (
                go_wp2_with (first
                  | ((with_reducible change wpList _ _ _ (Oper.mk (some 112) _ _ _ _ _ :: _) _ _); refine wpList_append_ps rfl _ _ rfl H0 _ _ rfl hP.out (X, 0) _ rfl PL.out HS.out ?_; intro v1 w1 hv1 hb1 hk1; have OW1 := Lib.hid hv1; have BW1 := Lib.hid (hB.out.trans hb1); have HV1 := Lib.hid (HV.out.keep (by rw [hH]; exact BW1.out)); have c5 := C5.out w1 HV1.out; clear hv1 hb1 hk1; rw [← PS.out] at OW1)
                  | (go_at_call 15; (with_reducible refine (K1.out _).mono ?_); rintro e w' ⟨rfl, rfl⟩)
                  | (go_at_call 15; (with_reducible refine (K2.out _).mono ?_); rintro e w' ⟨rfl, rfl⟩))
                go_roundg (n - (k + 1))
                case measure => omega
                case rel => exact ⟨k + 1, _, by go_num, by rw [HX'.out], rfl, by omega, Nat.le_refl _, HO2, OW1, BW1⟩)
            · have EY := Lib.hid (Y2.out h3)
              rw [h3] at c3
              replace wh2 := wh2.trans EY.out.symm
              clear Y0 Y1 Y2 h3 wb EY
              go_wp2_with fail
              go_quiet (fail)
              have hP2 := Lib.hid (hP.out.keep (drewN_below wo nq _))
              have hB2 := Lib.hid (hB.out.trans (drewN_below wo nq _))
              have HS2 : Hid (H0 ≤ (wo.drewN nq).heap.size) := Lib.hid HS.out
              clear hP hB HS c1 c2 c3
              generalize wo.drewN nq = wo at hP2 hB2 HS2 ⊢
              rcases hos with rfl | ⟨rfl, rfl⟩ | ⟨rfl, rfl⟩
              all_goals (
                go_wp2_with (first
                  | ((with_reducible change wpList _ _ _ (Oper.mk (some 112) _ _ _ _ _ :: _) _ _); refine wpList_append_ps rfl _ _ rfl H0 _ _ rfl hP2.out (X, Y) _ rfl PL.out HS2.out ?_; intro v1 w1 hv1 hb1 hk1; have OW1 := Lib.hid hv1; have BW1 := Lib.hid (hB2.out.trans hb1); have HV1 := Lib.hid (HV.out.keep (by rw [hH]; exact BW1.out)); have c5 := C5.out w1 HV1.out; clear hv1 hb1 hk1; rw [← PS.out] at OW1)
                  | (go_at_call 15; (with_reducible refine (K1.out _).mono ?_); rintro e w' ⟨rfl, rfl⟩)
                  | (go_at_call 15; (with_reducible refine (K2.out _).mono ?_); rintro e w' ⟨rfl, rfl⟩))
                go_roundg (n - (k + 1))
                case measure => omega
                case rel => exact ⟨k + 1, _, by go_num, by rw [HX'.out], rfl, by omega, Nat.le_refl _, HO2, OW1, BW1⟩)
          · obtain rfl : k = n := by omega
            have hz : ¬ (k : Int) < k := by omega
            cases o with
            | true =>
              have NO : Hid (PlaceEnd l u d x g w (.returned (.tuple #[.slice none 0 0, .int .i64 0, .int .i64 0, .int .i64 10])) wo) := Lib.hid (PA.out.1 (by have h := hO.out.1 rfl; rw [← HN.out, ← EH.out, ← EB.out] at h; exact h) wo (by rw [hH]; exact hB.out))
              go_wp2_with fail
              ((try simp only [Exit.inBlock, Exit.then]); refine bodyPost_ret (results_tmp4 rfl _ _ _) rfl ?_)
              exact NO.out
            | false =>
              have YES := Lib.hid (PA.out.2 (fun h => absurd (hO.out.2 (by rw [EH.out, EB.out, HN.out] at h; exact h)) (by decide)) wo _ (by rw [hH, HN.out]; exact hP.out) (by rw [hH]; exact hB.out))
              rw [EH.out, EB.out] at YES
              go_wp2_with fail
              ((try simp only [Exit.inBlock, Exit.then]); refine bodyPost_ret (results_tmp4 rfl _ _ _) rfl ?_)
              exact YES.out
  · have R : Hid (placeA l u d x g = ([], 0, 0, askedA l u d x g)) := Lib.hid (by
      unfold placeA
      rw [if_pos h0])
    obtain ⟨r, hr⟩ : ∃ r, askedA l u d x g = r := ⟨_, rfl⟩
    rw [hr] at KA R h0
    have NO : Hid (PlaceEnd l u d x g w (.returned (.tuple #[.slice none 0 0, .int .i64 0, .int .i64 0, .int .i64 (r : Nat)])) w) := Lib.hid ⟨_, by rw [R.out], by rw [R.out]; exact ownsP.nil _ _, Below.refl _ _⟩
    have hz : (((r : Nat) : Int) != 0) = true := by simp; omega
    generalize ((r : Nat) : Int) = y at KA NO hz
    clear hr R h0 hv
    go_enter Try.func8, Try.ntmps8
    go_wp2_with (go_at_call 13; (with_reducible refine KA.out.mono ?_); rintro e w' ⟨rfl, rfl⟩)
    ((try simp only [Exit.inBlock, Exit.then]); refine bodyPost_ret (results_tmp4 rfl _ _ _) rfl ?_)
    exact NO.out
end Go.Proofs.Ytnhbegdoedbpeaa
