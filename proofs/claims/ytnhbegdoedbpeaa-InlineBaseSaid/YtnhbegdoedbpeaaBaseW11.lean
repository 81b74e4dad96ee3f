/-
  The law InlineBase: of any Place that answers as is asked.
-/
import Derived.Test.YtnhbegdoedbpeaaNearMath11
import Derived.Deep.Cut
import Derived.Deep.CutRange
import Derived.Deep.RegionHeld3
namespace Go.Proofs.Ytnhbegdoedbpeaa
open Go.RowKit

/-- the flags' meanings over so many spots -/
def PU (l : List Sp) (B u : Int) (k : Nat) : Prop := B = u ∨ ∃ j, j < k ∧ sa l j = 0 ∧ su l j = B
def PD (l : List Sp) (H B d : Int) (k : Nat) : Prop := H = B + d ∨ ∃ j, j < k ∧ sa l j = 0 ∧ B + sd l j = H
def PT (l : List Sp) (H : Int) (k : Nat) : Prop := ∃ j, j < k ∧ ¬ sa l j = 0 ∧ su l j + sd l j = H
theorem flags_end (l : List Sp) (u d : Int) : PU l (baseT l u) u l.length ∧ (PD l (heightT l u d) (baseT l u) d l.length ∨ PT l (heightT l u d) l.length) := by
  refine ⟨upS_at l u l.length, ?_⟩
  rcases hS_at l (upS l u l.length + dnS l d l.length) l.length with h | h
  · refine .inl ?_
    have e : heightT l u d = baseT l u + dnS l d l.length := h
    rcases dnS_at l d l.length with h2 | ⟨j, hj, h3, h4⟩
    · exact .inl (by rw [e, h2])
    · exact .inr ⟨j, hj, h3, by rw [e, h4]⟩
  · exact .inr h
set_option maxRecDepth 100000 in
set_option maxHeartbeats 8000000 in
theorem base11 (hP : PlaceOK 9) (hA : AwakeOK11 11) (l : List Sp) (v : Value) (x : RO) (w : World) (hv : SpIn w v l) :
    Calls Try.prog 5 #[v, ownV x] w fun e w' => e = .returned (.bool true) ∧ Below w.heap.size w w' := by
  have XC := Lib.hid (own_cells w x)
  have B0 : Hid (Below w.heap.size w (w.alloc (.cells #[.int .i64 x.up, .int .i64 x.down, .int .i64 x.width, .int .u8 (x.lines : Nat)] 24))) := Lib.hid ((Below.refl _ w).alloc (Nat.le_refl _) _)
  have KA := Lib.hid (fun W => hA W)
  have V0 := Lib.hid (hv.keep B0.out)
  obtain ⟨r, hr⟩ : ∃ r, decide (Near l x) = r := ⟨_, rfl⟩
  have KN := Lib.hid (fun W (hW : SpIn W v l) => near_any l v x W hW r hr)
  have HR := Lib.hid hr
  obtain ⟨A, c, rfl, -, -⟩ := hv
  obtain ⟨n, en⟩ : ∃ n, l.length = n := ⟨_, rfl⟩
  have HN := Lib.hid en
  have KP := Lib.hid (fun (h : Near l x) gz hgz W hW => near_place hP h.l gz hgz n en (.slice A l.length c) W hW)
  have FL := Lib.hid (flags_end l x.up x.down)
  rw [en] at KN KP V0 FL ⊢
  clear hP hA hr
  unfold ownV at KN ⊢
  obtain ⟨up, down, width, lines⟩ := x
  dsimp only at XC B0 V0 KN KP HR FL ⊢
  obtain ⟨gz, hgz⟩ : ∃ gz, ((lines : Nat) : Int) = gz := ⟨_, rfl⟩
  have KP := Lib.hid (fun h W hW => KP.out h gz hgz W hW)
  rw [hgz] at XC B0 V0 KN ⊢
  clear hgz
  go_enter Try.func5, Try.ntmps5
  go_upto_region 1 with fail
  generalize w.alloc (.cells #[.int .i64 up, .int .i64 down, .int .i64 width, .int .u8 gz] 24) = w0 at XC B0 V0 ⊢
  go_upto_region 3 with (go_at_call 11; (with_reducible refine (KA.out _).mono ?_); rintro e w1 ⟨rfl, hb⟩; have B1 := Lib.hid hb; clear hb)
  obtain ⟨x0, x1, x2, x3⟩ := XC.out w1 B1.out
  cases r with
  | false =>
    go_wp2_with (go_at_call 12; (with_reducible refine (KN.out _ (V0.out.keep B1.out)).mono ?_); rintro e w2 ⟨rfl, hb⟩; have B2 : Hid (Below w0.heap.size w0 w2) := Lib.hid (B1.out.trans (hb.mono B1.out.size)); clear hb)
    go_ret
    exact ⟨rfl, B0.out.trans (B2.out.mono B0.out.size)⟩
  | true =>
    have NR := of_decide_eq_true HR.out
    have NL := Lib.hid NR.l
    have KP := Lib.hid (KP.out NR)
    have hn : n ≤ 200 := by have := NR.1; have := HN.out; omega
    clear HR NR
    go_upto_region 5 with (go_at_call 12; (with_reducible refine (KN.out _ (V0.out.keep B1.out)).mono ?_); rintro e w2 ⟨rfl, hb⟩; have B2 : Hid (Below w0.heap.size w0 w2) := Lib.hid (B1.out.trans (hb.mono B1.out.size)); clear hb)
    clear x0 x1 x2 x3
    obtain ⟨x0, x1, x2, x3⟩ := XC.out w2 B2.out
    go_upto_region 6 with (go_at_call 9; (with_reducible refine (KP.out _ (V0.out.keep B2.out)).mono ?_); rintro e w3 ⟨A', c', rfl, hp, hb⟩; have B3 : Hid (Below w0.heap.size w0 w3) := Lib.hid (B2.out.trans (hb.mono B2.out.size)); have P3 := Lib.hid hp; clear hb hp)
    clear x0 x1 x2 x3
    obtain ⟨x0, x1, x2, x3⟩ := XC.out w3 B3.out
    have V3 := Lib.hid (V0.out.keep B3.out)
    have BZ : Hid (Below w.heap.size w w3) := Lib.hid (B0.out.trans (B3.out.mono B0.out.size))
    have HU := upS_ge l up n
    have HDn := dnS_ge l down n
    have HH := hS_ge l (upS l up n + dnS l down n) n
    have eB : baseT l up = upS l up n := by unfold baseT; rw [HN.out]
    have eH : heightT l up down = hS l (upS l up n + dnS l down n) n := by unfold heightT; rw [HN.out]
    rw [← eH] at HH
    rw [← eB] at HU HH
    have BB := NL.out.base
    have HB := NL.out.height
    have WU := NL.out.u
    have WD := NL.out.d
    have PA := Lib.hid (fun k (hk : k < n) => P3.out.at_ hk)
    try dsimp only at BB HB WU WD PA
    obtain ⟨B, hB⟩ : ∃ B, baseT l up = B := ⟨_, rfl⟩
    obtain ⟨H, hH⟩ : ∃ H, heightT l up down = H := ⟨_, rfl⟩
    rw [hB, hH] at PA FL
    rw [hB] at HU HH BB
    rw [hH] at HH HB
    rw [hB, hH]
    have k0 : decide (B < up) = false := decide_eq_false (by omega)
    have k1 : IntKind.i64.wrap (B + down) = B + down := IntWalk.i64_in _ (by omega)
    have k2 : decide (H < B + down) = false := decide_eq_false (by omega)
    have UG := Lib.hid HU.2
    have HG := Lib.hid HH.2
    have DG := Lib.hid (fun j hj h => HDn.2 j hj h)
    have HB2 := Lib.hid (HH.1)
    have NB := Lib.hid (And.intro BB HB)
    have YV : Hid (∀ k, k < n → yT H B (sp l k) = if sa l k = 2 then H - su l k - sd l k else if sa l k = 0 then B - su l k else 0) := Lib.hid (fun k hk => rfl)
    clear hB hH eB eH HU HDn HH KA KN KP B1 B2 XC B0 V0 BB HB WU WD
    go_upto_region 8 with fail
    go_quiet (fail)
    have B4 : Hid (Below w3.heap.size w3 (w3.drewN nq)) := Lib.hid (drewN_below w3 nq _)
    go_wp2_with fail
    clear k0 k1 k2 x0 x1 x2 x3
    generalize w3.drewN nq = w4 at B4 ⊢
    go_loopg [9, 10, 11, 12] n (fun g1 vu vd vt vi wr => ∃ (k : Nat) (bu bd bt : Bool), vi = .int .i64 k ∧ vu = .bool bu ∧ vd = .bool bd ∧ vt = .bool bt ∧ k ≤ n ∧ n - k ≤ g1 ∧ Hid (PU l B up k → bu = true) ∧ Hid (PD l H B down k → bd = true) ∧ Hid (PT l H k → bt = true) ∧ Hid (Below w3.heap.size w3 wr))
    case atStart =>
      refine ⟨0, _, _, _, rfl, rfl, rfl, rfl, by omega, by omega, Lib.hid ?_, Lib.hid ?_, Lib.hid ?_, B4⟩
      · rintro (h | ⟨j, hj, _⟩)
        · simp [h]
        · omega
      · rintro (h | ⟨j, hj, _⟩)
        · simp [h]
        · omega
      · rintro ⟨j, hj, _⟩
        omega
    case round =>
      obtain ⟨k, bu, bd, bt, rfl, rfl, rfl, rfl, hk, hg1, HPU, HPD, HPT, HG4⟩ := hrel
      obtain ⟨wo, hwo⟩ : ∃ wo, wo = wr := ⟨_, rfl⟩
      subst hwo
      clear B4
      by_cases hlt : k < n
      · have hz1 : (k : Int) < n := by omega
        have hz0 : (0 : Int) ≤ k := by omega
        have wi : IntKind.i64.wrap ((k : Int) + 1) = (k : Int) + 1 := IntWalk.i64_in _ (by omega)
        obtain ⟨b', off, c2, e, s0, s1, s2, s3⟩ := (V3.out.keep HG4.out).get (i := k) (by have := HN.out; omega)
        injection e with e1 e2 e3
        subst e1 e3
        clear e2
        obtain ⟨bp, e, hbp, -, p1⟩ := PA.out k hlt
        subst e
        replace p1 := (HG4.out.cell (p := ⟨bp, k * 2 + 1, none⟩) hbp).trans p1
        have ZU := NL.out.up k (by have := HN.out; omega)
        have ZD := NL.out.dn k (by have := HN.out; omega)
        have ZA := NL.out.al k (by have := HN.out; omega)
        have G0 := UG.out k hlt
        have G1 := HG.out k hlt
        have G2 := DG.out k hlt
        have G3 := HB2.out
        have G4 := NB.out
        have BA : Hid (∀ o, Below w3.heap.size w3 (wo.drew.alloc o)) := Lib.hid (fun o => HG4.out.drew.alloc HG4.out.drew.size o)
        have Q0 : Hid (∀ o, (wo.drew.alloc o).cell? ⟨b', off + k * 4, none⟩ = some (.int .i64 (sw l k)) ∧ (wo.drew.alloc o).cell? ⟨b', off + k * 4 + 1, none⟩ = some (.int .i64 (su l k)) ∧ (wo.drew.alloc o).cell? ⟨b', off + k * 4 + 2, none⟩ = some (.int .i64 (sd l k)) ∧ (wo.drew.alloc o).cell? ⟨b', off + k * 4 + 3, none⟩ = some (.int .u8 (sa l k : Nat)) ∧ (wo.drew.alloc o).cell? ⟨bp, k * 2 + 1, none⟩ = some (.int .i64 (yT H B (sp l k)))) := Lib.hid (fun o => by
          obtain ⟨b2, off2, c3, e, t0, t1, t2, t3⟩ := (V3.out.keep (BA.out o)).get (i := k) (by have := HN.out; omega)
          injection e with e1
          injection e1 with e1
          injection e1 with e1 e2
          subst e1 e2
          obtain ⟨bq, e, hbq, -, q1⟩ := PA.out k hlt
          cases e
          exact ⟨t0, t1, t2, t3, ((BA.out o).cell (p := ⟨bp, k * 2 + 1, none⟩) hbq).trans q1⟩)
        have C0 := Lib.hid (⟨s0, s1, s2, s3, p1⟩ : wo.cell? ⟨b', off + k * 4, none⟩ = some (.int .i64 (sw l k)) ∧ wo.cell? ⟨b', off + k * 4 + 1, none⟩ = some (.int .i64 (su l k)) ∧ wo.cell? ⟨b', off + k * 4 + 2, none⟩ = some (.int .i64 (sd l k)) ∧ wo.cell? ⟨b', off + k * 4 + 3, none⟩ = some (.int .u8 (sa l k : Nat)) ∧ wo.cell? ⟨bp, k * 2 + 1, none⟩ = some (.int .i64 (yT H B (sp l k))))
        clear s0 s1 s2 s3 p1
        obtain ⟨Y, hY⟩ : ∃ Y, yT H B (sp l k) = Y := ⟨_, rfl⟩
        have yv := YV.out k hlt
        rw [hY] at yv Q0 C0
        have BW : Hid (Below w3.heap.size w3 ((wo.alloc (.cells #[.int .i64 (sw l k), .int .i64 (su l k), .int .i64 (sd l k), .int .u8 (sa l k : Nat)] 33)).drew)) := Lib.hid (HG4.out.alloc HG4.out.size _).drew
        have XW : Hid (((wo.alloc (.cells #[.int .i64 (sw l k), .int .i64 (su l k), .int .i64 (sd l k), .int .u8 (sa l k : Nat)] 33)).drew).heap[wo.heap.size]? = some (.cells #[.int .i64 (sw l k), .int .i64 (su l k), .int .i64 (sd l k), .int .u8 (sa l k : Nat)] 33)) := Lib.hid (heap_alloc_new wo _)
        have FU0 : Hid (PU l B up (k + 1) → (bu = true ∨ (sa l k = 0 ∧ su l k = B))) := Lib.hid (by
          rintro (h | ⟨j, hj, h⟩)
          · exact .inl (HPU.out (.inl h))
          · by_cases e : j = k
            · subst e; exact .inr h
            · exact .inl (HPU.out (.inr ⟨j, by omega, h⟩)))
        have FD0 : Hid (PD l H B down (k + 1) → (bd = true ∨ (sa l k = 0 ∧ B + sd l k = H))) := Lib.hid (by
          rintro (h | ⟨j, hj, h⟩)
          · exact .inl (HPD.out (.inl h))
          · by_cases e : j = k
            · subst e; exact .inr h
            · exact .inl (HPD.out (.inr ⟨j, by omega, h⟩)))
        have FT0 : Hid (PT l H (k + 1) → (bt = true ∨ (¬ sa l k = 0 ∧ su l k + sd l k = H))) := Lib.hid (by
          rintro ⟨j, hj, h⟩
          by_cases e : j = k
          · subst e; exact .inr h
          · exact .inl (HPT.out ⟨j, by omega, h⟩))
        have YW := Lib.hid yv
        have GZ := Lib.hid (And.intro ZU (And.intro ZD (And.intro ZA (And.intro G0 (And.intro G1 (And.intro G2 (And.intro G3 G4)))))))
        clear hY yv ZU ZD ZA G0 G1 G2 G3 G4 HPU HPD HPT
        generalize sw l k = z0 at Q0 C0 BW XW
        generalize su l k = z1 at Q0 C0 BW XW FU0 FT0 YW GZ
        generalize sd l k = z2 at Q0 C0 BW XW FD0 FT0 YW GZ
        generalize sa l k = a at Q0 C0 BW XW FU0 FD0 FT0 YW GZ
        go_upto_region 12 with fail
        have R0 := C0.out
        go_region_held3 (fun W' => W'.cell? ⟨b', off + k * 4, none⟩ = some (.int .i64 z0) ∧ W'.cell? ⟨b', off + k * 4 + 1, none⟩ = some (.int .i64 z1) ∧ W'.cell? ⟨b', off + k * 4 + 2, none⟩ = some (.int .i64 z2) ∧ W'.cell? ⟨b', off + k * 4 + 3, none⟩ = some (.int .u8 (a : Nat)) ∧ W'.cell? ⟨bp, k * 2 + 1, none⟩ = some (.int .i64 Y))
          (first | exact C0.out | exact Q0.out _)
          (first | fail)
        rename_i hS
        clear hS R0 C0 Q0
        generalize (wo.alloc (.cells #[.int .i64 z0, .int .i64 z1, .int .i64 z2, .int .u8 (a : Nat)] 33)).drew = W1 at BW XW ⊢
        have T0 : W1.cell? ⟨wo.heap.size, 0, none⟩ = some (.int .i64 z0) := by simp [World.cell?, XW.out]
        have T1 : W1.cell? ⟨wo.heap.size, 1, none⟩ = some (.int .i64 z1) := by simp [World.cell?, XW.out]
        have T2 : W1.cell? ⟨wo.heap.size, 2, none⟩ = some (.int .i64 z2) := by simp [World.cell?, XW.out]
        have T3 : W1.cell? ⟨wo.heap.size, 3, none⟩ = some (.int .u8 (a : Nat)) := by simp [World.cell?, XW.out]
        obtain ⟨ZU, ZD, ZA, G0, G1, G2, G3, G4⟩ := GZ.out
        have yv := YW.out
        clear GZ YW XW
        have wb : IntKind.i64.wrap (B + z2) = B + z2 := IntWalk.i64_in _ (by omega)
        have wz : IntKind.i64.wrap (z1 + z2) = z1 + z2 := IntWalk.i64_in _ (by omega)
        have wz1 : IntKind.i64.wrap z1 = z1 := IntWalk.i64_in _ (by omega)
        obtain ⟨eu, hu⟩ : ∃ e, decide (z1 = B) = e := ⟨_, rfl⟩
        obtain ⟨ed, hd⟩ : ∃ e, decide (B + z2 = H) = e := ⟨_, rfl⟩
        obtain ⟨et, ht⟩ : ∃ e, decide (z1 + z2 = H) = e := ⟨_, rfl⟩
        have hu' : (z1 == B) = eu := by rw [← hu]; rfl
        have hd' : (B + z2 == H) = ed := by rw [← hd]; rfl
        have ht' : (z1 + z2 == H) = et := by rw [← ht]; rfl
        have HFU : Hid (a = 0 → PU l B up (k + 1) → (bu || eu) = true) := Lib.hid (fun _ h => by
          rcases FU0.out h with h | ⟨-, h⟩
          · rw [h]; rfl
          · rw [← hu, h]; simp)
        have HFU' : Hid (¬ a = 0 → PU l B up (k + 1) → (bu || false) = true) := Lib.hid (fun e h => by rw [(FU0.out h).resolve_right (fun h => e h.1)]; rfl)
        have HFD : Hid (a = 0 → PD l H B down (k + 1) → (bd || ed) = true) := Lib.hid (fun _ h => by
          rcases FD0.out h with h | ⟨-, h⟩
          · rw [h]; rfl
          · rw [← hd, h]; simp)
        have HFD' : Hid (¬ a = 0 → PD l H B down (k + 1) → (bd || false) = true) := Lib.hid (fun e h => by rw [(FD0.out h).resolve_right (fun h => e h.1)]; rfl)
        have HFT : Hid (¬ a = 0 → PT l H (k + 1) → (bt || et) = true) := Lib.hid (fun _ h => by
          rcases FT0.out h with h | ⟨-, h⟩
          · rw [h]; rfl
          · rw [← ht, h]; simp)
        have HFT' : Hid (a = 0 → PT l H (k + 1) → (bt || false) = true) := Lib.hid (fun e h => by rw [(FT0.out h).resolve_right (fun h => h.1 e)]; rfl)
        clear FU0 FD0 FT0 BA
        have three : ∀ p q : Bool, p = true ∨ (p = false ∧ q = true) ∨ (p = false ∧ q = false) := by decide
        have two : ∀ p : Bool, p = true ∨ p = false := by decide
        have h3 : a = 0 ∨ a = 1 ∨ a = 2 := by omega
        rcases h3 with rfl | rfl | rfl
        · as_aux_lemma =>
            replace yv : Y = B - z1 := yv
            have w1 : IntKind.i64.wrap (Y + z1) = B := by rw [show Y + z1 = B by omega]; exact IntWalk.i64_in _ (by omega)
            have d1 : decide (Y < 0) = false := decide_eq_false (by have := G0 rfl; omega)
            have d2 : decide (H < B + z2) = false := decide_eq_false (by have := G2 rfl; omega)
            have FU := Lib.hid (HFU.out rfl)
            have FD := Lib.hid (HFD.out rfl)
            have FT := Lib.hid (HFT'.out rfl)
            have tu := three bu eu
            have td := three bd ed
            have tt := two bt
            clear HFU HFU' HFD HFD' HFT HFT' ZU ZD ZA G0 G1 G2 G3 G4 yv three two
            go_upto_region 15 with fail
            go_cut [9] from 69 to 175 (fun c wx => c = .bool (bu || eu) ∧ wx = W1)
            case first =>
              as_aux_lemma =>
                rcases tu with rfl | ⟨rfl, rfl⟩ | ⟨rfl, rfl⟩
                all_goals (
                  go_wp2_with fail
                  go_meet
                  exact ⟨rfl, rfl⟩)
            case rest =>
              obtain ⟨rfl, hW2⟩ := hcut
              obtain ⟨W2, eW2⟩ : ∃ W, W = wc := ⟨_, rfl⟩
              rw [← eW2] at hW2 ⊢
              subst hW2
              clear eW2
              go_upto_region 16 with fail
              go_cut [10] from 69 to 175 (fun c wx => c = .bool (bd || ed) ∧ wx = W2)
              case first =>
                as_aux_lemma =>
                  rcases td with rfl | ⟨rfl, rfl⟩ | ⟨rfl, rfl⟩
                  all_goals (
                    go_wp2_with fail
                    go_meet
                    exact ⟨rfl, rfl⟩)
              case rest =>
                obtain ⟨rfl, hW3⟩ := hcut
                obtain ⟨W3, eW3⟩ : ∃ W, W = wc := ⟨_, rfl⟩
                rw [← eW3] at hW3 ⊢
                subst hW3
                clear eW3
                rcases tt with rfl | rfl
                all_goals (
                  go_wp2_with fail
                  go_roundg (n - (k + 1))
                  case measure => omega
                  case rel => exact ⟨k + 1, _, _, _, by go_num, rfl, rfl, rfl, by omega, Nat.le_refl _, FU, FD, FT, BW⟩)
        · as_aux_lemma =>
            replace yv : Y = 0 := yv
            subst yv
            have d2 : decide (H < z1 + z2) = false := decide_eq_false (by have := G1 (by omega); omega)
            have FU := Lib.hid (HFU'.out (by omega))
            have FD := Lib.hid (HFD'.out (by omega))
            have FT := Lib.hid (HFT.out (by omega))
            have tu := two bu
            have td := two bd
            have tt := three bt et
            clear HFU HFU' HFD HFD' HFT HFT' ZU ZD ZA G0 G1 G2 G3 G4 three two
            go_upto_region 15 with fail
            go_cut [9] from 69 to 175 (fun c wx => c = .bool (bu || false) ∧ wx = W1)
            case first =>
              as_aux_lemma =>
                rcases tu with rfl | rfl
                all_goals (
                  go_wp2_with fail
                  go_meet
                  exact ⟨rfl, rfl⟩)
            case rest =>
              obtain ⟨rfl, hW2⟩ := hcut
              obtain ⟨W2, eW2⟩ : ∃ W, W = wc := ⟨_, rfl⟩
              rw [← eW2] at hW2 ⊢
              subst hW2
              clear eW2
              go_upto_region 16 with fail
              go_cut [10] from 69 to 175 (fun c wx => c = .bool (bd || false) ∧ wx = W2)
              case first =>
                as_aux_lemma =>
                  rcases td with rfl | rfl
                  all_goals (
                    go_wp2_with fail
                    go_meet
                    exact ⟨rfl, rfl⟩)
              case rest =>
                obtain ⟨rfl, hW3⟩ := hcut
                obtain ⟨W3, eW3⟩ : ∃ W, W = wc := ⟨_, rfl⟩
                rw [← eW3] at hW3 ⊢
                subst hW3
                clear eW3
                rcases tt with rfl | ⟨rfl, rfl⟩ | ⟨rfl, rfl⟩
                all_goals (
                  go_wp2_with fail
                  go_roundg (n - (k + 1))
                  case measure => omega
                  case rel => exact ⟨k + 1, _, _, _, by go_num, rfl, rfl, rfl, by omega, Nat.le_refl _, FU, FD, FT, BW⟩)
        · as_aux_lemma =>
            replace yv : Y = H - z1 - z2 := yv
            obtain ⟨Y1, hY1⟩ : ∃ Y1, Y + z1 = Y1 := ⟨_, rfl⟩
            have w1 : IntKind.i64.wrap (Y + z1) = Y1 := by rw [hY1]; exact IntWalk.i64_in _ (by omega)
            have w2 : IntKind.i64.wrap (Y1 + z2) = H := by rw [show Y1 + z2 = H by omega]; exact IntWalk.i64_in _ (by omega)
            have d1 : decide (Y < 0) = false := decide_eq_false (by have := G1 (by omega); omega)
            have FU := Lib.hid (HFU'.out (by omega))
            have FD := Lib.hid (HFD'.out (by omega))
            have FT := Lib.hid (HFT.out (by omega))
            have tu := two bu
            have td := two bd
            have tt := three bt et
            clear HFU HFU' HFD HFD' HFT HFT' ZU ZD ZA G0 G1 G2 G3 G4 yv hY1 three two
            go_upto_region 15 with fail
            go_cut [9] from 69 to 175 (fun c wx => c = .bool (bu || false) ∧ wx = W1)
            case first =>
              as_aux_lemma =>
                rcases tu with rfl | rfl
                all_goals (
                  go_wp2_with fail
                  go_meet
                  exact ⟨rfl, rfl⟩)
            case rest =>
              obtain ⟨rfl, hW2⟩ := hcut
              obtain ⟨W2, eW2⟩ : ∃ W, W = wc := ⟨_, rfl⟩
              rw [← eW2] at hW2 ⊢
              subst hW2
              clear eW2
              go_upto_region 16 with fail
              go_cut [10] from 69 to 175 (fun c wx => c = .bool (bd || false) ∧ wx = W2)
              case first =>
                as_aux_lemma =>
                  rcases td with rfl | rfl
                  all_goals (
                    go_wp2_with fail
                    go_meet
                    exact ⟨rfl, rfl⟩)
              case rest =>
                obtain ⟨rfl, hW3⟩ := hcut
                obtain ⟨W3, eW3⟩ : ∃ W, W = wc := ⟨_, rfl⟩
                rw [← eW3] at hW3 ⊢
                subst hW3
                clear eW3
                rcases tt with rfl | ⟨rfl, rfl⟩ | ⟨rfl, rfl⟩
                all_goals (
                  go_wp2_with fail
                  go_roundg (n - (k + 1))
                  case measure => omega
                  case rel => exact ⟨k + 1, _, _, _, by go_num, rfl, rfl, rfl, by omega, Nat.le_refl _, FU, FD, FT, BW⟩)
      · obtain rfl : k = n := by omega
        have hz1 : ¬ (k : Int) < k := by omega
        have FE := FL.out
        have eu := HPU.out FE.1
        subst eu
        have BE := Lib.hid (BZ.out.trans (HG4.out.mono BZ.out.size))
        have tt : bd = true ∨ (bd = false ∧ bt = true) := by
          rcases FE.2 with h | h
          · exact .inl (HPD.out h)
          · cases bd
            · exact .inr ⟨rfl, HPT.out h⟩
            · exact .inl rfl
        clear FE HPU HPD HPT
        rcases tt with rfl | ⟨rfl, rfl⟩
        · go_wp2_with fail
          go_ret
          exact ⟨rfl, BE.out⟩
        · go_wp2_with fail
          go_ret
          exact ⟨rfl, BE.out⟩
theorem base11_in (hP : PlaceOK 9) (hA : AwakeOK11 11) (a0 : Option Addr) (len0 cap0 : Nat) (z0 : List Sp) (z1 : RO) (w : World) (w0 : SpotsIn w a0 len0 cap0 z0) :
    Calls Try.prog 5 #[.slice a0 len0 cap0, ownV z1] w fun e w' => e = .returned (.bool true) ∧ Below w.heap.size w w' := base11 hP hA z0 _ z1 w w0.1
end Go.Proofs.Ytnhbegdoedbpeaa
