/- The law FnBoxes, walked: for what is drawn from the bytes it answers true. -/
import Derived.Test.YtnbaeplbnonhkaaBdG
import Derived.Test.YtnbaeplbnonhkaaHb
import Derived.Test.YtnbaeplbnonhkaaBxP
import Derived.Test.YtnbaeplbnonhkaaBxV
import Derived.Test.YtnbaeplbnonhkaaHa
import Derived.Test.YtnbaeplbnonhkaaBxS
import Derived.Test.YtnbaeplbnonhkaaBxJ
import Derived.Test.YtnbaeplbnonhkaaByS
import Derived.Deep.RegionHeld3
import Derived.Deep.DeepCutAuto
namespace Go.Proofs.Ytnbaeplbnonhkaa
open Go.RowKit Plain Sch Bxs

set_option maxRecDepth 100000 in
set_option maxHeartbeats 16000000 in
theorem walkFnBoxes (a0 : Option Addr) (len0 cap0 : Nat) (a1 : Option Addr) (len1 cap1 : Nat) (w : World) (h0 : len0 ≤ 1048576 → CodeAt w a0 len0) (h1 : len1 ≤ 1048576 → CodeAt w a1 len1) (y0 : len0 ≤ 140737488351232) (y1 : len1 ≤ 140737488351232) :
    Calls Try.prog 3 #[.slice a0 len0 cap0, .slice a1 len1 cap1] w fun e w' => e = .returned (.bool true) ∧ Below w.heap.size w w' := by
  by_cases hbig : 1048576 < len0 + len1
  · have hbig' : (1048576 : Int) < (len0 : Int) + (len1 : Int) := by omega
    clear h0 h1
    go_enter Try.func3, Try.ntmps3
    go_wp2
    go_ret
    exact ⟨rfl, Below.refl _ _⟩
  have hbig' : ¬ (1048576 : Int) < (len0 : Int) + (len1 : Int) := by omega
  have H0 : Hid (CodeAt w a0 len0) := h0 (by omega)
  have H1 : Hid (CodeAt w a1 len1) := h1 (by omega)
  have hl1 : len1 ≤ 1048576 := by omega
  clear h0 h1 hbig
  go_enter Try.func3, Try.ntmps3
  go_wp2_with fail
  refine (drawCov_any a0 len0 cap0 w H0.out).mono ?_
  rintro e w1 ⟨va, vb, A, B, rfl, hqa, hqb, hB1⟩
  clear H0
  have hsa := hqa.at
  have hsb := hqb.at
  obtain ⟨aA, cA, hva, _⟩ := id hsa
  obtain ⟨aB, cB, hvb, _⟩ := id hsb
  subst hva hvb
  obtain ⟨W2, hW2⟩ : ∃ W, W = (w1.alloc (.cells #[.slice aA A.length cA] 25)).alloc (.cells #[.slice aB B.length cB] 25) := ⟨_, rfl⟩
  have hb12 : Below w1.heap.size w1 W2 := by rw [hW2]; exact ((Below.refl _ w1).alloc (Nat.le_refl _) _).alloc (by simp) _
  have hB2 : Below w.heap.size w W2 := hB1.trans (hb12.mono hB1.size)
  have HA : Hid (∀ W, Below W2.heap.size W2 W → VAt w1.heap.size (.slice aA A.length cA) A W) := fun W hW => by
    refine VAt.below ?_ hW
    rw [hW2]
    exact (VAt.new hsa).below ((Below.refl _ _).alloc (Nat.le_refl _) _)
  have HB : Hid (∀ W, Below W2.heap.size W2 W → VAt (w1.heap.size + 1) (.slice aB B.length cB) B W) := fun W hW => by
    refine VAt.below ?_ hW
    rw [hW2]
    have := VAt.new (W := w1.alloc (.cells #[.slice aA A.length cA] 25)) (hsb.below ((Below.refl _ w1).alloc (Nat.le_refl _) _))
    simpa using this
  have HW2 : Hid (W2 = (w1.alloc (.cells #[.slice aA A.length cA] 25)).alloc (.cells #[.slice aB B.length cB] 25)) := hW2
  clear hW2 hqa hqb hsa hsb hb12 hB1
  have hr2 := Below.refl W2.heap.size W2
  obtain ⟨qa2, la2, _⟩ := HA.out W2 hr2
  obtain ⟨qb2, lb2, _⟩ := HB.out W2 hr2
  go_wp2_with fail
  rw [← HW2.out]
  clear HW2
  refine (implCov A B _ _ W2 (HA.out _ hr2).2.2 (HB.out _ hr2).2.2).mono ?_
  rintro e w3 ⟨rfl, hb3⟩
  obtain ⟨qa3, la3, _⟩ := HA.out _ hb3
  obtain ⟨qb3, lb3, _⟩ := HB.out _ hb3
  clear qa2 la2 qb2 lb2
  go_wp2_with fail
  refine (specCov A B _ _ w3 (HA.out _ hb3).2.2 (HB.out _ hb3).2.2).mono ?_
  rintro e w4 ⟨rfl, hb4⟩
  have hb24 : Below W2.heap.size W2 w4 := hb3.trans (hb4.mono hb3.size)
  obtain ⟨qa4, la4, _⟩ := HA.out _ hb24
  obtain ⟨qb4, lb4, _⟩ := HB.out _ hb24
  clear qa3 la3 qb3 lb3 hb3 hb4
  go_wp2_with fail
  refine (implHull A B _ _ w4 (HA.out _ hb24).2.2 (HB.out _ hb24).2.2).mono ?_
  rintro e w5 ⟨⟨vh, rfl, hrh⟩, hb5⟩
  have hb25 : Below W2.heap.size W2 w5 := hb24.trans (hb5.mono hb24.size)
  have hsh : SdsAt w5 w5.heap.size vh (hlo A B) := QRow.at ⟨_, hrh⟩
  clear hrh hb5 hb24 qa4 la4 qb4 lb4
  -- the variables h, hull, m, meet come one by one
  have GH : Hid (gb A = true → gb B = true → gb (hlo A B) = true) := hlo_good
  have GM : Hid (mok A B = true → gb (mlo A B) = true) := mlo_good
  obtain ⟨aH, cH, hvh, _⟩ := id hsh
  subst hvh
  obtain ⟨W6, hW6⟩ : ∃ W, W = w5.alloc (.cells #[.slice aH (hlo A B).length cH] 25) := ⟨_, rfl⟩
  have hb56 : Below w5.heap.size w5 W6 := by rw [hW6]; exact (Below.refl _ w5).alloc (Nat.le_refl _) _
  have hb26 : Below W2.heap.size W2 W6 := hb25.trans (hb56.mono hb25.size)
  have HH : Hid (∀ W, Below W6.heap.size W6 W → VAt w5.heap.size (.slice aH (hlo A B).length cH) (hlo A B) W) := fun W hW => by
    refine VAt.below ?_ hW
    rw [hW6]
    exact VAt.new hsh
  have HA6 : Hid (∀ W, Below W6.heap.size W6 W → VAt w1.heap.size (.slice aA A.length cA) A W) := fun W hW => HA.out W (hb26.trans (hW.mono hb26.size))
  have HB6 : Hid (∀ W, Below W6.heap.size W6 W → VAt (w1.heap.size + 1) (.slice aB B.length cB) B W) := fun W hW => HB.out W (hb26.trans (hW.mono hb26.size))
  have hB6 : Below w.heap.size w W6 := hB2.trans (hb26.mono hB2.size)
  have HW6 : Hid (W6 = w5.alloc (.cells #[.slice aH (hlo A B).length cH] 25)) := hW6
  clear hW6 hsh hb56 hb26 HA HB hb25 hB2 hr2
  have hr6 := Below.refl W6.heap.size W6
  obtain ⟨qa6, la6, _⟩ := HA6.out W6 hr6
  obtain ⟨qb6, lb6, _⟩ := HB6.out W6 hr6
  go_upto_region 7 with fail
  rw [← HW6.out]
  clear HW6
  go_wp2_with fail
  refine (specHull A B _ _ W6 (HA6.out _ hr6).2.2 (HB6.out _ hr6).2.2).mono ?_
  rintro e w7 ⟨⟨vh2, rfl, hrh2⟩, hb7⟩
  have hsh2 : SdsAt w7 w7.heap.size vh2 (hlo A B) := QRow.at ⟨_, hrh2⟩
  obtain ⟨aH2, cH2, hvh2, _⟩ := id hsh2
  subst hvh2
  obtain ⟨W8, hW8⟩ : ∃ W, W = w7.alloc (.cells #[.slice aH2 (hlo A B).length cH2] 25) := ⟨_, rfl⟩
  have hb78 : Below w7.heap.size w7 W8 := by rw [hW8]; exact (Below.refl _ w7).alloc (Nat.le_refl _) _
  have hb68 : Below W6.heap.size W6 W8 := hb7.trans (hb78.mono hb7.size)
  have HH2 : Hid (∀ W, Below W8.heap.size W8 W → VAt w7.heap.size (.slice aH2 (hlo A B).length cH2) (hlo A B) W) := fun W hW => by
    refine VAt.below ?_ hW
    rw [hW8]
    exact VAt.new hsh2
  have HW8 : Hid (W8 = w7.alloc (.cells #[.slice aH2 (hlo A B).length cH2] 25)) := hW8
  clear hW8 hsh2 hrh2 hb7 hb78 qa6 la6 qb6 lb6
  obtain ⟨qa8, la8, _⟩ := HA6.out W8 hb68
  obtain ⟨qb8, lb8, _⟩ := HB6.out W8 hb68
  go_upto_region 8 with fail
  rw [← HW8.out]
  clear HW8
  go_wp2_with fail
  refine (implMeet9 A B _ _ W8 (HA6.out _ hb68).2.2 (HB6.out _ hb68).2.2).mono ?_
  rintro e w9 ⟨⟨vm, rfl, hrm⟩, hb9⟩
  have hsm : SdsAt w9 w9.heap.size vm (mlo A B) := QRow.at ⟨_, hrm⟩
  obtain ⟨aM, cM, hvm, _⟩ := id hsm
  subst hvm
  obtain ⟨W10, hW10⟩ : ∃ W, W = w9.alloc (.cells #[.slice aM (mlo A B).length cM] 25) := ⟨_, rfl⟩
  have hb910 : Below w9.heap.size w9 W10 := by rw [hW10]; exact (Below.refl _ w9).alloc (Nat.le_refl _) _
  have hb810 : Below W8.heap.size W8 W10 := hb9.trans (hb910.mono hb9.size)
  have hb610 : Below W6.heap.size W6 W10 := hb68.trans (hb810.mono hb68.size)
  have HM : Hid (∀ W, Below W10.heap.size W10 W → VAt w9.heap.size (.slice aM (mlo A B).length cM) (mlo A B) W) := fun W hW => by
    refine VAt.below ?_ hW
    rw [hW10]
    exact VAt.new hsm
  have HW10 : Hid (W10 = w9.alloc (.cells #[.slice aM (mlo A B).length cM] 25)) := hW10
  clear hW10 hsm hrm hb9 hb910 qa8 la8 qb8 lb8
  obtain ⟨qa10, la10, _⟩ := HA6.out W10 hb610
  obtain ⟨qb10, lb10, _⟩ := HB6.out W10 hb610
  go_upto_region 9 with fail
  rw [← HW10.out]
  clear HW10
  go_wp2_with fail
  refine (specMeet9 A B _ _ W10 (HA6.out _ hb610).2.2 (HB6.out _ hb610).2.2).mono ?_
  rintro e w11 ⟨⟨vm2, rfl, hrm2⟩, hb11⟩
  have hsm2 : SdsAt w11 w11.heap.size vm2 (mlo A B) := QRow.at ⟨_, hrm2⟩
  obtain ⟨aM2, cM2, hvm2, _⟩ := id hsm2
  subst hvm2
  obtain ⟨W12, hW12⟩ : ∃ W, W = w11.alloc (.cells #[.slice aM2 (mlo A B).length cM2] 25) := ⟨_, rfl⟩
  have hb1112 : Below w11.heap.size w11 W12 := by rw [hW12]; exact (Below.refl _ w11).alloc (Nat.le_refl _) _
  have hb1012 : Below W10.heap.size W10 W12 := hb11.trans (hb1112.mono hb11.size)
  have hb812 : Below W8.heap.size W8 W12 := hb810.trans (hb1012.mono hb810.size)
  have hb612 : Below W6.heap.size W6 W12 := hb610.trans (hb1012.mono hb610.size)
  have hB12 : Below w.heap.size w W12 := hB6.trans (hb612.mono hB6.size)
  have UA : Hid (∀ W, Below W12.heap.size W12 W → VAt w1.heap.size (.slice aA A.length cA) A W) := fun W hW => HA6.out W (hb612.trans (hW.mono hb612.size))
  have UB : Hid (∀ W, Below W12.heap.size W12 W → VAt (w1.heap.size + 1) (.slice aB B.length cB) B W) := fun W hW => HB6.out W (hb612.trans (hW.mono hb612.size))
  have UH : Hid (∀ W, Below W12.heap.size W12 W → VAt w5.heap.size (.slice aH (hlo A B).length cH) (hlo A B) W) := fun W hW => HH.out W (hb612.trans (hW.mono hb612.size))
  have UH2 : Hid (∀ W, Below W12.heap.size W12 W → VAt w7.heap.size (.slice aH2 (hlo A B).length cH2) (hlo A B) W) := fun W hW => HH2.out W (hb812.trans (hW.mono hb812.size))
  have UM : Hid (∀ W, Below W12.heap.size W12 W → VAt w9.heap.size (.slice aM (mlo A B).length cM) (mlo A B) W) := fun W hW => HM.out W (hb1012.trans (hW.mono hb1012.size))
  have UM2 : Hid (∀ W, Below W12.heap.size W12 W → VAt w11.heap.size (.slice aM2 (mlo A B).length cM2) (mlo A B) W) := fun W hW => by
    refine VAt.below ?_ hW
    rw [hW12]
    exact VAt.new hsm2
  have HW12 : Hid (W12 = w11.alloc (.cells #[.slice aM2 (mlo A B).length cM2] 25)) := hW12
  have HB12 : Hid (Below w.heap.size w W12) := hB12
  clear hW12 hsm2 hrm2 hb11 hb1112 hb1012 hb812 hb612 HH HH2 HM HA6 HB6 hb610 hb810 hb68 qa10 la10 qb10 lb10 hB6 hr6 hB12
  -- what each tells
  have TH : Hid (gb A = true → gb B = true → decide (hlo A B = A) = cvo A B) := covers_hull
  have THas : Hid (gb A = true → gb B = true → ∀ P, gb P = true → ((cvo A P || cvo B P) && !cvo (hlo A B) P) = false ∧ (cvo A B && cvo B P && !cvo A P) = false ∧ (mok A B && cvo (mlo A B) P) = (cvo A P && cvo B P)) := fun p q P r => ⟨hull_has p q r, covers_has p q r, meet_has p q r⟩
  have SH : Hid (∀ W : World, Below W12.heap.size W12 W → Calls Try.prog 12 #[.agg #[.slice aH (hlo A B).length cH], .agg #[.slice aH2 (hlo A B).length cH2]] W fun e w' => e = .returned (.bool true) ∧ Below W.heap.size W w') := fun W hW => by
    have := sameBox_any (hlo A B) (hlo A B) _ _ W (UH.out W hW).2.2 (UH2.out W hW).2.2
    rwa [show decide (hlo A B = hlo A B) = true by simp] at this
  have SM : Hid (∀ W : World, Below W12.heap.size W12 W → Calls Try.prog 12 #[.agg #[.slice aM (mlo A B).length cM], .agg #[.slice aM2 (mlo A B).length cM2]] W fun e w' => e = .returned (.bool true) ∧ Below W.heap.size W w') := fun W hW => by
    have := sameBox_any (mlo A B) (mlo A B) _ _ W (UM.out W hW).2.2 (UM2.out W hW).2.2
    rwa [show decide (mlo A B = mlo A B) = true by simp] at this
  have GI : Hid (∀ W : World, Below W12.heap.size W12 W → Calls Try.prog 13 #[.agg #[.slice aA A.length cA]] W fun e w' => e = .returned (.bool (gb A)) ∧ Below W.heap.size W w') := fun W hW => implGoodB A _ W (UA.out W hW).2.2
  have GS : Hid (∀ W : World, Below W12.heap.size W12 W → Calls Try.prog 14 #[.agg #[.slice aA A.length cA]] W fun e w' => e = .returned (.bool (gb A)) ∧ Below W.heap.size W w') := fun W hW => specGoodB A _ W (UA.out W hW).2.2
  have HAHA : Hid (∀ W : World, Below W12.heap.size W12 W → Calls Try.prog 12 #[.agg #[.slice aH (hlo A B).length cH], .agg #[.slice aA A.length cA]] W fun e w' => e = .returned (.bool (decide (hlo A B = A))) ∧ Below W.heap.size W w') := fun W hW => sameBox_any (hlo A B) A _ _ W (UH.out W hW).2.2 (UA.out W hW).2.2
  go_upto_region 10 with fail
  rw [← HW12.out]
  clear HW12
  obtain ⟨ok, hok⟩ : ∃ r, r = (gb A && gb B) := ⟨_, rfl⟩
  obtain ⟨is, his⟩ : ∃ r, r = cvo A B := ⟨_, rfl⟩
  obtain ⟨two, htwo⟩ : ∃ r, r = mok A B := ⟨_, rfl⟩
  rw [← hok, ← his, ← htwo]
  have HOK : Hid (ok = (gb A && gb B)) := hok
  have HIS : Hid (is = cvo A B) := his
  have HTWO : Hid (two = mok A B) := htwo
  obtain ⟨ga, hga⟩ : ∃ r, r = gb A := ⟨_, rfl⟩
  rw [← hga] at GI GS
  clear hok his htwo hga
  have n1 : (ok != ok) = false := bne_self_eq_false _
  have n2 : (is != is) = false := bne_self_eq_false _
  have n3 : (two != two) = false := bne_self_eq_false _
  have n4 : (ga != ga) = false := bne_self_eq_false _
  have hd : Below W12.heap.size W12 W12.drew := (Below.refl _ W12).drew
  have HS : Hid (∀ w', Below W12.heap.size W12 w' → w'.cell? ⟨w5.heap.size, 0, none⟩ = some (.slice aH (hlo A B).length cH) ∧ w'.cell? ⟨w7.heap.size, 0, none⟩ = some (.slice aH2 (hlo A B).length cH2) ∧ w'.cell? ⟨w9.heap.size, 0, none⟩ = some (.slice aM (mlo A B).length cM) ∧ w'.cell? ⟨w11.heap.size, 0, none⟩ = some (.slice aM2 (mlo A B).length cM2) ∧ w'.cell? ⟨w1.heap.size, 0, none⟩ = some (.slice aA A.length cA)) := fun W hW => ⟨(UH.out W hW).1, (UH2.out W hW).1, (UM.out W hW).1, (UM2.out W hW).1, (UA.out W hW).1⟩
  have hSd := HS.out _ hd
  go_cut [128] (fun s128 wx => s128 = .bool false ∧ Below W12.heap.size W12 wx)
  case first =>
    go_region_held3 (fun w' => w'.cell? ⟨w5.heap.size, 0, none⟩ = some (.slice aH (hlo A B).length cH) ∧ w'.cell? ⟨w7.heap.size, 0, none⟩ = some (.slice aH2 (hlo A B).length cH2) ∧ w'.cell? ⟨w9.heap.size, 0, none⟩ = some (.slice aM (mlo A B).length cM) ∧ w'.cell? ⟨w11.heap.size, 0, none⟩ = some (.slice aM2 (mlo A B).length cM2) ∧ w'.cell? ⟨w1.heap.size, 0, none⟩ = some (.slice aA A.length cA))
      (first
        | with_reducible exact hS16
        | with_reducible exact hS15
        | with_reducible exact hS14
        | with_reducible exact hS13
        | with_reducible exact hSd
        | exact HS.out _ (Below.refl _ _))
      (first
        | (have hway := is15; go_at_call 14; (with_reducible refine (GS.out _ hB15).mono ?_); rintro e w16 ⟨rfl, hb16⟩; have hB16 : Below W12.heap.size W12 w16 := hB15.trans (hb16.mono hB15.size); have hS16 := HS.out _ hB16)
        | (have hway := is14; go_at_call 13; (with_reducible refine (GI.out _ hB14).mono ?_); rintro e w15 ⟨rfl, hb15⟩; have is15 : True := trivial; have hB15 : Below W12.heap.size W12 w15 := hB14.trans (hb15.mono hB14.size); have hS15 := HS.out _ hB15)
        | (have hway := is13; go_at_call 12; (with_reducible refine (SM.out _ hB13).mono ?_); rintro e w14 ⟨rfl, hb14⟩; have is14 : True := trivial; have hB14 : Below W12.heap.size W12 w14 := hB13.trans (hb14.mono hB13.size); have hS14 := HS.out _ hB14)
        | (go_at_call 12; (with_reducible refine (SH.out _ hd).mono ?_); rintro e w13 ⟨rfl, hb13⟩; have is13 : True := trivial; have hB13 : Below W12.heap.size W12 w13 := hd.trans (hb13.mono hd.size); have hS13 := HS.out _ hB13))
    all_goals
      go_wp2_with fail
      go_meet
      exact ⟨rfl, hB16⟩
  case rest =>
    obtain ⟨rfl, hbc⟩ := hcut
    clear GI GS SH SM n1 n2 n3 n4 hd hSd
    have hBc : Below w.heap.size w wc := HB12.out.trans (hbc.mono HB12.out.size)
    have HC1 : Hid (∀ W, Below wc.heap.size wc W → CodeAt W a1 len1) := fun W hW => H1.out.below (hBc.trans (hW.mono hBc.size))
    have CP := pointOf_any a1 len1 cap1 wc hl1 (HC1.out wc (Below.refl _ _)).2
    go_wp2_with fail
    refine CP.mono ?_
    rintro e wp ⟨rp, rfl, ⟨L, hL3, hLb, hZp⟩, hbp⟩
    obtain ⟨gP, _, _, _⟩ := point_good hL3 hLb
    have HGP : Hid (gb (dup L) = true) := gP
    obtain ⟨ap, cp, hrp⟩ := hZp.slice
    subst hrp
    have hbcp : Below W12.heap.size W12 wp := hbc.trans (hbp.mono hbc.size)
    have ZP : Hid (∀ W, Below wp.heap.size wp W → ZAt W W.heap.size (.slice ap L.length cp) L) := fun W hW => (ZAt.own hZp).below hW
    have hBp : Below w.heap.size w wp := hBc.trans (hbp.mono hBc.size)
    have HCp : Hid (∀ W, Below wp.heap.size wp W → CodeAt W a1 len1) := fun W hW => HC1.out W (hbp.trans (hW.mono hbp.size))
    have hcd := HCp.out wp (Below.refl _ _)
    have hzp := ZP.out wp (Below.refl _ _)
    have hA9 := UA.out wp hbcp
    have hB9 := UB.out wp hbcp
    have hH9 := UH.out wp hbcp
    have hM9 := UM.out wp hbcp
    clear CP HC1 H1 hZp hbp hbc hBc UA UB UH UM UH2 UM2 HAHA HS hL3 hLb HB12 hbcp HCp ZP HGP GH GM TH THas
    rename (∀ (a : Act) (w : World), Code.wp Try.prog _ _ a w → _) => hK13
    have HK13 : Hid (type_of% hK13) := hK13
    clear hK13
    go_wp2_with fail
    refine HK13.out _ _ ?_
    exact boxes_part2 w wp a1 ap len1 cap1 cp w1.heap.size (w1.heap.size + 1) w5.heap.size w9.heap.size cA cB cH cM aA aB aH aM L A B is ok two HOK HIS HTWO hA9 hB9 hH9 hM9 hcd hzp gP hBp _ _ _ _ _ _ _ _ _ _ _ _ _ _ _ _ _ _ _ _ _ _ _ _ _ _ _ _ _ _ _ _ _ _ _ _ _ _ _ _ _ _ _ _ _ _ _ _ _ _ _ _ _ _ _ _ _ _ _ _ _ _ _ _ _ _ _ _ _ _ _ _ _ _ _ _ _ _ _ _ _ _ _ _ _ _ _ _ _ _ _ _ _ _ _ _ _ _ _ _ _ _ _ _ _ _ _ _ _ _ _ _ _ _ _ _ _ _ _ _ _ _ _ _ _ _ _ _ _ _ _ _ _ _ _ _ _ _ _ _ _ _ _ _ _ _ _ _ _ _ _ _ _ _ _ _ _ _ _ _ _ _ _ _ _ _ _ _ _ _ _ _ _ _ _ _ _ _ _ _ _ _ _ _ _ _ _ _ _ _ _ _ _ _ _ _ _ _ _ _ _ _ _ _ _ _ _ _ _ _ _ _ _ _ _ _ _ _ _ _ _ _ _ _ _ _ _ _ _ _ _ _ _ _ _ _ _ _ _ _ _ _ _ _ _ _ _ _ _ _ _ _ _ _ _ _ _ _ _ _ _ _ _ _ _ _ _ _ _ _ _ _ _ _ _ _ _ _ _ _ _ _ _ _ _ _ _ _ _ _ _ _ _ _

end Go.Proofs.Ytnbaeplbnonhkaa
