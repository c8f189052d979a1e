/- Proved here: at every argument the law FnExactLeastOf answers true, that is, LeastOf answers as its model, its answer owns its memory, and it writes into nothing.
   Conditions: none beside the row's own. -/
import Derived.Test.YtecgjhnihagleaaMcEd
import Derived.Test.YtecgjhnihagleaaHc
import Derived.Test.YtecgjhnihagleaaMcV
namespace Go.Proofs.Ytecgjhnihagleaa
open Go.RowKit Plain Mch

set_option maxRecDepth 100000 in
set_option maxHeartbeats 8000000 in
theorem walkFnExactLeastOf (MA : List (List Int)) (EA : List Bool) (vA eA : Value) (w : World) (hMA : MAt w w.heap.size vA MA) (hEA : EAt w w.heap.size eA EA) :
    Calls Try.prog 4 #[.agg #[vA, eA]] w fun e w' => e = .returned (.bool true) ∧ Below w.heap.size w w' := by
  have HMA : Hid (MAt w w.heap.size vA MA) := hMA
  have HEA : Hid (EAt w w.heap.size eA EA) := hEA
  obtain ⟨aoA, capA, rfl, _⟩ := hMA
  obtain ⟨aeA, ceA, rfl, _⟩ := hEA
  obtain ⟨W1, hW1⟩ : ∃ W, W = w.alloc (.cells #[.slice aoA MA.length capA, .slice aeA EA.length ceA] 25) := ⟨_, rfl⟩
  have hB : Below w.heap.size w W1 := by rw [hW1]; exact (Below.refl _ w).alloc (Nat.le_refl _) _
  have qvA : W1.cell? ⟨w.heap.size, 0, none⟩ = some (.slice aoA MA.length capA) := by rw [hW1]; go_simp
  have qeA : W1.cell? ⟨w.heap.size, 1, none⟩ = some (.slice aeA EA.length ceA) := by rw [hW1]; go_simp
  have lA : w.heap.size < W1.heap.size := by rw [hW1]; simp
  go_enter Try.func4, Try.ntmps4
  go_wp2_with fail
  rw [← hW1]
  clear hW1
  refine (szMach_left MA EA _ _ 1048576 _ (HMA.out.below hB) (HEA.out.below hB) (by omega) (by omega)).mono ?_
  rintro e w2 ⟨⟨rA, rfl, hr0A, hr1A, hr2A⟩, hb⟩
  replace qvA := (hb.cell (p := ⟨w.heap.size, 0, none⟩) lA).trans qvA
  replace qeA := (hb.cell (p := ⟨w.heap.size, 1, none⟩) lA).trans qeA
  replace hB : Below w.heap.size w w2 := hB.trans (hb.mono hB.size)
  replace lA : w.heap.size < w2.heap.size := by have := hb.size; omega
  clear hb
  by_cases hnegA : rA < 0
  · clear hr2A
    go_wp2
    go_ret
    exact ⟨rfl, hB⟩
  obtain ⟨hlA, hpA, hleA⟩ := hr2A (by omega)
  clear hr2A
  have HPA : Hid (pm MA MA.length ≤ 1048576) := hpA
  clear hpA
  have hllA : Hid (∀ i, i < MA.length → (rx MA i).length ≤ 1048576) := fun i hi => Nat.le_trans (pm_each hi) HPA.out
  have TMA : Hid (∀ W : World, Below w.heap.size w W → Calls Try.prog 9 #[.agg #[.slice aoA MA.length capA, .slice aeA EA.length ceA]] W fun e w' => ∃ a c b d, e = .returned (.agg #[.slice a MA.length c, .slice b EA.length d]) ∧ (∃ us, MaOwn w' W.heap.size (.slice a MA.length c) (.slice b EA.length d) MA EA us) ∧ Below W.heap.size W w') := fun W hW => by
    refine (toMach_any MA EA _ _ W (HMA.out.below hW) (HEA.out.below hW) hlA hllA.out hleA).mono ?_
    rintro e w' ⟨⟨r1, r2, rfl, us, ho⟩, hb⟩
    obtain ⟨a, c, rfl⟩ := ho.1.slice
    obtain ⟨b, d, rfl⟩ := ERow.slice ho.2.1
    exact ⟨a, c, b, d, rfl, ⟨us, ho⟩, hb⟩
  have EMA : Hid (∀ (W : World) (v1 v2 e1 e2 : Value), MAt W W.heap.size v1 MA → MAt W W.heap.size v2 MA → EAt W W.heap.size e1 EA → EAt W W.heap.size e2 EA → Calls Try.prog 12 #[.agg #[v1, e1], .agg #[v2, e2]] W fun e w' => e = .returned (.bool true) ∧ Below W.heap.size W w') := fun W v1 v2 e1 e2 h1 h2 h3 h4 => eqMach_same MA EA v1 v2 e1 e2 W h1 h2 h3 h4 (by omega) (fun i hi => by have := hllA.out i hi; omega) (by omega)
  obtain ⟨RM, hRM⟩ : ∃ R, R = leM MA EA := ⟨_, rfl⟩
  obtain ⟨ok, hok⟩ : ∃ k, k = gm MA EA := ⟨_, rfl⟩
  obtain ⟨RE, hRE⟩ : ∃ R, R = leE MA EA := ⟨_, rfl⟩
  have HRL : Hid (RM.length ≤ 12 ∧ RE.length ≤ 12 ∧ ∀ i, i < RM.length → (rx RM i).length ≤ 3) := by show _ ∧ _; rw [hRM, hRE]; exact le_len MA EA
  have CS : Hid (∀ (W : World) (vA eA : Value), MAt W W.heap.size vA MA → EAt W W.heap.size eA EA → Calls Try.prog 16 #[.agg #[vA, eA]] W fun e w' => (∃ r q, e = .returned (.tuple #[.agg #[r, q], .bool ok]) ∧ ∃ us, MaOwn w' W.heap.size r q RM RE us) ∧ Below W.heap.size W w') := fun W vA eA hA gA => by rw [hRM, hok, hRE]; exact specLeastM MA EA vA eA W hA gA
  have CI : Hid (∀ (W : World) (vA eA : Value), MAt W W.heap.size vA MA → EAt W W.heap.size eA EA → Calls Try.prog 17 #[.agg #[vA, eA]] W fun e w' => (∃ r q, e = .returned (.tuple #[.agg #[r, q], .bool ok]) ∧ ∃ us, MaOwn w' W.heap.size r q RM RE us) ∧ Below W.heap.size W w') := fun W vA eA hA gA => by rw [hRM, hok, hRE]; exact implLeastM MA EA vA eA W hA gA
  clear hRM hok hRE
  have ER : Hid (∀ (W : World) (v1 v2 e1 e2 : Value), MAt W W.heap.size v1 RM → MAt W W.heap.size v2 RM → EAt W W.heap.size e1 RE → EAt W W.heap.size e2 RE → Calls Try.prog 12 #[.agg #[v1, e1], .agg #[v2, e2]] W fun e w' => e = .returned (.bool true) ∧ Below W.heap.size W w') := fun W v1 v2 e1 e2 h1 h2 h3 h4 => eqMach_same RM RE v1 v2 e1 e2 W h1 h2 h3 h4 (by have := HRL.out.1; omega) (fun i hi => by have := HRL.out.2.2 i hi; omega) (by have := HRL.out.2.1; omega)
  clear HMA HEA
  go_wp2_with fail
  refine (TMA.out _ hB).mono ?_
  rintro e w3 ⟨a3, c3, b3, d3, rfl, ⟨us3, ho3⟩, hb⟩
  have HXM : Hid (MAt w3 w3.heap.size (.slice a3 MA.length c3) MA) := ho3.1.at
  have HXE : Hid (EAt w3 w3.heap.size (.slice b3 EA.length d3) EA) := EAt.own ho3.2.1
  clear ho3
  replace qvA := (hb.cell (p := ⟨w.heap.size, 0, none⟩) lA).trans qvA
  replace qeA := (hb.cell (p := ⟨w.heap.size, 1, none⟩) lA).trans qeA
  replace hB : Below w.heap.size w w3 := hB.trans (hb.mono hB.size)
  replace lA : w.heap.size < w3.heap.size := by have := hb.size; omega
  clear hb
  go_wp2_with fail
  refine (CS.out _ _ _ HXM.out HXE.out).mono ?_
  rintro e w4 ⟨⟨r4, q4, rfl, us4, ho4⟩, hb⟩
  obtain ⟨a4, c4, hr4⟩ := ho4.1.slice
  obtain ⟨b4, d4, hq4⟩ := ERow.slice ho4.2.1
  subst hr4 hq4
  clear HXM HXE
  replace qvA := (hb.cell (p := ⟨w.heap.size, 0, none⟩) lA).trans qvA
  replace qeA := (hb.cell (p := ⟨w.heap.size, 1, none⟩) lA).trans qeA
  replace hB : Below w.heap.size w w4 := hB.trans (hb.mono hB.size)
  replace lA : w.heap.size < w4.heap.size := by have := hb.size; omega
  clear hb CS
  have HWM : Hid (MAt w4 w4.heap.size (.slice a4 RM.length c4) RM) := ho4.1.at
  have HWE : Hid (EAt w4 w4.heap.size (.slice b4 RE.length d4) RE) := EAt.own ho4.2.1
  clear ho4
  obtain ⟨W5, hW5⟩ : ∃ W, W = w4.alloc (.cells #[.slice a4 RM.length c4, .slice b4 RE.length d4] 30) := ⟨_, rfl⟩
  have hb : Below w4.heap.size w4 W5 := by rw [hW5]; exact (Below.refl _ _).alloc (Nat.le_refl _) _
  have lw : w4.heap.size < W5.heap.size := by rw [hW5]; simp
  have xwv : W5.cell? ⟨w4.heap.size, 0, none⟩ = some (.slice a4 RM.length c4) := by rw [hW5]; go_simp
  have xwe : W5.cell? ⟨w4.heap.size, 1, none⟩ = some (.slice b4 RE.length d4) := by rw [hW5]; go_simp
  replace qvA := (hb.cell (p := ⟨w.heap.size, 0, none⟩) lA).trans qvA
  replace qeA := (hb.cell (p := ⟨w.heap.size, 1, none⟩) lA).trans qeA
  have HWM' : Hid (MAt W5 W5.heap.size (.slice a4 RM.length c4) RM) := HWM.out.below hb
  clear HWM
  have HWM := HWM'
  clear HWM'
  have HWE' : Hid (EAt W5 W5.heap.size (.slice b4 RE.length d4) RE) := HWE.out.below hb
  clear HWE
  have HWE := HWE'
  clear HWE'
  replace hB : Below w.heap.size w W5 := hB.trans (hb.mono hB.size)
  replace lA : w.heap.size < W5.heap.size := by have := hb.size; omega
  clear hb
  go_upto_region 6 with fail
  rw [← hW5]
  clear hW5
  go_wp2_with fail
  have lAz : w.heap.size < W5.heap.size := lA
  have lwz : w4.heap.size < W5.heap.size := lw
  refine (TMA.out _ hB).mono ?_
  rintro e w6 ⟨a6, c6, b6, d6, rfl, ⟨us6, ho6⟩, hb⟩
  have HX : Hid (Below W5.heap.size W5 W5) := Below.refl _ _
  have lA0 : w.heap.size < W5.heap.size := lAz
  have lw0 : w4.heap.size < W5.heap.size := lwz
  have HXO : Hid (MaOwn w6 W5.heap.size (.slice a6 MA.length c6) (.slice b6 EA.length d6) MA EA us6) := ho6
  clear ho6
  have hsb : W5.heap.size ≤ w6.heap.size := hb.size
  have HUX0 : Hid (∀ u ∈ (.slice b6 EA.length d6) :: us6, ∀ g, u.ownBlock = some g → W5.heap.size ≤ g ∧ g < w6.heap.size) := HXO.out.rows
  have hB0 : w.heap.size ≤ W5.heap.size := hB.size
  replace qvA := (hb.cell (p := ⟨w.heap.size, 0, none⟩) lA).trans qvA
  replace qeA := (hb.cell (p := ⟨w.heap.size, 1, none⟩) lA).trans qeA
  replace xwv := (hb.cell (p := ⟨w4.heap.size, 0, none⟩) lw).trans xwv
  replace xwe := (hb.cell (p := ⟨w4.heap.size, 1, none⟩) lw).trans xwe
  replace hB : Below w.heap.size w w6 := hB.trans (hb.mono hB.size)
  have HX' : Hid (Below W5.heap.size W5 w6) := HX.out.trans (hb.mono HX.out.size)
  clear HX
  have HX := HX'
  clear HX'
  replace lA : w.heap.size < w6.heap.size := by have := hb.size; omega
  replace lw : w4.heap.size < w6.heap.size := by have := hb.size; omega
  clear hb
  obtain ⟨W7, hW7⟩ : ∃ W, W = w6.alloc (.cells #[.slice a6 MA.length c6, .slice b6 EA.length d6] 30) := ⟨_, rfl⟩
  have hb : Below w6.heap.size w6 W7 := by rw [hW7]; exact (Below.refl _ _).alloc (Nat.le_refl _) _
  have lx : w6.heap.size < W7.heap.size := by rw [hW7]; simp
  have xxv : W7.cell? ⟨w6.heap.size, 0, none⟩ = some (.slice a6 MA.length c6) := by rw [hW7]; go_simp
  have xxe : W7.cell? ⟨w6.heap.size, 1, none⟩ = some (.slice b6 EA.length d6) := by rw [hW7]; go_simp
  replace qvA := (hb.cell (p := ⟨w.heap.size, 0, none⟩) lA).trans qvA
  replace qeA := (hb.cell (p := ⟨w.heap.size, 1, none⟩) lA).trans qeA
  replace xwv := (hb.cell (p := ⟨w4.heap.size, 0, none⟩) lw).trans xwv
  replace xwe := (hb.cell (p := ⟨w4.heap.size, 1, none⟩) lw).trans xwe
  have HXO' : Hid (MaOwn W7 W5.heap.size (.slice a6 MA.length c6) (.slice b6 EA.length d6) MA EA us6) := HXO.out.below hb
  clear HXO
  have HXO := HXO'
  clear HXO'
  replace hB : Below w.heap.size w W7 := hB.trans (hb.mono hB.size)
  have HX' : Hid (Below W5.heap.size W5 W7) := HX.out.trans (hb.mono HX.out.size)
  clear HX
  have HX := HX'
  clear HX'
  replace lA : w.heap.size < W7.heap.size := by have := hb.size; omega
  replace lw : w4.heap.size < W7.heap.size := by have := hb.size; omega
  clear hb
  go_upto_region 7 with fail
  rw [← hW7]
  clear hW7
  replace hsb : W5.heap.size ≤ W7.heap.size := by omega
  have hbi : w6.heap.size < W7.heap.size := lx
  have hB0I : W5.heap.size ≤ W7.heap.size := hsb
  have lAI : w.heap.size < W7.heap.size := lA
  have lwI : w4.heap.size < W7.heap.size := lw
  have lxI : w6.heap.size < W7.heap.size := lx
  go_wp2_with fail
  refine (CI.out _ _ _ HXO.out.1.at (EAt.own HXO.out.2.1)).mono ?_
  rintro e w8 ⟨⟨r8, q8, rfl, us8, ho8⟩, hb⟩
  obtain ⟨a8, c8, hr8⟩ := ho8.1.slice
  obtain ⟨b8, d8, hq8⟩ := ERow.slice ho8.2.1
  subst hr8 hq8
  have HGO : Hid (MaOwn w8 W7.heap.size (.slice a8 RM.length c8) (.slice b8 RE.length d8) RM RE us8) := ho8
  clear ho8
  have HUG0 : Hid (∀ u ∈ (.slice b8 RE.length d8) :: us8, ∀ g, u.ownBlock = some g → W7.heap.size ≤ g ∧ g < w8.heap.size) := HGO.out.rows
  replace qvA := (hb.cell (p := ⟨w.heap.size, 0, none⟩) lA).trans qvA
  replace qeA := (hb.cell (p := ⟨w.heap.size, 1, none⟩) lA).trans qeA
  replace xwv := (hb.cell (p := ⟨w4.heap.size, 0, none⟩) lw).trans xwv
  replace xwe := (hb.cell (p := ⟨w4.heap.size, 1, none⟩) lw).trans xwe
  replace xxv := (hb.cell (p := ⟨w6.heap.size, 0, none⟩) lx).trans xxv
  replace xxe := (hb.cell (p := ⟨w6.heap.size, 1, none⟩) lx).trans xxe
  have HXO' : Hid (MaOwn w8 W5.heap.size (.slice a6 MA.length c6) (.slice b6 EA.length d6) MA EA us6) := HXO.out.below hb
  clear HXO
  have HXO := HXO'
  clear HXO'
  replace hB : Below w.heap.size w w8 := hB.trans (hb.mono hB.size)
  have HX' : Hid (Below W5.heap.size W5 w8) := HX.out.trans (hb.mono HX.out.size)
  clear HX
  have HX := HX'
  clear HX'
  replace lA : w.heap.size < w8.heap.size := by have := hb.size; omega
  replace lw : w4.heap.size < w8.heap.size := by have := hb.size; omega
  replace lx : w6.heap.size < w8.heap.size := by have := hb.size; omega
  have hBI : w6.heap.size < W7.heap.size := hbi
  have hsI : W7.heap.size ≤ w8.heap.size := hb.size
  replace hsb : W5.heap.size ≤ w8.heap.size := by have := hb.size; omega
  clear hb
  obtain ⟨W9, hW9⟩ : ∃ W, W = w8.alloc (.cells #[.slice a8 RM.length c8, .slice b8 RE.length d8] 30) := ⟨_, rfl⟩
  have hb : Below w8.heap.size w8 W9 := by rw [hW9]; exact (Below.refl _ _).alloc (Nat.le_refl _) _
  have lg : w8.heap.size < W9.heap.size := by rw [hW9]; simp
  have xgv : W9.cell? ⟨w8.heap.size, 0, none⟩ = some (.slice a8 RM.length c8) := by rw [hW9]; go_simp
  have xge : W9.cell? ⟨w8.heap.size, 1, none⟩ = some (.slice b8 RE.length d8) := by rw [hW9]; go_simp
  replace qvA := (hb.cell (p := ⟨w.heap.size, 0, none⟩) lA).trans qvA
  replace qeA := (hb.cell (p := ⟨w.heap.size, 1, none⟩) lA).trans qeA
  replace xwv := (hb.cell (p := ⟨w4.heap.size, 0, none⟩) lw).trans xwv
  replace xwe := (hb.cell (p := ⟨w4.heap.size, 1, none⟩) lw).trans xwe
  replace xxv := (hb.cell (p := ⟨w6.heap.size, 0, none⟩) lx).trans xxv
  replace xxe := (hb.cell (p := ⟨w6.heap.size, 1, none⟩) lx).trans xxe
  have HXO' : Hid (MaOwn W9 W5.heap.size (.slice a6 MA.length c6) (.slice b6 EA.length d6) MA EA us6) := HXO.out.below hb
  clear HXO
  have HXO := HXO'
  clear HXO'
  have HGO' : Hid (MaOwn W9 W7.heap.size (.slice a8 RM.length c8) (.slice b8 RE.length d8) RM RE us8) := HGO.out.below hb
  clear HGO
  have HGO := HGO'
  clear HGO'
  replace hB : Below w.heap.size w W9 := hB.trans (hb.mono hB.size)
  have HX' : Hid (Below W5.heap.size W5 W9) := HX.out.trans (hb.mono HX.out.size)
  clear HX
  have HX := HX'
  clear HX'
  replace lA : w.heap.size < W9.heap.size := by have := hb.size; omega
  replace lw : w4.heap.size < W9.heap.size := by have := hb.size; omega
  replace lx : w6.heap.size < W9.heap.size := by have := hb.size; omega
  clear hb
  go_upto_region 8 with fail
  rw [← hW9]
  clear hW9
  replace hsb : W5.heap.size ≤ W9.heap.size := by omega
  go_wp2_with fail
  refine (ER.out _ _ _ _ _ HGO.out.1.at (HWM.out.below HX.out) (EAt.own HGO.out.2.1) (HWE.out.below HX.out)).mono ?_
  rintro e w10 ⟨rfl, hb⟩
  replace qvA := (hb.cell (p := ⟨w.heap.size, 0, none⟩) lA).trans qvA
  replace qeA := (hb.cell (p := ⟨w.heap.size, 1, none⟩) lA).trans qeA
  replace xwv := (hb.cell (p := ⟨w4.heap.size, 0, none⟩) lw).trans xwv
  replace xwe := (hb.cell (p := ⟨w4.heap.size, 1, none⟩) lw).trans xwe
  replace xxv := (hb.cell (p := ⟨w6.heap.size, 0, none⟩) lx).trans xxv
  replace xxe := (hb.cell (p := ⟨w6.heap.size, 1, none⟩) lx).trans xxe
  replace xgv := (hb.cell (p := ⟨w8.heap.size, 0, none⟩) lg).trans xgv
  replace xge := (hb.cell (p := ⟨w8.heap.size, 1, none⟩) lg).trans xge
  have HXO' : Hid (MaOwn w10 W5.heap.size (.slice a6 MA.length c6) (.slice b6 EA.length d6) MA EA us6) := HXO.out.below hb
  clear HXO
  have HXO := HXO'
  clear HXO'
  have HGO' : Hid (MaOwn w10 W7.heap.size (.slice a8 RM.length c8) (.slice b8 RE.length d8) RM RE us8) := HGO.out.below hb
  clear HGO
  have HGO := HGO'
  clear HGO'
  replace hB : Below w.heap.size w w10 := hB.trans (hb.mono hB.size)
  have HX' : Hid (Below W5.heap.size W5 w10) := HX.out.trans (hb.mono HX.out.size)
  clear HX
  have HX := HX'
  clear HX'
  replace lA : w.heap.size < w10.heap.size := by have := hb.size; omega
  replace lw : w4.heap.size < w10.heap.size := by have := hb.size; omega
  replace lx : w6.heap.size < w10.heap.size := by have := hb.size; omega
  replace lg : w8.heap.size < w10.heap.size := by have := hb.size; omega
  replace hsb : W5.heap.size ≤ w10.heap.size := by have := hb.size; omega
  clear hb
  have hBd : Hid (Below w.heap.size w w10.drew) := hB.drew
  go_wp2_with fail
  go_region_with (first
    | (go_at_call 9; refine (TMA.out _ hBd.out).mono ?_; rintro e w11 ⟨a11, c11, b11, d11, rfl, ⟨us11, ho11⟩, hbt⟩; have xcv := (hbt.cell (p := ⟨w6.heap.size, 0, none⟩) lx).trans xxv; have xce := (hbt.cell (p := ⟨w6.heap.size, 1, none⟩) lx).trans xxe; have hxo : MaOwn w11 W5.heap.size (.slice a6 MA.length c6) (.slice b6 EA.length d6) MA EA us6 := HXO.out.below (⟨hbt.os, hbt.tape, hbt.output, hbt.size, hbt.block⟩ : Below w10.heap.size w10 w11))
    | (go_at_call 12; refine (EMA.out _ _ _ _ _ hxo.1.at ho11.1.at (EAt.own hxo.2.1) (EAt.own ho11.2.1)).mono ?_; rintro e w12 ⟨rfl, hbu⟩))
  all_goals
    have hb : Below w10.heap.size w10 w12 := (⟨hbt.os, hbt.tape, hbt.output, hbt.size, hbt.block⟩ : Below w10.heap.size w10 w11).trans (hbu.mono hbt.size)
    clear hbt hbu ho11 hxo xcv xce hBd
    replace qvA := (hb.cell (p := ⟨w.heap.size, 0, none⟩) lA).trans qvA
    replace qeA := (hb.cell (p := ⟨w.heap.size, 1, none⟩) lA).trans qeA
    replace xwv := (hb.cell (p := ⟨w4.heap.size, 0, none⟩) lw).trans xwv
    replace xwe := (hb.cell (p := ⟨w4.heap.size, 1, none⟩) lw).trans xwe
    replace xxv := (hb.cell (p := ⟨w6.heap.size, 0, none⟩) lx).trans xxv
    replace xxe := (hb.cell (p := ⟨w6.heap.size, 1, none⟩) lx).trans xxe
    replace xgv := (hb.cell (p := ⟨w8.heap.size, 0, none⟩) lg).trans xgv
    replace xge := (hb.cell (p := ⟨w8.heap.size, 1, none⟩) lg).trans xge
    have HXO' : Hid (MaOwn w12 W5.heap.size (.slice a6 MA.length c6) (.slice b6 EA.length d6) MA EA us6) := HXO.out.below hb
    clear HXO
    have HXO := HXO'
    clear HXO'
    have HGO' : Hid (MaOwn w12 W7.heap.size (.slice a8 RM.length c8) (.slice b8 RE.length d8) RM RE us8) := HGO.out.below hb
    clear HGO
    have HGO := HGO'
    clear HGO'
    replace hB : Below w.heap.size w w12 := hB.trans (hb.mono hB.size)
    have HX' : Hid (Below W5.heap.size W5 w12) := HX.out.trans (hb.mono HX.out.size)
    clear HX
    have HX := HX'
    clear HX'
    replace lA : w.heap.size < w12.heap.size := by have := hb.size; omega
    replace lw : w4.heap.size < w12.heap.size := by have := hb.size; omega
    replace lx : w6.heap.size < w12.heap.size := by have := hb.size; omega
    replace lg : w8.heap.size < w12.heap.size := by have := hb.size; omega
    clear hb
    have HUX : Hid (∀ u ∈ (.slice b6 EA.length d6) :: us6, ∀ g, u.ownBlock = some g → W5.heap.size ≤ g ∧ g < w6.heap.size) := HUX0
    go_wp2_with fail
    refine (markMach_any W5.heap.size 1 _ _ MA EA us6 _ HXO.out hlA HPA.out hleA (by omega)).mono ?_
    rintro e w13 ⟨rfl, hmk, hrm⟩
    clear hmk
    have HGO' : Hid (MaOwn w13 W7.heap.size (.slice a8 RM.length c8) (.slice b8 RE.length d8) RM RE us8) := HGO.out.rowsM hrm (fun u hu g hg => by have h := (HUX.out u hu g hg).2; omega)
    clear HGO HXO
    have HGO := HGO'
    clear HGO'
    replace qvA := (hrm.cell lA (fun u hu e => by have h := (HUX.out u hu _ e).1; omega)).trans qvA
    replace qeA := (hrm.cell lA (fun u hu e => by have h := (HUX.out u hu _ e).1; omega)).trans qeA
    replace xwv := (hrm.cell lw (fun u hu e => by have h := (HUX.out u hu _ e).1; omega)).trans xwv
    replace xwe := (hrm.cell lw (fun u hu e => by have h := (HUX.out u hu _ e).1; omega)).trans xwe
    replace xxv := (hrm.cell lx (fun u hu e => by have h := (HUX.out u hu _ e).2; omega)).trans xxv
    replace xxe := (hrm.cell lx (fun u hu e => by have h := (HUX.out u hu _ e).2; omega)).trans xxe
    replace xgv := (hrm.cell lg (fun u hu e => by have h := (HUX.out u hu _ e).2; omega)).trans xgv
    replace xge := (hrm.cell lg (fun u hu e => by have h := (HUX.out u hu _ e).2; omega)).trans xge
    have hbx : Below W5.heap.size w12 w13 := hrm.below (fun u hu g hg => (HUX.out u hu g hg).1) HX.out.size
    have HX' : Hid (Below W5.heap.size W5 w13) := HX.out.trans hbx
    clear HX
    have HX := HX'
    clear HX'
    replace hB : Below w.heap.size w w13 := hB.trans (hbx.mono hB0)
    replace lA : w.heap.size < w13.heap.size := by have := hrm.size; omega
    replace lw : w4.heap.size < w13.heap.size := by have := hrm.size; omega
    replace lx : w6.heap.size < w13.heap.size := by have := hrm.size; omega
    replace lg : w8.heap.size < w13.heap.size := by have := hrm.size; omega
    clear hrm hbx HUX
    obtain ⟨kx, hkx⟩ : ∃ kx, kx = 1 + pm MA MA.length + EA.length := ⟨_, rfl⟩
    rw [← hkx]
    have hkx0 : (0 : Int) ≤ (kx : Int) := by omega
    have hkx1 : kx ≤ 100000000 := by have := HPA.out; omega
    clear hkx
    go_wp2_with fail
    refine (ER.out _ _ _ _ _ HGO.out.1.at (HWM.out.below HX.out) (EAt.own HGO.out.2.1) (HWE.out.below HX.out)).mono ?_
    rintro e w14 ⟨rfl, hb⟩
    replace qvA := (hb.cell (p := ⟨w.heap.size, 0, none⟩) lA).trans qvA
    replace qeA := (hb.cell (p := ⟨w.heap.size, 1, none⟩) lA).trans qeA
    replace xwv := (hb.cell (p := ⟨w4.heap.size, 0, none⟩) lw).trans xwv
    replace xwe := (hb.cell (p := ⟨w4.heap.size, 1, none⟩) lw).trans xwe
    replace xxv := (hb.cell (p := ⟨w6.heap.size, 0, none⟩) lx).trans xxv
    replace xxe := (hb.cell (p := ⟨w6.heap.size, 1, none⟩) lx).trans xxe
    replace xgv := (hb.cell (p := ⟨w8.heap.size, 0, none⟩) lg).trans xgv
    replace xge := (hb.cell (p := ⟨w8.heap.size, 1, none⟩) lg).trans xge
    have HGO' : Hid (MaOwn w14 W7.heap.size (.slice a8 RM.length c8) (.slice b8 RE.length d8) RM RE us8) := HGO.out.below hb
    clear HGO
    have HGO := HGO'
    clear HGO'
    replace hB : Below w.heap.size w w14 := hB.trans (hb.mono hB.size)
    have HX' : Hid (Below W5.heap.size W5 w14) := HX.out.trans (hb.mono HX.out.size)
    clear HX
    have HX := HX'
    clear HX'
    replace lA : w.heap.size < w14.heap.size := by have := hb.size; omega
    replace lw : w4.heap.size < w14.heap.size := by have := hb.size; omega
    replace lx : w6.heap.size < w14.heap.size := by have := hb.size; omega
    replace lg : w8.heap.size < w14.heap.size := by have := hb.size; omega
    clear hb
    go_wp2_with fail
    have HRP : Hid (pm RM RM.length ≤ 1048576) := Nat.le_trans (pm_12 HRL.out.1 HRL.out.2.2) (by omega)
    have HUG : Hid (∀ u ∈ (.slice b8 RE.length d8) :: us8, ∀ g, u.ownBlock = some g → W7.heap.size ≤ g ∧ g < w8.heap.size) := HUG0
    refine (markMach_any W7.heap.size 1 _ _ RM RE us8 _ HGO.out (by have := HRL.out.1; omega) HRP.out (by have := HRL.out.2.1; omega) (by omega)).mono ?_
    rintro e w15 ⟨rfl, hmk, hrm⟩
    have HMK : Hid (MaMark w15 W7.heap.size (.slice a8 RM.length c8) (.slice b8 RE.length d8) RM RE us8 1) := hmk
    clear hmk HGO
    replace qvA := (hrm.cell lA (fun u hu e => by have h := (HUG.out u hu _ e).1; omega)).trans qvA
    replace qeA := (hrm.cell lA (fun u hu e => by have h := (HUG.out u hu _ e).1; omega)).trans qeA
    replace xwv := (hrm.cell lw (fun u hu e => by have h := (HUG.out u hu _ e).1; omega)).trans xwv
    replace xwe := (hrm.cell lw (fun u hu e => by have h := (HUG.out u hu _ e).1; omega)).trans xwe
    replace xxv := (hrm.cell lx (fun u hu e => by have h := (HUG.out u hu _ e).1; omega)).trans xxv
    replace xxe := (hrm.cell lx (fun u hu e => by have h := (HUG.out u hu _ e).1; omega)).trans xxe
    replace xgv := (hrm.cell lg (fun u hu e => by have h := (HUG.out u hu _ e).2; omega)).trans xgv
    replace xge := (hrm.cell lg (fun u hu e => by have h := (HUG.out u hu _ e).2; omega)).trans xge
    have hbx : Below W5.heap.size w14 w15 := hrm.below (fun u hu g hg => by have h := (HUG.out u hu g hg).1; omega) HX.out.size
    have HX' : Hid (Below W5.heap.size W5 w15) := HX.out.trans hbx
    clear HX
    have HX := HX'
    clear HX'
    replace hB : Below w.heap.size w w15 := hB.trans (hbx.mono hB0)
    replace lA : w.heap.size < w15.heap.size := by have := hrm.size; omega
    replace lw : w4.heap.size < w15.heap.size := by have := hrm.size; omega
    replace lx : w6.heap.size < w15.heap.size := by have := hrm.size; omega
    replace lg : w8.heap.size < w15.heap.size := by have := hrm.size; omega
    clear hrm hbx HUG
    obtain ⟨kg, hkg⟩ : ∃ kg, kg = 1 + pm RM RM.length + RE.length := ⟨_, rfl⟩
    have HKG : Hid (kg = 1 + pm RM RM.length + RE.length) := hkg
    rw [← hkg]
    have hkg0 : (0 : Int) ≤ (kg : Int) := by omega
    clear hkg
    go_wp2_with fail
    refine (heldMach_any W7.heap.size 1 _ _ RM RE us8 _ HMK.out (by have := HRL.out.1; omega) HRP.out (by have := HRL.out.2.1; omega) (by omega)).mono ?_
    rintro e w16 ⟨rfl, hb⟩
    rw [← HKG.out]
    replace qvA := (hb.cell (p := ⟨w.heap.size, 0, none⟩) lA).trans qvA
    replace qeA := (hb.cell (p := ⟨w.heap.size, 1, none⟩) lA).trans qeA
    replace xwv := (hb.cell (p := ⟨w4.heap.size, 0, none⟩) lw).trans xwv
    replace xwe := (hb.cell (p := ⟨w4.heap.size, 1, none⟩) lw).trans xwe
    replace xxv := (hb.cell (p := ⟨w6.heap.size, 0, none⟩) lx).trans xxv
    replace xxe := (hb.cell (p := ⟨w6.heap.size, 1, none⟩) lx).trans xxe
    replace xgv := (hb.cell (p := ⟨w8.heap.size, 0, none⟩) lg).trans xgv
    replace xge := (hb.cell (p := ⟨w8.heap.size, 1, none⟩) lg).trans xge
    have HMK' : Hid (MaMark w16 W7.heap.size (.slice a8 RM.length c8) (.slice b8 RE.length d8) RM RE us8 1) := HMK.out.below hb
    clear HMK
    have HMK := HMK'
    clear HMK'
    replace hB : Below w.heap.size w w16 := hB.trans (hb.mono hB.size)
    have HX' : Hid (Below W5.heap.size W5 w16) := HX.out.trans (hb.mono HX.out.size)
    clear HX
    have HX := HX'
    clear HX'
    replace lA : w.heap.size < w16.heap.size := by have := hb.size; omega
    replace lw : w4.heap.size < w16.heap.size := by have := hb.size; omega
    replace lx : w6.heap.size < w16.heap.size := by have := hb.size; omega
    replace lg : w8.heap.size < w16.heap.size := by have := hb.size; omega
    clear hb
    go_wp2_with fail
    refine (TMA.out _ hB).mono ?_
    rintro e w17 ⟨a17, c17, b17, d17, rfl, ⟨us17, ho17⟩, hb⟩
    have HYM : Hid (MAt w17 w17.heap.size (.slice a17 MA.length c17) MA) := ho17.1.at
    have HYE : Hid (EAt w17 w17.heap.size (.slice b17 EA.length d17) EA) := EAt.own ho17.2.1
    clear ho17
    replace qvA := (hb.cell (p := ⟨w.heap.size, 0, none⟩) lA).trans qvA
    replace qeA := (hb.cell (p := ⟨w.heap.size, 1, none⟩) lA).trans qeA
    replace xwv := (hb.cell (p := ⟨w4.heap.size, 0, none⟩) lw).trans xwv
    replace xwe := (hb.cell (p := ⟨w4.heap.size, 1, none⟩) lw).trans xwe
    replace xxv := (hb.cell (p := ⟨w6.heap.size, 0, none⟩) lx).trans xxv
    replace xxe := (hb.cell (p := ⟨w6.heap.size, 1, none⟩) lx).trans xxe
    replace xgv := (hb.cell (p := ⟨w8.heap.size, 0, none⟩) lg).trans xgv
    replace xge := (hb.cell (p := ⟨w8.heap.size, 1, none⟩) lg).trans xge
    have HMK' : Hid (MaMark w17 W7.heap.size (.slice a8 RM.length c8) (.slice b8 RE.length d8) RM RE us8 1) := HMK.out.below hb
    clear HMK
    have HMK := HMK'
    clear HMK'
    replace hB : Below w.heap.size w w17 := hB.trans (hb.mono hB.size)
    have HX' : Hid (Below W5.heap.size W5 w17) := HX.out.trans (hb.mono HX.out.size)
    clear HX
    have HX := HX'
    clear HX'
    replace lA : w.heap.size < w17.heap.size := by have := hb.size; omega
    replace lw : w4.heap.size < w17.heap.size := by have := hb.size; omega
    replace lx : w6.heap.size < w17.heap.size := by have := hb.size; omega
    replace lg : w8.heap.size < w17.heap.size := by have := hb.size; omega
    clear hb
    go_wp2_with fail
    refine (CI.out _ _ _ HYM.out HYE.out).mono ?_
    rintro e w18 ⟨⟨r18, q18, rfl, us18, ho18⟩, hb⟩
    obtain ⟨a18, c18, hr18⟩ := ho18.1.slice
    obtain ⟨b18, d18, hq18⟩ := ERow.slice ho18.2.1
    subst hr18 hq18
    have HHM : Hid (MAt w18 w18.heap.size (.slice a18 RM.length c18) RM) := ho18.1.at
    have HHE : Hid (EAt w18 w18.heap.size (.slice b18 RE.length d18) RE) := EAt.own ho18.2.1
    clear ho18 HYM HYE
    replace qvA := (hb.cell (p := ⟨w.heap.size, 0, none⟩) lA).trans qvA
    replace qeA := (hb.cell (p := ⟨w.heap.size, 1, none⟩) lA).trans qeA
    replace xwv := (hb.cell (p := ⟨w4.heap.size, 0, none⟩) lw).trans xwv
    replace xwe := (hb.cell (p := ⟨w4.heap.size, 1, none⟩) lw).trans xwe
    replace xxv := (hb.cell (p := ⟨w6.heap.size, 0, none⟩) lx).trans xxv
    replace xxe := (hb.cell (p := ⟨w6.heap.size, 1, none⟩) lx).trans xxe
    replace xgv := (hb.cell (p := ⟨w8.heap.size, 0, none⟩) lg).trans xgv
    replace xge := (hb.cell (p := ⟨w8.heap.size, 1, none⟩) lg).trans xge
    have HMK' : Hid (MaMark w18 W7.heap.size (.slice a8 RM.length c8) (.slice b8 RE.length d8) RM RE us8 1) := HMK.out.below hb
    clear HMK
    have HMK := HMK'
    clear HMK'
    replace hB : Below w.heap.size w w18 := hB.trans (hb.mono hB.size)
    have HX' : Hid (Below W5.heap.size W5 w18) := HX.out.trans (hb.mono HX.out.size)
    clear HX
    have HX := HX'
    clear HX'
    replace lA : w.heap.size < w18.heap.size := by have := hb.size; omega
    replace lw : w4.heap.size < w18.heap.size := by have := hb.size; omega
    replace lx : w6.heap.size < w18.heap.size := by have := hb.size; omega
    replace lg : w8.heap.size < w18.heap.size := by have := hb.size; omega
    clear hb
    obtain ⟨W19, hW19⟩ : ∃ W, W = w18.alloc (.cells #[.slice a18 RM.length c18, .slice b18 RE.length d18] 30) := ⟨_, rfl⟩
    have hb : Below w18.heap.size w18 W19 := by rw [hW19]; exact (Below.refl _ _).alloc (Nat.le_refl _) _
    have lh : w18.heap.size < W19.heap.size := by rw [hW19]; simp
    have xhv : W19.cell? ⟨w18.heap.size, 0, none⟩ = some (.slice a18 RM.length c18) := by rw [hW19]; go_simp
    have xhe : W19.cell? ⟨w18.heap.size, 1, none⟩ = some (.slice b18 RE.length d18) := by rw [hW19]; go_simp
    replace qvA := (hb.cell (p := ⟨w.heap.size, 0, none⟩) lA).trans qvA
    replace qeA := (hb.cell (p := ⟨w.heap.size, 1, none⟩) lA).trans qeA
    replace xwv := (hb.cell (p := ⟨w4.heap.size, 0, none⟩) lw).trans xwv
    replace xwe := (hb.cell (p := ⟨w4.heap.size, 1, none⟩) lw).trans xwe
    replace xxv := (hb.cell (p := ⟨w6.heap.size, 0, none⟩) lx).trans xxv
    replace xxe := (hb.cell (p := ⟨w6.heap.size, 1, none⟩) lx).trans xxe
    replace xgv := (hb.cell (p := ⟨w8.heap.size, 0, none⟩) lg).trans xgv
    replace xge := (hb.cell (p := ⟨w8.heap.size, 1, none⟩) lg).trans xge
    have HMK' : Hid (MaMark W19 W7.heap.size (.slice a8 RM.length c8) (.slice b8 RE.length d8) RM RE us8 1) := HMK.out.below hb
    clear HMK
    have HMK := HMK'
    clear HMK'
    have HHM' : Hid (MAt W19 W19.heap.size (.slice a18 RM.length c18) RM) := HHM.out.below hb
    clear HHM
    have HHM := HHM'
    clear HHM'
    have HHE' : Hid (EAt W19 W19.heap.size (.slice b18 RE.length d18) RE) := HHE.out.below hb
    clear HHE
    have HHE := HHE'
    clear HHE'
    replace hB : Below w.heap.size w W19 := hB.trans (hb.mono hB.size)
    have HX' : Hid (Below W5.heap.size W5 W19) := HX.out.trans (hb.mono HX.out.size)
    clear HX
    have HX := HX'
    clear HX'
    replace lA : w.heap.size < W19.heap.size := by have := hb.size; omega
    replace lw : w4.heap.size < W19.heap.size := by have := hb.size; omega
    replace lx : w6.heap.size < W19.heap.size := by have := hb.size; omega
    replace lg : w8.heap.size < W19.heap.size := by have := hb.size; omega
    clear hb
    go_upto_region 25 with fail
    rw [← hW19]
    clear hW19
    go_wp2_with fail
    refine (ER.out _ _ _ _ _ HHM.out (HWM.out.below HX.out) HHE.out (HWE.out.below HX.out)).mono ?_
    rintro e w20 ⟨rfl, hb⟩
    replace qvA := (hb.cell (p := ⟨w.heap.size, 0, none⟩) lA).trans qvA
    replace qeA := (hb.cell (p := ⟨w.heap.size, 1, none⟩) lA).trans qeA
    replace xwv := (hb.cell (p := ⟨w4.heap.size, 0, none⟩) lw).trans xwv
    replace xwe := (hb.cell (p := ⟨w4.heap.size, 1, none⟩) lw).trans xwe
    replace xxv := (hb.cell (p := ⟨w6.heap.size, 0, none⟩) lx).trans xxv
    replace xxe := (hb.cell (p := ⟨w6.heap.size, 1, none⟩) lx).trans xxe
    replace xgv := (hb.cell (p := ⟨w8.heap.size, 0, none⟩) lg).trans xgv
    replace xge := (hb.cell (p := ⟨w8.heap.size, 1, none⟩) lg).trans xge
    replace xhv := (hb.cell (p := ⟨w18.heap.size, 0, none⟩) lh).trans xhv
    replace xhe := (hb.cell (p := ⟨w18.heap.size, 1, none⟩) lh).trans xhe
    have HMK' : Hid (MaMark w20 W7.heap.size (.slice a8 RM.length c8) (.slice b8 RE.length d8) RM RE us8 1) := HMK.out.below hb
    clear HMK
    have HMK := HMK'
    clear HMK'
    have HHM' : Hid (MAt w20 w20.heap.size (.slice a18 RM.length c18) RM) := HHM.out.below hb
    clear HHM
    have HHM := HHM'
    clear HHM'
    have HHE' : Hid (EAt w20 w20.heap.size (.slice b18 RE.length d18) RE) := HHE.out.below hb
    clear HHE
    have HHE := HHE'
    clear HHE'
    replace hB : Below w.heap.size w w20 := hB.trans (hb.mono hB.size)
    have HX' : Hid (Below W5.heap.size W5 w20) := HX.out.trans (hb.mono HX.out.size)
    clear HX
    have HX := HX'
    clear HX'
    replace lA : w.heap.size < w20.heap.size := by have := hb.size; omega
    replace lw : w4.heap.size < w20.heap.size := by have := hb.size; omega
    replace lx : w6.heap.size < w20.heap.size := by have := hb.size; omega
    replace lg : w8.heap.size < w20.heap.size := by have := hb.size; omega
    replace lh : w18.heap.size < w20.heap.size := by have := hb.size; omega
    clear hb
    go_wp2_with fail
    refine (heldMach_any W7.heap.size 1 _ _ RM RE us8 _ HMK.out (by have := HRL.out.1; omega) HRP.out (by have := HRL.out.2.1; omega) (by omega)).mono ?_
    rintro e w21 ⟨rfl, hb⟩
    rw [← HKG.out]
    replace qvA := (hb.cell (p := ⟨w.heap.size, 0, none⟩) lA).trans qvA
    replace qeA := (hb.cell (p := ⟨w.heap.size, 1, none⟩) lA).trans qeA
    replace xwv := (hb.cell (p := ⟨w4.heap.size, 0, none⟩) lw).trans xwv
    replace xwe := (hb.cell (p := ⟨w4.heap.size, 1, none⟩) lw).trans xwe
    replace xxv := (hb.cell (p := ⟨w6.heap.size, 0, none⟩) lx).trans xxv
    replace xxe := (hb.cell (p := ⟨w6.heap.size, 1, none⟩) lx).trans xxe
    replace xgv := (hb.cell (p := ⟨w8.heap.size, 0, none⟩) lg).trans xgv
    replace xge := (hb.cell (p := ⟨w8.heap.size, 1, none⟩) lg).trans xge
    replace xhv := (hb.cell (p := ⟨w18.heap.size, 0, none⟩) lh).trans xhv
    replace xhe := (hb.cell (p := ⟨w18.heap.size, 1, none⟩) lh).trans xhe
    have HMK' : Hid (MaMark w21 W7.heap.size (.slice a8 RM.length c8) (.slice b8 RE.length d8) RM RE us8 1) := HMK.out.below hb
    clear HMK
    have HMK := HMK'
    clear HMK'
    have HHM' : Hid (MAt w21 w21.heap.size (.slice a18 RM.length c18) RM) := HHM.out.below hb
    clear HHM
    have HHM := HHM'
    clear HHM'
    have HHE' : Hid (EAt w21 w21.heap.size (.slice b18 RE.length d18) RE) := HHE.out.below hb
    clear HHE
    have HHE := HHE'
    clear HHE'
    replace hB : Below w.heap.size w w21 := hB.trans (hb.mono hB.size)
    have HX' : Hid (Below W5.heap.size W5 w21) := HX.out.trans (hb.mono HX.out.size)
    clear HX
    have HX := HX'
    clear HX'
    replace lA : w.heap.size < w21.heap.size := by have := hb.size; omega
    replace lw : w4.heap.size < w21.heap.size := by have := hb.size; omega
    replace lx : w6.heap.size < w21.heap.size := by have := hb.size; omega
    replace lg : w8.heap.size < w21.heap.size := by have := hb.size; omega
    replace lh : w18.heap.size < w21.heap.size := by have := hb.size; omega
    clear hb
    go_wp2
    go_ret
    exact ⟨rfl, hB⟩

namespace fnExactLeastOf
open Go.ChangeShapes Go.WideShapes Go.ChangeAt

theorem own : ownKnob Try.prog.godebug = none := by kernel_rfl
theorem laidOut : laidOutB Try.prog = true := by kernel_rfl

set_option maxRecDepth 100000 in
theorem lifted (os : Os) (started : os.Started) (H : Type) (enc : TypeId × Value → H) :
    ReturnsInHanded {} Try.checked os 4 .any (Rows.fnExactLeastOfSpec.pre6 enc Try.prog Try.f4 Rows.fnExactLeastOfRow.domain false) (Rows.fnExactLeastOfSpec.post enc Try.prog Try.f4 false true false false) := by
  refine returnsInHanded_of_change (C := Try.checked) own started (by kernel_rfl) Try.func4
    (ChangeSpec.witness6 (enc := enc) (C := Try.checked) false ⟨#[], #[.agg #[.slice none 0 0, .slice none 0 0]], []⟩ 8 (by kernel_rfl) (by kernel_rfl) (by kernel_rfl) (by kernel_rfl)) ?_
  intro W base args ds gs before hval0 hW hcnd _
  have hval : ∀ (j : Nat) t v, Try.f4.params[j]? = some t → args[j]? = some v → Value.okWide Try.prog W .any base t v := hval0
  have hW' := hW
  obtain ⟨p, q, hA0, hV, rfl, hfz, hnd⟩ := hW
  have hA : DataW.TrodAll enc Try.prog W 0 (fun _ => true) true Try.f4.params.toList args.toList ds p := hA0
  rw [Try.params4] at hA hval
  obtain ⟨v0, vs0, d0, ds0, p0, q0, hargs, rfl, rfl, h0, r0⟩ := trodAll_cons hA
  obtain ⟨rfl, rfl, rfl⟩ := trodAll_nil r0
  obtain rfl : args = #[v0] := by cases args; simp_all
  obtain ⟨rfl, rfl⟩ := trodVars_none hV
  have h0k := h0
  obtain ⟨uA, yA, MA, EA, rfl, hMA, hEA⟩ := open_mach (hval 0 25 v0 rfl rfl) h0
  clear hA0 hval0
  have hlt0 : ∀ x ∈ p0, x.block < W.heap.size := fun x hx => by
    have := hW'.lt x (by simp_all)
    simpa using this
  refine (walkFnExactLeastOf MA EA uA yA W hMA hEA).mono fun e W' ⟨he, hg⟩ => ?_
  subst he
  exact ⟨_, rfl, _, _, _, [], _, [], hW', trodAll_mk1 (shut_bool Try.underlying4 _), (trodAll_cons_mk (Below.trod laidOut (by kernel_rfl) (of_decide_eq_true (by kernel_rfl)) h0k hg hlt0) trodAll_mk0), rfl, hg.frame _, fun h => by cases h⟩

theorem over : Rows.fnExactLeastOfRow.holds Try.pinned (OpenSpec.ofChange Rows.fnExactLeastOfSpec) :=
  OpenClaim.holds_of_wide 4 Try.f4 rfl rfl rfl rfl rfl rfl rfl ⟨rfl, rfl, rfl, rfl, rfl⟩ rfl rfl rfl rfl rfl (by kernel_rfl) Try.func4 (by kernel_rfl)
    (of_decide_eq_true (by kernel_rfl)) (by unfold Func.isWrapper; first | (rw [if_pos (by decide +kernel)]; kernel_rfl) | (rw [if_neg (by decide +kernel)]; exact ⟨rfl, rfl⟩))
    (fun os started H enc _ => lifted os started H enc)

end fnExactLeastOf

theorem fnExactLeastOf_holds : Rows.FnExactLeastOfSaid := fnExactLeastOf.over
#print axioms fnExactLeastOf_holds
end Go.Proofs.Ytecgjhnihagleaa
