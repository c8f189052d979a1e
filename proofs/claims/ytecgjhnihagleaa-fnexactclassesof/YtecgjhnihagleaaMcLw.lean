/- Proved here: at every argument the law FnExactClassesOf answers true, that is, ClassesOf answers as its model, its answer owns its memory, and it writes into nothing.
   Conditions: none beside the row's own. -/
import Derived.Test.YtecgjhnihagleaaMcDf
import Derived.Test.YtecgjhnihagleaaMcV
namespace Go.Proofs.Ytecgjhnihagleaa
open Go.RowKit Plain Mch

set_option maxRecDepth 100000 in
set_option maxHeartbeats 8000000 in
theorem walkFnExactClassesOf (MA : List (List Int)) (EA : List Bool) (vA eA : Value) (w : World) (hMA : MAt w w.heap.size vA MA) (hEA : EAt w w.heap.size eA EA) :
    Calls Try.prog 3 #[.agg #[vA, eA]] w fun e w' => e = .returned (.bool true) ∧ Below w.heap.size w w' := by
  have HMA : Hid (MAt w w.heap.size vA MA) := hMA
  have HEA : Hid (EAt w w.heap.size eA EA) := hEA
  obtain ⟨aoA, capA, rfl, _⟩ := hMA
  obtain ⟨aeA, ceA, rfl, _⟩ := hEA
  obtain ⟨W1, hW1⟩ : ∃ W, W = w.alloc (.cells #[.slice aoA MA.length capA, .slice aeA EA.length ceA] 25) := ⟨_, rfl⟩
  have hB : Below w.heap.size w W1 := by rw [hW1]; exact (Below.refl _ w).alloc (Nat.le_refl _) _
  have qvA : W1.cell? ⟨w.heap.size, 0, none⟩ = some (.slice aoA MA.length capA) := by rw [hW1]; go_simp
  have qeA : W1.cell? ⟨w.heap.size, 1, none⟩ = some (.slice aeA EA.length ceA) := by rw [hW1]; go_simp
  have lA : w.heap.size < W1.heap.size := by rw [hW1]; simp
  go_enter Try.func3, Try.ntmps3
  go_wp2_with fail
  rw [← hW1]
  clear hW1
  refine (szMach_left MA EA _ _ 1048576 _ (HMA.out.below hB) (HEA.out.below hB) (by omega) (by omega)).mono ?_
  rintro e w2 ⟨⟨rA, rfl, hr0A, hr1A, hr2A⟩, hb⟩
  replace qvA := (hb.cell (p := ⟨w.heap.size, 0, none⟩) lA).trans qvA
  replace qeA := (hb.cell (p := ⟨w.heap.size, 1, none⟩) lA).trans qeA
  replace hB : Below w.heap.size w w2 := hB.trans (hb.mono hB.size)
  replace lA : w.heap.size < w2.heap.size := by have := hb.size; omega
  clear hb
  by_cases hnegA : rA < 0
  · clear hr2A
    go_wp2
    go_ret
    exact ⟨rfl, hB⟩
  obtain ⟨hlA, hpA, hleA⟩ := hr2A (by omega)
  clear hr2A
  have HPA : Hid (pm MA MA.length ≤ 1048576) := hpA
  clear hpA
  have hllA : Hid (∀ i, i < MA.length → (rx MA i).length ≤ 1048576) := fun i hi => Nat.le_trans (pm_each hi) HPA.out
  have TMA : Hid (∀ W : World, Below w.heap.size w W → Calls Try.prog 9 #[.agg #[.slice aoA MA.length capA, .slice aeA EA.length ceA]] W fun e w' => ∃ a c b d, e = .returned (.agg #[.slice a MA.length c, .slice b EA.length d]) ∧ (∃ us, MaOwn w' W.heap.size (.slice a MA.length c) (.slice b EA.length d) MA EA us) ∧ Below W.heap.size W w') := fun W hW => by
    refine (toMach_any MA EA _ _ W (HMA.out.below hW) (HEA.out.below hW) hlA hllA.out hleA).mono ?_
    rintro e w' ⟨⟨r1, r2, rfl, us, ho⟩, hb⟩
    obtain ⟨a, c, rfl⟩ := ho.1.slice
    obtain ⟨b, d, rfl⟩ := ERow.slice ho.2.1
    exact ⟨a, c, b, d, rfl, ⟨us, ho⟩, hb⟩
  have EMA : Hid (∀ (W : World) (v1 v2 e1 e2 : Value), MAt W W.heap.size v1 MA → MAt W W.heap.size v2 MA → EAt W W.heap.size e1 EA → EAt W W.heap.size e2 EA → Calls Try.prog 12 #[.agg #[v1, e1], .agg #[v2, e2]] W fun e w' => e = .returned (.bool true) ∧ Below W.heap.size W w') := fun W v1 v2 e1 e2 h1 h2 h3 h4 => eqMach_same MA EA v1 v2 e1 e2 W h1 h2 h3 h4 (by omega) (fun i hi => by have := hllA.out i hi; omega) (by omega)
  obtain ⟨RM, hRM⟩ : ∃ R, R = clo MA EA := ⟨_, rfl⟩
  obtain ⟨ok, hok⟩ : ∃ k, k = gm MA EA := ⟨_, rfl⟩
  have hRL : RM.length ≤ 12 := by rw [hRM]; exact clo_len MA EA
  have hmx : RM.length ≤ maxLen := by unfold maxLen; omega
  obtain ⟨cn, hcn⟩ : ∃ k, k = clw MA EA := ⟨_, rfl⟩
  have CS : Hid (∀ (W : World) (vA eA : Value), MAt W W.heap.size vA MA → EAt W W.heap.size eA EA → Calls Try.prog 8 #[.agg #[vA, eA]] W fun e w' => (∃ r, e = .returned (.tuple #[r, .int .i64 (cn : Int), .bool ok]) ∧ ZRow w' W.heap.size r RM) ∧ Below W.heap.size W w') := fun W vA eA hA gA => by rw [hRM, hok, hcn]; exact specClasses MA EA vA eA W hA gA
  have CI : Hid (∀ (W : World) (vA eA : Value), MAt W W.heap.size vA MA → EAt W W.heap.size eA EA → Calls Try.prog 10 #[.agg #[vA, eA]] W fun e w' => (∃ r, e = .returned (.tuple #[r, .int .i64 (cn : Int), .bool ok]) ∧ ZRow w' W.heap.size r RM) ∧ Below W.heap.size W w') := fun W vA eA hA gA => by rw [hRM, hok, hcn]; exact implClasses MA EA vA eA W hA gA
  clear hRM hok hcn
  have ER : Hid (∀ (W : World) (v1 v2 : Value), ZAt W W.heap.size v1 RM → ZAt W W.heap.size v2 RM → Calls Try.prog 11 #[v1, v2] W fun e w' => e = .returned (.bool true) ∧ Below W.heap.size W w') := fun W v1 v2 h1 h2 => eqZ_same RM v1 v2 W h1 h2 (by omega)
  clear HMA HEA
  go_wp2_with fail
  refine (TMA.out _ hB).mono ?_
  rintro e w3 ⟨a3, c3, b3, d3, rfl, ⟨us3, ho3⟩, hb⟩
  have HXM : Hid (MAt w3 w3.heap.size (.slice a3 MA.length c3) MA) := ho3.1.at
  have HXE : Hid (EAt w3 w3.heap.size (.slice b3 EA.length d3) EA) := EAt.own ho3.2.1
  clear ho3
  replace qvA := (hb.cell (p := ⟨w.heap.size, 0, none⟩) lA).trans qvA
  replace qeA := (hb.cell (p := ⟨w.heap.size, 1, none⟩) lA).trans qeA
  replace hB : Below w.heap.size w w3 := hB.trans (hb.mono hB.size)
  replace lA : w.heap.size < w3.heap.size := by have := hb.size; omega
  clear hb
  go_wp2_with fail
  refine (CS.out _ _ _ HXM.out HXE.out).mono ?_
  rintro e w4 ⟨⟨r4, rfl, ho4⟩, hb⟩
  obtain ⟨a4, c4, hr4⟩ := ZRow.slice ho4
  subst hr4
  clear HXM HXE
  replace qvA := (hb.cell (p := ⟨w.heap.size, 0, none⟩) lA).trans qvA
  replace qeA := (hb.cell (p := ⟨w.heap.size, 1, none⟩) lA).trans qeA
  replace hB : Below w.heap.size w w4 := hB.trans (hb.mono hB.size)
  replace lA : w.heap.size < w4.heap.size := by have := hb.size; omega
  clear hb CS
  have HWZ : Hid (ZAt w4 w4.heap.size (.slice a4 RM.length c4) RM) := ZAt.own ho4
  clear ho4
  go_wp2_with fail
  have lAz : w.heap.size < w4.heap.size := lA
  refine (TMA.out _ hB).mono ?_
  rintro e w5 ⟨a5, c5, b5, d5, rfl, ⟨us5, ho5⟩, hb⟩
  have HX : Hid (Below w4.heap.size w4 w4) := Below.refl _ _
  have lA0 : w.heap.size < w4.heap.size := lAz
  have HXO : Hid (MaOwn w5 w4.heap.size (.slice a5 MA.length c5) (.slice b5 EA.length d5) MA EA us5) := ho5
  clear ho5
  have hsb : w4.heap.size ≤ w5.heap.size := hb.size
  have HUX0 : Hid (∀ u ∈ (.slice b5 EA.length d5) :: us5, ∀ g, u.ownBlock = some g → w4.heap.size ≤ g ∧ g < w5.heap.size) := HXO.out.rows
  have hB0 : w.heap.size ≤ w4.heap.size := hB.size
  replace qvA := (hb.cell (p := ⟨w.heap.size, 0, none⟩) lA).trans qvA
  replace qeA := (hb.cell (p := ⟨w.heap.size, 1, none⟩) lA).trans qeA
  replace hB : Below w.heap.size w w5 := hB.trans (hb.mono hB.size)
  have HX' : Hid (Below w4.heap.size w4 w5) := HX.out.trans (hb.mono HX.out.size)
  clear HX
  have HX := HX'
  clear HX'
  replace lA : w.heap.size < w5.heap.size := by have := hb.size; omega
  clear hb
  obtain ⟨W6, hW6⟩ : ∃ W, W = w5.alloc (.cells #[.slice a5 MA.length c5, .slice b5 EA.length d5] 30) := ⟨_, rfl⟩
  have hb : Below w5.heap.size w5 W6 := by rw [hW6]; exact (Below.refl _ _).alloc (Nat.le_refl _) _
  have lx : w5.heap.size < W6.heap.size := by rw [hW6]; simp
  have xxv : W6.cell? ⟨w5.heap.size, 0, none⟩ = some (.slice a5 MA.length c5) := by rw [hW6]; go_simp
  have xxe : W6.cell? ⟨w5.heap.size, 1, none⟩ = some (.slice b5 EA.length d5) := by rw [hW6]; go_simp
  replace qvA := (hb.cell (p := ⟨w.heap.size, 0, none⟩) lA).trans qvA
  replace qeA := (hb.cell (p := ⟨w.heap.size, 1, none⟩) lA).trans qeA
  have HXO' : Hid (MaOwn W6 w4.heap.size (.slice a5 MA.length c5) (.slice b5 EA.length d5) MA EA us5) := HXO.out.below hb
  clear HXO
  have HXO := HXO'
  clear HXO'
  replace hB : Below w.heap.size w W6 := hB.trans (hb.mono hB.size)
  have HX' : Hid (Below w4.heap.size w4 W6) := HX.out.trans (hb.mono HX.out.size)
  clear HX
  have HX := HX'
  clear HX'
  replace lA : w.heap.size < W6.heap.size := by have := hb.size; omega
  clear hb
  go_upto_region 7 with fail
  rw [← hW6]
  clear hW6
  replace hsb : w4.heap.size ≤ W6.heap.size := by omega
  have hbi : w5.heap.size < W6.heap.size := lx
  have hB0I : w4.heap.size ≤ W6.heap.size := hsb
  have lAI : w.heap.size < W6.heap.size := lA
  have lxI : w5.heap.size < W6.heap.size := lx
  go_wp2_with fail
  refine (CI.out _ _ _ HXO.out.1.at (EAt.own HXO.out.2.1)).mono ?_
  rintro e w7 ⟨⟨r7, rfl, ho7⟩, hb⟩
  obtain ⟨a7, c7, hr7⟩ := ZRow.slice ho7
  subst hr7
  have HGO : Hid (ZRow w7 W6.heap.size (.slice a7 RM.length c7) RM) := ho7
  clear ho7
  replace qvA := (hb.cell (p := ⟨w.heap.size, 0, none⟩) lA).trans qvA
  replace qeA := (hb.cell (p := ⟨w.heap.size, 1, none⟩) lA).trans qeA
  replace xxv := (hb.cell (p := ⟨w5.heap.size, 0, none⟩) lx).trans xxv
  replace xxe := (hb.cell (p := ⟨w5.heap.size, 1, none⟩) lx).trans xxe
  have HXO' : Hid (MaOwn w7 w4.heap.size (.slice a5 MA.length c5) (.slice b5 EA.length d5) MA EA us5) := HXO.out.below hb
  clear HXO
  have HXO := HXO'
  clear HXO'
  replace hB : Below w.heap.size w w7 := hB.trans (hb.mono hB.size)
  have HX' : Hid (Below w4.heap.size w4 w7) := HX.out.trans (hb.mono HX.out.size)
  clear HX
  have HX := HX'
  clear HX'
  replace lA : w.heap.size < w7.heap.size := by have := hb.size; omega
  replace lx : w5.heap.size < w7.heap.size := by have := hb.size; omega
  have hBI : w5.heap.size < W6.heap.size := hbi
  have hsI : W6.heap.size ≤ w7.heap.size := hb.size
  replace hsb : w4.heap.size ≤ w7.heap.size := by have := hb.size; omega
  clear hb
  go_wp2_with fail
  refine (ER.out _ _ _ (ZAt.own HGO.out) (HWZ.out.below HX.out)).mono ?_
  rintro e w8 ⟨rfl, hb⟩
  replace qvA := (hb.cell (p := ⟨w.heap.size, 0, none⟩) lA).trans qvA
  replace qeA := (hb.cell (p := ⟨w.heap.size, 1, none⟩) lA).trans qeA
  replace xxv := (hb.cell (p := ⟨w5.heap.size, 0, none⟩) lx).trans xxv
  replace xxe := (hb.cell (p := ⟨w5.heap.size, 1, none⟩) lx).trans xxe
  have HXO' : Hid (MaOwn w8 w4.heap.size (.slice a5 MA.length c5) (.slice b5 EA.length d5) MA EA us5) := HXO.out.below hb
  clear HXO
  have HXO := HXO'
  clear HXO'
  have HGO' : Hid (ZRow w8 W6.heap.size (.slice a7 RM.length c7) RM) := HGO.out.below hb
  clear HGO
  have HGO := HGO'
  clear HGO'
  replace hB : Below w.heap.size w w8 := hB.trans (hb.mono hB.size)
  have HX' : Hid (Below w4.heap.size w4 w8) := HX.out.trans (hb.mono HX.out.size)
  clear HX
  have HX := HX'
  clear HX'
  replace lA : w.heap.size < w8.heap.size := by have := hb.size; omega
  replace lx : w5.heap.size < w8.heap.size := by have := hb.size; omega
  replace hsb : w4.heap.size ≤ w8.heap.size := by have := hb.size; omega
  clear hb
  have hBd : Hid (Below w.heap.size w w8.drew) := hB.drew
  go_wp2_with fail
  go_region_with (first
    | (go_at_call 9; refine (TMA.out _ hBd.out).mono ?_; rintro e w9 ⟨a9, c9, b9, d9, rfl, ⟨us9, ho9⟩, hbt⟩; have xcv := (hbt.cell (p := ⟨w5.heap.size, 0, none⟩) lx).trans xxv; have xce := (hbt.cell (p := ⟨w5.heap.size, 1, none⟩) lx).trans xxe; have hxo : MaOwn w9 w4.heap.size (.slice a5 MA.length c5) (.slice b5 EA.length d5) MA EA us5 := HXO.out.below (⟨hbt.os, hbt.tape, hbt.output, hbt.size, hbt.block⟩ : Below w8.heap.size w8 w9))
    | (go_at_call 12; refine (EMA.out _ _ _ _ _ hxo.1.at ho9.1.at (EAt.own hxo.2.1) (EAt.own ho9.2.1)).mono ?_; rintro e w10 ⟨rfl, hbu⟩))
  all_goals
    have hb : Below w8.heap.size w8 w10 := (⟨hbt.os, hbt.tape, hbt.output, hbt.size, hbt.block⟩ : Below w8.heap.size w8 w9).trans (hbu.mono hbt.size)
    clear hbt hbu ho9 hxo xcv xce hBd
    replace qvA := (hb.cell (p := ⟨w.heap.size, 0, none⟩) lA).trans qvA
    replace qeA := (hb.cell (p := ⟨w.heap.size, 1, none⟩) lA).trans qeA
    replace xxv := (hb.cell (p := ⟨w5.heap.size, 0, none⟩) lx).trans xxv
    replace xxe := (hb.cell (p := ⟨w5.heap.size, 1, none⟩) lx).trans xxe
    have HXO' : Hid (MaOwn w10 w4.heap.size (.slice a5 MA.length c5) (.slice b5 EA.length d5) MA EA us5) := HXO.out.below hb
    clear HXO
    have HXO := HXO'
    clear HXO'
    have HGO' : Hid (ZRow w10 W6.heap.size (.slice a7 RM.length c7) RM) := HGO.out.below hb
    clear HGO
    have HGO := HGO'
    clear HGO'
    replace hB : Below w.heap.size w w10 := hB.trans (hb.mono hB.size)
    have HX' : Hid (Below w4.heap.size w4 w10) := HX.out.trans (hb.mono HX.out.size)
    clear HX
    have HX := HX'
    clear HX'
    replace lA : w.heap.size < w10.heap.size := by have := hb.size; omega
    replace lx : w5.heap.size < w10.heap.size := by have := hb.size; omega
    clear hb
    have HUX : Hid (∀ u ∈ (.slice b5 EA.length d5) :: us5, ∀ g, u.ownBlock = some g → w4.heap.size ≤ g ∧ g < w5.heap.size) := HUX0
    go_wp2_with fail
    refine (markMach_any w4.heap.size 1 _ _ MA EA us5 _ HXO.out hlA HPA.out hleA (by omega)).mono ?_
    rintro e w11 ⟨rfl, hmk, hrm⟩
    clear hmk
    have HGO' : Hid (ZRow w11 W6.heap.size (.slice a7 RM.length c7) RM) := HGO.out.rowsM hrm (fun u hu g hg => by have h := (HUX.out u hu g hg).2; omega)
    clear HGO HXO
    have HGO := HGO'
    clear HGO'
    replace qvA := (hrm.cell lA (fun u hu e => by have h := (HUX.out u hu _ e).1; omega)).trans qvA
    replace qeA := (hrm.cell lA (fun u hu e => by have h := (HUX.out u hu _ e).1; omega)).trans qeA
    replace xxv := (hrm.cell lx (fun u hu e => by have h := (HUX.out u hu _ e).2; omega)).trans xxv
    replace xxe := (hrm.cell lx (fun u hu e => by have h := (HUX.out u hu _ e).2; omega)).trans xxe
    have hbx : Below w4.heap.size w10 w11 := hrm.below (fun u hu g hg => (HUX.out u hu g hg).1) HX.out.size
    have HX' : Hid (Below w4.heap.size w4 w11) := HX.out.trans hbx
    clear HX
    have HX := HX'
    clear HX'
    replace hB : Below w.heap.size w w11 := hB.trans (hbx.mono hB0)
    replace lA : w.heap.size < w11.heap.size := by have := hrm.size; omega
    replace lx : w5.heap.size < w11.heap.size := by have := hrm.size; omega
    clear hrm hbx HUX
    obtain ⟨kx, hkx⟩ : ∃ kx, kx = 1 + pm MA MA.length + EA.length := ⟨_, rfl⟩
    rw [← hkx]
    have hkx0 : (0 : Int) ≤ (kx : Int) := by omega
    have hkx1 : kx ≤ 100000000 := by have := HPA.out; omega
    clear hkx
    go_wp2_with fail
    refine (ER.out _ _ _ (ZAt.own HGO.out) (HWZ.out.below HX.out)).mono ?_
    rintro e w12 ⟨rfl, hb⟩
    replace qvA := (hb.cell (p := ⟨w.heap.size, 0, none⟩) lA).trans qvA
    replace qeA := (hb.cell (p := ⟨w.heap.size, 1, none⟩) lA).trans qeA
    replace xxv := (hb.cell (p := ⟨w5.heap.size, 0, none⟩) lx).trans xxv
    replace xxe := (hb.cell (p := ⟨w5.heap.size, 1, none⟩) lx).trans xxe
    have HGO' : Hid (ZRow w12 W6.heap.size (.slice a7 RM.length c7) RM) := HGO.out.below hb
    clear HGO
    have HGO := HGO'
    clear HGO'
    replace hB : Below w.heap.size w w12 := hB.trans (hb.mono hB.size)
    have HX' : Hid (Below w4.heap.size w4 w12) := HX.out.trans (hb.mono HX.out.size)
    clear HX
    have HX := HX'
    clear HX'
    replace lA : w.heap.size < w12.heap.size := by have := hb.size; omega
    replace lx : w5.heap.size < w12.heap.size := by have := hb.size; omega
    clear hb
    go_wp2_with fail
    refine (markIntS_any W6.heap.size RM.length 1 _ _ w12 HGO.out (by omega) (by omega)).mono ?_
    rintro e w13 ⟨rfl, ⟨ys, hoy, hmy⟩, hbg⟩
    have HMK : Hid (IntsAt w13 w13.heap.size (.slice a7 RM.length c7) ((List.range RM.length).map (1 + ·))) := markedInts hoy hmy hmx
    clear hoy hmy HGO
    replace qvA := (hbg.cell (p := ⟨w.heap.size, 0, none⟩) (by show w.heap.size < _; omega)).trans qvA
    replace qeA := (hbg.cell (p := ⟨w.heap.size, 1, none⟩) (by show w.heap.size < _; omega)).trans qeA
    replace xxv := (hbg.cell (p := ⟨w5.heap.size, 0, none⟩) (by show w5.heap.size < _; omega)).trans xxv
    replace xxe := (hbg.cell (p := ⟨w5.heap.size, 1, none⟩) (by show w5.heap.size < _; omega)).trans xxe
    have hbx : Below w4.heap.size w12 w13 := hbg.mono (by omega)
    have HX' : Hid (Below w4.heap.size w4 w13) := HX.out.trans hbx
    clear HX
    have HX := HX'
    clear HX'
    replace hB : Below w.heap.size w w13 := hB.trans (hbx.mono hB0)
    replace lA : w.heap.size < w13.heap.size := by have := hbg.size; omega
    replace lx : w5.heap.size < w13.heap.size := by have := hbg.size; omega
    clear hbg hbx
    have hkg0 : (0 : Int) ≤ ((1 + RM.length : Nat) : Int) := by omega
    go_wp2_with fail
    refine (heldIntS_any RM.length 1 _ _ HMK.out (by omega) (by omega)).mono ?_
    rintro e w14 ⟨rfl, hb⟩
    replace qvA := (hb.cell (p := ⟨w.heap.size, 0, none⟩) lA).trans qvA
    replace qeA := (hb.cell (p := ⟨w.heap.size, 1, none⟩) lA).trans qeA
    replace xxv := (hb.cell (p := ⟨w5.heap.size, 0, none⟩) lx).trans xxv
    replace xxe := (hb.cell (p := ⟨w5.heap.size, 1, none⟩) lx).trans xxe
    have HMK' : Hid (IntsAt w14 w14.heap.size (.slice a7 RM.length c7) ((List.range RM.length).map (1 + ·))) := HMK.out.below hb
    clear HMK
    have HMK := HMK'
    clear HMK'
    replace hB : Below w.heap.size w w14 := hB.trans (hb.mono hB.size)
    have HX' : Hid (Below w4.heap.size w4 w14) := HX.out.trans (hb.mono HX.out.size)
    clear HX
    have HX := HX'
    clear HX'
    replace lA : w.heap.size < w14.heap.size := by have := hb.size; omega
    replace lx : w5.heap.size < w14.heap.size := by have := hb.size; omega
    clear hb
    go_wp2_with fail
    refine (TMA.out _ hB).mono ?_
    rintro e w15 ⟨a15, c15, b15, d15, rfl, ⟨us15, ho15⟩, hb⟩
    have HYM : Hid (MAt w15 w15.heap.size (.slice a15 MA.length c15) MA) := ho15.1.at
    have HYE : Hid (EAt w15 w15.heap.size (.slice b15 EA.length d15) EA) := EAt.own ho15.2.1
    clear ho15
    replace qvA := (hb.cell (p := ⟨w.heap.size, 0, none⟩) lA).trans qvA
    replace qeA := (hb.cell (p := ⟨w.heap.size, 1, none⟩) lA).trans qeA
    replace xxv := (hb.cell (p := ⟨w5.heap.size, 0, none⟩) lx).trans xxv
    replace xxe := (hb.cell (p := ⟨w5.heap.size, 1, none⟩) lx).trans xxe
    have HMK' : Hid (IntsAt w15 w15.heap.size (.slice a7 RM.length c7) ((List.range RM.length).map (1 + ·))) := HMK.out.below hb
    clear HMK
    have HMK := HMK'
    clear HMK'
    replace hB : Below w.heap.size w w15 := hB.trans (hb.mono hB.size)
    have HX' : Hid (Below w4.heap.size w4 w15) := HX.out.trans (hb.mono HX.out.size)
    clear HX
    have HX := HX'
    clear HX'
    replace lA : w.heap.size < w15.heap.size := by have := hb.size; omega
    replace lx : w5.heap.size < w15.heap.size := by have := hb.size; omega
    clear hb
    go_wp2_with fail
    refine (CI.out _ _ _ HYM.out HYE.out).mono ?_
    rintro e w16 ⟨⟨r16, rfl, ho16⟩, hb⟩
    obtain ⟨a16, c16, hr16⟩ := ZRow.slice ho16
    subst hr16
    have HHZ : Hid (ZAt w16 w16.heap.size (.slice a16 RM.length c16) RM) := ZAt.own ho16
    clear ho16 HYM HYE
    replace qvA := (hb.cell (p := ⟨w.heap.size, 0, none⟩) lA).trans qvA
    replace qeA := (hb.cell (p := ⟨w.heap.size, 1, none⟩) lA).trans qeA
    replace xxv := (hb.cell (p := ⟨w5.heap.size, 0, none⟩) lx).trans xxv
    replace xxe := (hb.cell (p := ⟨w5.heap.size, 1, none⟩) lx).trans xxe
    have HMK' : Hid (IntsAt w16 w16.heap.size (.slice a7 RM.length c7) ((List.range RM.length).map (1 + ·))) := HMK.out.below hb
    clear HMK
    have HMK := HMK'
    clear HMK'
    replace hB : Below w.heap.size w w16 := hB.trans (hb.mono hB.size)
    have HX' : Hid (Below w4.heap.size w4 w16) := HX.out.trans (hb.mono HX.out.size)
    clear HX
    have HX := HX'
    clear HX'
    replace lA : w.heap.size < w16.heap.size := by have := hb.size; omega
    replace lx : w5.heap.size < w16.heap.size := by have := hb.size; omega
    clear hb
    go_wp2_with fail
    refine (ER.out _ _ _ HHZ.out (HWZ.out.below HX.out)).mono ?_
    rintro e w17 ⟨rfl, hb⟩
    replace qvA := (hb.cell (p := ⟨w.heap.size, 0, none⟩) lA).trans qvA
    replace qeA := (hb.cell (p := ⟨w.heap.size, 1, none⟩) lA).trans qeA
    replace xxv := (hb.cell (p := ⟨w5.heap.size, 0, none⟩) lx).trans xxv
    replace xxe := (hb.cell (p := ⟨w5.heap.size, 1, none⟩) lx).trans xxe
    have HMK' : Hid (IntsAt w17 w17.heap.size (.slice a7 RM.length c7) ((List.range RM.length).map (1 + ·))) := HMK.out.below hb
    clear HMK
    have HMK := HMK'
    clear HMK'
    replace hB : Below w.heap.size w w17 := hB.trans (hb.mono hB.size)
    have HX' : Hid (Below w4.heap.size w4 w17) := HX.out.trans (hb.mono HX.out.size)
    clear HX
    have HX := HX'
    clear HX'
    replace lA : w.heap.size < w17.heap.size := by have := hb.size; omega
    replace lx : w5.heap.size < w17.heap.size := by have := hb.size; omega
    clear hb
    go_wp2_with fail
    refine (heldIntS_any RM.length 1 _ _ HMK.out (by omega) (by omega)).mono ?_
    rintro e w18 ⟨rfl, hb⟩
    replace qvA := (hb.cell (p := ⟨w.heap.size, 0, none⟩) lA).trans qvA
    replace qeA := (hb.cell (p := ⟨w.heap.size, 1, none⟩) lA).trans qeA
    replace xxv := (hb.cell (p := ⟨w5.heap.size, 0, none⟩) lx).trans xxv
    replace xxe := (hb.cell (p := ⟨w5.heap.size, 1, none⟩) lx).trans xxe
    have HMK' : Hid (IntsAt w18 w18.heap.size (.slice a7 RM.length c7) ((List.range RM.length).map (1 + ·))) := HMK.out.below hb
    clear HMK
    have HMK := HMK'
    clear HMK'
    replace hB : Below w.heap.size w w18 := hB.trans (hb.mono hB.size)
    have HX' : Hid (Below w4.heap.size w4 w18) := HX.out.trans (hb.mono HX.out.size)
    clear HX
    have HX := HX'
    clear HX'
    replace lA : w.heap.size < w18.heap.size := by have := hb.size; omega
    replace lx : w5.heap.size < w18.heap.size := by have := hb.size; omega
    clear hb
    go_wp2
    go_ret
    exact ⟨rfl, hB⟩

namespace fnExactClassesOf
open Go.ChangeShapes Go.WideShapes Go.ChangeAt

theorem own : ownKnob Try.prog.godebug = none := by kernel_rfl
theorem laidOut : laidOutB Try.prog = true := by kernel_rfl

set_option maxRecDepth 100000 in
theorem lifted (os : Os) (started : os.Started) (H : Type) (enc : TypeId × Value → H) :
    ReturnsInHanded {} Try.checked os 3 .any (Rows.fnExactClassesOfSpec.pre6 enc Try.prog Try.f3 Rows.fnExactClassesOfRow.domain false) (Rows.fnExactClassesOfSpec.post enc Try.prog Try.f3 false true false false) := by
  refine returnsInHanded_of_change (C := Try.checked) own started (by kernel_rfl) Try.func3
    (ChangeSpec.witness6 (enc := enc) (C := Try.checked) false ⟨#[], #[.agg #[.slice none 0 0, .slice none 0 0]], []⟩ 8 (by kernel_rfl) (by kernel_rfl) (by kernel_rfl) (by kernel_rfl)) ?_
  intro W base args ds gs before hval0 hW hcnd _
  have hval : ∀ (j : Nat) t v, Try.f3.params[j]? = some t → args[j]? = some v → Value.okWide Try.prog W .any base t v := hval0
  have hW' := hW
  obtain ⟨p, q, hA0, hV, rfl, hfz, hnd⟩ := hW
  have hA : DataW.TrodAll enc Try.prog W 0 (fun _ => true) true Try.f3.params.toList args.toList ds p := hA0
  rw [Try.params3] at hA hval
  obtain ⟨v0, vs0, d0, ds0, p0, q0, hargs, rfl, rfl, h0, r0⟩ := trodAll_cons hA
  obtain ⟨rfl, rfl, rfl⟩ := trodAll_nil r0
  obtain rfl : args = #[v0] := by cases args; simp_all
  obtain ⟨rfl, rfl⟩ := trodVars_none hV
  have h0k := h0
  obtain ⟨uA, yA, MA, EA, rfl, hMA, hEA⟩ := open_mach (hval 0 25 v0 rfl rfl) h0
  clear hA0 hval0
  have hlt0 : ∀ x ∈ p0, x.block < W.heap.size := fun x hx => by
    have := hW'.lt x (by simp_all)
    simpa using this
  refine (walkFnExactClassesOf MA EA uA yA W hMA hEA).mono fun e W' ⟨he, hg⟩ => ?_
  subst he
  exact ⟨_, rfl, _, _, _, [], _, [], hW', trodAll_mk1 (shut_bool Try.underlying4 _), (trodAll_cons_mk (Below.trod laidOut (by kernel_rfl) (of_decide_eq_true (by kernel_rfl)) h0k hg hlt0) trodAll_mk0), rfl, hg.frame _, fun h => by cases h⟩

theorem over : Rows.fnExactClassesOfRow.holds Try.pinned (OpenSpec.ofChange Rows.fnExactClassesOfSpec) :=
  OpenClaim.holds_of_wide 3 Try.f3 rfl rfl rfl rfl rfl rfl rfl ⟨rfl, rfl, rfl, rfl, rfl⟩ rfl rfl rfl rfl rfl (by kernel_rfl) Try.func3 (by kernel_rfl)
    (of_decide_eq_true (by kernel_rfl)) (by unfold Func.isWrapper; first | (rw [if_pos (by decide +kernel)]; kernel_rfl) | (rw [if_neg (by decide +kernel)]; exact ⟨rfl, rfl⟩))
    (fun os started H enc _ => lifted os started H enc)

end fnExactClassesOf

theorem fnExactClassesOf_holds : Rows.FnExactClassesOfSaid := fnExactClassesOf.over
#print axioms fnExactClassesOf_holds
end Go.Proofs.Ytecgjhnihagleaa
