/- Proved here: at every two machines the law FnExactMeetMachines answers true, that is, MeetMachines answers as its model, its answer owns its memory, and it writes into nothing.
   Conditions: none beside the row's own. -/
import Derived.Test.YtkkofblgjilopaaMcMi
import Derived.Test.YtkkofblgjilopaaMcMs
import Derived.Test.YtkkofblgjilopaaMcMl
import Derived.Deep.RegionWith
import Derived.Deep.RegionHeld3
import Derived.Deep.DrawnRows
import Derived.Deep.DeepCutAuto
namespace Go.Proofs.Ytkkofblgjilopaa
open Go.RowKit Plain Mch Tpc

attribute [local go_sem ↓] Go.wp_at_zero Go.wp_at_succ

set_option maxRecDepth 100000 in
set_option maxHeartbeats 8000000 in
theorem walkFnExactMeetMachines (A : List (List Int)) (E : List Bool) (vA eA : Value) (B : List (List Int)) (F : List Bool) (vB eB : Value) (w : World) (hA : MAt w w.heap.size vA A) (hE : EAt w w.heap.size eA E) (hB : MAt w w.heap.size vB B) (hF : EAt w w.heap.size eB F) :
    Calls Try.prog 7 #[.agg #[vA, eA], .agg #[vB, eB]] w fun e w' => e = .returned (.bool true) ∧ Below w.heap.size w w' := by
  have HA : Hid (MAt w w.heap.size vA A) := hA
  have HE : Hid (EAt w w.heap.size eA E) := hE
  have HB : Hid (MAt w w.heap.size vB B) := hB
  have HF : Hid (EAt w w.heap.size eB F) := hF
  obtain ⟨aA, cA, rfl, _⟩ := hA
  obtain ⟨aE, cE, rfl, _⟩ := hE
  obtain ⟨aB, cB, rfl, _⟩ := hB
  obtain ⟨aF, cF, rfl, _⟩ := hF
  obtain ⟨W2, hW2⟩ : ∃ W, W = (w.alloc (.cells #[.slice aA A.length cA, .slice aE E.length cE] 25)).alloc (.cells #[.slice aB B.length cB, .slice aF F.length cF] 25) := ⟨_, rfl⟩
  have hB1 : Below w.heap.size w W2 := by rw [hW2]; exact ((Below.refl _ w).alloc (Nat.le_refl _) _).alloc (by simp) _
  have HS2 : Hid (W2.heap.size = w.heap.size + 2) := by show _ = _; rw [hW2]; simp
  have X4 : Hid (W2.cell? ⟨w.heap.size, 0, none⟩ = some (.slice aA A.length cA) ∧ W2.cell? ⟨w.heap.size, 1, none⟩ = some (.slice aE E.length cE) ∧ W2.cell? ⟨w.heap.size + 1, 0, none⟩ = some (.slice aB B.length cB) ∧ W2.cell? ⟨w.heap.size + 1, 1, none⟩ = some (.slice aF F.length cF)) := by refine ⟨?_, ?_, ?_, ?_⟩ <;> rw [hW2] <;> go_simp
  have HF4 : Hid (∀ W : World, Below (w.heap.size + 2) W2 W → W.cell? ⟨w.heap.size, 0, none⟩ = some (.slice aA A.length cA) ∧ W.cell? ⟨w.heap.size, 1, none⟩ = some (.slice aE E.length cE) ∧ W.cell? ⟨w.heap.size + 1, 0, none⟩ = some (.slice aB B.length cB) ∧ W.cell? ⟨w.heap.size + 1, 1, none⟩ = some (.slice aF F.length cF)) := fun W hW => ⟨(hW.cell (p := ⟨w.heap.size, 0, none⟩) (by show w.heap.size < _; omega)).trans X4.out.1, (hW.cell (p := ⟨w.heap.size, 1, none⟩) (by show w.heap.size < _; omega)).trans X4.out.2.1, (hW.cell (p := ⟨w.heap.size + 1, 0, none⟩) (by show w.heap.size + 1 < _; omega)).trans X4.out.2.2.1, (hW.cell (p := ⟨w.heap.size + 1, 1, none⟩) (by show w.heap.size + 1 < _; omega)).trans X4.out.2.2.2⟩
  have DN : Hid (∀ W : World, Below (w.heap.size + 2) W2 W → Below w.heap.size w W ∧ w.heap.size + 2 ≤ W.heap.size) := fun W hW => ⟨hB1.trans (hW.mono (by omega)), by have h1 := HS2.out; have h2 := hW.size; omega⟩
  have BR : Hid (Below (w.heap.size + 2) W2 W2) := Below.refl _ _
  obtain ⟨y0, y1, y2, y3⟩ := HF4.out _ BR.out
  obtain ⟨RM, hR1⟩ : ∃ R, meM A E B F = R := ⟨_, rfl⟩
  obtain ⟨RE, hR2⟩ : ∃ R, meE A E B F = R := ⟨_, rfl⟩
  obtain ⟨ok, hR3⟩ : ∃ R, mok A E B F = R := ⟨_, rfl⟩
  have HRL : Hid (RM.length ≤ 12 ∧ RE.length ≤ 12 ∧ ∀ i, i < RM.length → (rx RM i).length ≤ 3) := by show _ ∧ _; rw [← hR1, ← hR2]; exact me_len A E B F
  have HRP : Hid (pm RM RM.length ≤ 1048576) := Nat.le_trans (pm_12 HRL.out.1 HRL.out.2.2) (by omega)
  have CS : Hid (∀ (W : World) (v1 e1 v2 e2 : Value), MaIn W v1 e1 A E → MaIn W v2 e2 B F → Calls Try.prog 28 #[.agg #[v1, e1], .agg #[v2, e2]] W fun e w' => ∃ a c b d us, e = .returned (.tuple #[.agg #[.slice a RM.length c, .slice b RE.length d], .bool ok]) ∧ MaOwn w' W.heap.size (.slice a RM.length c) (.slice b RE.length d) RM RE us ∧ Below W.heap.size W w') := fun W v1 e1 v2 e2 h1 h2 => by
    refine (specMeet A E v1 e1 B F v2 e2 W h1.1 h1.2 h2.1 h2.2).mono ?_
    rw [hR1, hR2, hR3]
    rintro e w' ⟨⟨r1, r2, rfl, us, ho⟩, hb⟩
    obtain ⟨a, c, rfl⟩ := ho.1.slice
    obtain ⟨b, d, rfl⟩ := ERow.slice ho.2.1
    exact ⟨a, c, b, d, us, rfl, ho, hb⟩
  have CI : Hid (∀ (W : World) (v1 e1 v2 e2 : Value), MaIn W v1 e1 A E → MaIn W v2 e2 B F → Calls Try.prog 29 #[.agg #[v1, e1], .agg #[v2, e2]] W fun e w' => ∃ a c b d us, e = .returned (.tuple #[.agg #[.slice a RM.length c, .slice b RE.length d], .bool ok]) ∧ MaOwn w' W.heap.size (.slice a RM.length c) (.slice b RE.length d) RM RE us ∧ Below W.heap.size W w') := fun W v1 e1 v2 e2 h1 h2 => by
    refine (implMeet A E v1 e1 B F v2 e2 W h1.1 h1.2 h2.1 h2.2).mono ?_
    rw [hR1, hR2, hR3]
    rintro e w' ⟨⟨r1, r2, rfl, us, ho⟩, hb⟩
    obtain ⟨a, c, rfl⟩ := ho.1.slice
    obtain ⟨b, d, rfl⟩ := ERow.slice ho.2.1
    exact ⟨a, c, b, d, us, rfl, ho, hb⟩
  have EQ : Hid (∀ (W : World) (v1 e1 v2 e2 : Value), MaIn W v1 e1 RM RE → MaIn W v2 e2 RM RE → Calls Try.prog 16 #[.agg #[v1, e1], .agg #[v2, e2]] W fun e w' => e = .returned (.bool true) ∧ Below W.heap.size W w') := fun W v1 e1 v2 e2 h1 h2 => eqMach_same RM RE v1 v2 e1 e2 W h1.1 h2.1 h1.2 h2.2 (by have := HRL.out.1; omega) (fun i hi => by have := HRL.out.2.2 i hi; omega) (by have := HRL.out.2.1; omega)
  clear hR1 hR2 hR3 X4
  go_enter Try.func7, Try.ntmps7
  go_wp2_with fail
  rw [← hW2]
  clear hW2
  refine (szMach_left A E _ _ 1048576 _ (HA.out.below hB1) (HE.out.below hB1) (by omega) (by omega)).mono ?_
  rintro e w3 ⟨⟨r, rfl, hr0, hr1, hr2⟩, hb3⟩
  have hbw3 : Below (w.heap.size + 2) W2 w3 := hb3.mono (by rw [HS2.out]; exact Nat.le_refl _)
  clear y0 y1 y2 y3
  obtain ⟨y0, y1, y2, y3⟩ := HF4.out _ hbw3
  have hz3 : w.heap.size + 1 < w3.heap.size := by have := (DN.out _ hbw3).2; omega
  clear hb3
  by_cases hneg : r < 0
  · clear hr2
    go_wp2
    go_ret
    exact ⟨rfl, (DN.out _ hbw3).1⟩
  obtain ⟨hlA, hpA, hlE⟩ := hr2 (by omega)
  have HPA : Hid (pm A A.length ≤ 1048576) := hpA
  clear hr2 hpA
  go_wp2_with fail
  refine (szMach_left B F _ _ r _ (HB.out.below (DN.out _ hbw3).1) (HF.out.below (DN.out _ hbw3).1) (by omega) (by omega)).mono ?_
  rintro e w4 ⟨⟨r2, rfl, hr20, hr21, hr22⟩, hb4⟩
  have hbw4 : Below (w.heap.size + 2) W2 w4 := hbw3.trans (hb4.mono (by have := (DN.out _ hbw3).2; omega))
  have hz4 : w.heap.size + 1 < w4.heap.size := by have := (DN.out _ hbw4).2; omega
  clear y0 y1 y2 y3
  obtain ⟨y0, y1, y2, y3⟩ := HF4.out _ hbw4
  clear hb4 hbw3
  by_cases hneg2 : r2 < 0
  · clear hr22
    go_wp2
    go_ret
    exact ⟨rfl, (DN.out _ hbw4).1⟩
  obtain ⟨hlB, hpB, hlF⟩ := hr22 (by omega)
  have HPB : Hid (pm B B.length ≤ 1048576) := hpB
  clear hr22 hpB
  have TA : Hid (∀ W : World, Below (w.heap.size + 2) W2 W → Calls Try.prog 14 #[.agg #[.slice aA A.length cA, .slice aE E.length cE]] W fun e w' => ∃ a c b d us, e = .returned (.agg #[.slice a A.length c, .slice b E.length d]) ∧ MaOwn w' W.heap.size (.slice a A.length c) (.slice b E.length d) A E us ∧ Below W.heap.size W w') := fun W hW => by
    refine (toMach_any A E _ _ W (HA.out.below (DN.out _ hW).1) (HE.out.below (DN.out _ hW).1) hlA (fun i hi => Nat.le_trans (pm_each hi) HPA.out) hlE).mono ?_
    rintro e w' ⟨⟨r1, r2, rfl, us, ho⟩, hb⟩
    obtain ⟨a, c, rfl⟩ := ho.1.slice
    obtain ⟨b, d, rfl⟩ := ERow.slice ho.2.1
    exact ⟨a, c, b, d, us, rfl, ho, hb⟩
  have EA : Hid (∀ (W : World) (v1 e1 v2 e2 : Value), MaIn W v1 e1 A E → MaIn W v2 e2 A E → Calls Try.prog 16 #[.agg #[v1, e1], .agg #[v2, e2]] W fun e w' => e = .returned (.bool true) ∧ Below W.heap.size W w') := fun W v1 e1 v2 e2 h1 h2 => eqMach_same A E v1 v2 e1 e2 W h1.1 h2.1 h1.2 h2.2 (by omega) (fun i hi => by have := Nat.le_trans (pm_each hi) HPA.out; omega) (by omega)
  have TB : Hid (∀ W : World, Below (w.heap.size + 2) W2 W → Calls Try.prog 14 #[.agg #[.slice aB B.length cB, .slice aF F.length cF]] W fun e w' => ∃ a c b d us, e = .returned (.agg #[.slice a B.length c, .slice b F.length d]) ∧ MaOwn w' W.heap.size (.slice a B.length c) (.slice b F.length d) B F us ∧ Below W.heap.size W w') := fun W hW => by
    refine (toMach_any B F _ _ W (HB.out.below (DN.out _ hW).1) (HF.out.below (DN.out _ hW).1) hlB (fun i hi => Nat.le_trans (pm_each hi) HPB.out) hlF).mono ?_
    rintro e w' ⟨⟨r1, r2, rfl, us, ho⟩, hb⟩
    obtain ⟨a, c, rfl⟩ := ho.1.slice
    obtain ⟨b, d, rfl⟩ := ERow.slice ho.2.1
    exact ⟨a, c, b, d, us, rfl, ho, hb⟩
  have EB : Hid (∀ (W : World) (v1 e1 v2 e2 : Value), MaIn W v1 e1 B F → MaIn W v2 e2 B F → Calls Try.prog 16 #[.agg #[v1, e1], .agg #[v2, e2]] W fun e w' => e = .returned (.bool true) ∧ Below W.heap.size W w') := fun W v1 e1 v2 e2 h1 h2 => eqMach_same B F v1 v2 e1 e2 W h1.1 h2.1 h1.2 h2.2 (by omega) (fun i hi => by have := Nat.le_trans (pm_each hi) HPB.out; omega) (by omega)
  clear HA HB HE HF
  have hbU0 := hbw4
  go_upto_region 8 with fail
  have HbU : Hid (Below (w.heap.size + 2) W2 w4) := hbU0
  have HU2 : Hid (w.heap.size + 2 ≤ w4.heap.size) := (DN.out _ hbU0).2
  have HBd : Hid (Below (w.heap.size + 2) W2 w4.drew) := HbU.out.drew
  have HBe : Hid (Below (w.heap.size + 2) W2 (w4.alloc zeMa).drew) := (HbU.out.alloc HU2.out zeMa).drew
  have hSd := HF4.out _ HBd.out
  go_cut [6, 7] from 27 to 34 (fun s1 s2 wx => s2 = .bool ok ∧ KCutM RM RE w4 s1 wx)
  case first =>
    clear CI EQ EA EB
    go_region_held3 (fun w' => w'.cell? ⟨w.heap.size, 0, none⟩ = some (.slice aA A.length cA) ∧ w'.cell? ⟨w.heap.size, 1, none⟩ = some (.slice aE E.length cE) ∧ w'.cell? ⟨w.heap.size + 1, 0, none⟩ = some (.slice aB B.length cB) ∧ w'.cell? ⟨w.heap.size + 1, 1, none⟩ = some (.slice aF F.length cF))
      (first
        | with_reducible exact hSd
        | with_reducible exact HF4.out _ HBe.out
        | with_reducible exact hSC
        | with_reducible exact hSB
        | with_reducible exact hSA
        | with_reducible exact HF4.out _ (hA2.alloc hA3 _)
        | with_reducible exact HF4.out _ (hB2.alloc hB3 _)
        | with_reducible exact HF4.out _ (hC2.alloc hC3 _)
        | with_reducible exact HF4.out _ ((hC2.setCell (p := ⟨w4.heap.size, 0, none⟩) HU2.out _).setCell (p := ⟨w4.heap.size, 1, none⟩) HU2.out _)
        | with_reducible exact HF4.out _ ((hC2.setCell (p := ⟨wA.heap.size, 0, none⟩) hA3 _).setCell (p := ⟨wA.heap.size, 1, none⟩) hA3 _)
        | with_reducible exact HF4.out _ ((hC2.setCell (p := ⟨wB.heap.size, 0, none⟩) hB3 _).setCell (p := ⟨wB.heap.size, 1, none⟩) hB3 _)
        | go_keep)
      (first
        | (go_at_call 28; refine (CS.out wB _ _ _ _ HTA htB).mono ?_; rintro e wC ⟨aC, cC, bC, dC, usC, rfl, hoC, hbC⟩; have hBC : Below wB.heap.size wB wC := hbC; have hUC : Below w4.heap.size w4 wC := hUB.trans (hBC.mono hUB.size); have hC2 : Below (w.heap.size + 2) W2 wC := HbU.out.trans (hUC.mono HU2.out); have hSC := HF4.out _ hC2; have hC3 : w.heap.size + 2 ≤ wC.heap.size := (by have h1 := hUC.size; have h2 := HU2.out; omega); have sUA := hUA.size; have sAB := hAB.size; have sBC := hBC.size; have hpB := PB.out; have hC1 := hpB.1.kept (hBC.block _ hpB.2); have hz9 := Nat.lt_of_lt_of_le hpB.2 sBC; have HREL := kcutM_A hUC (by omega) hpB.2 sBC hoC hC1; obtain ⟨⟨c9, z9⟩, c8, z8⟩ := hC1)
        | (go_at_call 28; refine (CS.out (wB.alloc zeMa) _ _ _ _ (HTA.below ((Below.refl _ wB).alloc (Nat.le_refl _) zeMa)) (htB.below ((Below.refl _ wB).alloc (Nat.le_refl _) zeMa))).mono ?_; rintro e wC ⟨aC, cC, bC, dC, usC, rfl, hoC, hbC⟩; have hBC : Below wB.heap.size wB wC := oneM_below hbC; have hUC : Below w4.heap.size w4 wC := hUB.trans (hBC.mono hUB.size); have hC2 : Below (w.heap.size + 2) W2 wC := HbU.out.trans (hUC.mono HU2.out); have hSC := HF4.out _ hC2; have hC3 : w.heap.size + 2 ≤ wC.heap.size := (by have h1 := hUC.size; have h2 := HU2.out; omega); have sUA := hUA.size; have sAB := hAB.size; have sBC := hBC.size; have hC1 := oneM_new hbC; have hz9 := oneM_lt hbC; have HREL := kcutM_A hUC (by omega) (by simp) hbC.size hoC hC1; obtain ⟨⟨c9, z9⟩, c8, z8⟩ := hC1)
        | (go_at_call 28; refine (CS.out wB _ _ _ _ HTA htB).mono ?_; rintro e wC ⟨aC, cC, bC, dC, usC, rfl, hoC, hbC⟩; have hBC : Below wB.heap.size wB wC := hbC; have hUC : Below w4.heap.size w4 wC := hUB.trans (hBC.mono hUB.size); have hC2 : Below (w.heap.size + 2) W2 wC := HbU.out.trans (hUC.mono HU2.out); have hSC := HF4.out _ hC2; have hC3 : w.heap.size + 2 ≤ wC.heap.size := (by have h1 := hUC.size; have h2 := HU2.out; omega); have sUA := hUA.size; have sAB := hAB.size; have sBC := hBC.size; have HREL := kcutM_B hUC hoC)
        | (go_at_call 14; refine (TB.out _ hA2).mono ?_; rintro e wB ⟨a_B, c_B, b_B, d_B, us_B, rfl, hoB, hbB⟩; have htB := hoB.mat; have hAB : Below wA.heap.size wA wB := hbB; have hpA := PA.out; have PB : Hid (OneM wB w4.heap.size ∧ w4.heap.size < wB.heap.size) := ⟨hpA.1.kept (hAB.block _ hpA.2), by have h := hAB.size; omega⟩; have hUB : Below w4.heap.size w4 wB := hUA.trans (hAB.mono hUA.size); have hB2 : Below (w.heap.size + 2) W2 wB := HbU.out.trans (hUB.mono HU2.out); have hSB := HF4.out _ hB2; have HTA := htA.below hAB; have hB3 : w.heap.size + 2 ≤ wB.heap.size := (by have h1 := hUB.size; have h2 := HU2.out; omega))
        | (go_at_call 14; refine (TB.out _ (hA2.alloc hA3 zeMa)).mono ?_; rintro e wB ⟨a_B, c_B, b_B, d_B, us_B, rfl, hoB, hbB⟩; have htB := hoB.mat; have hAB : Below wA.heap.size wA wB := oneM_below hbB; have PB : Hid (OneM wB wA.heap.size ∧ wA.heap.size < wB.heap.size) := ⟨oneM_new hbB, oneM_lt hbB⟩; have hUB : Below w4.heap.size w4 wB := hUA.trans (hAB.mono hUA.size); have hB2 : Below (w.heap.size + 2) W2 wB := HbU.out.trans (hUB.mono HU2.out); have hSB := HF4.out _ hB2; have HTA := htA.below hAB; have hB3 : w.heap.size + 2 ≤ wB.heap.size := (by have h1 := hUB.size; have h2 := HU2.out; omega))
        | (go_at_call 14; refine (TB.out _ hA2).mono ?_; rintro e wB ⟨a_B, c_B, b_B, d_B, us_B, rfl, hoB, hbB⟩; have htB := hoB.mat; have hAB : Below wA.heap.size wA wB := hbB; have hUB : Below w4.heap.size w4 wB := hUA.trans (hAB.mono hUA.size); have hB2 : Below (w.heap.size + 2) W2 wB := HbU.out.trans (hUB.mono HU2.out); have hSB := HF4.out _ hB2; have HTA := htA.below hAB; have hB3 : w.heap.size + 2 ≤ wB.heap.size := (by have h1 := hUB.size; have h2 := HU2.out; omega))
        | (go_at_call 14; refine (TA.out _ HBe.out).mono ?_; rintro e wA ⟨a_A, c_A, b_A, d_A, us_A, rfl, hoA, hbA⟩; have htA := hoA.mat; have hUA : Below w4.heap.size w4 wA := oneM_below (oneM_drew hbA); have PA : Hid (OneM wA w4.heap.size ∧ w4.heap.size < wA.heap.size) := ⟨oneM_new (oneM_drew hbA), oneM_lt (oneM_drew hbA)⟩; have hA2 : Below (w.heap.size + 2) W2 wA := HbU.out.trans (hUA.mono HU2.out); have hSA := HF4.out _ hA2; have hA3 : w.heap.size + 2 ≤ wA.heap.size := (by have h1 := hUA.size; have h2 := HU2.out; omega))
        | (go_at_call 14; refine (TA.out _ HBd.out).mono ?_; rintro e wA ⟨a_A, c_A, b_A, d_A, us_A, rfl, hoA, hbA⟩; have htA := hoA.mat; have hUA : Below w4.heap.size w4 wA := (Below.refl _ w4).drew.trans hbA; have hA2 : Below (w.heap.size + 2) W2 wA := HbU.out.trans (hUA.mono HU2.out); have hSA := HF4.out _ hA2; have hA3 : w.heap.size + 2 ≤ wA.heap.size := (by have h1 := hUA.size; have h2 := HU2.out; omega)))
    all_goals
      go_wp2_with fail
      go_meet
      exact ⟨rfl, HREL⟩
  case rest =>
    obtain ⟨rfl, zb, aw, cw, bw, dw, rfl, hcw, htw, hzb, hb4c⟩ := hcut
    have hbc : Below (w.heap.size + 2) W2 wc := hbw4.trans (hb4c.mono (DN.out _ hbw4).2)
    obtain ⟨U, hU⟩ : ∃ U, U = wc := ⟨_, rfl⟩
    rw [← hU] at hcw htw hzb hb4c hbc ⊢
    clear hU
    have HWR : Hid (∀ W : World, Below U.heap.size U W → MaIn W (.slice aw RM.length cw) (.slice bw RE.length dw) RM RE ∧ (W.cell? ⟨zb, 0, none⟩ = some (.slice aw RM.length cw) ∧ W.cell? ⟨zb, 1, none⟩ = some (.slice bw RE.length dw)) ∧ zb < W.heap.size) := fun W hW => ⟨htw.below hW, ⟨(hW.cell (p := ⟨zb, 0, none⟩) hzb).trans hcw.1, (hW.cell (p := ⟨zb, 1, none⟩) hzb).trans hcw.2⟩, by have := hW.size; omega⟩
    have HbUc : Hid (Below (w.heap.size + 2) W2 U) := hbc
    have HB2 : Hid (∀ W : World, Below U.heap.size U W → Below (w.heap.size + 2) W2 W) := fun W hW => HbUc.out.trans (hW.mono (DN.out _ HbUc.out).2)
    clear hSd HBd HBe HbU HU2 hb4c htw hcw CS y0 y1 y2 y3 hbw4 hbU0 hz4 hz3
    obtain ⟨y0, y1, y2, y3⟩ := HF4.out _ hbc
    have hzc : w.heap.size + 1 < U.heap.size := by have := (DN.out _ hbc).2; omega
    go_wp2_with fail
    refine (TA.out _ hbc).mono ?_
    rintro e w9 ⟨ax, cx, bx, dx, usx, rfl, hox, hb9⟩
    obtain ⟨W9, hW9⟩ : ∃ W, W = w9.alloc (.cells #[.slice ax A.length cx, .slice bx E.length dx] 28) := ⟨_, rfl⟩
    have hB9 : Below w9.heap.size w9 W9 := by rw [hW9]; exact (Below.refl _ w9).alloc (Nat.le_refl _) _
    have HS9 : Hid (W9.heap.size = w9.heap.size + 1) := by show _ = _; rw [hW9]; simp
    have HX9 : Hid (W9.cell? ⟨w9.heap.size, 0, none⟩ = some (.slice ax A.length cx) ∧ W9.cell? ⟨w9.heap.size, 1, none⟩ = some (.slice bx E.length dx)) := by refine ⟨?_, ?_⟩ <;> rw [hW9] <;> go_simp
    have HU9 : Hid (Below U.heap.size U W9) := hb9.trans (hB9.mono hb9.size)
    have HOX : Hid (MaOwn W9 U.heap.size (.slice ax A.length cx) (.slice bx E.length dx) A E usx) := hox.below hB9
    have HXB : Hid (∀ u ∈ (.slice bx E.length dx) :: usx, ∀ g, u.ownBlock = some g → U.heap.size ≤ g ∧ g < w9.heap.size) := hox.rows
    have sz9 : Hid (U.heap.size ≤ w9.heap.size) := hb9.size
    have hbw9 := HB2.out _ HU9.out
    have hz9 : w.heap.size + 1 < w9.heap.size := by have := sz9.out; omega
    clear y0 y1 y2 y3
    obtain ⟨y0, y1, y2, y3⟩ := HF4.out _ (HB2.out _ hb9)
    clear hox hb9 hbc
    go_upto_region 10 with fail
    rw [← hW9]
    clear hW9 y0 y1 y2 y3 hB9
    obtain ⟨y0, y1, y2, y3⟩ := HF4.out _ hbw9
    have hz9W : w.heap.size + 1 < W9.heap.size := by have := HS9.out; omega
    go_wp2_with fail
    refine (TB.out _ hbw9).mono ?_
    rintro e w10 ⟨az, cz, bz, dz, usz, rfl, hoz, hb10⟩
    obtain ⟨W10, hW10⟩ : ∃ W, W = w10.alloc (.cells #[.slice az B.length cz, .slice bz F.length dz] 28) := ⟨_, rfl⟩
    have hB10 : Below w10.heap.size w10 W10 := by rw [hW10]; exact (Below.refl _ w10).alloc (Nat.le_refl _) _
    have HS10 : Hid (W10.heap.size = w10.heap.size + 1) := by show _ = _; rw [hW10]; simp
    have HX10 : Hid (W10.cell? ⟨w10.heap.size, 0, none⟩ = some (.slice az B.length cz) ∧ W10.cell? ⟨w10.heap.size, 1, none⟩ = some (.slice bz F.length dz)) := by refine ⟨?_, ?_⟩ <;> rw [hW10] <;> go_simp
    have HW910 : Hid (Below W9.heap.size W9 W10) := hb10.trans (hB10.mono hb10.size)
    have HOZ : Hid (MaOwn W10 W9.heap.size (.slice az B.length cz) (.slice bz F.length dz) B F usz) := hoz.below hB10
    have HZB : Hid (∀ u ∈ (.slice bz F.length dz) :: usz, ∀ g, u.ownBlock = some g → W9.heap.size ≤ g ∧ g < w10.heap.size) := hoz.rows
    have sz10 : Hid (W9.heap.size ≤ w10.heap.size) := hb10.size
    have hz910 : w9.heap.size < w10.heap.size := by have h1 := HS9.out; have h2 := sz10.out; omega
    have hz910W : w9.heap.size < W10.heap.size := by have h1 := HS10.out; omega
    have hz10W : w10.heap.size < W10.heap.size := by have h1 := HS10.out; omega
    clear hoz hb10 hbw9 y0 y1 y2 y3
    go_upto_region 11 with fail
    rw [← hW10]
    clear hW10 hB10
    obtain ⟨x0, x1⟩ := HX9.out
    replace x0 := (HW910.out.cell (p := ⟨w9.heap.size, 0, none⟩) (by have := HS9.out; show w9.heap.size < _; omega)).trans x0
    replace x1 := (HW910.out.cell (p := ⟨w9.heap.size, 1, none⟩) (by have := HS9.out; show w9.heap.size < _; omega)).trans x1
    obtain ⟨z0, z1⟩ := HX10.out
    go_wp2_with fail
    refine (CI.out _ _ _ _ _ ((HOX.out.below HW910.out).mat) HOZ.out.mat).mono ?_
    rintro e w11 ⟨ag, cg, bg, dg, usg, rfl, hog, hb11⟩
    obtain ⟨W11, hW11⟩ : ∃ W, W = w11.alloc (.cells #[.slice ag RM.length cg, .slice bg RE.length dg] 28) := ⟨_, rfl⟩
    have hB11 : Below w11.heap.size w11 W11 := by rw [hW11]; exact (Below.refl _ w11).alloc (Nat.le_refl _) _
    have HS11 : Hid (W11.heap.size = w11.heap.size + 1) := by show _ = _; rw [hW11]; simp
    have HG11 : Hid (W11.cell? ⟨w11.heap.size, 0, none⟩ = some (.slice ag RM.length cg) ∧ W11.cell? ⟨w11.heap.size, 1, none⟩ = some (.slice bg RE.length dg)) := by refine ⟨?_, ?_⟩ <;> rw [hW11] <;> go_simp
    have HW1011 : Hid (Below W10.heap.size W10 W11) := hb11.trans (hB11.mono hb11.size)
    have HW911 : Hid (Below W9.heap.size W9 W11) := HW910.out.trans (HW1011.out.mono HW910.out.size)
    have HU11 : Hid (Below U.heap.size U W11) := HU9.out.trans (HW911.out.mono HU9.out.size)
    have HOG : Hid (MaOwn W11 W10.heap.size (.slice ag RM.length cg) (.slice bg RE.length dg) RM RE usg) := hog.below hB11
    have HGB : Hid (∀ u ∈ (.slice bg RE.length dg) :: usg, ∀ g, u.ownBlock = some g → W10.heap.size ≤ g ∧ g < w11.heap.size) := hog.rows
    have sz11 : Hid (W10.heap.size ≤ w11.heap.size) := hb11.size
    clear hog hb11 x0 x1 z0 z1
    go_upto_region 12 with fail
    rw [← hW11]
    clear hW11 hB11
    obtain ⟨g0, g1⟩ := HG11.out
    obtain ⟨⟨v0, v1⟩, hzbW⟩ := (HWR.out _ HU11.out).2
    have hz11W : w11.heap.size < W11.heap.size := by have := HS11.out; omega
    go_wp2_with fail
    refine (EQ.out _ _ _ _ _ HOG.out.mat (HWR.out _ HU11.out).1).mono ?_
    rintro e w12 ⟨rfl, hb12⟩
    have HU12 : Hid (Below U.heap.size U w12) := HU11.out.trans (hb12.mono HU11.out.size)
    have HW1112 : Hid (Below W11.heap.size W11 w12) := hb12
    have HW912 : Hid (Below W9.heap.size W9 w12) := HW911.out.trans (hb12.mono HW911.out.size)
    have HW1012 : Hid (Below W10.heap.size W10 w12) := HW1011.out.trans (hb12.mono HW1011.out.size)
    have hb212 := HB2.out _ HU12.out
    have x0 := (HW912.out.cell (p := ⟨w9.heap.size, 0, none⟩) (by have := HS9.out; show w9.heap.size < _; omega)).trans HX9.out.1
    have x1 := (HW912.out.cell (p := ⟨w9.heap.size, 1, none⟩) (by have := HS9.out; show w9.heap.size < _; omega)).trans HX9.out.2
    have hz912 : w9.heap.size < w12.heap.size := by have h1 := HS9.out; have h2 := HW912.out.size; omega
    obtain ⟨y0, y1, y2, y3⟩ := HF4.out _ hb212
    have hzw12 : w.heap.size < w12.heap.size := by omega
    have HTX12 : Hid (MaIn w12 (.slice ax A.length cx) (.slice bx E.length dx) A E) := HOX.out.mat.below HW912.out
    have HB12d : Hid (Below (w.heap.size + 2) W2 w12.drew) := hb212.drew
    clear hb12 hb212 g0 g1 v0 v1 hzbW
    go_upto_region 14 with fail
    go_cut [58] from 54 to 57 (fun s58 wx => s58 = .bool false ∧ Below w12.heap.size w12 wx)
    case first =>
      clear CI EQ EB
      go_region_with (first
        | (go_at_call 16; refine (EA.out _ _ _ _ _ ht9 ht8).mono ?_; rintro e wq ⟨rfl, hbq⟩; have hBq : Below w12.heap.size w12 wq := hB9.trans (hbq.mono hB9.size))
        | (go_at_call 14; refine (TA.out _ HB12d.out).mono ?_; rintro e wp ⟨aq, caq, bq, dq, usq, rfl, ho8, hbp⟩; have ht8 := ho8.mat; clear ho8; have x90 := (hbp.cell (p := ⟨w9.heap.size, 0, none⟩) hz912).trans x0; have x91 := (hbp.cell (p := ⟨w9.heap.size, 1, none⟩) hz912).trans x1; have hB9 : Below w12.heap.size w12 wp := (Below.refl _ w12).drew.trans hbp; have ht9 : MaIn wp (.slice ax A.length cx) (.slice bx E.length dx) A E := HTX12.out.below hB9))
      all_goals
        go_wp2_with fail
        go_meet
        exact ⟨rfl, hBq⟩
    case rest =>
      obtain ⟨rfl, hbc⟩ := hcut
      obtain ⟨V, hV⟩ : ∃ V, V = wc := ⟨_, rfl⟩
      rw [← hV] at hbc ⊢
      clear hV
      clear x0 x1 y0 y1 y2 y3 HTX12 HB12d hzw12 hz912
      have HUV : Hid (Below U.heap.size U V) := HU12.out.trans (hbc.mono HU12.out.size)
      have HW11V : Hid (Below W11.heap.size W11 V) := HW1112.out.trans (hbc.mono HW1112.out.size)
      have HW9V : Hid (Below W9.heap.size W9 V) := HW912.out.trans (hbc.mono HW912.out.size)
      have HW10V : Hid (Below W10.heap.size W10 V) := HW1012.out.trans (hbc.mono HW1012.out.size)
      have hb2V := HB2.out _ HUV.out
      have z0 := (HW10V.out.cell (p := ⟨w10.heap.size, 0, none⟩) (by have := HS10.out; show w10.heap.size < _; omega)).trans HX10.out.1
      have z1 := (HW10V.out.cell (p := ⟨w10.heap.size, 1, none⟩) (by have := HS10.out; show w10.heap.size < _; omega)).trans HX10.out.2
      have hz10V : w10.heap.size < V.heap.size := by have h1 := HS10.out; have h2 := HW10V.out.size; omega
      obtain ⟨y0, y1, y2, y3⟩ := HF4.out _ hb2V
      have hzwV : w.heap.size + 1 < V.heap.size := by omega
      have HTZV : Hid (MaIn V (.slice az B.length cz) (.slice bz F.length dz) B F) := HOZ.out.mat.below HW10V.out
      have HBVd : Hid (Below (w.heap.size + 2) W2 V.drew) := hb2V.drew
      clear hbc hb2V HU12 HW1112 HW912 HW1012
      go_upto_region 16 with fail
      go_cut [63] from 59 to 62 (fun s63 wx => s63 = .bool false ∧ Below V.heap.size V wx)
      case first =>
        clear CI EQ EA
        go_region_with (first
          | (go_at_call 16; refine (EB.out _ _ _ _ _ ht9 ht8).mono ?_; rintro e wq ⟨rfl, hbq⟩; have hBq : Below V.heap.size V wq := hB9.trans (hbq.mono hB9.size))
          | (go_at_call 14; refine (TB.out _ HBVd.out).mono ?_; rintro e wp ⟨aq, caq, bq, dq, usq, rfl, ho8, hbp⟩; have ht8 := ho8.mat; clear ho8; have x90 := (hbp.cell (p := ⟨w10.heap.size, 0, none⟩) hz10V).trans z0; have x91 := (hbp.cell (p := ⟨w10.heap.size, 1, none⟩) hz10V).trans z1; have hB9 : Below V.heap.size V wp := (Below.refl _ V).drew.trans hbp; have ht9 : MaIn wp (.slice az B.length cz) (.slice bz F.length dz) B F := HTZV.out.below hB9))
        all_goals
          go_wp2_with fail
          go_meet
          exact ⟨rfl, hBq⟩
      case rest =>
        obtain ⟨rfl, hbc⟩ := hcut
        obtain ⟨X, hX⟩ : ∃ X, X = wc := ⟨_, rfl⟩
        rw [← hX] at hbc ⊢
        clear hX
        clear z0 z1 y0 y1 y2 y3 HTZV HBVd hzwV hz10V
        have HUX : Hid (Below U.heap.size U X) := HUV.out.trans (hbc.mono HUV.out.size)
        have HW11X : Hid (Below W11.heap.size W11 X) := HW11V.out.trans (hbc.mono HW11V.out.size)
        have HW9X : Hid (Below W9.heap.size W9 X) := HW9V.out.trans (hbc.mono HW9V.out.size)
        have HW10X : Hid (Below W10.heap.size W10 X) := HW10V.out.trans (hbc.mono HW10V.out.size)
        clear hbc HUV HW11V HW9V HW10V EA EB
        have x0 := (HW9X.out.cell (p := ⟨w9.heap.size, 0, none⟩) (by have := HS9.out; show w9.heap.size < _; omega)).trans HX9.out.1
        have x1 := (HW9X.out.cell (p := ⟨w9.heap.size, 1, none⟩) (by have := HS9.out; show w9.heap.size < _; omega)).trans HX9.out.2
        have HXZ : Hid (X.cell? ⟨w10.heap.size, 0, none⟩ = some (.slice az B.length cz) ∧ X.cell? ⟨w10.heap.size, 1, none⟩ = some (.slice bz F.length dz)) := ⟨(HW10X.out.cell (p := ⟨w10.heap.size, 0, none⟩) (by have := HS10.out; show w10.heap.size < _; omega)).trans HX10.out.1, (HW10X.out.cell (p := ⟨w10.heap.size, 1, none⟩) (by have := HS10.out; show w10.heap.size < _; omega)).trans HX10.out.2⟩
        have HXG : Hid (X.cell? ⟨w11.heap.size, 0, none⟩ = some (.slice ag RM.length cg) ∧ X.cell? ⟨w11.heap.size, 1, none⟩ = some (.slice bg RE.length dg)) := ⟨(HW11X.out.cell (p := ⟨w11.heap.size, 0, none⟩) (by have := HS11.out; show w11.heap.size < _; omega)).trans HG11.out.1, (HW11X.out.cell (p := ⟨w11.heap.size, 1, none⟩) (by have := HS11.out; show w11.heap.size < _; omega)).trans HG11.out.2⟩
        have HOXX : Hid (MaOwn X U.heap.size (.slice ax A.length cx) (.slice bx E.length dx) A E usx) := HOX.out.below HW9X.out
        have HOZX : Hid (MaOwn X W9.heap.size (.slice az B.length cz) (.slice bz F.length dz) B F usz) := HOZ.out.below HW10X.out
        have HOGX : Hid (MaOwn X W10.heap.size (.slice ag RM.length cg) (.slice bg RE.length dg) RM RE usg) := HOG.out.below HW11X.out
        have SZ : Hid (U.heap.size ≤ w9.heap.size ∧ W9.heap.size = w9.heap.size + 1 ∧ W9.heap.size ≤ w10.heap.size ∧ W10.heap.size = w10.heap.size + 1 ∧ W10.heap.size ≤ w11.heap.size ∧ W11.heap.size = w11.heap.size + 1 ∧ W11.heap.size ≤ X.heap.size) := ⟨sz9.out, HS9.out, sz10.out, HS10.out, sz11.out, HS11.out, HW11X.out.size⟩
        have hz9X : w9.heap.size < X.heap.size := by have := SZ.out; omega
        clear HOX HOZ HOG HX9 HX10 HG11 HU9 HW910 HW1011 HW911 HU11 HW9X HW10X HW11X sz9 sz10 sz11 HS9 HS10 HS11 hz9 hz910 hz910W hz10W hz11W hz9W
        go_wp2_with fail
        refine (markMach_any U.heap.size 1 _ _ A E usx _ HOXX.out hlA HPA.out hlE (by omega)).mono ?_
        rintro e w13 ⟨rfl, hm13, hg13⟩
        clear hm13 x0 x1
        have hs13 := hg13.size
        have HU13 : Hid (Below U.heap.size U w13) := RowsM.old HUX.out (Nat.le_refl _) hg13 (fun u hu k hk => (HXB.out u hu k hk).1)
        have HOZ13 : Hid (MaOwn w13 W9.heap.size (.slice az B.length cz) (.slice bz F.length dz) B F usz) := HOZX.out.rowsM hg13 (fun u hu g hg => by have h2 := (HXB.out u hu g hg).2; have h3 := SZ.out; omega)
        have HOG13 : Hid (MaOwn w13 W10.heap.size (.slice ag RM.length cg) (.slice bg RE.length dg) RM RE usg) := HOGX.out.rowsM hg13 (fun u hu g hg => by have h2 := (HXB.out u hu g hg).2; have h3 := SZ.out; omega)
        have n10 : ∀ u ∈ (Value.slice bx E.length dx) :: usx, u.ownBlock ≠ some w10.heap.size := fun u hu e => by have h2 := (HXB.out u hu _ e).2; have h3 := SZ.out; omega
        have n11 : ∀ u ∈ (Value.slice bx E.length dx) :: usx, u.ownBlock ≠ some w11.heap.size := fun u hu e => by have h2 := (HXB.out u hu _ e).2; have h3 := SZ.out; omega
        have z0 := (hg13.cell (k := 0) (by have := SZ.out; omega) n10).trans HXZ.out.1
        have z1 := (hg13.cell (k := 1) (by have := SZ.out; omega) n10).trans HXZ.out.2
        have HG13 : Hid (w13.cell? ⟨w11.heap.size, 0, none⟩ = some (.slice ag RM.length cg) ∧ w13.cell? ⟨w11.heap.size, 1, none⟩ = some (.slice bg RE.length dg)) := ⟨(hg13.cell (k := 0) (by have := SZ.out; omega) n11).trans HXG.out.1, (hg13.cell (k := 1) (by have := SZ.out; omega) n11).trans HXG.out.2⟩
        have hz1013 : w10.heap.size < w13.heap.size := by have := SZ.out; omega
        have SZ13 : Hid (X.heap.size ≤ w13.heap.size) := hs13
        obtain ⟨kx, hkx⟩ : ∃ kx, kx = 1 + pm A A.length + E.length := ⟨_, rfl⟩
        rw [← hkx]
        have hkx1 : kx ≤ 3000000 := by have := HPA.out; omega
        clear hkx
        clear hg13 HOXX HOZX HOGX HXZ HXG hz9X hs13 n10 n11
        go_wp2_with fail
        refine (markMach_any W9.heap.size kx _ _ B F usz _ HOZ13.out hlB HPB.out hlF (by omega)).mono ?_
        rintro e w14 ⟨rfl, hm14, hg14⟩
        clear hm14 z0 z1
        have hs14 := hg14.size
        have HU14 : Hid (Below U.heap.size U w14) := RowsM.old HU13.out (Nat.le_refl _) hg14 (fun u hu k hk => by have h1 := (HZB.out u hu k hk).1; have h2 := SZ.out; omega)
        have HOG14 : Hid (MaOwn w14 W10.heap.size (.slice ag RM.length cg) (.slice bg RE.length dg) RM RE usg) := HOG13.out.rowsM hg14 (fun u hu g hg => by have h2 := (HZB.out u hu g hg).2; have h3 := SZ.out; omega)
        have n11 : ∀ u ∈ (Value.slice bz F.length dz) :: usz, u.ownBlock ≠ some w11.heap.size := fun u hu e => by have h2 := (HZB.out u hu _ e).2; have h3 := SZ.out; omega
        have g0 := (hg14.cell (k := 0) (by have := SZ.out; have := SZ13.out; omega) n11).trans HG13.out.1
        have g1 := (hg14.cell (k := 1) (by have := SZ.out; have := SZ13.out; omega) n11).trans HG13.out.2
        obtain ⟨⟨v0, v1⟩, hzz14⟩ := (HWR.out _ HU14.out).2
        have hz1114 : w11.heap.size < w14.heap.size := by have := SZ.out; have := SZ13.out; omega
        obtain ⟨kz, hkz⟩ : ∃ kz, kz = kx + pm B B.length + F.length := ⟨_, rfl⟩
        rw [← hkz]
        have hk14 : (0 : Int) ≤ (kz : Int) := by omega
        clear hkz hg14 HOZ13 HOG13 HG13 hz1013 hs14 n11
        go_wp2_with fail
        refine (EQ.out _ _ _ _ _ HOG14.out.mat (HWR.out _ HU14.out).1).mono ?_
        rintro e w15 ⟨rfl, hb15⟩
        have HU15 : Hid (Below U.heap.size U w15) := HU14.out.trans (hb15.mono HU14.out.size)
        have HOG15 : Hid (MaOwn w15 W10.heap.size (.slice ag RM.length cg) (.slice bg RE.length dg) RM RE usg) := HOG14.out.below hb15
        replace g0 := (hb15.cell (p := ⟨w11.heap.size, 0, none⟩) hz1114).trans g0
        replace g1 := (hb15.cell (p := ⟨w11.heap.size, 1, none⟩) hz1114).trans g1
        have hz1115 : w11.heap.size < w15.heap.size := by have := hb15.size; omega
        clear hb15 v0 v1 hzz14 HOG14 HU14 hz1114
        go_wp2_with fail
        refine (markMach_any W10.heap.size 1 _ _ RM RE usg _ HOG15.out (by have := HRL.out.1; omega) HRP.out (by have := HRL.out.2.1; omega) (by omega)).mono ?_
        rintro e w16 ⟨rfl, hm16, hg16⟩
        have HM16 : Hid (MaMark w16 W10.heap.size (.slice ag RM.length cg) (.slice bg RE.length dg) RM RE usg 1) := hm16
        have HU16 : Hid (Below U.heap.size U w16) := RowsM.old HU15.out (Nat.le_refl _) hg16 (fun u hu k hk => by have h1 := (HGB.out u hu k hk).1; have h3 := SZ.out; omega)
        have n11 : ∀ u ∈ (Value.slice bg RE.length dg) :: usg, u.ownBlock ≠ some w11.heap.size := fun u hu e => by have h2 := (HGB.out u hu _ e).2; omega
        replace g0 := (hg16.cell (k := 0) hz1115 n11).trans g0
        replace g1 := (hg16.cell (k := 1) hz1115 n11).trans g1
        have hz1116 : w11.heap.size < w16.heap.size := by have := hg16.size; omega
        obtain ⟨kg, hkg⟩ : ∃ kg, kg = 1 + pm RM RM.length + RE.length := ⟨_, rfl⟩
        have HKG : Hid (kg = 1 + pm RM RM.length + RE.length) := hkg
        rw [← hkg]
        have hkg0 : (0 : Int) ≤ (kg : Int) := by omega
        clear hkg hm16 hg16 HOG15 HU15 hz1115 n11
        go_wp2_with fail
        refine (heldMach_any W10.heap.size 1 _ _ RM RE usg _ HM16.out (by have := HRL.out.1; omega) HRP.out (by have := HRL.out.2.1; omega) (by omega)).mono ?_
        rintro e w17 ⟨rfl, hb17⟩
        rw [← HKG.out]
        have HU17 : Hid (Below U.heap.size U w17) := HU16.out.trans (hb17.mono HU16.out.size)
        have HM17 : Hid (MaMark w17 W10.heap.size (.slice ag RM.length cg) (.slice bg RE.length dg) RM RE usg 1) := HM16.out.below hb17
        have G17 : Hid (w17.cell? ⟨w11.heap.size, 0, none⟩ = some (.slice ag RM.length cg) ∧ w17.cell? ⟨w11.heap.size, 1, none⟩ = some (.slice bg RE.length dg)) := ⟨(hb17.cell (p := ⟨w11.heap.size, 0, none⟩) hz1116).trans g0, (hb17.cell (p := ⟨w11.heap.size, 1, none⟩) hz1116).trans g1⟩
        have hz1117 : w11.heap.size < w17.heap.size := by have := hb17.size; omega
        have hbU0 := HB2.out _ HU17.out
        obtain ⟨y0, y1, y2, y3⟩ := HF4.out _ hbU0
        have hzw17 := (DN.out _ hbU0).2
        have hzw17a : w.heap.size < w17.heap.size := by omega
        have hzw17b : w.heap.size + 1 < w17.heap.size := by omega
        clear hb17 g0 g1 HM16 HU16 hz1116
        go_upto_region 31 with fail
        have HbU : Hid (Below (w.heap.size + 2) W2 w17) := hbU0
        have HU2 : Hid (w.heap.size + 2 ≤ w17.heap.size) := (DN.out _ hbU0).2
        have HBd : Hid (Below (w.heap.size + 2) W2 w17.drew) := HbU.out.drew
        have HBe : Hid (Below (w.heap.size + 2) W2 (w17.alloc zeMa).drew) := (HbU.out.alloc HU2.out zeMa).drew
        have hSd := HF4.out _ HBd.out
        go_cut [15, 16] from 94 to 101 (fun s1 s2 wx => s2 = .bool ok ∧ KCutM RM RE w17 s1 wx)
        case first =>
          clear EQ
          go_region_held3 (fun w' => w'.cell? ⟨w.heap.size, 0, none⟩ = some (.slice aA A.length cA) ∧ w'.cell? ⟨w.heap.size, 1, none⟩ = some (.slice aE E.length cE) ∧ w'.cell? ⟨w.heap.size + 1, 0, none⟩ = some (.slice aB B.length cB) ∧ w'.cell? ⟨w.heap.size + 1, 1, none⟩ = some (.slice aF F.length cF))
            (first
              | with_reducible exact hSd
              | with_reducible exact HF4.out _ HBe.out
              | with_reducible exact hSC
              | with_reducible exact hSB
              | with_reducible exact hSA
              | with_reducible exact HF4.out _ (hA2.alloc hA3 _)
              | with_reducible exact HF4.out _ (hB2.alloc hB3 _)
              | with_reducible exact HF4.out _ (hC2.alloc hC3 _)
              | with_reducible exact HF4.out _ ((hC2.setCell (p := ⟨w17.heap.size, 0, none⟩) HU2.out _).setCell (p := ⟨w17.heap.size, 1, none⟩) HU2.out _)
              | with_reducible exact HF4.out _ ((hC2.setCell (p := ⟨wA.heap.size, 0, none⟩) hA3 _).setCell (p := ⟨wA.heap.size, 1, none⟩) hA3 _)
              | with_reducible exact HF4.out _ ((hC2.setCell (p := ⟨wB.heap.size, 0, none⟩) hB3 _).setCell (p := ⟨wB.heap.size, 1, none⟩) hB3 _)
              | go_keep)
            (first
              | (go_at_call 29; refine (CI.out wB _ _ _ _ HTA htB).mono ?_; rintro e wC ⟨aC, cC, bC, dC, usC, rfl, hoC, hbC⟩; have hBC : Below wB.heap.size wB wC := hbC; have hUC : Below w17.heap.size w17 wC := hUB.trans (hBC.mono hUB.size); have hC2 : Below (w.heap.size + 2) W2 wC := HbU.out.trans (hUC.mono HU2.out); have hSC := HF4.out _ hC2; have hC3 : w.heap.size + 2 ≤ wC.heap.size := (by have h1 := hUC.size; have h2 := HU2.out; omega); have sUA := hUA.size; have sAB := hAB.size; have sBC := hBC.size; have hpB := PB.out; have hC1 := hpB.1.kept (hBC.block _ hpB.2); have hz9 := Nat.lt_of_lt_of_le hpB.2 sBC; have HREL := kcutM_A hUC (by omega) hpB.2 sBC hoC hC1; obtain ⟨⟨c9, z9⟩, c8, z8⟩ := hC1)
              | (go_at_call 29; refine (CI.out (wB.alloc zeMa) _ _ _ _ (HTA.below ((Below.refl _ wB).alloc (Nat.le_refl _) zeMa)) (htB.below ((Below.refl _ wB).alloc (Nat.le_refl _) zeMa))).mono ?_; rintro e wC ⟨aC, cC, bC, dC, usC, rfl, hoC, hbC⟩; have hBC : Below wB.heap.size wB wC := oneM_below hbC; have hUC : Below w17.heap.size w17 wC := hUB.trans (hBC.mono hUB.size); have hC2 : Below (w.heap.size + 2) W2 wC := HbU.out.trans (hUC.mono HU2.out); have hSC := HF4.out _ hC2; have hC3 : w.heap.size + 2 ≤ wC.heap.size := (by have h1 := hUC.size; have h2 := HU2.out; omega); have sUA := hUA.size; have sAB := hAB.size; have sBC := hBC.size; have hC1 := oneM_new hbC; have hz9 := oneM_lt hbC; have HREL := kcutM_A hUC (by omega) (by simp) hbC.size hoC hC1; obtain ⟨⟨c9, z9⟩, c8, z8⟩ := hC1)
              | (go_at_call 29; refine (CI.out wB _ _ _ _ HTA htB).mono ?_; rintro e wC ⟨aC, cC, bC, dC, usC, rfl, hoC, hbC⟩; have hBC : Below wB.heap.size wB wC := hbC; have hUC : Below w17.heap.size w17 wC := hUB.trans (hBC.mono hUB.size); have hC2 : Below (w.heap.size + 2) W2 wC := HbU.out.trans (hUC.mono HU2.out); have hSC := HF4.out _ hC2; have hC3 : w.heap.size + 2 ≤ wC.heap.size := (by have h1 := hUC.size; have h2 := HU2.out; omega); have sUA := hUA.size; have sAB := hAB.size; have sBC := hBC.size; have HREL := kcutM_B hUC hoC)
              | (go_at_call 14; refine (TB.out _ hA2).mono ?_; rintro e wB ⟨a_B, c_B, b_B, d_B, us_B, rfl, hoB, hbB⟩; have htB := hoB.mat; have hAB : Below wA.heap.size wA wB := hbB; have hpA := PA.out; have PB : Hid (OneM wB w17.heap.size ∧ w17.heap.size < wB.heap.size) := ⟨hpA.1.kept (hAB.block _ hpA.2), by have h := hAB.size; omega⟩; have hUB : Below w17.heap.size w17 wB := hUA.trans (hAB.mono hUA.size); have hB2 : Below (w.heap.size + 2) W2 wB := HbU.out.trans (hUB.mono HU2.out); have hSB := HF4.out _ hB2; have HTA := htA.below hAB; have hB3 : w.heap.size + 2 ≤ wB.heap.size := (by have h1 := hUB.size; have h2 := HU2.out; omega))
              | (go_at_call 14; refine (TB.out _ (hA2.alloc hA3 zeMa)).mono ?_; rintro e wB ⟨a_B, c_B, b_B, d_B, us_B, rfl, hoB, hbB⟩; have htB := hoB.mat; have hAB : Below wA.heap.size wA wB := oneM_below hbB; have PB : Hid (OneM wB wA.heap.size ∧ wA.heap.size < wB.heap.size) := ⟨oneM_new hbB, oneM_lt hbB⟩; have hUB : Below w17.heap.size w17 wB := hUA.trans (hAB.mono hUA.size); have hB2 : Below (w.heap.size + 2) W2 wB := HbU.out.trans (hUB.mono HU2.out); have hSB := HF4.out _ hB2; have HTA := htA.below hAB; have hB3 : w.heap.size + 2 ≤ wB.heap.size := (by have h1 := hUB.size; have h2 := HU2.out; omega))
              | (go_at_call 14; refine (TB.out _ hA2).mono ?_; rintro e wB ⟨a_B, c_B, b_B, d_B, us_B, rfl, hoB, hbB⟩; have htB := hoB.mat; have hAB : Below wA.heap.size wA wB := hbB; have hUB : Below w17.heap.size w17 wB := hUA.trans (hAB.mono hUA.size); have hB2 : Below (w.heap.size + 2) W2 wB := HbU.out.trans (hUB.mono HU2.out); have hSB := HF4.out _ hB2; have HTA := htA.below hAB; have hB3 : w.heap.size + 2 ≤ wB.heap.size := (by have h1 := hUB.size; have h2 := HU2.out; omega))
              | (go_at_call 14; refine (TA.out _ HBe.out).mono ?_; rintro e wA ⟨a_A, c_A, b_A, d_A, us_A, rfl, hoA, hbA⟩; have htA := hoA.mat; have hUA : Below w17.heap.size w17 wA := oneM_below (oneM_drew hbA); have PA : Hid (OneM wA w17.heap.size ∧ w17.heap.size < wA.heap.size) := ⟨oneM_new (oneM_drew hbA), oneM_lt (oneM_drew hbA)⟩; have hA2 : Below (w.heap.size + 2) W2 wA := HbU.out.trans (hUA.mono HU2.out); have hSA := HF4.out _ hA2; have hA3 : w.heap.size + 2 ≤ wA.heap.size := (by have h1 := hUA.size; have h2 := HU2.out; omega))
              | (go_at_call 14; refine (TA.out _ HBd.out).mono ?_; rintro e wA ⟨a_A, c_A, b_A, d_A, us_A, rfl, hoA, hbA⟩; have htA := hoA.mat; have hUA : Below w17.heap.size w17 wA := (Below.refl _ w17).drew.trans hbA; have hA2 : Below (w.heap.size + 2) W2 wA := HbU.out.trans (hUA.mono HU2.out); have hSA := HF4.out _ hA2; have hA3 : w.heap.size + 2 ≤ wA.heap.size := (by have h1 := hUA.size; have h2 := HU2.out; omega)))
          all_goals
            go_wp2_with fail
            go_meet
            exact ⟨rfl, HREL⟩
        case rest =>
          obtain ⟨rfl, hzz, ah, ch', bh, dh, rfl, hch, hth, hhz, hb18⟩ := hcut
          have hU18 : Below U.heap.size U wc := HU17.out.trans (hb18.mono HU17.out.size)
          obtain ⟨⟨v0, v1⟩, hzz18⟩ := (HWR.out _ hU18).2
          obtain ⟨k0, k1⟩ := hch
          clear hSd HBd HBe HbU HU2 y0 y1 y2 y3 hbU0
          go_wp2_with fail
          refine (EQ.out _ _ _ _ _ hth (HWR.out _ hU18).1).mono ?_
          rintro e w19 ⟨rfl, hb19⟩
          have HB19 : Hid (Below w17.heap.size w17 w19) := hb18.trans (hb19.mono hb18.size)
          have g0 := (HB19.out.cell (p := ⟨w11.heap.size, 0, none⟩) hz1117).trans G17.out.1
          have g1 := (HB19.out.cell (p := ⟨w11.heap.size, 1, none⟩) hz1117).trans G17.out.2
          have HM19 : Hid (MaMark w19 W10.heap.size (.slice ag RM.length cg) (.slice bg RE.length dg) RM RE usg 1) := HM17.out.below HB19.out
          have hz1119 : w11.heap.size < w19.heap.size := by have := HB19.out.size; omega
          clear hb19 v0 v1 hzz18 k0 k1
          go_wp2_with fail
          refine (heldMach_any W10.heap.size 1 _ _ RM RE usg _ HM19.out (by have := HRL.out.1; omega) HRP.out (by have := HRL.out.2.1; omega) (by omega)).mono ?_
          rintro e w20 ⟨rfl, hb20⟩
          rw [← HKG.out]
          have hB20 : Below w.heap.size w w20 := (DN.out _ (HB2.out _ (HU17.out.trans ((HB19.out.trans (hb20.mono HB19.out.size)).mono HU17.out.size)))).1
          clear hb20 g0 g1
          go_wp2
          go_ret
          exact ⟨rfl, hB20⟩

namespace fnExactMeetMachines
open Go.ChangeShapes Go.WideShapes Go.ChangeAt

theorem own : ownKnob Try.prog.godebug = none := by kernel_rfl
theorem laidOut : laidOutB Try.prog = true := by kernel_rfl

set_option maxRecDepth 100000 in
theorem lifted (os : Os) (started : os.Started) (H : Type) (enc : TypeId × Value → H) :
    ReturnsInHanded {} Try.checked os 7 .any (Rows.fnExactMeetMachinesSpec.pre6 enc Try.prog Try.f7 Rows.fnExactMeetMachinesRow.domain false) (Rows.fnExactMeetMachinesSpec.post enc Try.prog Try.f7 false true false false) := by
  refine returnsInHanded_of_change (C := Try.checked) own started (by kernel_rfl) Try.func7
    (ChangeSpec.witness6 (enc := enc) (C := Try.checked) false ⟨#[], #[.agg #[.slice none 0 0, .slice none 0 0], .agg #[.slice none 0 0, .slice none 0 0]], []⟩ 8 (by kernel_rfl) (by kernel_rfl) (by kernel_rfl) (by kernel_rfl)) ?_
  intro W base args ds gs before hval0 hW hcnd _
  have hval : ∀ (j : Nat) t v, Try.f7.params[j]? = some t → args[j]? = some v → Value.okWide Try.prog W .any base t v := hval0
  have hW' := hW
  obtain ⟨p, q, hA0, hV, rfl, hfz, hnd⟩ := hW
  have hA : DataW.TrodAll enc Try.prog W 0 (fun _ => true) true Try.f7.params.toList args.toList ds p := hA0
  rw [Try.params7] at hA hval
  obtain ⟨v0, vs0, d0, ds0, p0, q0, hargs, rfl, rfl, h0, r0⟩ := trodAll_cons hA
  obtain ⟨v1, vs1, d1, ds1, p1, q1, rfl, rfl, rfl, h1, r1⟩ := trodAll_cons r0
  obtain ⟨rfl, rfl, rfl⟩ := trodAll_nil r1
  obtain rfl : args = #[v0, v1] := by cases args; simp_all
  obtain ⟨rfl, rfl⟩ := trodVars_none hV
  have h0k := h0
  obtain ⟨uA, yA, MA, EA, rfl, hMA, hEA⟩ := open_mach (hval 0 25 v0 rfl rfl) h0
  have h1k := h1
  obtain ⟨uB, yB, MB, EB, rfl, hMB, hEB⟩ := open_mach (hval 1 25 v1 rfl rfl) h1
  clear hA0 hval0
  have hlt0 : ∀ x ∈ p0, x.block < W.heap.size := fun x hx => by
    have := hW'.lt x (by simp_all)
    simpa using this
  have hlt1 : ∀ x ∈ p1, x.block < W.heap.size := fun x hx => by
    have := hW'.lt x (by simp_all)
    simpa using this
  refine (walkFnExactMeetMachines MA EA uA yA MB EB uB yB W hMA hEA hMB hEB).mono fun e W' ⟨he, hg⟩ => ?_
  subst he
  exact ⟨_, rfl, _, _, _, [], _, [], hW', trodAll_mk1 (shut_bool Try.underlying4 _), (trodAll_cons_mk (Below.trod laidOut (by kernel_rfl) (of_decide_eq_true (by kernel_rfl)) h0k hg hlt0) (trodAll_cons_mk (Below.trod laidOut (by kernel_rfl) (of_decide_eq_true (by kernel_rfl)) h1k hg hlt1) trodAll_mk0)), rfl, hg.frame _, fun h => by cases h⟩

theorem over : Rows.fnExactMeetMachinesRow.holds Try.pinned (OpenSpec.ofChange Rows.fnExactMeetMachinesSpec) :=
  OpenClaim.holds_of_wide 7 Try.f7 rfl rfl rfl rfl rfl rfl rfl ⟨rfl, rfl, rfl, rfl, rfl⟩ rfl rfl rfl rfl rfl (by kernel_rfl) Try.func7 (by kernel_rfl)
    (of_decide_eq_true (by kernel_rfl)) (by unfold Func.isWrapper; first | (rw [if_pos (by decide +kernel)]; kernel_rfl) | (rw [if_neg (by decide +kernel)]; exact ⟨rfl, rfl⟩))
    (fun os started H enc _ => lifted os started H enc)

end fnExactMeetMachines

theorem fnExactMeetMachines_holds : Rows.FnExactMeetMachinesSaid := fnExactMeetMachines.over
#print axioms fnExactMeetMachines_holds
end Go.Proofs.Ytkkofblgjilopaa
