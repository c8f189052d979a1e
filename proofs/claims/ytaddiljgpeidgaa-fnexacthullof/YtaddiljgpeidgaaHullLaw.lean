/- Proved here: at every two boxes the law FnExactHullOf answers true, that is, HullOf answers as its model, its answer owns its memory, and it writes into nothing.
   Conditions: none beside the row's own. -/
import Derived.Test.YtaddiljgpeidgaaBxQ
import Derived.Test.YtaddiljgpeidgaaBxY
import Derived.Test.YtaddiljgpeidgaaBxK
import Derived.Test.YtaddiljgpeidgaaBxO
import Derived.Deep.RegionWith
import Derived.Deep.RegionHeld3
import Derived.Deep.DrawnRows
import Derived.Deep.DeepCutAuto
namespace Go.Proofs.Ytaddiljgpeidgaa
open Go.RowKit Plain Sch Bxs

theorem hlo_len (A B : List Sd) : (hlo A B).length ≤ 1000 := by
  unfold hlo
  split
  · show 3 ≤ 1000; omega
  · simp

attribute [local go_sem ↓] Go.wp_at_zero Go.wp_at_succ

set_option maxRecDepth 100000 in
set_option maxHeartbeats 8000000 in
theorem walkFnExactHullOf (A B : List Sd) (v1 v2 : Value) (w : World) (hA : SdsAt w w.heap.size v1 A) (hB : SdsAt w w.heap.size v2 B) :
    Calls Try.prog 7 #[.agg #[v1], .agg #[v2]] w fun e w' => e = .returned (.bool true) ∧ Below w.heap.size w w' := by
  have HA : Hid (SdsAt w w.heap.size v1 A) := hA
  have HB : Hid (SdsAt w w.heap.size v2 B) := hB
  obtain ⟨aa, capa, rfl, _⟩ := hA
  obtain ⟨ab, capb, rfl, _⟩ := hB
  obtain ⟨W2, hW2⟩ : ∃ W, W = (w.alloc (.cells #[.slice aa A.length capa] 24)).alloc (.cells #[.slice ab B.length capb] 24) := ⟨_, rfl⟩
  have hB1 : Below w.heap.size w W2 := by rw [hW2]; exact ((Below.refl _ w).alloc (Nat.le_refl _) _).alloc (by simp) _
  have HS2 : Hid (W2.heap.size = w.heap.size + 2) := by show _ = _; rw [hW2]; simp
  have X0 : Hid (W2.cell? ⟨w.heap.size, 0, none⟩ = some (.slice aa A.length capa)) := by show _ = _; rw [hW2]; go_simp
  have X1 : Hid (W2.cell? ⟨w.heap.size + 1, 0, none⟩ = some (.slice ab B.length capb)) := by show _ = _; rw [hW2]; go_simp
  have C0 : Hid (∀ W : World, Below (w.heap.size + 2) W2 W → W.cell? ⟨w.heap.size, 0, none⟩ = some (.slice aa A.length capa)) := fun W hW => (hW.cell (p := ⟨w.heap.size, 0, none⟩) (by show w.heap.size < _; omega)).trans X0.out
  have C1 : Hid (∀ W : World, Below (w.heap.size + 2) W2 W → W.cell? ⟨w.heap.size + 1, 0, none⟩ = some (.slice ab B.length capb)) := fun W hW => (hW.cell (p := ⟨w.heap.size + 1, 0, none⟩) (by show w.heap.size + 1 < _; omega)).trans X1.out
  have HF : Hid (∀ W : World, Below (w.heap.size + 2) W2 W → W.cell? ⟨w.heap.size, 0, none⟩ = some (.slice aa A.length capa) ∧ W.cell? ⟨w.heap.size + 1, 0, none⟩ = some (.slice ab B.length capb)) := fun W hW => ⟨C0.out W hW, C1.out W hW⟩
  have DN : Hid (∀ W : World, Below (w.heap.size + 2) W2 W → Below w.heap.size w W ∧ w.heap.size + 2 ≤ W.heap.size) := fun W hW => ⟨hB1.trans (hW.mono (by omega)), by have h1 := HS2.out; have h2 := hW.size; omega⟩
  have BR : Hid (Below (w.heap.size + 2) W2 W2) := Below.refl _ _
  have y0 := C0.out _ BR.out
  have y1 := C1.out _ BR.out
  obtain ⟨F, hR1, hFl⟩ : ∃ F, hlo A B = F ∧ F.length ≤ 1000 := ⟨_, rfl, hlo_len A B⟩
  obtain ⟨ok, hR2⟩ : ∃ ok, (gb A && gb B) = ok := ⟨_, rfl⟩
  have CS : Hid (∀ (w : World) (v v' : Value), SdsAt w w.heap.size v A → SdsAt w w.heap.size v' B → Calls Try.prog 29 #[.agg #[v], .agg #[v']] w fun e w' => ∃ aw cw, e = .returned (.tuple #[.agg #[.slice aw F.length cw], .bool ok]) ∧ QRow w' w.heap.size (.slice aw F.length cw) F ∧ Below w.heap.size w w') := fun w v v' h h' => by
    refine (specHull A B v v' w h h').mono ?_
    rw [hR1, hR2]
    rintro e w' ⟨⟨rv, rfl, hr⟩, hb⟩
    obtain ⟨aw, cw, rfl, _⟩ := ownSliceB hr
    exact ⟨aw, cw, rfl, ⟨_, hr⟩, hb⟩
  have CI : Hid (∀ (w : World) (v v' : Value), SdsAt w w.heap.size v A → SdsAt w w.heap.size v' B → Calls Try.prog 30 #[.agg #[v], .agg #[v']] w fun e w' => ∃ aw cw, e = .returned (.tuple #[.agg #[.slice aw F.length cw], .bool ok]) ∧ QRow w' w.heap.size (.slice aw F.length cw) F ∧ Below w.heap.size w w') := fun w v v' h h' => by
    refine (implHull A B v v' w h h').mono ?_
    rw [hR1, hR2]
    rintro e w' ⟨⟨rv, rfl, hr⟩, hb⟩
    obtain ⟨aw, cw, rfl, _⟩ := ownSliceB hr
    exact ⟨aw, cw, rfl, ⟨_, hr⟩, hb⟩
  have EQ : Hid (∀ (W : World) (v1 v2 : Value), SdsAt W W.heap.size v1 F → SdsAt W W.heap.size v2 F → Calls Try.prog 18 #[.agg #[v1], .agg #[v2]] W fun e w' => e = .returned (.bool true) ∧ Below W.heap.size W w') := fun W v1 v2 h1 h2 => eqBox_same F v1 v2 W h1 h2 (by omega)
  clear hR1 hR2 X0 X1
  go_enter Try.func7, Try.ntmps7
  go_wp2_with fail
  rw [← hW2]
  clear hW2
  refine (szBox_any A _ _ (HA.out.below hB1)).mono ?_
  rintro e w3 ⟨⟨r, rfl, hr0, hr1, hr2⟩, hb3⟩
  have hbw3 : Below (w.heap.size + 2) W2 w3 := hb3.mono (by rw [HS2.out]; exact Nat.le_refl _)
  have y0 := C0.out _ hbw3
  have y1 := C1.out _ hbw3
  have hz3 : w.heap.size + 1 < w3.heap.size := by have := (DN.out _ hbw3).2; omega
  clear hb3
  by_cases hneg : r < 0
  · clear hr2
    go_wp2
    go_ret
    exact ⟨rfl, (DN.out _ hbw3).1⟩
  have hlenA := hr2 (by omega)
  clear hr2
  go_wp2_with fail
  refine (szBox_lft B _ r _ (HB.out.below (DN.out _ hbw3).1) (by omega) (by omega)).mono ?_
  rintro e w4 ⟨⟨r2, rfl, hr20, hr21, hr22⟩, hb4⟩
  have hbw4 : Below (w.heap.size + 2) W2 w4 := hbw3.trans (hb4.mono (by have := (DN.out _ hbw3).2; omega))
  have hz4 : w.heap.size + 1 < w4.heap.size := by have := (DN.out _ hbw4).2; omega
  have y0 := C0.out _ hbw4
  have y1 := C1.out _ hbw4
  clear hb4 hbw3
  by_cases hneg2 : r2 < 0
  · clear hr22
    go_wp2
    go_ret
    exact ⟨rfl, (DN.out _ hbw4).1⟩
  have hlenB := hr22 (by omega)
  clear hr22
  have TA : Hid (∀ W : World, Below (w.heap.size + 2) W2 W → Calls Try.prog 16 #[.agg #[.slice aa A.length capa]] W fun e w' => ∃ ar capr, e = .returned (.agg #[.slice ar A.length capr]) ∧ SdsAt w' w'.heap.size (.slice ar A.length capr) A ∧ QRow w' W.heap.size (.slice ar A.length capr) A ∧ Below W.heap.size W w') := fun W hW => by
    refine (toBox_any A _ W (HA.out.below (DN.out _ hW).1) hlenA).mono ?_
    rintro e w' ⟨r, rfl, ho, hb⟩
    have ht := SdsAt.own ho
    obtain ⟨ar, capr, rfl, _⟩ := ownSliceB ho
    exact ⟨ar, capr, rfl, ht, ⟨_, ho⟩, hb⟩
  have TB : Hid (∀ W : World, Below (w.heap.size + 2) W2 W → Calls Try.prog 16 #[.agg #[.slice ab B.length capb]] W fun e w' => ∃ ar capr, e = .returned (.agg #[.slice ar B.length capr]) ∧ SdsAt w' w'.heap.size (.slice ar B.length capr) B ∧ QRow w' W.heap.size (.slice ar B.length capr) B ∧ Below W.heap.size W w') := fun W hW => by
    refine (toBox_any B _ W (HB.out.below (DN.out _ hW).1) hlenB).mono ?_
    rintro e w' ⟨r, rfl, ho, hb⟩
    have ht := SdsAt.own ho
    obtain ⟨ar, capr, rfl, _⟩ := ownSliceB ho
    exact ⟨ar, capr, rfl, ht, ⟨_, ho⟩, hb⟩
  have EA : Hid (∀ (W : World) (v1 v2 : Value), SdsAt W W.heap.size v1 A → SdsAt W W.heap.size v2 A → Calls Try.prog 18 #[.agg #[v1], .agg #[v2]] W fun e w' => e = .returned (.bool true) ∧ Below W.heap.size W w') := fun W v1 v2 h1 h2 => eqBox_same A v1 v2 W h1 h2 (by omega)
  have EB : Hid (∀ (W : World) (v1 v2 : Value), SdsAt W W.heap.size v1 B → SdsAt W W.heap.size v2 B → Calls Try.prog 18 #[.agg #[v1], .agg #[v2]] W fun e w' => e = .returned (.bool true) ∧ Below W.heap.size W w') := fun W v1 v2 h1 h2 => eqBox_same B v1 v2 W h1 h2 (by omega)
  clear HA HB
  go_upto_region 8 with fail
  have HbU : Hid (Below (w.heap.size + 2) W2 w4) := hbw4
  have HU2 : Hid (w.heap.size + 2 ≤ w4.heap.size) := (DN.out _ hbw4).2
  have HBd : Hid (Below (w.heap.size + 2) W2 w4.drew) := HbU.out.drew
  have HBe : Hid (Below (w.heap.size + 2) W2 (w4.alloc zeBx).drew) := (HbU.out.alloc HU2.out zeBx).drew
  have hSd := HF.out _ HBd.out
  go_cut [6, 7] from 27 to 34 (fun s1 s2 wx => s2 = .bool ok ∧ KCutB F w4 s1 wx)
  case first =>
    clear CI EQ EA EB
    go_region_held3 (fun w' => w'.cell? ⟨w.heap.size, 0, none⟩ = some (.slice aa A.length capa) ∧ w'.cell? ⟨w.heap.size + 1, 0, none⟩ = some (.slice ab B.length capb))
      (first
        | with_reducible exact hSd
        | with_reducible exact HF.out _ HBe.out
        | with_reducible exact hSC
        | with_reducible exact hSB
        | with_reducible exact hSA
        | with_reducible exact HF.out _ (hA2.alloc hA3 _)
        | with_reducible exact HF.out _ (hB2.alloc hB3 _)
        | with_reducible exact HF.out _ (hC2.alloc hC3 _)
        | with_reducible exact HF.out _ (hC2.setCell (p := ⟨w4.heap.size, 0, none⟩) HU2.out _)
        | with_reducible exact HF.out _ (hC2.setCell (p := ⟨wA.heap.size, 0, none⟩) hA3 _)
        | with_reducible exact HF.out _ (hC2.setCell (p := ⟨wB.heap.size, 0, none⟩) hB3 _)
        | go_keep)
      (first
        | (go_at_call 29; refine (CS.out wB _ _ HTA htB).mono ?_; rintro e wC ⟨aC, cC, rfl, hoC, hbC⟩; have hBC : Below wB.heap.size wB wC := hbC; have hUC : Below w4.heap.size w4 wC := hUB.trans (hBC.mono hUB.size); have hC2 : Below (w.heap.size + 2) W2 wC := HbU.out.trans (hUC.mono HU2.out); have hSC := HF.out _ hC2; have hC3 : w.heap.size + 2 ≤ wC.heap.size := (by have h1 := hUC.size; have h2 := HU2.out; omega); have sUA := hUA.size; have sAB := hAB.size; have sBC := hBC.size; have hpB := PB.out; have hC1 := hpB.1.kept (hBC.block _ hpB.2); have hz9 := Nat.lt_of_lt_of_le hpB.2 sBC; have HREL := kcutB_A hUC (by omega) hpB.2 sBC hoC hC1; obtain ⟨c9, z9⟩ := hC1)
        | (go_at_call 29; refine (CS.out (wB.alloc zeBx) _ _ (HTA.below ((Below.refl _ wB).alloc (Nat.le_refl _) zeBx)) (htB.below ((Below.refl _ wB).alloc (Nat.le_refl _) zeBx))).mono ?_; rintro e wC ⟨aC, cC, rfl, hoC, hbC⟩; have hBC : Below wB.heap.size wB wC := oneX_below hbC; have hUC : Below w4.heap.size w4 wC := hUB.trans (hBC.mono hUB.size); have hC2 : Below (w.heap.size + 2) W2 wC := HbU.out.trans (hUC.mono HU2.out); have hSC := HF.out _ hC2; have hC3 : w.heap.size + 2 ≤ wC.heap.size := (by have h1 := hUC.size; have h2 := HU2.out; omega); have sUA := hUA.size; have sAB := hAB.size; have sBC := hBC.size; have hC1 := oneX_new hbC; have hz9 := oneX_lt hbC; have HREL := kcutB_A hUC (by omega) (by simp) hbC.size hoC hC1; obtain ⟨c9, z9⟩ := hC1)
        | (go_at_call 29; refine (CS.out wB _ _ HTA htB).mono ?_; rintro e wC ⟨aC, cC, rfl, hoC, hbC⟩; have hBC : Below wB.heap.size wB wC := hbC; have hUC : Below w4.heap.size w4 wC := hUB.trans (hBC.mono hUB.size); have hC2 : Below (w.heap.size + 2) W2 wC := HbU.out.trans (hUC.mono HU2.out); have hSC := HF.out _ hC2; have hC3 : w.heap.size + 2 ≤ wC.heap.size := (by have h1 := hUC.size; have h2 := HU2.out; omega); have sUA := hUA.size; have sAB := hAB.size; have sBC := hBC.size; have HREL := kcutB_B hUC hoC)
        | (go_at_call 16; refine (TB.out _ hA2).mono ?_; rintro e wB ⟨aB, cB, rfl, htB, hoB, hbB⟩; have hAB : Below wA.heap.size wA wB := hbB; have hpA := PA.out; have PB : Hid (OneX wB w4.heap.size ∧ w4.heap.size < wB.heap.size) := ⟨hpA.1.kept (hAB.block _ hpA.2), by have h := hAB.size; omega⟩; have hUB : Below w4.heap.size w4 wB := hUA.trans (hAB.mono hUA.size); have hB2 : Below (w.heap.size + 2) W2 wB := HbU.out.trans (hUB.mono HU2.out); have hSB := HF.out _ hB2; have HTA := htA.below hAB; have hB3 : w.heap.size + 2 ≤ wB.heap.size := (by have h1 := hUB.size; have h2 := HU2.out; omega))
        | (go_at_call 16; refine (TB.out _ (hA2.alloc hA3 zeBx)).mono ?_; rintro e wB ⟨aB, cB, rfl, htB, hoB, hbB⟩; have hAB : Below wA.heap.size wA wB := oneX_below hbB; have PB : Hid (OneX wB wA.heap.size ∧ wA.heap.size < wB.heap.size) := ⟨oneX_new hbB, oneX_lt hbB⟩; have hUB : Below w4.heap.size w4 wB := hUA.trans (hAB.mono hUA.size); have hB2 : Below (w.heap.size + 2) W2 wB := HbU.out.trans (hUB.mono HU2.out); have hSB := HF.out _ hB2; have HTA := htA.below hAB; have hB3 : w.heap.size + 2 ≤ wB.heap.size := (by have h1 := hUB.size; have h2 := HU2.out; omega))
        | (go_at_call 16; refine (TB.out _ hA2).mono ?_; rintro e wB ⟨aB, cB, rfl, htB, hoB, hbB⟩; have hAB : Below wA.heap.size wA wB := hbB; have hUB : Below w4.heap.size w4 wB := hUA.trans (hAB.mono hUA.size); have hB2 : Below (w.heap.size + 2) W2 wB := HbU.out.trans (hUB.mono HU2.out); have hSB := HF.out _ hB2; have HTA := htA.below hAB; have hB3 : w.heap.size + 2 ≤ wB.heap.size := (by have h1 := hUB.size; have h2 := HU2.out; omega))
        | (go_at_call 16; refine (TA.out _ HBe.out).mono ?_; rintro e wA ⟨aA, cA, rfl, htA, hoA, hbA⟩; have hUA : Below w4.heap.size w4 wA := oneX_below (oneX_drew hbA); have PA : Hid (OneX wA w4.heap.size ∧ w4.heap.size < wA.heap.size) := ⟨oneX_new (oneX_drew hbA), oneX_lt (oneX_drew hbA)⟩; have hA2 : Below (w.heap.size + 2) W2 wA := HbU.out.trans (hUA.mono HU2.out); have hSA := HF.out _ hA2; have hA3 : w.heap.size + 2 ≤ wA.heap.size := (by have h1 := hUA.size; have h2 := HU2.out; omega))
        | (go_at_call 16; refine (TA.out _ HBd.out).mono ?_; rintro e wA ⟨aA, cA, rfl, htA, hoA, hbA⟩; have hUA : Below w4.heap.size w4 wA := (Below.refl _ w4).drew.trans hbA; have hA2 : Below (w.heap.size + 2) W2 wA := HbU.out.trans (hUA.mono HU2.out); have hSA := HF.out _ hA2; have hA3 : w.heap.size + 2 ≤ wA.heap.size := (by have h1 := hUA.size; have h2 := HU2.out; omega)))
    all_goals
      go_wp2_with fail
      go_meet
      exact ⟨rfl, HREL⟩
  case rest =>
    obtain ⟨rfl, zb, aw, cw, rfl, hcw, htw, hzb, hb4c⟩ := hcut
    have hbc : Below (w.heap.size + 2) W2 wc := hbw4.trans (hb4c.mono (DN.out _ hbw4).2)
    obtain ⟨U, hU⟩ : ∃ U, U = wc := ⟨_, rfl⟩
    rw [← hU] at hcw htw hzb hb4c hbc ⊢
    clear hU
    have HWR : Hid (∀ W : World, Below U.heap.size U W → SdsAt W W.heap.size (.slice aw F.length cw) F ∧ W.cell? ⟨zb, 0, none⟩ = some (.slice aw F.length cw) ∧ zb < W.heap.size) := fun W hW => ⟨htw.below hW, (hW.cell (p := ⟨zb, 0, none⟩) hzb).trans hcw, by have := hW.size; omega⟩
    have HbUc : Hid (Below (w.heap.size + 2) W2 U) := hbc
    have HB2 : Hid (∀ W : World, Below U.heap.size U W → Below (w.heap.size + 2) W2 W) := fun W hW => HbUc.out.trans (hW.mono (DN.out _ HbUc.out).2)
    clear hSd HBd HBe HbU HU2 hb4c htw CS y0 y1 hbw4 hz4 hz3
    have y0 := C0.out _ hbc
    have y1 := C1.out _ hbc
    have hzc : w.heap.size + 1 < U.heap.size := by have := (DN.out _ hbc).2; omega
    go_wp2_with fail
    refine (TA.out _ hbc).mono ?_
    rintro e w9 ⟨ax, cx, rfl, htx, hox, hb9⟩
    obtain ⟨W9, hW9⟩ : ∃ W, W = w9.alloc (.cells #[.slice ax A.length cx] 29) := ⟨_, rfl⟩
    have hB9 : Below w9.heap.size w9 W9 := by rw [hW9]; exact (Below.refl _ w9).alloc (Nat.le_refl _) _
    have HS9 : Hid (W9.heap.size = w9.heap.size + 1) := by show _ = _; rw [hW9]; simp
    have HX9 : Hid (W9.cell? ⟨w9.heap.size, 0, none⟩ = some (.slice ax A.length cx)) := by show _ = _; rw [hW9]; go_simp
    have HU9 : Hid (Below U.heap.size U W9) := hb9.trans (hB9.mono hb9.size)
    have HTX : Hid (SdsAt W9 W9.heap.size (.slice ax A.length cx) A) := htx.below hB9
    have HOX : Hid (QRow W9 U.heap.size (.slice ax A.length cx) A) := hox.below hB9
    have HXB : Hid (∀ g, (Value.slice ax A.length cx).ownBlock = some g → U.heap.size ≤ g ∧ g < w9.heap.size) := fun g hg => hox.lt g hg
    have sz9 : Hid (U.heap.size ≤ w9.heap.size) := hb9.size
    have hbw9 := HB2.out _ HU9.out
    have hz9 : w.heap.size + 1 < w9.heap.size := by have := sz9.out; omega
    have y09 := C0.out _ (HB2.out _ hb9)
    have y19 := C1.out _ (HB2.out _ hb9)
    clear htx hox hb9 hbc y0 y1
    go_wp2_with fail
    rw [← hW9]
    clear hW9 y09 y19
    refine (TB.out _ hbw9).mono ?_
    rintro e w10 ⟨bx, dx, rfl, htz, hoz, hb10⟩
    obtain ⟨W10, hW10⟩ : ∃ W, W = w10.alloc (.cells #[.slice bx B.length dx] 29) := ⟨_, rfl⟩
    have hB10 : Below w10.heap.size w10 W10 := by rw [hW10]; exact (Below.refl _ w10).alloc (Nat.le_refl _) _
    have HS10 : Hid (W10.heap.size = w10.heap.size + 1) := by show _ = _; rw [hW10]; simp
    have HX10 : Hid (W10.cell? ⟨w10.heap.size, 0, none⟩ = some (.slice bx B.length dx)) := by show _ = _; rw [hW10]; go_simp
    have HW910 : Hid (Below W9.heap.size W9 W10) := hb10.trans (hB10.mono hb10.size)
    have HTZ : Hid (SdsAt W10 W10.heap.size (.slice bx B.length dx) B) := htz.below hB10
    have HOZ : Hid (QRow W10 W9.heap.size (.slice bx B.length dx) B) := hoz.below hB10
    have HZB : Hid (∀ g, (Value.slice bx B.length dx).ownBlock = some g → W9.heap.size ≤ g ∧ g < w10.heap.size) := fun g hg => hoz.lt g hg
    have sz10 : Hid (W9.heap.size ≤ w10.heap.size) := hb10.size
    have x10 : w10.cell? ⟨w9.heap.size, 0, none⟩ = some (.slice ax A.length cx) := (hb10.cell (p := ⟨w9.heap.size, 0, none⟩) (by have := HS9.out; show w9.heap.size < _; omega)).trans HX9.out
    have hz910 : w9.heap.size < w10.heap.size := by have h1 := HS9.out; have h2 := sz10.out; omega
    clear htz hoz hb10 hbw9
    go_wp2_with fail
    rw [← hW10]
    clear hW10 x10
    refine (CI.out _ _ _ (HTX.out.below HW910.out) HTZ.out).mono ?_
    rintro e w11 ⟨ag, cg, rfl, hog, hb11⟩
    obtain ⟨W11, hW11⟩ : ∃ W, W = w11.alloc (.cells #[.slice ag F.length cg] 29) := ⟨_, rfl⟩
    have hB11 : Below w11.heap.size w11 W11 := by rw [hW11]; exact (Below.refl _ w11).alloc (Nat.le_refl _) _
    have HS11 : Hid (W11.heap.size = w11.heap.size + 1) := by show _ = _; rw [hW11]; simp
    have HG11 : Hid (W11.cell? ⟨w11.heap.size, 0, none⟩ = some (.slice ag F.length cg)) := by show _ = _; rw [hW11]; go_simp
    have HW1011 : Hid (Below W10.heap.size W10 W11) := hb11.trans (hB11.mono hb11.size)
    have HW911 : Hid (Below W9.heap.size W9 W11) := HW910.out.trans (HW1011.out.mono HW910.out.size)
    have HU11 : Hid (Below U.heap.size U W11) := HU9.out.trans (HW911.out.mono HU9.out.size)
    have HOG : Hid (QRow W11 W10.heap.size (.slice ag F.length cg) F) := hog.below hB11
    have HGB : Hid (∀ g, (Value.slice ag F.length cg).ownBlock = some g → W10.heap.size ≤ g ∧ g < w11.heap.size) := fun g hg => hog.lt g hg
    have sz11 : Hid (W10.heap.size ≤ w11.heap.size) := hb11.size
    have hUw11 : Below U.heap.size U w11 := HU9.out.trans ((HW910.out.trans (hb11.mono HW910.out.size)).mono HU9.out.size)
    have wz11 := (HWR.out _ hUw11).2.1
    have hz11 := (HWR.out _ hUw11).2.2
    clear hog hb11
    go_wp2_with fail
    rw [← hW11]
    clear hW11 wz11 hz11 hUw11
    refine (EQ.out _ _ _ (HOG.out.at) (HWR.out _ HU11.out).1).mono ?_
    rintro e w12 ⟨rfl, hb12⟩
    have HU12 : Hid (Below U.heap.size U w12) := HU11.out.trans (hb12.mono HU11.out.size)
    have HW1112 : Hid (Below W11.heap.size W11 w12) := hb12
    have HW912 : Hid (Below W9.heap.size W9 w12) := HW911.out.trans (hb12.mono HW911.out.size)
    have HW1012 : Hid (Below W10.heap.size W10 w12) := HW1011.out.trans (hb12.mono HW1011.out.size)
    have hb212 := HB2.out _ HU12.out
    have x12 : w12.cell? ⟨w9.heap.size, 0, none⟩ = some (.slice ax A.length cx) := (HW912.out.cell (p := ⟨w9.heap.size, 0, none⟩) (by have := HS9.out; show w9.heap.size < _; omega)).trans HX9.out
    have hz912 : w9.heap.size < w12.heap.size := by have h1 := HS9.out; have h2 := HW912.out.size; omega
    have y12 := C0.out _ hb212
    have hzw12 : w.heap.size < w12.heap.size := by omega
    have HTX12 : Hid (SdsAt w12 w12.heap.size (.slice ax A.length cx) A) := HTX.out.below HW912.out
    have HB12d : Hid (Below (w.heap.size + 2) W2 w12.drew) := hb212.drew
    clear hb12 hb212
    go_upto_region 14 with fail
    go_cut [58] from 54 to 57 (fun s58 wx => s58 = .bool false ∧ Below w12.heap.size w12 wx)
    case first =>
      clear CI EQ EB
      go_region_with (first
        | (go_at_call 18; refine (EA.out _ _ _ ht9 ht8).mono ?_; rintro e wq ⟨rfl, hbq⟩; have hBq : Below w12.heap.size w12 wq := hB9.trans (hbq.mono hB9.size))
        | (go_at_call 16; refine (TA.out _ HB12d.out).mono ?_; rintro e wp ⟨aq, caq, rfl, ht8, ho8, hbp⟩; clear ho8; have x9 := (hbp.cell (p := ⟨w9.heap.size, 0, none⟩) hz912).trans x12; have hB9 : Below w12.heap.size w12 wp := (Below.refl _ w12).drew.trans hbp; have ht9 : SdsAt wp wp.heap.size (.slice ax A.length cx) A := HTX12.out.below hB9))
      all_goals
        go_wp2_with fail
        go_meet
        exact ⟨rfl, hBq⟩
    case rest =>
      obtain ⟨rfl, hbc⟩ := hcut
      obtain ⟨V, hV⟩ : ∃ V, V = wc := ⟨_, rfl⟩
      rw [← hV] at hbc ⊢
      clear hV
      clear x12 y12 HTX12 HB12d hzw12 hz912
      have HUV : Hid (Below U.heap.size U V) := HU12.out.trans (hbc.mono HU12.out.size)
      have HW11V : Hid (Below W11.heap.size W11 V) := HW1112.out.trans (hbc.mono HW1112.out.size)
      have HW9V : Hid (Below W9.heap.size W9 V) := HW912.out.trans (hbc.mono HW912.out.size)
      have HW10V : Hid (Below W10.heap.size W10 V) := HW1012.out.trans (hbc.mono HW1012.out.size)
      have hb2V := HB2.out _ HUV.out
      have xV : V.cell? ⟨w10.heap.size, 0, none⟩ = some (.slice bx B.length dx) := (HW10V.out.cell (p := ⟨w10.heap.size, 0, none⟩) (by have := HS10.out; show w10.heap.size < _; omega)).trans HX10.out
      have hz10V : w10.heap.size < V.heap.size := by have h1 := HS10.out; have h2 := HW10V.out.size; omega
      have yV := C1.out _ hb2V
      have hzwV : w.heap.size + 1 < V.heap.size := by omega
      have HTZV : Hid (SdsAt V V.heap.size (.slice bx B.length dx) B) := HTZ.out.below HW10V.out
      have HBVd : Hid (Below (w.heap.size + 2) W2 V.drew) := hb2V.drew
      clear hbc hb2V HU12 HW1112 HW912 HW1012
      go_upto_region 16 with fail
      go_cut [63] from 59 to 62 (fun s63 wx => s63 = .bool false ∧ Below V.heap.size V wx)
      case first =>
        clear CI EQ EA
        go_region_with (first
          | (go_at_call 18; refine (EB.out _ _ _ ht9 ht8).mono ?_; rintro e wq ⟨rfl, hbq⟩; have hBq : Below V.heap.size V wq := hB9.trans (hbq.mono hB9.size))
          | (go_at_call 16; refine (TB.out _ HBVd.out).mono ?_; rintro e wp ⟨aq, caq, rfl, ht8, ho8, hbp⟩; clear ho8; have x9 := (hbp.cell (p := ⟨w10.heap.size, 0, none⟩) hz10V).trans xV; have hB9 : Below V.heap.size V wp := (Below.refl _ V).drew.trans hbp; have ht9 : SdsAt wp wp.heap.size (.slice bx B.length dx) B := HTZV.out.below hB9))
        all_goals
          go_wp2_with fail
          go_meet
          exact ⟨rfl, hBq⟩
      case rest =>
        obtain ⟨rfl, hbc⟩ := hcut
        obtain ⟨X, hX⟩ : ∃ X, X = wc := ⟨_, rfl⟩
        rw [← hX] at hbc ⊢
        clear hX
        clear xV yV HTZV HBVd hzwV hz10V
        have HUX : Hid (Below U.heap.size U X) := HUV.out.trans (hbc.mono HUV.out.size)
        have HW11X : Hid (Below W11.heap.size W11 X) := HW11V.out.trans (hbc.mono HW11V.out.size)
        have HW9X : Hid (Below W9.heap.size W9 X) := HW9V.out.trans (hbc.mono HW9V.out.size)
        have HW10X : Hid (Below W10.heap.size W10 X) := HW10V.out.trans (hbc.mono HW10V.out.size)
        clear hbc HUV HW11V HW9V HW10V EA EB
        have xX : X.cell? ⟨w9.heap.size, 0, none⟩ = some (.slice ax A.length cx) := (HW9X.out.cell (p := ⟨w9.heap.size, 0, none⟩) (by have := HS9.out; show w9.heap.size < _; omega)).trans HX9.out
        have HXZ : Hid (X.cell? ⟨w10.heap.size, 0, none⟩ = some (.slice bx B.length dx)) := (HW10X.out.cell (p := ⟨w10.heap.size, 0, none⟩) (by have := HS10.out; show w10.heap.size < _; omega)).trans HX10.out
        have HXG : Hid (X.cell? ⟨w11.heap.size, 0, none⟩ = some (.slice ag F.length cg)) := (HW11X.out.cell (p := ⟨w11.heap.size, 0, none⟩) (by have := HS11.out; show w11.heap.size < _; omega)).trans HG11.out
        have HOXX : Hid (QRow X U.heap.size (.slice ax A.length cx) A) := QRow.below HOX.out HW9X.out
        have HOZX : Hid (QRow X W9.heap.size (.slice bx B.length dx) B) := QRow.below HOZ.out HW10X.out
        have HOGX : Hid (QRow X W10.heap.size (.slice ag F.length cg) F) := QRow.below HOG.out HW11X.out
        have SZ : Hid (U.heap.size ≤ w9.heap.size ∧ W9.heap.size = w9.heap.size + 1 ∧ W9.heap.size ≤ w10.heap.size ∧ W10.heap.size = w10.heap.size + 1 ∧ W10.heap.size ≤ w11.heap.size ∧ W11.heap.size = w11.heap.size + 1 ∧ W11.heap.size ≤ X.heap.size) := ⟨sz9.out, HS9.out, sz10.out, HS10.out, sz11.out, HS11.out, HW11X.out.size⟩
        have hz9X : w9.heap.size < X.heap.size := by have := SZ.out; omega
        clear HOX HOZ HOG HX9 HX10 HG11 HU9 HW910 HW1011 HW911 HU11 HTX HTZ HW9X HW10X HW11X hB9 hB10 hB11 sz9 sz10 sz11 HS9 HS10 HS11 hz9 hz910
        go_wp2_with fail
        refine (markBox_any U.heap.size A.length 1 _ _ _ HOXX.out (by omega) (by omega) (by omega)).mono ?_
        rintro e w13 ⟨rfl, ⟨ys13, hy13, hm13⟩, hg13⟩
        clear hy13 hm13 xX
        have hs13 := hg13.size
        have HU13 : Hid (Below U.heap.size U w13) := HUX.out.grown hg13 HUX.out.size (fun k hk => (HXB.out k hk).1)
        have HOZ13 : Hid (QRow w13 W9.heap.size (.slice bx B.length dx) B) := HOZX.out.far hg13 (fun g hg e => by have h1 := (HZB.out g hg).1; have h2 := (HXB.out g e.symm).2; have h3 := SZ.out; omega)
        have HOG13 : Hid (QRow w13 W10.heap.size (.slice ag F.length cg) F) := HOGX.out.far hg13 (fun g hg e => by have h1 := (HGB.out g hg).1; have h2 := (HXB.out g e.symm).2; have h3 := SZ.out; omega)
        have x13 : w13.cell? ⟨w10.heap.size, 0, none⟩ = some (.slice bx B.length dx) := far_cellB hg13 HXZ.out (by have := SZ.out; omega) (fun e => by have h2 := (HXB.out _ e.symm).2; have h3 := SZ.out; omega)
        have HG13 : Hid (w13.cell? ⟨w11.heap.size, 0, none⟩ = some (.slice ag F.length cg)) := far_cellB hg13 HXG.out (by have := SZ.out; omega) (fun e => by have h2 := (HXB.out _ e.symm).2; have h3 := SZ.out; omega)
        have hz1013 : w10.heap.size < w13.heap.size := by have := SZ.out; omega
        have SZ13 : Hid (X.heap.size ≤ w13.heap.size) := hs13
        clear hg13 HOXX HOZX HOGX HXZ HXG hz9X hs13
        go_wp2_with fail
        refine (markBox_any W9.heap.size B.length (1 + A.length * 2) _ _ _ HOZ13.out (by omega) (by omega) (by omega)).mono ?_
        rintro e w14 ⟨rfl, ⟨ys14, hy14, hm14⟩, hg14⟩
        clear hy14 hm14 x13
        have hs14 := hg14.size
        have HU14 : Hid (Below U.heap.size U w14) := HU13.out.grown hg14 HU13.out.size (fun k hk => by have h1 := (HZB.out k hk).1; have h2 := SZ.out; omega)
        have HOG14 : Hid (QRow w14 W10.heap.size (.slice ag F.length cg) F) := HOG13.out.far hg14 (fun g hg e => by have h1 := (HGB.out g hg).1; have h2 := (HZB.out g e.symm).2; have h3 := SZ.out; omega)
        have g14 : w14.cell? ⟨w11.heap.size, 0, none⟩ = some (.slice ag F.length cg) := far_cellB hg14 HG13.out (by have := SZ.out; have := SZ13.out; omega) (fun e => by have h2 := (HZB.out _ e.symm).2; have h3 := SZ.out; omega)
        have wz14 := (HWR.out _ HU14.out).2.1
        have hzz14 := (HWR.out _ HU14.out).2.2
        have hz1114 : w11.heap.size < w14.heap.size := by have := SZ.out; have := SZ13.out; omega
        have hk14 : (0 : Int) ≤ ((1 + A.length * 2 + B.length * 2 : Nat) : Int) := by omega
        clear hg14 HOZ13 HOG13 HG13 hz1013 hs14
        go_wp2_with fail
        refine (EQ.out _ _ _ (HOG14.out.at) (HWR.out _ HU14.out).1).mono ?_
        rintro e w15 ⟨rfl, hb15⟩
        have HU15 : Hid (Below U.heap.size U w15) := HU14.out.trans (hb15.mono HU14.out.size)
        have HOG15 : Hid (QRow w15 W10.heap.size (.slice ag F.length cg) F) := QRow.below HOG14.out hb15
        have g15 := (hb15.cell (p := ⟨w11.heap.size, 0, none⟩) hz1114).trans g14
        have hz1115 : w11.heap.size < w15.heap.size := by have := hb15.size; omega
        clear hb15 g14 wz14 hzz14 HOG14 HU14 hz1114
        go_wp2_with fail
        refine (markBox_any W10.heap.size F.length 1 _ _ _ HOG15.out (by omega) (by omega) (by omega)).mono ?_
        rintro e w16 ⟨rfl, ⟨ys16, hy16, hm16⟩, hg16⟩
        have HM16 : Hid (MarksAtSd w16 w16.heap.size (.slice ag F.length cg) F.length 1) := MarksAtSd.ownQ hy16 hm16 (by unfold maxLen; omega)
        have HU16 : Hid (Below U.heap.size U w16) := HU15.out.grown hg16 HU15.out.size (fun k hk => by have h1 := (HGB.out k hk).1; have h3 := SZ.out; omega)
        have g16 : w16.cell? ⟨w11.heap.size, 0, none⟩ = some (.slice ag F.length cg) := far_cellB hg16 g15 hz1115 (fun e => by have h2 := (HGB.out _ e.symm).2; omega)
        have hz1116 : w11.heap.size < w16.heap.size := by have := hg16.size; omega
        clear hy16 hm16 hg16 g15 HOG15 HU15 hz1115
        go_wp2_with fail
        refine (heldBox_any F.length 1 _ _ HM16.out (by omega) (by omega) (by omega)).mono ?_
        rintro e w17 ⟨rfl, hb17⟩
        have HU17 : Hid (Below U.heap.size U w17) := HU16.out.trans (hb17.mono HU16.out.size)
        have HM17 : Hid (MarksAtSd w17 w17.heap.size (.slice ag F.length cg) F.length 1) := HM16.out.below hb17
        have hmn : (0 : Int) ≤ ((1 + F.length * 2 : Nat) : Int) := by omega
        have G17 : Hid (w17.cell? ⟨w11.heap.size, 0, none⟩ = some (.slice ag F.length cg)) := (hb17.cell (p := ⟨w11.heap.size, 0, none⟩) hz1116).trans g16
        have hz1117 : w11.heap.size < w17.heap.size := by have := hb17.size; omega
        have HS217 := HB2.out _ HU17.out
        have yy := HF.out _ HS217
        have hzw17 := (DN.out _ HS217).2
        have hzw17a : w.heap.size < w17.heap.size := by omega
        have hzw17b : w.heap.size + 1 < w17.heap.size := by omega
        clear hb17 g16 HM16 HU16 hz1116
        obtain ⟨yy0, yy1⟩ := yy
        go_upto_region 31 with fail
        have HbU : Hid (Below (w.heap.size + 2) W2 w17) := HS217
        have HU2 : Hid (w.heap.size + 2 ≤ w17.heap.size) := hzw17
        have HBd : Hid (Below (w.heap.size + 2) W2 w17.drew) := HbU.out.drew
        have HBe : Hid (Below (w.heap.size + 2) W2 (w17.alloc zeBx).drew) := (HbU.out.alloc HU2.out zeBx).drew
        have hSd := HF.out _ HBd.out
        go_cut [15, 16] from 94 to 101 (fun s1 s2 wx => s2 = .bool ok ∧ KCutB F w17 s1 wx)
        case first =>
          clear EQ
          go_region_held3 (fun w' => w'.cell? ⟨w.heap.size, 0, none⟩ = some (.slice aa A.length capa) ∧ w'.cell? ⟨w.heap.size + 1, 0, none⟩ = some (.slice ab B.length capb))
            (first
              | with_reducible exact hSd
              | with_reducible exact HF.out _ HBe.out
              | with_reducible exact hSC
              | with_reducible exact hSB
              | with_reducible exact hSA
              | with_reducible exact HF.out _ (hA2.alloc hA3 _)
              | with_reducible exact HF.out _ (hB2.alloc hB3 _)
              | with_reducible exact HF.out _ (hC2.alloc hC3 _)
              | with_reducible exact HF.out _ (hC2.setCell (p := ⟨w17.heap.size, 0, none⟩) HU2.out _)
              | with_reducible exact HF.out _ (hC2.setCell (p := ⟨wA.heap.size, 0, none⟩) hA3 _)
              | with_reducible exact HF.out _ (hC2.setCell (p := ⟨wB.heap.size, 0, none⟩) hB3 _)
              | go_keep)
            (first
              | (go_at_call 30; refine (CI.out wB _ _ HTA htB).mono ?_; rintro e wC ⟨aC, cC, rfl, hoC, hbC⟩; have hBC : Below wB.heap.size wB wC := hbC; have hUC : Below w17.heap.size w17 wC := hUB.trans (hBC.mono hUB.size); have hC2 : Below (w.heap.size + 2) W2 wC := HbU.out.trans (hUC.mono HU2.out); have hSC := HF.out _ hC2; have hC3 : w.heap.size + 2 ≤ wC.heap.size := (by have h1 := hUC.size; have h2 := HU2.out; omega); have sUA := hUA.size; have sAB := hAB.size; have sBC := hBC.size; have hpB := PB.out; have hC1 := hpB.1.kept (hBC.block _ hpB.2); have hz9 := Nat.lt_of_lt_of_le hpB.2 sBC; have HREL := kcutB_A hUC (by omega) hpB.2 sBC hoC hC1; obtain ⟨c9, z9⟩ := hC1)
              | (go_at_call 30; refine (CI.out (wB.alloc zeBx) _ _ (HTA.below ((Below.refl _ wB).alloc (Nat.le_refl _) zeBx)) (htB.below ((Below.refl _ wB).alloc (Nat.le_refl _) zeBx))).mono ?_; rintro e wC ⟨aC, cC, rfl, hoC, hbC⟩; have hBC : Below wB.heap.size wB wC := oneX_below hbC; have hUC : Below w17.heap.size w17 wC := hUB.trans (hBC.mono hUB.size); have hC2 : Below (w.heap.size + 2) W2 wC := HbU.out.trans (hUC.mono HU2.out); have hSC := HF.out _ hC2; have hC3 : w.heap.size + 2 ≤ wC.heap.size := (by have h1 := hUC.size; have h2 := HU2.out; omega); have sUA := hUA.size; have sAB := hAB.size; have sBC := hBC.size; have hC1 := oneX_new hbC; have hz9 := oneX_lt hbC; have HREL := kcutB_A hUC (by omega) (by simp) hbC.size hoC hC1; obtain ⟨c9, z9⟩ := hC1)
              | (go_at_call 30; refine (CI.out wB _ _ HTA htB).mono ?_; rintro e wC ⟨aC, cC, rfl, hoC, hbC⟩; have hBC : Below wB.heap.size wB wC := hbC; have hUC : Below w17.heap.size w17 wC := hUB.trans (hBC.mono hUB.size); have hC2 : Below (w.heap.size + 2) W2 wC := HbU.out.trans (hUC.mono HU2.out); have hSC := HF.out _ hC2; have hC3 : w.heap.size + 2 ≤ wC.heap.size := (by have h1 := hUC.size; have h2 := HU2.out; omega); have sUA := hUA.size; have sAB := hAB.size; have sBC := hBC.size; have HREL := kcutB_B hUC hoC)
              | (go_at_call 16; refine (TB.out _ hA2).mono ?_; rintro e wB ⟨aB, cB, rfl, htB, hoB, hbB⟩; have hAB : Below wA.heap.size wA wB := hbB; have hpA := PA.out; have PB : Hid (OneX wB w17.heap.size ∧ w17.heap.size < wB.heap.size) := ⟨hpA.1.kept (hAB.block _ hpA.2), by have h := hAB.size; omega⟩; have hUB : Below w17.heap.size w17 wB := hUA.trans (hAB.mono hUA.size); have hB2 : Below (w.heap.size + 2) W2 wB := HbU.out.trans (hUB.mono HU2.out); have hSB := HF.out _ hB2; have HTA := htA.below hAB; have hB3 : w.heap.size + 2 ≤ wB.heap.size := (by have h1 := hUB.size; have h2 := HU2.out; omega))
              | (go_at_call 16; refine (TB.out _ (hA2.alloc hA3 zeBx)).mono ?_; rintro e wB ⟨aB, cB, rfl, htB, hoB, hbB⟩; have hAB : Below wA.heap.size wA wB := oneX_below hbB; have PB : Hid (OneX wB wA.heap.size ∧ wA.heap.size < wB.heap.size) := ⟨oneX_new hbB, oneX_lt hbB⟩; have hUB : Below w17.heap.size w17 wB := hUA.trans (hAB.mono hUA.size); have hB2 : Below (w.heap.size + 2) W2 wB := HbU.out.trans (hUB.mono HU2.out); have hSB := HF.out _ hB2; have HTA := htA.below hAB; have hB3 : w.heap.size + 2 ≤ wB.heap.size := (by have h1 := hUB.size; have h2 := HU2.out; omega))
              | (go_at_call 16; refine (TB.out _ hA2).mono ?_; rintro e wB ⟨aB, cB, rfl, htB, hoB, hbB⟩; have hAB : Below wA.heap.size wA wB := hbB; have hUB : Below w17.heap.size w17 wB := hUA.trans (hAB.mono hUA.size); have hB2 : Below (w.heap.size + 2) W2 wB := HbU.out.trans (hUB.mono HU2.out); have hSB := HF.out _ hB2; have HTA := htA.below hAB; have hB3 : w.heap.size + 2 ≤ wB.heap.size := (by have h1 := hUB.size; have h2 := HU2.out; omega))
              | (go_at_call 16; refine (TA.out _ HBe.out).mono ?_; rintro e wA ⟨aA, cA, rfl, htA, hoA, hbA⟩; have hUA : Below w17.heap.size w17 wA := oneX_below (oneX_drew hbA); have PA : Hid (OneX wA w17.heap.size ∧ w17.heap.size < wA.heap.size) := ⟨oneX_new (oneX_drew hbA), oneX_lt (oneX_drew hbA)⟩; have hA2 : Below (w.heap.size + 2) W2 wA := HbU.out.trans (hUA.mono HU2.out); have hSA := HF.out _ hA2; have hA3 : w.heap.size + 2 ≤ wA.heap.size := (by have h1 := hUA.size; have h2 := HU2.out; omega))
              | (go_at_call 16; refine (TA.out _ HBd.out).mono ?_; rintro e wA ⟨aA, cA, rfl, htA, hoA, hbA⟩; have hUA : Below w17.heap.size w17 wA := (Below.refl _ w17).drew.trans hbA; have hA2 : Below (w.heap.size + 2) W2 wA := HbU.out.trans (hUA.mono HU2.out); have hSA := HF.out _ hA2; have hA3 : w.heap.size + 2 ≤ wA.heap.size := (by have h1 := hUA.size; have h2 := HU2.out; omega)))
          all_goals
            go_wp2_with fail
            go_meet
            exact ⟨rfl, HREL⟩
        case rest =>
          obtain ⟨rfl, hzz, ah, ch, rfl, hch, hth, hhz, hb18⟩ := hcut
          have hU18 : Below U.heap.size U wc := HU17.out.trans (hb18.mono HU17.out.size)
          have wz18 := (HWR.out _ hU18).2.1
          have hzz18 := (HWR.out _ hU18).2.2
          clear hSd HBd HBe HbU HU2 yy0 yy1
          go_wp2_with fail
          refine (EQ.out _ _ _ hth (HWR.out _ hU18).1).mono ?_
          rintro e w19 ⟨rfl, hb19⟩
          have HB19 : Hid (Below w17.heap.size w17 w19) := hb18.trans (hb19.mono hb18.size)
          have g19 := (HB19.out.cell (p := ⟨w11.heap.size, 0, none⟩) hz1117).trans G17.out
          have HM19 : Hid (MarksAtSd w19 w19.heap.size (.slice ag F.length cg) F.length 1) := HM17.out.below HB19.out
          have hz1119 : w11.heap.size < w19.heap.size := by have := HB19.out.size; omega
          clear hb19 wz18 hzz18 hch
          go_wp2_with fail
          refine (heldBox_any F.length 1 _ _ HM19.out (by omega) (by omega) (by omega)).mono ?_
          rintro e w20 ⟨rfl, hb20⟩
          have hB20 : Below w.heap.size w w20 := (DN.out _ (HB2.out _ (HU17.out.trans ((HB19.out.trans (hb20.mono HB19.out.size)).mono HU17.out.size)))).1
          clear hb20 g19
          go_wp2
          go_ret
          exact ⟨rfl, hB20⟩

namespace fnExactHullOf
open Go.ChangeShapes Go.WideShapes Go.ChangeAt

theorem own : ownKnob Try.prog.godebug = none := by kernel_rfl
theorem laidOut : laidOutB Try.prog = true := by kernel_rfl

set_option maxRecDepth 100000 in
theorem lifted (os : Os) (started : os.Started) (H : Type) (enc : TypeId × Value → H) :
    ReturnsInHanded {} Try.checked os 7 .any (Rows.fnExactHullOfSpec.pre6 enc Try.prog Try.f7 Rows.fnExactHullOfRow.domain false) (Rows.fnExactHullOfSpec.post enc Try.prog Try.f7 false true false false) := by
  refine returnsInHanded_of_change (C := Try.checked) own started (by kernel_rfl) Try.func7
    (ChangeSpec.witness6 (enc := enc) (C := Try.checked) false ⟨#[], #[.agg #[.slice none 0 0], .agg #[.slice none 0 0]], []⟩ 8 (by kernel_rfl) (by kernel_rfl) (by kernel_rfl) (by kernel_rfl)) ?_
  intro W base args ds gs before hval0 hW hcnd _
  have hval : ∀ (j : Nat) t v, Try.f7.params[j]? = some t → args[j]? = some v → Value.okWide Try.prog W .any base t v := hval0
  have hW' := hW
  obtain ⟨p, q, hA0, hV, rfl, hfz, hnd⟩ := hW
  have hA : DataW.TrodAll enc Try.prog W 0 (fun _ => true) true Try.f7.params.toList args.toList ds p := hA0
  rw [Try.params7] at hA hval
  obtain ⟨v0, vs0, d0, ds0, p0, q0, hargs, rfl, rfl, h0, r0⟩ := trodAll_cons hA
  obtain ⟨v1, vs1, d1, ds1, p1, q1, rfl, rfl, rfl, h1, r1⟩ := trodAll_cons r0
  obtain ⟨rfl, rfl, rfl⟩ := trodAll_nil r1
  obtain rfl : args = #[v0, v1] := by cases args; simp_all
  obtain ⟨rfl, rfl⟩ := trodVars_none hV
  have h0k := h0
  have h1k := h1
  obtain ⟨v, T, rfl, hT⟩ := open_box (hval 0 24 v0 rfl rfl) h0
  obtain ⟨v', T', rfl, hT'⟩ := open_box (hval 1 24 v1 rfl rfl) h1
  clear hA0 hval0
  have hlt : ∀ x ∈ p0, x.block < W.heap.size := fun x hx => by
    have := hW'.lt x (by simp_all)
    simpa using this
  have hlt1 : ∀ x ∈ p1, x.block < W.heap.size := fun x hx => by
    have := hW'.lt x (by simp_all)
    simpa using this
  refine (walkFnExactHullOf T T' v v' W hT hT').mono fun e W' ⟨he, hg⟩ => ?_
  subst he
  exact ⟨_, rfl, _, _, _, [], _, [], hW', trodAll_mk1 (shut_bool Try.underlying4 _), (trodAll_cons_mk (Below.trod laidOut (by kernel_rfl) (of_decide_eq_true (by kernel_rfl)) h0k hg hlt) (trodAll_cons_mk (Below.trod laidOut (by kernel_rfl) (of_decide_eq_true (by kernel_rfl)) h1k hg hlt1) trodAll_mk0)), rfl, hg.frame _, fun h => by cases h⟩

theorem over : Rows.fnExactHullOfRow.holds Try.pinned (OpenSpec.ofChange Rows.fnExactHullOfSpec) :=
  OpenClaim.holds_of_wide 7 Try.f7 rfl rfl rfl rfl rfl rfl rfl ⟨rfl, rfl, rfl, rfl, rfl⟩ rfl rfl rfl rfl rfl (by kernel_rfl) Try.func7 (by kernel_rfl)
    (of_decide_eq_true (by kernel_rfl)) (by unfold Func.isWrapper; first | (rw [if_pos (by decide +kernel)]; kernel_rfl) | (rw [if_neg (by decide +kernel)]; exact ⟨rfl, rfl⟩))
    (fun os started H enc _ => lifted os started H enc)

end fnExactHullOf

theorem fnExactHullOf_holds : Rows.FnExactHullOfSaid := fnExactHullOf.over
#print axioms fnExactHullOf_holds
end Go.Proofs.Ytaddiljgpeidgaa
