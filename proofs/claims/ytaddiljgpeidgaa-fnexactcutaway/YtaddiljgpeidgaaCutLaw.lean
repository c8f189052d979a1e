/- Proved here: at every two boxes the law FnExactCutAway answers true, that is, CutAway answers as its model, its answer owns its memory, and it writes into nothing.
   Conditions: none beside the row's own. -/
import Derived.Test.YtaddiljgpeidgaaByF
import Derived.Test.YtaddiljgpeidgaaBxO
import Derived.Deep.RegionWith
import Derived.Deep.DeepCutAuto
namespace Go.Proofs.Ytaddiljgpeidgaa
open Go.RowKit Plain Sch Bxs

theorem cto_len (T U : List Sd) : (cto T U).length ≤ 6 := by
  unfold cto
  split
  · rw [List.length_map]; exact cut_len _ _
  · simp

theorem cto_each (T U : List Sd) {i : Nat} (h : i < (cto T U).length) : (mx (cto T U) i).length = 3 := by
  unfold cto at h ⊢
  split at h
  · rename_i hc
    rw [if_pos hc]
    unfold mx
    rw [List.getD, List.getElem?_eq_getElem h]
    simp only [Option.getD_some, List.getElem_map]
    rfl
  · simp at h

theorem pl_small {M : List (List Sd)} (h : ∀ i, i < M.length → (mx M i).length = 3) : ∀ i, i ≤ M.length → pl M i = 3 * i := by
  intro i
  induction i with
  | zero => intro _; rfl
  | succ i ih => intro hi; rw [pl_step (by omega), ih (by omega), h i (by omega)]; omega

theorem BOwn.grown {w w' : World} {B : Nat} {v : Value} {M : List (List Sd)} {us : List Value} {row : Option Nat} (h : BOwn w B v M us) (hg : w.grownBy w' row) (hne : ∀ g, row = some g → g < B) : BOwn w' B v M us := by
  refine ⟨own_beside h.1 hg (fun g hv e => by have h1 := (World.ownsRow.lt h.1 g hv).1; have h2 := hne g e.symm; omega), fun i hi => ?_, h.2.2⟩
  obtain ⟨u, h1, h2, h3⟩ := h.2.1 i hi
  have hl := h2.lt
  obtain ⟨ty, h2⟩ := h2
  exact ⟨u, h1, ⟨ty, own_beside h2 hg (fun g hv e => by have h1 := (hl g hv).1; have h2 := hne g e.symm; omega)⟩, h3⟩

/-- an answer's list of boxes -/
def CK (M : List (List Sd)) (s : Value) (wx : World) : Prop := ∃ a c, s = .slice a M.length c ∧ BxsAt wx wx.heap.size (.slice a M.length c) M

theorem ck_own {w : World} {B : Nat} {v : Value} {M : List (List Sd)} {us : List Value} (h : BOwn w B v M us) : CK M v w := by
  obtain ⟨a, c, rfl⟩ := h.slice
  exact ⟨a, c, rfl, h.at⟩

set_option maxRecDepth 100000 in
set_option maxHeartbeats 8000000 in
theorem walkFnExactCutAway (A B : List Sd) (v1 v2 : Value) (w : World) (hA : SdsAt w w.heap.size v1 A) (hB : SdsAt w w.heap.size v2 B) :
    Calls Try.prog 10 #[.agg #[v1], .agg #[v2]] w fun e w' => e = .returned (.bool true) ∧ Below w.heap.size w w' := by
  have HA : Hid (SdsAt w w.heap.size v1 A) := hA
  have HB : Hid (SdsAt w w.heap.size v2 B) := hB
  obtain ⟨aa, capa, rfl, _⟩ := hA
  obtain ⟨ab, capb, rfl, _⟩ := hB
  obtain ⟨W2, hW2⟩ : ∃ W, W = (w.alloc (.cells #[.slice aa A.length capa] 24)).alloc (.cells #[.slice ab B.length capb] 24) := ⟨_, rfl⟩
  have hB1 : Below w.heap.size w W2 := by rw [hW2]; exact ((Below.refl _ w).alloc (Nat.le_refl _) _).alloc (by simp) _
  have hs2 : W2.heap.size = w.heap.size + 2 := by rw [hW2]; simp
  have X0 : Hid (W2.cell? ⟨w.heap.size, 0, none⟩ = some (.slice aa A.length capa)) := by show _ = _; rw [hW2]; go_simp
  have X1 : Hid (W2.cell? ⟨w.heap.size + 1, 0, none⟩ = some (.slice ab B.length capb)) := by show _ = _; rw [hW2]; go_simp
  have c0 : ∀ W : World, Below (w.heap.size + 2) W2 W → W.cell? ⟨w.heap.size, 0, none⟩ = some (.slice aa A.length capa) := fun W hW => (hW.cell (p := ⟨w.heap.size, 0, none⟩) (by show w.heap.size < _; omega)).trans X0.out
  have c1 : ∀ W : World, Below (w.heap.size + 2) W2 W → W.cell? ⟨w.heap.size + 1, 0, none⟩ = some (.slice ab B.length capb) := fun W hW => (hW.cell (p := ⟨w.heap.size + 1, 0, none⟩) (by show w.heap.size + 1 < _; omega)).trans X1.out
  have dn : ∀ W : World, Below (w.heap.size + 2) W2 W → Below w.heap.size w W := fun W hW => hB1.trans (hW.mono (by omega))
  have C0 : Hid (∀ W : World, Below (w.heap.size + 2) W2 W → W.cell? ⟨w.heap.size, 0, none⟩ = some (.slice aa A.length capa)) := c0
  have C1 : Hid (∀ W : World, Below (w.heap.size + 2) W2 W → W.cell? ⟨w.heap.size + 1, 0, none⟩ = some (.slice ab B.length capb)) := c1
  have DN : Hid (∀ W : World, Below (w.heap.size + 2) W2 W → Below w.heap.size w W) := dn
  have BR : Hid (Below (w.heap.size + 2) W2 W2) := Below.refl _ _
  have y0 := C0.out _ BR.out
  have y1 := C1.out _ BR.out
  clear c0 c1 dn X0 X1
  go_enter Try.func10, Try.ntmps10
  go_wp2_with fail
  rw [← hW2]
  clear hW2
  refine (szBox_any A _ _ (HA.out.below hB1)).mono ?_
  rintro e w3 ⟨⟨r, rfl, hr0, hr1, hr2⟩, hb3⟩
  have hbw3 : Below (w.heap.size + 2) W2 w3 := hb3.mono (by omega)
  have y0 := C0.out _ hbw3
  have y1 := C1.out _ hbw3
  have hz3 : w.heap.size + 1 < w3.heap.size := by have := hb3.size; omega
  clear hb3
  by_cases hneg : r < 0
  · clear hr2
    go_wp2
    go_ret
    exact ⟨rfl, DN.out _ hbw3⟩
  have hlenA := hr2 (by omega)
  clear hr2
  go_wp2_with fail
  refine (szBox_lft B _ r _ (HB.out.below (DN.out _ hbw3)) (by omega) (by omega)).mono ?_
  rintro e w4 ⟨⟨r2, rfl, hr20, hr21, hr22⟩, hb4⟩
  have hbw4 : Below (w.heap.size + 2) W2 w4 := hbw3.trans (hb4.mono (by omega))
  have hz4 : w.heap.size + 1 < w4.heap.size := by have := hb4.size; omega
  have y0 := C0.out _ hbw4
  have y1 := C1.out _ hbw4
  clear hb4 hbw3
  by_cases hneg2 : r2 < 0
  · clear hr22
    go_wp2
    go_ret
    exact ⟨rfl, DN.out _ hbw4⟩
  have hlenB := hr22 (by omega)
  clear hr22
  have TA : Hid (∀ W : World, Below (w.heap.size + 2) W2 W → Calls Try.prog 16 #[.agg #[.slice aa A.length capa]] W fun e w' => ∃ ar capr, e = .returned (.agg #[.slice ar A.length capr]) ∧ SdsAt w' w'.heap.size (.slice ar A.length capr) A ∧ QRow w' W.heap.size (.slice ar A.length capr) A ∧ Below W.heap.size W w') := fun W hW => by
    refine (toBox_any A _ W (HA.out.below (DN.out _ hW)) hlenA).mono ?_
    rintro e w' ⟨r, rfl, ho, hb⟩
    have ht := SdsAt.own ho
    obtain ⟨ar, capr, rfl, _⟩ := id ht
    exact ⟨ar, capr, rfl, ht, ⟨_, ho⟩, hb⟩
  have TB : Hid (∀ W : World, Below (w.heap.size + 2) W2 W → Calls Try.prog 16 #[.agg #[.slice ab B.length capb]] W fun e w' => ∃ ar capr, e = .returned (.agg #[.slice ar B.length capr]) ∧ SdsAt w' w'.heap.size (.slice ar B.length capr) B ∧ QRow w' W.heap.size (.slice ar B.length capr) B ∧ Below W.heap.size W w') := fun W hW => by
    refine (toBox_any B _ W (HB.out.below (DN.out _ hW)) hlenB).mono ?_
    rintro e w' ⟨r, rfl, ho, hb⟩
    have ht := SdsAt.own ho
    obtain ⟨ar, capr, rfl, _⟩ := id ht
    exact ⟨ar, capr, rfl, ht, ⟨_, ho⟩, hb⟩
  have EA : Hid (∀ (W : World) (v1 v2 : Value), SdsAt W W.heap.size v1 A → SdsAt W W.heap.size v2 A → Calls Try.prog 18 #[.agg #[v1], .agg #[v2]] W fun e w' => e = .returned (.bool true) ∧ Below W.heap.size W w') := fun W v1 v2 h1 h2 => eqBox_same A v1 v2 W h1 h2 (by omega)
  have EB : Hid (∀ (W : World) (v1 v2 : Value), SdsAt W W.heap.size v1 B → SdsAt W W.heap.size v2 B → Calls Try.prog 18 #[.agg #[v1], .agg #[v2]] W fun e w' => e = .returned (.bool true) ∧ Below W.heap.size W w') := fun W v1 v2 h1 h2 => eqBox_same B v1 v2 W h1 h2 (by omega)
  obtain ⟨M, hM⟩ : ∃ M, M = cto A B := ⟨_, rfl⟩
  obtain ⟨ok, hok⟩ : ∃ ok, ok = (gb A && gb B) := ⟨_, rfl⟩
  have hMl : M.length ≤ 6 := by rw [hM]; exact cto_len A B
  have HME : Hid (∀ i, i < M.length → (mx M i).length = 3) := fun i hi => by rw [hM] at hi ⊢; exact cto_each A B hi
  have HPL : Hid (pl M M.length ≤ 18) := by show _ ≤ _; rw [pl_small HME.out M.length (Nat.le_refl _)]; omega
  have CS : Hid (∀ (W : World) (v1 v2 : Value), SdsAt W W.heap.size v1 A → SdsAt W W.heap.size v2 B → Calls Try.prog 41 #[.agg #[v1], .agg #[v2]] W fun e w' => ∃ a c, e = .returned (.tuple #[.slice a M.length c, .bool ok]) ∧ BxsAt w' w'.heap.size (.slice a M.length c) M ∧ Below W.heap.size W w') := fun W v1 v2 h1 h2 => by
    rw [hM, hok]
    refine (specCut A B v1 v2 W h1 h2).mono ?_
    rintro e w' ⟨⟨r, rfl, us, ho⟩, hb⟩
    obtain ⟨a, c, rfl⟩ := ho.slice
    exact ⟨a, c, rfl, ho.at, hb⟩
  have CI : Hid (∀ (W : World) (v1 v2 : Value), SdsAt W W.heap.size v1 A → SdsAt W W.heap.size v2 B → Calls Try.prog 42 #[.agg #[v1], .agg #[v2]] W fun e w' => ∃ a c, e = .returned (.tuple #[.slice a M.length c, .bool ok]) ∧ (∃ us, BOwn w' W.heap.size (.slice a M.length c) M us) ∧ Below W.heap.size W w') := fun W v1 v2 h1 h2 => by
    rw [hM, hok]
    refine (implCut A B v1 v2 W h1 h2).mono ?_
    rintro e w' ⟨⟨r, rfl, us, ho⟩, hb⟩
    obtain ⟨a, c, rfl⟩ := ho.slice
    exact ⟨a, c, rfl, ⟨us, ho⟩, hb⟩
  have EM : Hid (∀ (W : World) (v1 v2 : Value), BxsAt W W.heap.size v1 M → BxsAt W W.heap.size v2 M → Calls Try.prog 35 #[v1, v2] W fun e w' => e = .returned (.bool true) ∧ Below W.heap.size W w') := fun W v1 v2 h1 h2 => eqBoxS_same M v1 v2 W h1 h2 (by omega) (fun i hi => by rw [HME.out i hi]; omega)
  clear hM hok HA HB
  have hbw4d : Hid (Below (w.heap.size + 2) W2 w4.drew) := hbw4.drew
  go_upto_region 8 with fail
  go_cut [6, 7] (fun s6 s7 wx => s7 = .bool ok ∧ CK M s6 wx ∧ Below (w.heap.size + 2) W2 wx)
  case first =>
    go_region_with (first
      | (go_at_call 41; refine (CS.out _ _ _ hta6 htb).mono ?_; rintro e w7 ⟨a7, c7, rfl, hx7, hb7⟩; have hbw7 : Below (w.heap.size + 2) W2 w7 := hbw6.trans (hb7.mono (by have := hbw6.size; omega)))
      | (go_at_call 16; refine (TB.out _ hbw5).mono ?_; rintro e w6 ⟨br, capbr, rfl, htb, hqb, hb6⟩; have hbw6 : Below (w.heap.size + 2) W2 w6 := hbw5.trans (hb6.mono (by have := hbw5.size; omega)); have hta6 := hta.below hb6)
      | (go_at_call 16; refine (TA.out _ hbw4d.out).mono ?_; rintro e w5 ⟨ar, capar, rfl, hta, hqa, hb5⟩; have hbw5 : Below (w.heap.size + 2) W2 w5 := hbw4.drew.trans (hb5.mono (by have := hbw4.size; simp; omega)); have y15 := C1.out _ hbw5))
    all_goals
      go_wp2_with fail
      go_meet
      exact ⟨rfl, ⟨_, _, rfl, hx7⟩, hbw7⟩
  case rest =>
    obtain ⟨rfl, ⟨a0, c0, rfl, hx0⟩, hbc⟩ := hcut
    obtain ⟨U, rfl⟩ : ∃ W, W = wc := ⟨_, rfl⟩
    have y0 := C0.out _ hbc
    have y1 := C1.out _ hbc
    have hzc : w.heap.size + 1 < U.heap.size := by have := hbc.size; omega
    have HW0 : Hid (∀ W, Below U.heap.size U W → BxsAt W W.heap.size (.slice a0 M.length c0) M) := fun W h => hx0.below h
    have HUU : Hid (∀ W, Below U.heap.size U W → Below (w.heap.size + 2) W2 W) := fun W h => hbc.trans (h.mono (by omega))
    clear hbw4 hbw4d CS hx0
    go_wp2_with fail
    refine (TA.out _ hbc).mono ?_
    rintro e w5 ⟨ar, car, rfl, _, hqa, hb5⟩
    obtain ⟨W5, hW5⟩ : ∃ W, W = w5.alloc (.cells #[.slice ar A.length car] 29) := ⟨_, rfl⟩
    have hB55 : Below w5.heap.size w5 W5 := by rw [hW5]; exact (Below.refl _ w5).alloc (Nat.le_refl _) _
    have HB5 : Hid (Below U.heap.size U W5) := hb5.trans (hB55.mono hb5.size)
    have x5 : Hid (W5.cell? ⟨w5.heap.size, 0, none⟩ = some (.slice ar A.length car)) := by show _ = _; rw [hW5]; go_simp
    have HQ5 : Hid (QRow W5 U.heap.size (.slice ar A.length car) A) := hqa.below hB55
    have hz5 : w5.heap.size < W5.heap.size := by rw [hW5]; simp
    have hzU : U.heap.size ≤ w5.heap.size := hb5.size
    have y1 := C1.out _ (HUU.out _ HB5.out)
    have hy5 : w.heap.size + 1 < W5.heap.size := by omega
    go_upto_region 10 with fail
    rw [← hW5]
    clear hW5 hb5 hB55 hqa y0
    go_wp2_with fail
    refine (TB.out _ (HUU.out _ HB5.out)).mono ?_
    rintro e w6 ⟨br, cbr, rfl, _, hqb, hb6⟩
    obtain ⟨W6, hW6⟩ : ∃ W, W = w6.alloc (.cells #[.slice br B.length cbr] 29) := ⟨_, rfl⟩
    have hB66 : Below w6.heap.size w6 W6 := by rw [hW6]; exact (Below.refl _ w6).alloc (Nat.le_refl _) _
    have hB56 : Below W5.heap.size W5 W6 := hb6.trans (hB66.mono hb6.size)
    have HB6 : Hid (Below U.heap.size U W6) := HB5.out.trans (hB56.mono (by omega))
    have z6 : W6.cell? ⟨w6.heap.size, 0, none⟩ = some (.slice br B.length cbr) := by rw [hW6]; go_simp
    have x6 := (hB56.cell (p := ⟨w5.heap.size, 0, none⟩) hz5).trans x5.out
    have HQA6 : Hid (QRow W6 U.heap.size (.slice ar A.length car) A) := HQ5.out.below hB56
    have HQB6 : Hid (QRow W6 W5.heap.size (.slice br B.length cbr) B) := hqb.below hB66
    have HRA : Hid (∀ g, (Value.slice ar A.length car).ownBlock = some g → U.heap.size ≤ g ∧ g < W5.heap.size) := HQ5.out.lt
    have HRB : Hid (∀ g, (Value.slice br B.length cbr).ownBlock = some g → W5.heap.size ≤ g ∧ g < w6.heap.size) := hqb.lt
    have hz6 : w6.heap.size < W6.heap.size := by rw [hW6]; simp
    have hz56 : w5.heap.size < W6.heap.size := by have := hB56.size; omega
    have hz5w6 : W5.heap.size ≤ w6.heap.size := hb6.size
    go_upto_region 11 with fail
    rw [← hW6]
    clear hW6 hb6 hB66 hB56 hqb y1 HQ5 HB5 x5
    go_wp2_with fail
    refine (CI.out _ _ _ HQA6.out.at HQB6.out.at).mono ?_
    rintro e w7 ⟨a7, c7, rfl, ⟨us, ho7⟩, hb7⟩
    have HO7 : Hid (BOwn w7 W6.heap.size (.slice a7 M.length c7) M us) := ho7
    have HUS : Hid (∀ u ∈ us, ∀ g, u.ownBlock = some g → W6.heap.size ≤ g) := fun u hu g hg => by
      obtain ⟨i, hi, he⟩ := List.getElem_of_mem hu
      have hil : i < M.length := by have := ho7.1.1; omega
      obtain ⟨u', hu', hq, _⟩ := ho7.2.1 i hil
      rw [List.getElem?_eq_getElem hi, he] at hu'
      simp at hu'
      subst hu'
      exact (hq.lt g hg).1
    have HB7 : Hid (Below U.heap.size U w7) := HB6.out.trans (hb7.mono HB6.out.size)
    have HQA7 : Hid (QRow w7 U.heap.size (.slice ar A.length car) A) := HQA6.out.below hb7
    have HQB7 : Hid (QRow w7 W5.heap.size (.slice br B.length cbr) B) := HQB6.out.below hb7
    have X7 : Hid (w7.cell? ⟨w5.heap.size, 0, none⟩ = some (.slice ar A.length car)) := (hb7.cell (p := ⟨w5.heap.size, 0, none⟩) hz56).trans x6
    have Z7 : Hid (w7.cell? ⟨w6.heap.size, 0, none⟩ = some (.slice br B.length cbr)) := (hb7.cell (p := ⟨w6.heap.size, 0, none⟩) hz6).trans z6
    have hs7 := hb7.size
    clear ho7 hb7 HQA6 HQB6 x6 z6 HB6
    go_wp2_with fail
    refine (EM.out _ _ _ HO7.out.at (HW0.out _ HB7.out)).mono ?_
    rintro e w8 ⟨rfl, hb8⟩
    have HO8 : Hid (BOwn w8 W6.heap.size (.slice a7 M.length c7) M us) := HO7.out.below hb8
    have HB8 : Hid (Below U.heap.size U w8) := HB7.out.trans (hb8.mono HB7.out.size)
    have HQA8 : Hid (QRow w8 U.heap.size (.slice ar A.length car) A) := HQA7.out.below hb8
    have HQB8 : Hid (QRow w8 W5.heap.size (.slice br B.length cbr) B) := HQB7.out.below hb8
    have x8 := (hb8.cell (p := ⟨w5.heap.size, 0, none⟩) (by show w5.heap.size < _; omega)).trans X7.out
    have Z8 : Hid (w8.cell? ⟨w6.heap.size, 0, none⟩ = some (.slice br B.length cbr)) := (hb8.cell (p := ⟨w6.heap.size, 0, none⟩) (by show w6.heap.size < _; omega)).trans Z7.out
    have hs8 := hb8.size
    clear hb8 HO7 HB7 HQA7 HQB7 X7 Z7
    have hbw8 := HUU.out _ HB8.out
    have y0 := C0.out _ hbw8
    have hzw8 : w.heap.size + 1 < w8.heap.size := by omega
    have hz58 : w5.heap.size < w8.heap.size := by omega
    have hbw8d : Hid (Below (w.heap.size + 2) W2 w8.drew) := hbw8.drew
    have HTA8 : Hid (SdsAt w8 w8.heap.size (.slice ar A.length car) A) := HQA8.out.at
    go_upto_region 14 with fail
    go_cut [58] (fun s58 wx => s58 = .bool false ∧ Below w8.heap.size w8 wx)
    case first =>
      go_region_with (first
        | (go_at_call 18; refine (EA.out _ _ _ ht9 ht8).mono ?_; rintro e w10 ⟨rfl, hb10⟩; have hB10 : Below w8.heap.size w8 w10 := hB9.trans (hb10.mono hB9.size))
        | (go_at_call 16; refine (TA.out _ hbw8d.out).mono ?_; rintro e w9 ⟨aq, caq, rfl, ht8, _, hb9⟩; have x9 := (hb9.cell (p := ⟨w5.heap.size, 0, none⟩) hz58).trans x8; have hB9 : Below w8.heap.size w8 w9 := (Below.refl _ w8).drew.trans hb9; have ht9 : SdsAt w9 w9.heap.size (.slice ar A.length car) A := HTA8.out.below hB9))
      all_goals
        go_wp2_with fail
        go_meet
        exact ⟨rfl, hB10⟩
    case rest =>
      obtain ⟨rfl, hbd⟩ := hcut
      obtain ⟨wd, rfl⟩ : ∃ W, W = wc := ⟨_, rfl⟩
      have HOd : Hid (BOwn wd W6.heap.size (.slice a7 M.length c7) M us) := HO8.out.below hbd
      have HBd : Hid (Below U.heap.size U wd) := HB8.out.trans (hbd.mono HB8.out.size)
      have HQAd : Hid (QRow wd U.heap.size (.slice ar A.length car) A) := HQA8.out.below hbd
      have HQBd : Hid (QRow wd W5.heap.size (.slice br B.length cbr) B) := HQB8.out.below hbd
      have Xd : Hid (wd.cell? ⟨w5.heap.size, 0, none⟩ = some (.slice ar A.length car)) := (hbd.cell (p := ⟨w5.heap.size, 0, none⟩) hz58).trans x8
      have zd := (hbd.cell (p := ⟨w6.heap.size, 0, none⟩) (by show w6.heap.size < _; omega)).trans Z8.out
      have hsd := hbd.size
      have hbwd := HUU.out _ HBd.out
      have y1 := C1.out _ hbwd
      have hzwd : w.heap.size + 1 < wd.heap.size := by omega
      have hz6d : w6.heap.size < wd.heap.size := by omega
      have hbwdd : Hid (Below (w.heap.size + 2) W2 wd.drew) := hbwd.drew
      have HTBd : Hid (SdsAt wd wd.heap.size (.slice br B.length cbr) B) := HQBd.out.at
      clear hbd HO8 HB8 HQA8 HQB8 x8 Z8 hbw8 hbw8d HTA8 y0 EA
      go_upto_region 16 with fail
      go_cut [63] (fun s63 wx => s63 = .bool false ∧ Below wd.heap.size wd wx)
      case first =>
        go_region_with (first
          | (go_at_call 18; refine (EB.out _ _ _ ht12 ht11).mono ?_; rintro e w13 ⟨rfl, hb13⟩; have hB13 : Below wd.heap.size wd w13 := hB12.trans (hb13.mono hB12.size))
          | (go_at_call 16; refine (TB.out _ hbwdd.out).mono ?_; rintro e w12 ⟨bq, cbq, rfl, ht11, _, hb12⟩; have x12 := (hb12.cell (p := ⟨w6.heap.size, 0, none⟩) hz6d).trans zd; have hB12 : Below wd.heap.size wd w12 := (Below.refl _ wd).drew.trans hb12; have ht12 : SdsAt w12 w12.heap.size (.slice br B.length cbr) B := HTBd.out.below hB12))
        all_goals
          go_wp2_with fail
          go_meet
          exact ⟨rfl, hB13⟩
      case rest =>
        obtain ⟨rfl, hbe⟩ := hcut
        obtain ⟨we, rfl⟩ : ∃ W, W = wc := ⟨_, rfl⟩
        have HOe : Hid (BOwn we W6.heap.size (.slice a7 M.length c7) M us) := HOd.out.below hbe
        have HBe : Hid (Below U.heap.size U we) := HBd.out.trans (hbe.mono HBd.out.size)
        have HQAe : Hid (QRow we U.heap.size (.slice ar A.length car) A) := HQAd.out.below hbe
        have HQBe : Hid (QRow we W5.heap.size (.slice br B.length cbr) B) := HQBd.out.below hbe
        have xe := (hbe.cell (p := ⟨w5.heap.size, 0, none⟩) (by show w5.heap.size < _; omega)).trans Xd.out
        have Ze : Hid (we.cell? ⟨w6.heap.size, 0, none⟩ = some (.slice br B.length cbr)) := (hbe.cell (p := ⟨w6.heap.size, 0, none⟩) hz6d).trans zd
        have hse := hbe.size
        have hz5e : w5.heap.size < we.heap.size := by omega
        clear hbe HOd HBd HQAd HQBd Xd zd hbwd hbwdd HTBd y1 EB
        go_wp2_with fail
        refine (markBox_any U.heap.size A.length 1 _ _ _ HQAe.out (by omega) (by omega) (by omega)).mono ?_
        rintro e w12 ⟨rfl, ⟨ys12, hy12, hm12⟩, hg12⟩
        clear hy12 hm12
        have HO12 : Hid (BOwn w12 W6.heap.size (.slice a7 M.length c7) M us) := HOe.out.grown hg12 (fun g hg => by have := (HRA.out g hg).2; omega)
        have HB12 : Hid (Below U.heap.size U w12) := HBe.out.grown hg12 HBe.out.size (fun g hg => (HRA.out g hg).1)
        have HQB12 : Hid (QRow w12 W5.heap.size (.slice br B.length cbr) B) := HQBe.out.far hg12 (fun g hg e => by have h1 := (HRB.out g hg).1; have h2 := (HRA.out g e.symm).2; omega)
        have z12 : w12.cell? ⟨w6.heap.size, 0, none⟩ = some (.slice br B.length cbr) := far_cellB hg12 Ze.out (by omega) (fun e => by have h2 := (HRA.out _ e.symm).2; omega)
        have hs12 := hg12.size
        have hz612 : w6.heap.size < w12.heap.size := by omega
        clear hg12 HOe HBe HQAe HQBe xe Ze
        go_wp2_with fail
        refine (markBox_any W5.heap.size B.length (1 + A.length * 2) _ _ _ HQB12.out (by omega) (by omega) (by omega)).mono ?_
        rintro e w13 ⟨rfl, ⟨ys13, hy13, hm13⟩, hg13⟩
        clear hy13 hm13
        have HO13 : Hid (BOwn w13 W6.heap.size (.slice a7 M.length c7) M us) := HO12.out.grown hg13 (fun g hg => by have := (HRB.out g hg).2; omega)
        have HB13 : Hid (Below U.heap.size U w13) := HB12.out.grown hg13 HB12.out.size (fun g hg => by have := (HRB.out g hg).1; omega)
        have hk13 : (0 : Int) ≤ ((1 + A.length * 2 + B.length * 2 : Nat) : Int) := by omega
        have hs13 := hg13.size
        clear hg13 HO12 HB12 HQB12 z12
        go_wp2_with fail
        refine (EM.out _ _ _ HO13.out.at (HW0.out _ HB13.out)).mono ?_
        rintro e w14 ⟨rfl, hb14⟩
        have HO14 : Hid (BOwn w14 W6.heap.size (.slice a7 M.length c7) M us) := HO13.out.below hb14
        have HB14 : Hid (Below U.heap.size U w14) := HB13.out.trans (hb14.mono HB13.out.size)
        have hs14 := hb14.size
        clear hb14 HO13 HB13
        go_wp2_with fail
        refine (markBoxS_any W6.heap.size _ M us w14 HO14.out (by omega) (by have := HPL.out; omega)).mono ?_
        rintro e w15 ⟨rfl, hbm, hg15⟩
        have HH15 : Hid (BHeld w15 (.slice a7 M.length c7) M) := hbm.held (by have := HPL.out; omega)
        have HB15 : Hid (Below U.heap.size U w15) := HB14.out.trans ((hg15.below HUS.out (by omega)).mono (by omega))
        obtain ⟨kk, hkk⟩ : ∃ kk, kk = 1 + pl M M.length * 2 := ⟨_, rfl⟩
        have HKK : Hid (1 + pl M M.length * 2 = kk) := hkk.symm
        rw [← hkk]
        have hkb : kk ≤ 100 := by have := HPL.out; omega
        have hk0 : (0 : Int) ≤ (kk : Int) := by omega
        clear hg15 hbm HO14 HB14 hkk
        go_wp2_with fail
        refine (heldBoxS_any _ M w15 HH15.out (by omega) (by have := HPL.out; omega)).mono ?_
        rintro e w16 ⟨rfl, hb16⟩
        rw [HKK.out]
        have HH16 : Hid (BHeld w16 (.slice a7 M.length c7) M) := HH15.out.below hb16
        have HB16 : Hid (Below U.heap.size U w16) := HB15.out.trans (hb16.mono HB15.out.size)
        have hbw16 := HUU.out _ HB16.out
        have y0 := C0.out _ hbw16
        have y1 := C1.out _ hbw16
        have hzw16 : w.heap.size + 1 < w16.heap.size := by have := HB16.out.size; omega
        have hbw16d : Hid (Below (w.heap.size + 2) W2 w16.drew) := hbw16.drew
        have HD16 : Hid (∀ W, Below w16.drew.heap.size w16.drew W → Below w16.heap.size w16 W) := fun W h => (Below.refl _ w16).drew.trans h
        clear hb16 HH15 HB15
        go_upto_region 31 with fail
        go_cut [15, 16] from 94 to 101 (fun s15 s16 wx => s16 = .bool ok ∧ CK M s15 wx ∧ Below w16.heap.size w16 wx)
        case first =>
          go_region_with (first
            | (go_at_call 42; refine (CI.out _ _ _ hta6 htb).mono ?_; rintro e w19 ⟨a19, c19, rfl, ⟨us19, ho19⟩, hb19⟩; have hB19 : Below w16.heap.size w16 w19 := hB18.trans (hb19.mono hB18.size); have hx19 := ho19.at)
            | (go_at_call 16; refine (TB.out _ hbw17).mono ?_; rintro e w18 ⟨br2, cbr2, rfl, htb, _, hb18⟩; have hB18 : Below w16.heap.size w16 w18 := hB17.trans (hb18.mono hB17.size); have hta6 := hta.below hb18)
            | (go_at_call 16; refine (TA.out _ hbw16d.out).mono ?_; rintro e w17 ⟨ar2, car2, rfl, hta, _, hb17⟩; have hB17 : Below w16.heap.size w16 w17 := HD16.out _ hb17; have hbw17 : Below (w.heap.size + 2) W2 w17 := hbw16.trans (hB17.mono (by omega)); have y117 := C1.out _ hbw17))
          all_goals
            go_wp2_with fail
            go_meet
            exact ⟨rfl, ⟨_, _, rfl, hx19⟩, hB19⟩
        case rest =>
          obtain ⟨rfl, ⟨a20, c20, rfl, hx20⟩, hb20⟩ := hcut
          have HX20 : Hid (BxsAt wc wc.heap.size (.slice a20 M.length c20) M) := hx20
          have HB20 : Hid (Below U.heap.size U wc) := HB16.out.trans (hb20.mono HB16.out.size)
          have HH20 : Hid (BHeld wc (.slice a7 M.length c7) M) := HH16.out.below hb20
          clear hx20 hb20 HH16 HB16 hbw16 hbw16d y0 y1 HD16
          go_wp2_with fail
          refine (EM.out _ _ _ HX20.out (HW0.out _ HB20.out)).mono ?_
          rintro e w21 ⟨rfl, hb21⟩
          have HB21 : Hid (Below U.heap.size U w21) := HB20.out.trans (hb21.mono HB20.out.size)
          have HH21 : Hid (BHeld w21 (.slice a7 M.length c7) M) := HH20.out.below hb21
          clear hb21 HX20 HB20 HH20
          go_wp2_with fail
          refine (heldBoxS_any _ M w21 HH21.out (by omega) (by have := HPL.out; omega)).mono ?_
          rintro e w22 ⟨rfl, hb22⟩
          rw [HKK.out]
          have HB22 : Hid (Below U.heap.size U w22) := HB21.out.trans (hb22.mono HB21.out.size)
          have hB22 : Below w.heap.size w w22 := DN.out _ (HUU.out _ HB22.out)
          clear hb22 HB21 HH21
          go_wp2
          go_ret
          exact ⟨rfl, hB22⟩

namespace fnExactCutAway
open Go.ChangeShapes Go.WideShapes Go.ChangeAt

theorem own : ownKnob Try.prog.godebug = none := by kernel_rfl
theorem laidOut : laidOutB Try.prog = true := by kernel_rfl

set_option maxRecDepth 100000 in
theorem lifted (os : Os) (started : os.Started) (H : Type) (enc : TypeId × Value → H) :
    ReturnsInHanded {} Try.checked os 10 .any (Rows.fnExactCutAwaySpec.pre6 enc Try.prog Try.f10 Rows.fnExactCutAwayRow.domain false) (Rows.fnExactCutAwaySpec.post enc Try.prog Try.f10 false true false false) := by
  refine returnsInHanded_of_change (C := Try.checked) own started (by kernel_rfl) Try.func10
    (ChangeSpec.witness6 (enc := enc) (C := Try.checked) false ⟨#[], #[.agg #[.slice none 0 0], .agg #[.slice none 0 0]], []⟩ 8 (by kernel_rfl) (by kernel_rfl) (by kernel_rfl) (by kernel_rfl)) ?_
  intro W base args ds gs before hval0 hW hcnd _
  have hval : ∀ (j : Nat) t v, Try.f10.params[j]? = some t → args[j]? = some v → Value.okWide Try.prog W .any base t v := hval0
  have hW' := hW
  obtain ⟨p, q, hA0, hV, rfl, hfz, hnd⟩ := hW
  have hA : DataW.TrodAll enc Try.prog W 0 (fun _ => true) true Try.f10.params.toList args.toList ds p := hA0
  rw [Try.params10] at hA hval
  obtain ⟨v0, vs0, d0, ds0, p0, q0, hargs, rfl, rfl, h0, r0⟩ := trodAll_cons hA
  obtain ⟨v1, vs1, d1, ds1, p1, q1, rfl, rfl, rfl, h1, r1⟩ := trodAll_cons r0
  obtain ⟨rfl, rfl, rfl⟩ := trodAll_nil r1
  obtain rfl : args = #[v0, v1] := by cases args; simp_all
  obtain ⟨rfl, rfl⟩ := trodVars_none hV
  have h0k := h0
  have h1k := h1
  obtain ⟨v, T, rfl, hT⟩ := open_box (hval 0 24 v0 rfl rfl) h0
  obtain ⟨v', T', rfl, hT'⟩ := open_box (hval 1 24 v1 rfl rfl) h1
  clear hA0 hval0
  have hlt : ∀ x ∈ p0, x.block < W.heap.size := fun x hx => by
    have := hW'.lt x (by simp_all)
    simpa using this
  have hlt1 : ∀ x ∈ p1, x.block < W.heap.size := fun x hx => by
    have := hW'.lt x (by simp_all)
    simpa using this
  refine (walkFnExactCutAway T T' v v' W hT hT').mono fun e W' ⟨he, hg⟩ => ?_
  subst he
  exact ⟨_, rfl, _, _, _, [], _, [], hW', trodAll_mk1 (shut_bool Try.underlying4 _), (trodAll_cons_mk (Below.trod laidOut (by kernel_rfl) (of_decide_eq_true (by kernel_rfl)) h0k hg hlt) (trodAll_cons_mk (Below.trod laidOut (by kernel_rfl) (of_decide_eq_true (by kernel_rfl)) h1k hg hlt1) trodAll_mk0)), rfl, hg.frame _, fun h => by cases h⟩

theorem over : Rows.fnExactCutAwayRow.holds Try.pinned (OpenSpec.ofChange Rows.fnExactCutAwaySpec) :=
  OpenClaim.holds_of_wide 10 Try.f10 rfl rfl rfl rfl rfl rfl rfl ⟨rfl, rfl, rfl, rfl, rfl⟩ rfl rfl rfl rfl rfl (by kernel_rfl) Try.func10 (by kernel_rfl)
    (of_decide_eq_true (by kernel_rfl)) (by unfold Func.isWrapper; first | (rw [if_pos (by decide +kernel)]; kernel_rfl) | (rw [if_neg (by decide +kernel)]; exact ⟨rfl, rfl⟩))
    (fun os started H enc _ => lifted os started H enc)

end fnExactCutAway

theorem fnExactCutAway_holds : Rows.FnExactCutAwaySaid := fnExactCutAway.over
#print axioms fnExactCutAway_holds
end Go.Proofs.Ytaddiljgpeidgaa
