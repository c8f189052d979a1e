/- Proved here: at every two boxes the law FnExactBoxCovers answers true, that is, the program's function answers as its model and writes into nothing.
   Conditions: none beside the row's own. -/
import Derived.Test.YtaddiljgpeidgaaBxP
import Derived.Test.YtaddiljgpeidgaaBxV
import Derived.Test.YtaddiljgpeidgaaBxW
import Derived.Test.YtaddiljgpeidgaaBxT
import Derived.Test.YtaddiljgpeidgaaBxO
import Derived.Deep.RegionWith
import Derived.Deep.DeepCutAuto
namespace Go.Proofs.Ytaddiljgpeidgaa
open Go.RowKit Plain Sch Bxs

set_option maxRecDepth 100000 in
set_option maxHeartbeats 4000000 in
theorem walkFnExactBoxCovers (A B : List Sd) (v1 v2 : Value) (w : World) (hA : SdsAt w w.heap.size v1 A) (hB : SdsAt w w.heap.size v2 B) :
    Calls Try.prog 4 #[.agg #[v1], .agg #[v2]] w fun e w' => e = .returned (.bool true) ∧ Below w.heap.size w w' := by
  have HA : Hid (SdsAt w w.heap.size v1 A) := hA
  have HB : Hid (SdsAt w w.heap.size v2 B) := hB
  obtain ⟨aa, capa, rfl, _⟩ := hA
  obtain ⟨ab, capb, rfl, _⟩ := hB
  obtain ⟨W2, hW2⟩ : ∃ W, W = (w.alloc (.cells #[.slice aa A.length capa] 24)).alloc (.cells #[.slice ab B.length capb] 24) := ⟨_, rfl⟩
  have hB1 : Below w.heap.size w W2 := by rw [hW2]; exact ((Below.refl _ w).alloc (Nat.le_refl _) _).alloc (by simp) _
  have hs2 : W2.heap.size = w.heap.size + 2 := by rw [hW2]; simp
  have X0 : Hid (W2.cell? ⟨w.heap.size, 0, none⟩ = some (.slice aa A.length capa)) := by show _ = _; rw [hW2]; go_simp
  have X1 : Hid (W2.cell? ⟨w.heap.size + 1, 0, none⟩ = some (.slice ab B.length capb)) := by show _ = _; rw [hW2]; go_simp
  have c0 : ∀ W : World, Below (w.heap.size + 2) W2 W → W.cell? ⟨w.heap.size, 0, none⟩ = some (.slice aa A.length capa) := fun W hW => (hW.cell (p := ⟨w.heap.size, 0, none⟩) (by show w.heap.size < _; omega)).trans X0.out
  have c1 : ∀ W : World, Below (w.heap.size + 2) W2 W → W.cell? ⟨w.heap.size + 1, 0, none⟩ = some (.slice ab B.length capb) := fun W hW => (hW.cell (p := ⟨w.heap.size + 1, 0, none⟩) (by show w.heap.size + 1 < _; omega)).trans X1.out
  have dn : ∀ W : World, Below (w.heap.size + 2) W2 W → Below w.heap.size w W := fun W hW => hB1.trans (hW.mono (by omega))
  have C0 : Hid (∀ W : World, Below (w.heap.size + 2) W2 W → W.cell? ⟨w.heap.size, 0, none⟩ = some (.slice aa A.length capa)) := c0
  have C1 : Hid (∀ W : World, Below (w.heap.size + 2) W2 W → W.cell? ⟨w.heap.size + 1, 0, none⟩ = some (.slice ab B.length capb)) := c1
  have DN : Hid (∀ W : World, Below (w.heap.size + 2) W2 W → Below w.heap.size w W) := dn
  have BR : Hid (Below (w.heap.size + 2) W2 W2) := Below.refl _ _
  have y0 := C0.out _ BR.out
  have y1 := C1.out _ BR.out
  clear c0 c1 dn X0 X1
  go_enter Try.func4, Try.ntmps4
  go_wp2_with fail
  rw [← hW2]
  clear hW2
  refine (szBox_any A _ _ (HA.out.below hB1)).mono ?_
  rintro e w3 ⟨⟨r, rfl, hr0, hr1, hr2⟩, hb3⟩
  have hbw3 : Below (w.heap.size + 2) W2 w3 := hb3.mono (by omega)
  have y0 := C0.out _ hbw3
  have y1 := C1.out _ hbw3
  have hz3 : w.heap.size + 1 < w3.heap.size := by have := hb3.size; omega
  clear hb3
  by_cases hneg : r < 0
  · clear hr2
    go_wp2
    go_ret
    exact ⟨rfl, DN.out _ hbw3⟩
  have hlenA := hr2 (by omega)
  clear hr2
  go_wp2_with fail
  refine (szBox_lft B _ r _ (HB.out.below (DN.out _ hbw3)) (by omega) (by omega)).mono ?_
  rintro e w4 ⟨⟨r2, rfl, hr20, hr21, hr22⟩, hb4⟩
  have hbw4 : Below (w.heap.size + 2) W2 w4 := hbw3.trans (hb4.mono (by omega))
  have hz4 : w.heap.size + 1 < w4.heap.size := by have := hb4.size; omega
  have y0 := C0.out _ hbw4
  have y1 := C1.out _ hbw4
  clear hb4 hbw3
  by_cases hneg2 : r2 < 0
  · clear hr22
    go_wp2
    go_ret
    exact ⟨rfl, DN.out _ hbw4⟩
  have hlenB := hr22 (by omega)
  clear hr22
  have TA : Hid (∀ W : World, Below (w.heap.size + 2) W2 W → Calls Try.prog 16 #[.agg #[.slice aa A.length capa]] W fun e w' => ∃ ar capr, e = .returned (.agg #[.slice ar A.length capr]) ∧ SdsAt w' w'.heap.size (.slice ar A.length capr) A ∧ Below W.heap.size W w') := fun W hW => by
    refine (toBox_any A _ W (HA.out.below (DN.out _ hW)) hlenA).mono ?_
    rintro e w' ⟨r, rfl, ho, hb⟩
    have ht := SdsAt.own ho
    obtain ⟨ar, capr, rfl, _⟩ := id ht
    exact ⟨ar, capr, rfl, ht, hb⟩
  have TB : Hid (∀ W : World, Below (w.heap.size + 2) W2 W → Calls Try.prog 16 #[.agg #[.slice ab B.length capb]] W fun e w' => ∃ ar capr, e = .returned (.agg #[.slice ar B.length capr]) ∧ SdsAt w' w'.heap.size (.slice ar B.length capr) B ∧ Below W.heap.size W w') := fun W hW => by
    refine (toBox_any B _ W (HB.out.below (DN.out _ hW)) hlenB).mono ?_
    rintro e w' ⟨r, rfl, ho, hb⟩
    have ht := SdsAt.own ho
    obtain ⟨ar, capr, rfl, _⟩ := id ht
    exact ⟨ar, capr, rfl, ht, hb⟩
  have EA : Hid (∀ (W : World) (v1 v2 : Value), SdsAt W W.heap.size v1 A → SdsAt W W.heap.size v2 A → Calls Try.prog 18 #[.agg #[v1], .agg #[v2]] W fun e w' => e = .returned (.bool true) ∧ Below W.heap.size W w') := fun W v1 v2 h1 h2 => eqBox_same A v1 v2 W h1 h2 (by omega)
  have EB : Hid (∀ (W : World) (v1 v2 : Value), SdsAt W W.heap.size v1 B → SdsAt W W.heap.size v2 B → Calls Try.prog 18 #[.agg #[v1], .agg #[v2]] W fun e w' => e = .returned (.bool true) ∧ Below W.heap.size W w') := fun W v1 v2 h1 h2 => eqBox_same B v1 v2 W h1 h2 (by omega)
  have CS : Hid (∀ (W : World) (v1 v2 : Value), SdsAt W W.heap.size v1 A → SdsAt W W.heap.size v2 B → Calls Try.prog 19 #[.agg #[v1], .agg #[v2]] W fun e w' => e = .returned (.tuple #[.bool (cvo A B), .bool (gb A && gb B)]) ∧ Below W.heap.size W w') := fun W v1 v2 h1 h2 => specCov A B v1 v2 W h1 h2
  have CI : Hid (∀ (W : World) (v1 v2 : Value), SdsAt W W.heap.size v1 A → SdsAt W W.heap.size v2 B → Calls Try.prog 20 #[.agg #[v1], .agg #[v2]] W fun e w' => e = .returned (.tuple #[.bool (cvo A B), .bool (gb A && gb B)]) ∧ Below W.heap.size W w') := fun W v1 v2 h1 h2 => implCov A B v1 v2 W h1 h2
  generalize cvo A B = b1 at CS CI
  generalize (gb A && gb B) = b2 at CS CI
  clear HA HB
  have hbw4d : Hid (Below (w.heap.size + 2) W2 w4.drew) := hbw4.drew
  go_upto_region 8 with fail
  go_cut [6, 7] (fun s6 s7 wx => s6 = .bool b1 ∧ s7 = .bool b2 ∧ Below (w.heap.size + 2) W2 wx)
  case first =>
    go_region_with (first
      | (go_at_call 19; refine (CS.out _ _ _ hta6 htb).mono ?_; rintro e w7 ⟨rfl, hb7⟩; have hbw7 : Below (w.heap.size + 2) W2 w7 := hbw6.trans (hb7.mono (by have := hbw6.size; omega)))
      | (go_at_call 16; refine (TB.out _ hbw5).mono ?_; rintro e w6 ⟨br, capbr, rfl, htb, hb6⟩; have hbw6 : Below (w.heap.size + 2) W2 w6 := hbw5.trans (hb6.mono (by have := hbw5.size; omega)); have hta6 := hta.below hb6)
      | (go_at_call 16; refine (TA.out _ hbw4d.out).mono ?_; rintro e w5 ⟨ar, capar, rfl, hta, hb5⟩; have hbw5 : Below (w.heap.size + 2) W2 w5 := hbw4.drew.trans (hb5.mono (by have := hbw4.size; simp; omega)); have y15 := C1.out _ hbw5))
    all_goals
      go_wp2_with fail
      go_meet
      exact ⟨rfl, rfl, hbw7⟩
  case rest =>
    obtain ⟨rfl, rfl, hbc⟩ := hcut
    have y0 := C0.out _ hbc
    have y1 := C1.out _ hbc
    have hzc : w.heap.size + 1 < wc.heap.size := by have := hbc.size; omega
    clear hbw4 hbw4d CS
    go_wp2_with fail
    refine (TA.out _ hbc).mono ?_
    rintro e w5 ⟨ar, car, rfl, hta, hb5⟩
    have hbw5 : Below (w.heap.size + 2) W2 w5 := hbc.trans (hb5.mono (by omega))
    have hz5 : w.heap.size + 1 < w5.heap.size := by have := hb5.size; omega
    have y0 := C0.out _ hbw5
    have y1 := C1.out _ hbw5
    have HTA : Hid (SdsAt w5 w5.heap.size (.slice ar A.length car) A) := hta
    have hB6 : Below w5.heap.size w5 (w5.alloc (.cells #[.slice ar A.length car] 29)) := (Below.refl _ w5).alloc (Nat.le_refl _) _
    have hbw5a : Below (w.heap.size + 2) W2 (w5.alloc (.cells #[.slice ar A.length car] 29)) := hbw5.alloc (by omega) _
    clear hb5 hbc hta
    go_wp2_with fail
    refine (TB.out _ hbw5a).mono ?_
    rintro e w6 ⟨br, cbr, rfl, htb, hb6⟩
    have hbw6 : Below (w.heap.size + 2) W2 w6 := hbw5a.trans (hb6.mono (by simp; omega))
    have hz6 : w5.heap.size < w6.heap.size := by have := hb6.size; simp at this; omega
    have x6 : w6.cell? ⟨w5.heap.size, 0, none⟩ = some (.slice ar A.length car) := (hb6.cell (p := ⟨w5.heap.size, 0, none⟩) (by simp)).trans (by simp)
    have HTA6 : Hid (SdsAt w6 w6.heap.size (.slice ar A.length car) A) := (HTA.out.below hB6).below hb6
    have HTB6 : Hid (SdsAt w6 w6.heap.size (.slice br B.length cbr) B) := htb
    have hB7 : Below w6.heap.size w6 (w6.alloc (.cells #[.slice br B.length cbr] 29)) := (Below.refl _ w6).alloc (Nat.le_refl _) _
    have hbw7 : Below (w.heap.size + 2) W2 (w6.alloc (.cells #[.slice br B.length cbr] 29)) := hbw6.alloc (by omega) _
    have y0 := C0.out _ hbw6
    have y1 := C1.out _ hbw6
    clear hb6 htb HTA hB6 hbw5a hbw5
    go_wp2_with fail
    refine (CI.out _ _ _ (HTA6.out.below hB7) (HTB6.out.below hB7)).mono ?_
    rintro e w8 ⟨rfl, hb8⟩
    have hbw8 : Below (w.heap.size + 2) W2 w8 := hbw7.trans (hb8.mono (by simp; omega))
    have hz8 : w6.heap.size < w8.heap.size := by have := hb8.size; simp at this; omega
    have HTA8 : Hid (SdsAt w8 w8.heap.size (.slice ar A.length car) A) := (HTA6.out.below hB7).below hb8
    have HTB8 : Hid (SdsAt w8 w8.heap.size (.slice br B.length cbr) B) := (HTB6.out.below hB7).below hb8
    have x8 : w8.cell? ⟨w5.heap.size, 0, none⟩ = some (.slice ar A.length car) := (hb8.cell (p := ⟨w5.heap.size, 0, none⟩) (by simp; omega)).trans ((hB7.cell (p := ⟨w5.heap.size, 0, none⟩) hz6).trans x6)
    have z8 : w8.cell? ⟨w6.heap.size, 0, none⟩ = some (.slice br B.length cbr) := (hb8.cell (p := ⟨w6.heap.size, 0, none⟩) (by simp)).trans (by simp)
    have y0 := C0.out _ hbw8
    have y1 := C1.out _ hbw8
    have hz58 : w5.heap.size < w8.heap.size := by omega
    have hzw8 : w.heap.size + 1 < w8.heap.size := by omega
    clear hb8 HTA6 HTB6 hB7 hbw7 hbw6 x6 CI
    have hbw8d : Hid (Below (w.heap.size + 2) W2 w8.drew) := hbw8.drew
    go_upto_region 14 with fail
    go_cut [52] (fun s52 wx => s52 = .bool false ∧ Below w8.heap.size w8 wx)
    case first =>
      go_region_with (first
        | (go_at_call 18; refine (EA.out _ _ _ ht9 ht8).mono ?_; rintro e w10 ⟨rfl, hb10⟩; have hB10 : Below w8.heap.size w8 w10 := hB9.trans (hb10.mono hB9.size))
        | (go_at_call 16; refine (TA.out _ hbw8d.out).mono ?_; rintro e w9 ⟨aq, caq, rfl, ht8, hb9⟩; have x9 := (hb9.cell (p := ⟨w5.heap.size, 0, none⟩) hz58).trans x8; have hB9 : Below w8.heap.size w8 w9 := (Below.refl _ w8).drew.trans hb9; have ht9 : SdsAt w9 w9.heap.size (.slice ar A.length car) A := HTA8.out.below hB9))
      all_goals
        go_wp2_with fail
        go_meet
        exact ⟨rfl, hB10⟩
    case rest =>
      obtain ⟨rfl, hbd⟩ := hcut
      have hbwd : Below (w.heap.size + 2) W2 wc := hbw8.trans (hbd.mono (by omega))
      have hzd : w6.heap.size < wc.heap.size := by have := hbd.size; omega
      have hzwd : w.heap.size + 1 < wc.heap.size := by omega
      have HTBd : Hid (SdsAt wc wc.heap.size (.slice br B.length cbr) B) := HTB8.out.below hbd
      have y1 := C1.out _ hbwd
      have zd := (hbd.cell (p := ⟨w6.heap.size, 0, none⟩) hz8).trans z8
      have hbwdd : Hid (Below (w.heap.size + 2) W2 wc.drew) := hbwd.drew
      clear hbd hbw8 hbw8d HTA8 HTB8 x8 z8 EA TA
      go_wp2_with fail
      go_region_with (first
        | (go_at_call 18; refine (EB.out _ _ _ ht12 ht11).mono ?_; rintro e w13 ⟨rfl, hb13⟩; have hB13 : Below w.heap.size w w13 := hB12.trans (hb13.mono hB12.size))
        | (go_at_call 16; refine (TB.out _ hbwdd.out).mono ?_; rintro e w12 ⟨bq, cbq, rfl, ht11, hb12⟩; have x12 := (hb12.cell (p := ⟨w6.heap.size, 0, none⟩) hzd).trans zd; have hB12 : Below w.heap.size w w12 := (DN.out _ hbwd).drew.trans (hb12.mono (by have h1 := (DN.out _ hbwd).size; exact h1)); have ht12 : SdsAt w12 w12.heap.size (.slice br B.length cbr) B := HTBd.out.below ((Below.refl _ wc).drew.trans hb12)))
      all_goals
        go_wp2
        go_ret
        exact ⟨rfl, hB13⟩

namespace fnExactBoxCovers
open Go.ChangeShapes Go.WideShapes Go.ChangeAt

theorem own : ownKnob Try.prog.godebug = none := by kernel_rfl
theorem laidOut : laidOutB Try.prog = true := by kernel_rfl

set_option maxRecDepth 100000 in
theorem lifted (os : Os) (started : os.Started) (H : Type) (enc : TypeId × Value → H) :
    ReturnsInHanded {} Try.checked os 4 .any (Rows.fnExactBoxCoversSpec.pre6 enc Try.prog Try.f4 Rows.fnExactBoxCoversRow.domain false) (Rows.fnExactBoxCoversSpec.post enc Try.prog Try.f4 false true false false) := by
  refine returnsInHanded_of_change (C := Try.checked) own started (by kernel_rfl) Try.func4
    (ChangeSpec.witness6 (enc := enc) (C := Try.checked) false ⟨#[], #[.agg #[.slice none 0 0], .agg #[.slice none 0 0]], []⟩ 8 (by kernel_rfl) (by kernel_rfl) (by kernel_rfl) (by kernel_rfl)) ?_
  intro W base args ds gs before hval0 hW hcnd _
  have hval : ∀ (j : Nat) t v, Try.f4.params[j]? = some t → args[j]? = some v → Value.okWide Try.prog W .any base t v := hval0
  have hW' := hW
  obtain ⟨p, q, hA0, hV, rfl, hfz, hnd⟩ := hW
  have hA : DataW.TrodAll enc Try.prog W 0 (fun _ => true) true Try.f4.params.toList args.toList ds p := hA0
  rw [Try.params4] at hA hval
  obtain ⟨v0, vs0, d0, ds0, p0, q0, hargs, rfl, rfl, h0, r0⟩ := trodAll_cons hA
  obtain ⟨v1, vs1, d1, ds1, p1, q1, rfl, rfl, rfl, h1, r1⟩ := trodAll_cons r0
  obtain ⟨rfl, rfl, rfl⟩ := trodAll_nil r1
  obtain rfl : args = #[v0, v1] := by cases args; simp_all
  obtain ⟨rfl, rfl⟩ := trodVars_none hV
  have h0k := h0
  have h1k := h1
  obtain ⟨v, T, rfl, hT⟩ := open_box (hval 0 24 v0 rfl rfl) h0
  obtain ⟨v', T', rfl, hT'⟩ := open_box (hval 1 24 v1 rfl rfl) h1
  clear hA0 hval0
  have hlt : ∀ x ∈ p0, x.block < W.heap.size := fun x hx => by
    have := hW'.lt x (by simp_all)
    simpa using this
  have hlt1 : ∀ x ∈ p1, x.block < W.heap.size := fun x hx => by
    have := hW'.lt x (by simp_all)
    simpa using this
  refine (walkFnExactBoxCovers T T' v v' W hT hT').mono fun e W' ⟨he, hg⟩ => ?_
  subst he
  exact ⟨_, rfl, _, _, _, [], _, [], hW', trodAll_mk1 (shut_bool Try.underlying4 _), (trodAll_cons_mk (Below.trod laidOut (by kernel_rfl) (of_decide_eq_true (by kernel_rfl)) h0k hg hlt) (trodAll_cons_mk (Below.trod laidOut (by kernel_rfl) (of_decide_eq_true (by kernel_rfl)) h1k hg hlt1) trodAll_mk0)), rfl, hg.frame _, fun h => by cases h⟩

theorem over : Rows.fnExactBoxCoversRow.holds Try.pinned (OpenSpec.ofChange Rows.fnExactBoxCoversSpec) :=
  OpenClaim.holds_of_wide 4 Try.f4 rfl rfl rfl rfl rfl rfl rfl ⟨rfl, rfl, rfl, rfl, rfl⟩ rfl rfl rfl rfl rfl (by kernel_rfl) Try.func4 (by kernel_rfl)
    (of_decide_eq_true (by kernel_rfl)) (by unfold Func.isWrapper; first | (rw [if_pos (by decide +kernel)]; kernel_rfl) | (rw [if_neg (by decide +kernel)]; exact ⟨rfl, rfl⟩))
    (fun os started H enc _ => lifted os started H enc)

end fnExactBoxCovers

theorem fnExactBoxCovers_holds : Rows.FnExactBoxCoversSaid := fnExactBoxCovers.over
#print axioms fnExactBoxCovers_holds
end Go.Proofs.Ytaddiljgpeidgaa
