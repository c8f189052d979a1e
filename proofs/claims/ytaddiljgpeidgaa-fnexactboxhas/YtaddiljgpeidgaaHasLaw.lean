/- Proved here: at every box and every list of ints the law FnExactBoxHas answers true, that is, BoxHas answers as its model and writes into nothing.
   Conditions: none beside the row's own. -/
import Derived.Test.YtaddiljgpeidgaaBxF
import Derived.Test.YtaddiljgpeidgaaBxW
import Derived.Test.YtaddiljgpeidgaaBxT
import Derived.Test.YtaddiljgpeidgaaBxO
import Derived.Deep.RegionWith
import Derived.Deep.DeepCutAuto
namespace Go.Proofs.Ytaddiljgpeidgaa
open Go.RowKit Plain Sch Bxs

set_option maxRecDepth 100000 in
theorem open_intsP {H : Type} {enc : TypeId × Value → H} {W : World} {base : Nat} {v0 : Value} {d0 : DataW H} {p0 : List MemPlace} (hok : Value.okWide Try.prog W .any base 36 v0)
    (h0 : DataW.Trod enc Try.prog W 0 (fun _ => true) true 36 v0 d0 p0) : ∃ l, ZAt W W.heap.size v0 l := by
  obtain ⟨a, len, cap, rfl⟩ := Go.WideShapes.okWide_slice Try.underlying36 hok
  exact open_ints h0 rfl

set_option maxRecDepth 100000 in
set_option maxHeartbeats 4000000 in
theorem walkFnExactBoxHas (A : List Sd) (p : List Int) (v1 v2 : Value) (w : World) (hA : SdsAt w w.heap.size v1 A) (hp : ZAt w w.heap.size v2 p) :
    Calls Try.prog 5 #[.agg #[v1], v2] w fun e w' => e = .returned (.bool true) ∧ Below w.heap.size w w' := by
  have HA : Hid (SdsAt w w.heap.size v1 A) := hA
  have HP : Hid (ZAt w w.heap.size v2 p) := hp
  obtain ⟨aa, capa, rfl, _⟩ := hA
  obtain ⟨ab, capb, rfl, hlp, hcp, _⟩ := hp
  unfold maxLen at hcp
  obtain ⟨W2, hW2⟩ : ∃ W, W = w.alloc (.cells #[.slice aa A.length capa] 24) := ⟨_, rfl⟩
  have hB1 : Below w.heap.size w W2 := by rw [hW2]; exact (Below.refl _ w).alloc (Nat.le_refl _) _
  have hs2 : Hid (W2.heap.size = w.heap.size + 1) := by show _ = _; rw [hW2]; simp
  have X0 : Hid (W2.cell? ⟨w.heap.size, 0, none⟩ = some (.slice aa A.length capa)) := by show _ = _; rw [hW2]; go_simp
  have C0 : Hid (∀ W : World, Below (w.heap.size + 1) W2 W → W.cell? ⟨w.heap.size, 0, none⟩ = some (.slice aa A.length capa) ∧ w.heap.size < W.heap.size) := fun W hW => ⟨(hW.cell (p := ⟨w.heap.size, 0, none⟩) (by show w.heap.size < _; omega)).trans X0.out, by have h1 := hW.size; have h2 := hs2.out; omega⟩
  have DN : Hid (∀ W : World, Below (w.heap.size + 1) W2 W → Below w.heap.size w W) := fun W hW => hB1.trans (hW.mono (by omega))
  have y0 := (C0.out _ (Below.refl _ _)).1
  clear X0
  go_enter Try.func5, Try.ntmps5
  go_upto_region 1 with fail
  rw [← hW2]
  clear hW2
  by_cases hpl : (1048576 : Int) < (p.length : Int)
  · go_wp2
    go_ret
    exact ⟨rfl, hB1⟩
  have hpl' : p.length ≤ 1048576 := by omega
  go_wp2_with fail
  refine (szBox_any A _ _ (HA.out.below hB1)).mono ?_
  rintro e w3 ⟨⟨r, rfl, hr0, hr1, hr2⟩, hb3⟩
  have hbw3 : Below (w.heap.size + 1) W2 w3 := hb3.mono (by rw [hs2.out]; exact Nat.le_refl _)
  have y0 := (C0.out _ hbw3).1
  have hz3 := (C0.out _ hbw3).2
  clear hb3
  by_cases hneg : r < 0
  · clear hr2
    go_wp2
    go_ret
    exact ⟨rfl, DN.out _ hbw3⟩
  have hlenA := hr2 (by omega)
  clear hr2
  have TA : Hid (∀ W : World, Below (w.heap.size + 1) W2 W → Calls Try.prog 16 #[.agg #[.slice aa A.length capa]] W fun e w' => ∃ ar capr, e = .returned (.agg #[.slice ar A.length capr]) ∧ SdsAt w' w'.heap.size (.slice ar A.length capr) A ∧ Below W.heap.size W w') := fun W hW => by
    refine (toBox_any A _ W (HA.out.below (DN.out _ hW)) hlenA).mono ?_
    rintro e w' ⟨r, rfl, ho, hb⟩
    have ht := SdsAt.own ho
    obtain ⟨ar, capr, rfl, _⟩ := id ht
    exact ⟨ar, capr, rfl, ht, hb⟩
  have TP : Hid (∀ W : World, Below (w.heap.size + 1) W2 W → Calls Try.prog 22 #[.slice ab p.length capb] W fun e w' => ∃ ar capr, e = .returned (.slice ar p.length capr) ∧ ZAt w' w'.heap.size (.slice ar p.length capr) p ∧ Below W.heap.size W w') := fun W hW => by
    refine (toIntS_any p _ W (HP.out.below (DN.out _ hW)) hpl').mono ?_
    rintro e w' ⟨r, rfl, ho, hb⟩
    have ht := ZAt.own ho
    obtain ⟨ar, capr, rfl, _⟩ := id ht
    exact ⟨ar, capr, rfl, ht, hb⟩
  have EA : Hid (∀ (W : World) (v1 v2 : Value), SdsAt W W.heap.size v1 A → SdsAt W W.heap.size v2 A → Calls Try.prog 18 #[.agg #[v1], .agg #[v2]] W fun e w' => e = .returned (.bool true) ∧ Below W.heap.size W w') := fun W v1 v2 h1 h2 => eqBox_same A v1 v2 W h1 h2 (by omega)
  have EP : Hid (∀ (W : World) (v1 v2 : Value), ZAt W W.heap.size v1 p → ZAt W W.heap.size v2 p → Calls Try.prog 24 #[v1, v2] W fun e w' => e = .returned (.bool true) ∧ Below W.heap.size W w') := fun W v1 v2 h1 h2 => eqZ_same p v1 v2 W h1 h2 (by omega)
  have CS : Hid (∀ (W : World) (v1 v2 : Value), SdsAt W W.heap.size v1 A → ZAt W W.heap.size v2 p → Calls Try.prog 21 #[.agg #[v1], v2] W fun e w' => e = .returned (.tuple #[.bool (cvo A (dup p)), .bool (gb A && gb (dup p))]) ∧ Below W.heap.size W w') := fun W v1 v2 h1 h2 => specHas A p v1 v2 W h1 h2
  have CI : Hid (∀ (W : World) (v1 v2 : Value), SdsAt W W.heap.size v1 A → ZAt W W.heap.size v2 p → Calls Try.prog 23 #[.agg #[v1], v2] W fun e w' => e = .returned (.tuple #[.bool (cvo A (dup p)), .bool (gb A && gb (dup p))]) ∧ Below W.heap.size W w') := fun W v1 v2 h1 h2 => implHas A p v1 v2 W h1 h2
  generalize cvo A (dup p) = b1 at CS CI
  generalize (gb A && gb (dup p)) = b2 at CS CI
  clear HA HP
  go_wp2_with fail
  refine (TA.out _ hbw3).mono ?_
  rintro e w5 ⟨ar, car, rfl, hta, hb5⟩
  have hbw5 : Below (w.heap.size + 1) W2 w5 := hbw3.trans (hb5.mono (by omega))
  have y0 := (C0.out _ hbw5).1
  have hz5 := (C0.out _ hbw5).2
  have HTA : Hid (SdsAt w5 w5.heap.size (.slice ar A.length car) A) := hta
  clear hb5 hta hbw3 hz3
  go_wp2_with fail
  refine (TP.out _ hbw5).mono ?_
  rintro e w6 ⟨br, cbr, rfl, htb, hb6⟩
  have hbw6 : Below (w.heap.size + 1) W2 w6 := hbw5.trans (hb6.mono (by omega))
  have y0 := (C0.out _ hbw6).1
  have hz6 := (C0.out _ hbw6).2
  have HTA6 : Hid (SdsAt w6 w6.heap.size (.slice ar A.length car) A) := HTA.out.below hb6
  have HTB6 : Hid (ZAt w6 w6.heap.size (.slice br p.length cbr) p) := htb
  clear hb6 htb hbw5 HTA hz5
  go_wp2_with fail
  refine (CS.out _ _ _ HTA6.out HTB6.out).mono ?_
  rintro e w7 ⟨rfl, hb7⟩
  have hbw7 : Below (w.heap.size + 1) W2 w7 := hbw6.trans (hb7.mono (by omega))
  have y0 := (C0.out _ hbw7).1
  have hz7 := (C0.out _ hbw7).2
  clear hb7 hbw6 HTA6 HTB6 hz6 CS
  go_wp2_with fail
  refine (TA.out _ hbw7).mono ?_
  rintro e w8 ⟨ar2, car2, rfl, hta, hb8⟩
  have hbw8 : Below (w.heap.size + 1) W2 w8 := hbw7.trans (hb8.mono (by omega))
  have hz8 := (C0.out _ hbw8).2
  obtain ⟨W9, hW9⟩ : ∃ W, W = w8.alloc (.cells #[.slice ar2 A.length car2] 29) := ⟨_, rfl⟩
  have hB89 : Below w8.heap.size w8 W9 := by rw [hW9]; exact (Below.refl _ w8).alloc (Nat.le_refl _) _
  have hbw9 : Below (w.heap.size + 1) W2 W9 := hbw8.trans (hB89.mono (by omega))
  have HTA9 : Hid (SdsAt W9 W9.heap.size (.slice ar2 A.length car2) A) := hta.below hB89
  have x9 : Hid (W9.cell? ⟨w8.heap.size, 0, none⟩ = some (.slice ar2 A.length car2)) := by show _ = _; rw [hW9]; go_simp
  have hz9 : w8.heap.size < W9.heap.size := by rw [hW9]; simp
  clear hb8 hta hbw7 hB89 hz7
  go_upto_region 9 with fail
  rw [← hW9]
  clear hW9
  go_wp2_with fail
  refine (TP.out _ hbw9).mono ?_
  rintro e w10 ⟨br2, cbr2, rfl, htb, hb10⟩
  have hbw10 : Below (w.heap.size + 1) W2 w10 := hbw9.trans (hb10.mono (by omega))
  have HTA10 : Hid (SdsAt w10 w10.heap.size (.slice ar2 A.length car2) A) := HTA9.out.below hb10
  have HTB10 : Hid (ZAt w10 w10.heap.size (.slice br2 p.length cbr2) p) := htb
  have x10 := (hb10.cell (p := ⟨w8.heap.size, 0, none⟩) hz9).trans x9.out
  have hz10 : w8.heap.size < w10.heap.size := by have := hb10.size; omega
  clear hb10 htb hbw9 HTA9 hbw8 hz8 x9
  go_wp2_with fail
  refine (CI.out _ _ _ HTA10.out HTB10.out).mono ?_
  rintro e w11 ⟨rfl, hb11⟩
  have hbw11 : Below (w.heap.size + 1) W2 w11 := hbw10.trans (hb11.mono (by have := (C0.out _ hbw10).2; omega))
  have HTA11 : Hid (SdsAt w11 w11.heap.size (.slice ar2 A.length car2) A) := HTA10.out.below hb11
  have HTB11 : Hid (ZAt w11 w11.heap.size (.slice br2 p.length cbr2) p) := HTB10.out.below hb11
  have x11 := (hb11.cell (p := ⟨w8.heap.size, 0, none⟩) hz10).trans x10
  have y11 := (C0.out _ hbw11).1
  have hz11 := (C0.out _ hbw11).2
  have hz118 : w8.heap.size < w11.heap.size := by have := hb11.size; omega
  have hbw11d : Hid (Below (w.heap.size + 1) W2 w11.drew) := hbw11.drew
  clear hb11 hbw10 HTA10 HTB10 x10 CI y0
  go_upto_region 13 with fail
  go_cut [50] (fun s50 wx => s50 = .bool false ∧ Below w11.heap.size w11 wx)
  case first =>
    go_region_with (first
      | (go_at_call 18; refine (EA.out _ _ _ ht13 ht12).mono ?_; rintro e w13 ⟨rfl, hb13⟩; have hB13 : Below w11.heap.size w11 w13 := hB12.trans (hb13.mono hB12.size))
      | (go_at_call 16; refine (TA.out _ hbw11d.out).mono ?_; rintro e w12 ⟨aq, caq, rfl, ht12, hb12⟩; have x12 := (hb12.cell (p := ⟨w8.heap.size, 0, none⟩) hz118).trans x11; have hB12 : Below w11.heap.size w11 w12 := (Below.refl _ w11).drew.trans hb12; have ht13 : SdsAt w12 w12.heap.size (.slice ar2 A.length car2) A := HTA11.out.below hB12))
    all_goals
      go_wp2_with fail
      go_meet
      exact ⟨rfl, hB13⟩
  case rest =>
    obtain ⟨rfl, hbd⟩ := hcut
    have hbwd : Below (w.heap.size + 1) W2 wc := hbw11.trans (hbd.mono (by omega))
    have HTBd : Hid (ZAt wc wc.heap.size (.slice br2 p.length cbr2) p) := HTB11.out.below hbd
    clear hbd hbw11 hbw11d HTA11 HTB11 x11 y11 EA TA
    go_wp2_with fail
    refine (TP.out _ hbwd).mono ?_
    rintro e w14 ⟨bq, cbq, rfl, ht14, hb14⟩
    have hbw14 : Below (w.heap.size + 1) W2 w14 := hbwd.trans (hb14.mono (by have := (C0.out _ hbwd).2; omega))
    have HTB14 : Hid (ZAt w14 w14.heap.size (.slice br2 p.length cbr2) p) := HTBd.out.below hb14
    have HTQ : Hid (ZAt w14 w14.heap.size (.slice bq p.length cbq) p) := ht14
    clear hb14 ht14 hbwd HTBd
    go_wp2_with fail
    refine (EP.out _ _ _ HTB14.out HTQ.out).mono ?_
    rintro e w15 ⟨rfl, hb15⟩
    have hB15 : Below w.heap.size w w15 := (DN.out _ hbw14).trans (hb15.mono (DN.out _ hbw14).size)
    go_wp2
    go_ret
    exact ⟨rfl, hB15⟩

namespace fnExactBoxHas
open Go.ChangeShapes Go.WideShapes Go.ChangeAt

theorem own : ownKnob Try.prog.godebug = none := by kernel_rfl
theorem laidOut : laidOutB Try.prog = true := by kernel_rfl

set_option maxRecDepth 100000 in
theorem lifted (os : Os) (started : os.Started) (H : Type) (enc : TypeId × Value → H) :
    ReturnsInHanded {} Try.checked os 5 .any (Rows.fnExactBoxHasSpec.pre6 enc Try.prog Try.f5 Rows.fnExactBoxHasRow.domain false) (Rows.fnExactBoxHasSpec.post enc Try.prog Try.f5 false true false false) := by
  refine returnsInHanded_of_change (C := Try.checked) own started (by kernel_rfl) Try.func5
    (ChangeSpec.witness6 (enc := enc) (C := Try.checked) false ⟨#[], #[.agg #[.slice none 0 0], .slice none 0 0], []⟩ 8 (by kernel_rfl) (by kernel_rfl) (by kernel_rfl) (by kernel_rfl)) ?_
  intro W base args ds gs before hval0 hW hcnd _
  have hval : ∀ (j : Nat) t v, Try.f5.params[j]? = some t → args[j]? = some v → Value.okWide Try.prog W .any base t v := hval0
  have hW' := hW
  obtain ⟨p, q, hA0, hV, rfl, hfz, hnd⟩ := hW
  have hA : DataW.TrodAll enc Try.prog W 0 (fun _ => true) true Try.f5.params.toList args.toList ds p := hA0
  rw [Try.params5] at hA hval
  obtain ⟨v0, vs0, d0, ds0, p0, q0, hargs, rfl, rfl, h0, r0⟩ := trodAll_cons hA
  obtain ⟨v1, vs1, d1, ds1, p1, q1, rfl, rfl, rfl, h1, r1⟩ := trodAll_cons r0
  obtain ⟨rfl, rfl, rfl⟩ := trodAll_nil r1
  obtain rfl : args = #[v0, v1] := by cases args; simp_all
  obtain ⟨rfl, rfl⟩ := trodVars_none hV
  have h0k := h0
  have h1k := h1
  obtain ⟨v, T, rfl, hT⟩ := open_box (hval 0 24 v0 rfl rfl) h0
  obtain ⟨T', hT'⟩ := open_intsP (hval 1 36 v1 rfl rfl) h1
  clear hA0 hval0
  have hlt : ∀ x ∈ p0, x.block < W.heap.size := fun x hx => by
    have := hW'.lt x (by simp_all)
    simpa using this
  have hlt1 : ∀ x ∈ p1, x.block < W.heap.size := fun x hx => by
    have := hW'.lt x (by simp_all)
    simpa using this
  refine (walkFnExactBoxHas T T' v v1 W hT hT').mono fun e W' ⟨he, hg⟩ => ?_
  subst he
  exact ⟨_, rfl, _, _, _, [], _, [], hW', trodAll_mk1 (shut_bool Try.underlying4 _), (trodAll_cons_mk (Below.trod laidOut (by kernel_rfl) (of_decide_eq_true (by kernel_rfl)) h0k hg hlt) (trodAll_cons_mk (Below.trod laidOut (by kernel_rfl) (of_decide_eq_true (by kernel_rfl)) h1k hg hlt1) trodAll_mk0)), rfl, hg.frame _, fun h => by cases h⟩

theorem over : Rows.fnExactBoxHasRow.holds Try.pinned (OpenSpec.ofChange Rows.fnExactBoxHasSpec) :=
  OpenClaim.holds_of_wide 5 Try.f5 rfl rfl rfl rfl rfl rfl rfl ⟨rfl, rfl, rfl, rfl, rfl⟩ rfl rfl rfl rfl rfl (by kernel_rfl) Try.func5 (by kernel_rfl)
    (of_decide_eq_true (by kernel_rfl)) (by unfold Func.isWrapper; first | (rw [if_pos (by decide +kernel)]; kernel_rfl) | (rw [if_neg (by decide +kernel)]; exact ⟨rfl, rfl⟩))
    (fun os started H enc _ => lifted os started H enc)

end fnExactBoxHas

theorem fnExactBoxHas_holds : Rows.FnExactBoxHasSaid := fnExactBoxHas.over
#print axioms fnExactBoxHas_holds
end Go.Proofs.Ytaddiljgpeidgaa
