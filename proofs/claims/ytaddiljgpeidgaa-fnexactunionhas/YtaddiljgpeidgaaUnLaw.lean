/- Proved here: at every list of boxes and every list of ints the law FnExactUnionHas answers true, that is, UnionHas answers as its model and writes into nothing.
   Conditions: none beside the row's own. -/
import Derived.Test.YtaddiljgpeidgaaByV
import Derived.Test.YtaddiljgpeidgaaByM
import Derived.Test.YtaddiljgpeidgaaByO
namespace Go.Proofs.Ytaddiljgpeidgaa
open Go.RowKit Plain Sch Bxs

set_option maxRecDepth 100000 in
theorem open_intsP {H : Type} {enc : TypeId × Value → H} {W : World} {base : Nat} {v0 : Value} {d0 : DataW H} {p0 : List MemPlace} (hok : Value.okWide Try.prog W .any base 36 v0)
    (h0 : DataW.Trod enc Try.prog W 0 (fun _ => true) true 36 v0 d0 p0) : ∃ l, ZAt W W.heap.size v0 l := by
  obtain ⟨a, len, cap, rfl⟩ := Go.WideShapes.okWide_slice Try.underlying36 hok
  exact open_ints h0 rfl

set_option maxRecDepth 100000 in
set_option maxHeartbeats 4000000 in
theorem walkFnExactUnionHas (M : List (List Sd)) (p : List Int) (v1 v2 : Value) (w : World) (hM : BxsAt w w.heap.size v1 M) (hp : ZAt w w.heap.size v2 p) :
    Calls Try.prog 9 #[v1, v2] w fun e w' => e = .returned (.bool true) ∧ Below w.heap.size w w' := by
  have HM : Hid (BxsAt w w.heap.size v1 M) := hM
  have HP : Hid (ZAt w w.heap.size v2 p) := hp
  obtain ⟨aa, capa, rfl, _⟩ := hM
  obtain ⟨ab, capb, rfl, hlp, hcp, _⟩ := hp
  unfold maxLen at hcp
  go_enter Try.func9, Try.ntmps9
  by_cases hpl : (1048576 : Int) < (p.length : Int)
  · go_wp2
    go_ret
    exact ⟨rfl, Below.refl _ _⟩
  have hpl' : p.length ≤ 1048576 := by omega
  go_wp2_with fail
  refine (szBoxS_any M _ _ HM.out).mono ?_
  rintro e w3 ⟨⟨r, rfl, hr0, hr1, hr2⟩, hb3⟩
  by_cases hneg : r < 0
  · clear hr2
    go_wp2
    go_ret
    exact ⟨rfl, hb3⟩
  obtain ⟨hl, hll0⟩ := hr2 (by omega)
  have hll : Hid (∀ i, i < M.length → (mx M i).length ≤ 1048576) := hll0
  clear hr2 hll0
  have TM : Hid (∀ W : World, Below w.heap.size w W → Calls Try.prog 33 #[.slice aa M.length capa] W fun e w' => ∃ ar capr, e = .returned (.slice ar M.length capr) ∧ BxsAt w' w'.heap.size (.slice ar M.length capr) M ∧ Below W.heap.size W w') := fun W hW => by
    refine (toBoxS_any M _ W (HM.out.below hW) hl hll.out).mono ?_
    rintro e w' ⟨r, rfl, ⟨us, ho⟩, hb⟩
    obtain ⟨ar, capr, rfl⟩ := ho.slice
    exact ⟨ar, capr, rfl, ho.at, hb⟩
  have EM : Hid (∀ (W : World) (v1 v2 : Value), BxsAt W W.heap.size v1 M → BxsAt W W.heap.size v2 M → Calls Try.prog 35 #[v1, v2] W fun e w' => e = .returned (.bool true) ∧ Below W.heap.size W w') := fun W v1 v2 h1 h2 => eqBoxS_same M v1 v2 W h1 h2 (by omega) (fun i hi => by have := hll.out i hi; omega)
  have TP : Hid (∀ W : World, Below w.heap.size w W → Calls Try.prog 22 #[.slice ab p.length capb] W fun e w' => ∃ ar capr, e = .returned (.slice ar p.length capr) ∧ ZAt w' w'.heap.size (.slice ar p.length capr) p ∧ Below W.heap.size W w') := fun W hW => by
    refine (toIntS_any p _ W (HP.out.below hW) hpl').mono ?_
    rintro e w' ⟨r, rfl, ho, hb⟩
    have ht := ZAt.own ho
    obtain ⟨ar, capr, rfl, _⟩ := id ht
    exact ⟨ar, capr, rfl, ht, hb⟩
  have EP : Hid (∀ (W : World) (v1 v2 : Value), ZAt W W.heap.size v1 p → ZAt W W.heap.size v2 p → Calls Try.prog 24 #[v1, v2] W fun e w' => e = .returned (.bool true) ∧ Below W.heap.size W w') := fun W v1 v2 h1 h2 => eqZ_same p v1 v2 W h1 h2 (by omega)
  have CS : Hid (∀ (W : World) (v1 v2 : Value), BxsAt W W.heap.size v1 M → ZAt W W.heap.size v2 p → Calls Try.prog 39 #[v1, v2] W fun e w' => e = .returned (.tuple #[.bool (uno M p), .bool (gl M && gb (dup p))]) ∧ Below W.heap.size W w') := fun W v1 v2 h1 h2 => specUnion M p v1 v2 W h1 h2
  have CI : Hid (∀ (W : World) (v1 v2 : Value), BxsAt W W.heap.size v1 M → ZAt W W.heap.size v2 p → Calls Try.prog 40 #[v1, v2] W fun e w' => e = .returned (.tuple #[.bool (uno M p), .bool (gl M && gb (dup p))]) ∧ Below W.heap.size W w') := fun W v1 v2 h1 h2 => implUnion M p v1 v2 W h1 h2
  generalize uno M p = b1 at CS CI
  generalize (gl M && gb (dup p)) = b2 at CS CI
  clear HM HP
  go_wp2_with fail
  refine (TM.out _ hb3).mono ?_
  rintro e w5 ⟨ar, car, rfl, hta, hb5⟩
  have hB5 : Below w.heap.size w w5 := hb3.trans (hb5.mono hb3.size)
  have HTA : Hid (BxsAt w5 w5.heap.size (.slice ar M.length car) M) := hta
  clear hb5 hta hb3
  go_wp2_with fail
  refine (TP.out _ hB5).mono ?_
  rintro e w6 ⟨br, cbr, rfl, htb, hb6⟩
  have hB6 : Below w.heap.size w w6 := hB5.trans (hb6.mono hB5.size)
  have HTA6 : Hid (BxsAt w6 w6.heap.size (.slice ar M.length car) M) := HTA.out.below hb6
  have HTB6 : Hid (ZAt w6 w6.heap.size (.slice br p.length cbr) p) := htb
  clear hb6 htb hB5 HTA
  go_wp2_with fail
  refine (CS.out _ _ _ HTA6.out HTB6.out).mono ?_
  rintro e w7 ⟨rfl, hb7⟩
  have hB7 : Below w.heap.size w w7 := hB6.trans (hb7.mono hB6.size)
  clear hb7 hB6 HTA6 HTB6 CS
  go_wp2_with fail
  refine (TM.out _ hB7).mono ?_
  rintro e w8 ⟨ar2, car2, rfl, hta, hb8⟩
  have hB8 : Below w.heap.size w w8 := hB7.trans (hb8.mono hB7.size)
  have HTA8 : Hid (BxsAt w8 w8.heap.size (.slice ar2 M.length car2) M) := hta
  clear hb8 hta hB7
  go_wp2_with fail
  refine (TP.out _ hB8).mono ?_
  rintro e w10 ⟨br2, cbr2, rfl, htb, hb10⟩
  have hB10 : Below w.heap.size w w10 := hB8.trans (hb10.mono hB8.size)
  have HTA10 : Hid (BxsAt w10 w10.heap.size (.slice ar2 M.length car2) M) := HTA8.out.below hb10
  have HTB10 : Hid (ZAt w10 w10.heap.size (.slice br2 p.length cbr2) p) := htb
  clear hb10 htb hB8 HTA8
  go_wp2_with fail
  refine (CI.out _ _ _ HTA10.out HTB10.out).mono ?_
  rintro e w11 ⟨rfl, hb11⟩
  have hB11 : Below w.heap.size w w11 := hB10.trans (hb11.mono hB10.size)
  have HTA11 : Hid (BxsAt w11 w11.heap.size (.slice ar2 M.length car2) M) := HTA10.out.below hb11
  have HTB11 : Hid (ZAt w11 w11.heap.size (.slice br2 p.length cbr2) p) := HTB10.out.below hb11
  clear hb11 hB10 HTA10 HTB10 CI
  go_wp2_with fail
  refine (TM.out _ hB11).mono ?_
  rintro e w12 ⟨aq, caq, rfl, ht12, hb12⟩
  have hB12 : Below w.heap.size w w12 := hB11.trans (hb12.mono hB11.size)
  have HTA12 : Hid (BxsAt w12 w12.heap.size (.slice ar2 M.length car2) M) := HTA11.out.below hb12
  have HTQ : Hid (BxsAt w12 w12.heap.size (.slice aq M.length caq) M) := ht12
  have HTB12 : Hid (ZAt w12 w12.heap.size (.slice br2 p.length cbr2) p) := HTB11.out.below hb12
  clear hb12 ht12 hB11 HTA11 HTB11
  go_wp2_with fail
  refine (EM.out _ _ _ HTA12.out HTQ.out).mono ?_
  rintro e w13 ⟨rfl, hb13⟩
  have hB13 : Below w.heap.size w w13 := hB12.trans (hb13.mono hB12.size)
  have HTB13 : Hid (ZAt w13 w13.heap.size (.slice br2 p.length cbr2) p) := HTB12.out.below hb13
  clear hb13 hB12 HTA12 HTQ HTB12 EM TM
  go_wp2_with fail
  refine (TP.out _ hB13).mono ?_
  rintro e w14 ⟨bq, cbq, rfl, ht14, hb14⟩
  have hB14 : Below w.heap.size w w14 := hB13.trans (hb14.mono hB13.size)
  have HTB14 : Hid (ZAt w14 w14.heap.size (.slice br2 p.length cbr2) p) := HTB13.out.below hb14
  have HTQ2 : Hid (ZAt w14 w14.heap.size (.slice bq p.length cbq) p) := ht14
  clear hb14 ht14 hB13 HTB13
  go_wp2_with fail
  refine (EP.out _ _ _ HTB14.out HTQ2.out).mono ?_
  rintro e w15 ⟨rfl, hb15⟩
  have hB15 : Below w.heap.size w w15 := hB14.trans (hb15.mono hB14.size)
  go_wp2
  go_ret
  exact ⟨rfl, hB15⟩

namespace fnExactUnionHas
open Go.ChangeShapes Go.WideShapes Go.ChangeAt

theorem own : ownKnob Try.prog.godebug = none := by kernel_rfl
theorem laidOut : laidOutB Try.prog = true := by kernel_rfl

set_option maxRecDepth 100000 in
theorem lifted (os : Os) (started : os.Started) (H : Type) (enc : TypeId × Value → H) :
    ReturnsInHanded {} Try.checked os 9 .any (Rows.fnExactUnionHasSpec.pre6 enc Try.prog Try.f9 Rows.fnExactUnionHasRow.domain false) (Rows.fnExactUnionHasSpec.post enc Try.prog Try.f9 false true false false) := by
  refine returnsInHanded_of_change (C := Try.checked) own started (by kernel_rfl) Try.func9
    (ChangeSpec.witness6 (enc := enc) (C := Try.checked) false ⟨#[], #[.slice none 0 0, .slice none 0 0], []⟩ 8 (by kernel_rfl) (by kernel_rfl) (by kernel_rfl) (by kernel_rfl)) ?_
  intro W base args ds gs before hval0 hW hcnd _
  have hval : ∀ (j : Nat) t v, Try.f9.params[j]? = some t → args[j]? = some v → Value.okWide Try.prog W .any base t v := hval0
  have hW' := hW
  obtain ⟨p, q, hA0, hV, rfl, hfz, hnd⟩ := hW
  have hA : DataW.TrodAll enc Try.prog W 0 (fun _ => true) true Try.f9.params.toList args.toList ds p := hA0
  rw [Try.params9] at hA hval
  obtain ⟨v0, vs0, d0, ds0, p0, q0, hargs, rfl, rfl, h0, r0⟩ := trodAll_cons hA
  obtain ⟨v1, vs1, d1, ds1, p1, q1, rfl, rfl, rfl, h1, r1⟩ := trodAll_cons r0
  obtain ⟨rfl, rfl, rfl⟩ := trodAll_nil r1
  obtain rfl : args = #[v0, v1] := by cases args; simp_all
  obtain ⟨rfl, rfl⟩ := trodVars_none hV
  have h0k := h0
  have h1k := h1
  obtain ⟨T, hT⟩ := open_boxes (hval 0 44 v0 rfl rfl) h0
  obtain ⟨T', hT'⟩ := open_intsP (hval 1 36 v1 rfl rfl) h1
  clear hA0 hval0
  have hlt : ∀ x ∈ p0, x.block < W.heap.size := fun x hx => by
    have := hW'.lt x (by simp_all)
    simpa using this
  have hlt1 : ∀ x ∈ p1, x.block < W.heap.size := fun x hx => by
    have := hW'.lt x (by simp_all)
    simpa using this
  refine (walkFnExactUnionHas T T' v0 v1 W hT hT').mono fun e W' ⟨he, hg⟩ => ?_
  subst he
  exact ⟨_, rfl, _, _, _, [], _, [], hW', trodAll_mk1 (shut_bool Try.underlying4 _), (trodAll_cons_mk (Below.trod laidOut (by kernel_rfl) (of_decide_eq_true (by kernel_rfl)) h0k hg hlt) (trodAll_cons_mk (Below.trod laidOut (by kernel_rfl) (of_decide_eq_true (by kernel_rfl)) h1k hg hlt1) trodAll_mk0)), rfl, hg.frame _, fun h => by cases h⟩

theorem over : Rows.fnExactUnionHasRow.holds Try.pinned (OpenSpec.ofChange Rows.fnExactUnionHasSpec) :=
  OpenClaim.holds_of_wide 9 Try.f9 rfl rfl rfl rfl rfl rfl rfl ⟨rfl, rfl, rfl, rfl, rfl⟩ rfl rfl rfl rfl rfl (by kernel_rfl) Try.func9 (by kernel_rfl)
    (of_decide_eq_true (by kernel_rfl)) (by unfold Func.isWrapper; first | (rw [if_pos (by decide +kernel)]; kernel_rfl) | (rw [if_neg (by decide +kernel)]; exact ⟨rfl, rfl⟩))
    (fun os started H enc _ => lifted os started H enc)

end fnExactUnionHas

theorem fnExactUnionHas_holds : Rows.FnExactUnionHasSaid := fnExactUnionHas.over
#print axioms fnExactUnionHas_holds
end Go.Proofs.Ytaddiljgpeidgaa
