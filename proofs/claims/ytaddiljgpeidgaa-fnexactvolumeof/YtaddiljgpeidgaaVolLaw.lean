/- Proved here: at every list of boxes the law FnExactVolumeOf answers true, that is, VolumeOf answers as its model and writes into nothing.
   Conditions: none beside the row's own. -/
import Derived.Test.YtaddiljgpeidgaaByX
import Derived.Test.YtaddiljgpeidgaaByM
import Derived.Test.YtaddiljgpeidgaaByO
namespace Go.Proofs.Ytaddiljgpeidgaa
open Go.RowKit Plain Sch Bxs

set_option maxRecDepth 100000 in
set_option maxHeartbeats 4000000 in
theorem walkFnExactVolumeOf (M : List (List Sd)) (v1 : Value) (w : World) (hM : BxsAt w w.heap.size v1 M) :
    Calls Try.prog 11 #[v1] w fun e w' => e = .returned (.bool true) ∧ Below w.heap.size w w' := by
  have HM : Hid (BxsAt w w.heap.size v1 M) := hM
  obtain ⟨aa, capa, rfl, _⟩ := hM
  go_enter Try.func11, Try.ntmps11
  go_wp2_with fail
  refine (szBoxS_any M _ _ HM.out).mono ?_
  rintro e w3 ⟨⟨r, rfl, hr0, hr1, hr2⟩, hb3⟩
  by_cases hneg : r < 0
  · clear hr2
    go_wp2
    go_ret
    exact ⟨rfl, hb3⟩
  obtain ⟨hl, hll0⟩ := hr2 (by omega)
  have hll : Hid (∀ i, i < M.length → (mx M i).length ≤ 1048576) := hll0
  clear hr2 hll0
  have TM : Hid (∀ W : World, Below w.heap.size w W → Calls Try.prog 33 #[.slice aa M.length capa] W fun e w' => ∃ ar capr, e = .returned (.slice ar M.length capr) ∧ BxsAt w' w'.heap.size (.slice ar M.length capr) M ∧ Below W.heap.size W w') := fun W hW => by
    refine (toBoxS_any M _ W (HM.out.below hW) hl hll.out).mono ?_
    rintro e w' ⟨r, rfl, ⟨us, ho⟩, hb⟩
    obtain ⟨ar, capr, rfl⟩ := ho.slice
    exact ⟨ar, capr, rfl, ho.at, hb⟩
  have EM : Hid (∀ (W : World) (v1 v2 : Value), BxsAt W W.heap.size v1 M → BxsAt W W.heap.size v2 M → Calls Try.prog 35 #[v1, v2] W fun e w' => e = .returned (.bool true) ∧ Below W.heap.size W w') := fun W v1 v2 h1 h2 => eqBoxS_same M v1 v2 W h1 h2 (by omega) (fun i hi => by have := hll.out i hi; omega)
  have CS : Hid (∀ (W : World) (v1 : Value), BxsAt W W.heap.size v1 M → Calls Try.prog 44 #[v1] W fun e w' => e = .returned (.tuple #[.int .i64 (volM M), .bool (gl M)]) ∧ Below W.heap.size W w') := fun W v1 h1 => specVol M v1 W h1
  have CI : Hid (∀ (W : World) (v1 : Value), BxsAt W W.heap.size v1 M → Calls Try.prog 45 #[v1] W fun e w' => e = .returned (.tuple #[.int .i64 (volM M), .bool (gl M)]) ∧ Below W.heap.size W w') := fun W v1 h1 => implVol M v1 W h1
  generalize volM M = b1 at CS CI
  generalize gl M = b2 at CS CI
  clear HM
  go_wp2_with fail
  refine (TM.out _ hb3).mono ?_
  rintro e w5 ⟨ar, car, rfl, hta, hb5⟩
  have hB5 : Below w.heap.size w w5 := hb3.trans (hb5.mono hb3.size)
  have HTA : Hid (BxsAt w5 w5.heap.size (.slice ar M.length car) M) := hta
  clear hb5 hta hb3
  go_wp2_with fail
  refine (CS.out _ _ HTA.out).mono ?_
  rintro e w7 ⟨rfl, hb7⟩
  have hB7 : Below w.heap.size w w7 := hB5.trans (hb7.mono hB5.size)
  clear hb7 hB5 HTA CS
  go_wp2_with fail
  refine (TM.out _ hB7).mono ?_
  rintro e w8 ⟨ar2, car2, rfl, hta, hb8⟩
  have hB8 : Below w.heap.size w w8 := hB7.trans (hb8.mono hB7.size)
  have HTA8 : Hid (BxsAt w8 w8.heap.size (.slice ar2 M.length car2) M) := hta
  clear hb8 hta hB7
  go_wp2_with fail
  refine (CI.out _ _ HTA8.out).mono ?_
  rintro e w11 ⟨rfl, hb11⟩
  have hB11 : Below w.heap.size w w11 := hB8.trans (hb11.mono hB8.size)
  have HTA11 : Hid (BxsAt w11 w11.heap.size (.slice ar2 M.length car2) M) := HTA8.out.below hb11
  clear hb11 hB8 HTA8 CI
  go_wp2_with fail
  refine (TM.out _ hB11).mono ?_
  rintro e w12 ⟨aq, caq, rfl, ht12, hb12⟩
  have hB12 : Below w.heap.size w w12 := hB11.trans (hb12.mono hB11.size)
  have HTA12 : Hid (BxsAt w12 w12.heap.size (.slice ar2 M.length car2) M) := HTA11.out.below hb12
  have HTQ : Hid (BxsAt w12 w12.heap.size (.slice aq M.length caq) M) := ht12
  clear hb12 ht12 hB11 HTA11
  go_wp2_with fail
  refine (EM.out _ _ _ HTA12.out HTQ.out).mono ?_
  rintro e w13 ⟨rfl, hb13⟩
  have hB13 : Below w.heap.size w w13 := hB12.trans (hb13.mono hB12.size)
  go_wp2
  go_ret
  exact ⟨rfl, hB13⟩

namespace fnExactVolumeOf
open Go.ChangeShapes Go.WideShapes Go.ChangeAt

theorem own : ownKnob Try.prog.godebug = none := by kernel_rfl
theorem laidOut : laidOutB Try.prog = true := by kernel_rfl

set_option maxRecDepth 100000 in
theorem lifted (os : Os) (started : os.Started) (H : Type) (enc : TypeId × Value → H) :
    ReturnsInHanded {} Try.checked os 11 .any (Rows.fnExactVolumeOfSpec.pre6 enc Try.prog Try.f11 Rows.fnExactVolumeOfRow.domain false) (Rows.fnExactVolumeOfSpec.post enc Try.prog Try.f11 false true false false) := by
  refine returnsInHanded_of_change (C := Try.checked) own started (by kernel_rfl) Try.func11
    (ChangeSpec.witness6 (enc := enc) (C := Try.checked) false ⟨#[], #[.slice none 0 0], []⟩ 8 (by kernel_rfl) (by kernel_rfl) (by kernel_rfl) (by kernel_rfl)) ?_
  intro W base args ds gs before hval0 hW hcnd _
  have hval : ∀ (j : Nat) t v, Try.f11.params[j]? = some t → args[j]? = some v → Value.okWide Try.prog W .any base t v := hval0
  have hW' := hW
  obtain ⟨p, q, hA0, hV, rfl, hfz, hnd⟩ := hW
  have hA : DataW.TrodAll enc Try.prog W 0 (fun _ => true) true Try.f11.params.toList args.toList ds p := hA0
  rw [Try.params11] at hA hval
  obtain ⟨v0, vs0, d0, ds0, p0, q0, hargs, rfl, rfl, h0, r0⟩ := trodAll_cons hA
  obtain ⟨rfl, rfl, rfl⟩ := trodAll_nil r0
  obtain rfl : args = #[v0] := by cases args; simp_all
  obtain ⟨rfl, rfl⟩ := trodVars_none hV
  have h0k := h0
  obtain ⟨T, hT⟩ := open_boxes (hval 0 44 v0 rfl rfl) h0
  clear hA0 hval0
  have hlt : ∀ x ∈ p0, x.block < W.heap.size := fun x hx => by
    have := hW'.lt x (by simp_all)
    simpa using this
  refine (walkFnExactVolumeOf T v0 W hT).mono fun e W' ⟨he, hg⟩ => ?_
  subst he
  exact ⟨_, rfl, _, _, _, [], _, [], hW', trodAll_mk1 (shut_bool Try.underlying4 _), (trodAll_cons_mk (Below.trod laidOut (by kernel_rfl) (of_decide_eq_true (by kernel_rfl)) h0k hg hlt) trodAll_mk0), rfl, hg.frame _, fun h => by cases h⟩

theorem over : Rows.fnExactVolumeOfRow.holds Try.pinned (OpenSpec.ofChange Rows.fnExactVolumeOfSpec) :=
  OpenClaim.holds_of_wide 11 Try.f11 rfl rfl rfl rfl rfl rfl rfl ⟨rfl, rfl, rfl, rfl, rfl⟩ rfl rfl rfl rfl rfl (by kernel_rfl) Try.func11 (by kernel_rfl)
    (of_decide_eq_true (by kernel_rfl)) (by unfold Func.isWrapper; first | (rw [if_pos (by decide +kernel)]; kernel_rfl) | (rw [if_neg (by decide +kernel)]; exact ⟨rfl, rfl⟩))
    (fun os started H enc _ => lifted os started H enc)

end fnExactVolumeOf

theorem fnExactVolumeOf_holds : Rows.FnExactVolumeOfSaid := fnExactVolumeOf.over
#print axioms fnExactVolumeOf_holds
end Go.Proofs.Ytaddiljgpeidgaa
