/- Proved here: at every text the law FnExactUnframeAll answers true, that is, UnframeAll answers as its model, its answer owns its memory, and it writes into nothing.
   Conditions: none beside the row's own. -/
import Derived.Test.YtcpjbacjmmbabaaFxL
import Derived.OpenShut
import Derived.ShutString
import Derived.ChangeMaps5
namespace Go.Proofs.Ytcpjbacjmmbabaa
open Go.RowKit Plain Tpc Frm

theorem uaT_len (s : ByteArray) : (uaT s).length ≤ 100 := by
  unfold uaT
  split
  · have := unT_len (ul s)
    rw [ul_len] at this
    omega
  · simp

set_option maxRecDepth 100000 in
set_option maxHeartbeats 4000000 in
theorem walkFnExactUnframeAll (p : ByteArray) (w : World) (hm : p.size ≤ maxLen) :
    Calls Try.prog 5 #[.string p] w fun e w' => e = .returned (.bool true) ∧ Below w.heap.size w w' := by
  have hm' : p.size ≤ 9223372036854775807 := by unfold maxLen at hm; omega
  by_cases hbigp : 1048576 < p.size
  · have d : decide ((1048576 : Int) < (p.size : Int)) = true := by simp; omega
    go_enter Try.func5, Try.ntmps5
    go_wp2
    go_ret
    exact ⟨rfl, Below.refl _ _⟩
  have dp : decide ((1048576 : Int) < (p.size : Int)) = false := by simp; omega
  have A : Hid (∀ W, Calls Try.prog 17 #[.string p] W fun e w' => UaO W w' e p) := fun W => specUnframe p W hm
  have B : Hid (∀ W, Calls Try.prog 18 #[.string p] W fun e w' => UaO W w' e p) := fun W => implUnframe p W hm
  have hT := uaT_len p
  unfold UaO at A B
  generalize uaT p = T at A B hT
  generalize uaR p = R at A B
  generalize uaB p = b at A B
  generalize decide (p.size ≤ 300) = d at A B
  have nb : (b != b) = false := bne_self_eq_false b
  have nd : (d != d) = false := bne_self_eq_false d
  have nR : (R.toList == R.toList) = true := by simp
  go_enter Try.func5, Try.ntmps5
  go_wp2_with fail
  go_at_call 17
  refine (A.out _).mono ?_
  rintro e w2 ⟨⟨v2, rfl, hr2⟩, hb2⟩
  obtain ⟨a2, c2, rfl⟩ := hr2.slice
  have HR2 : Hid (StRow w2 w.heap.size (.slice a2 T.length c2) T) := hr2
  have HB2 : Hid (Below w.heap.size w w2) := hb2
  have hs2 := hb2.size
  have hlt2 : Hid (∀ g, (Value.slice a2 T.length c2).ownBlock = some g → w.heap.size ≤ g ∧ g < w2.heap.size) := fun g hg => World.ownsRow.lt hr2 g hg
  clear hr2 hb2 A
  go_wp2_with fail
  go_at_call 18
  refine (B.out _).mono ?_
  rintro e w3 ⟨⟨v3, rfl, hr3⟩, hb3⟩
  obtain ⟨a3, c3, rfl⟩ := hr3.slice
  have hs3 := hb3.size
  have HR3 : Hid (StRow w3 w2.heap.size (.slice a3 T.length c3) T) := hr3
  have hlt3 : Hid (∀ g, (Value.slice a3 T.length c3).ownBlock = some g → w2.heap.size ≤ g ∧ g < w3.heap.size) := fun g hg => World.ownsRow.lt hr3 g hg
  have HR23 : Hid (StRow w3 w.heap.size (.slice a2 T.length c2) T) := HR2.out.below hb3
  have HB3 : Hid (Below w.heap.size w w3) := HB2.out.trans (hb3.mono hs2)
  have C1 := eqTexts_same T _ _ w3 (StAt.own hr3) (StAt.own HR23.out) (by omega)
  clear hr3 hb3 HR2 HB2
  go_wp2_with fail
  go_at_call 19
  refine C1.mono ?_
  rintro e w4 ⟨rfl, hb4⟩
  have hs4 := hb4.size
  have HR4 : Hid (StRow w4 w2.heap.size (.slice a3 T.length c3) T) := HR3.out.below hb4
  have HR24 : Hid (StRow w4 w.heap.size (.slice a2 T.length c2) T) := HR23.out.below hb4
  have HB4 : Hid (Below w.heap.size w w4) := HB3.out.trans (hb4.mono HB3.out.size)
  clear hb4 HR3 HR23 HB3 C1
  have C2 := markTexts_any w2.heap.size T.length 1 _ _ w4 HR4.out (by omega) (by omega) (by omega)
  go_wp2_with fail
  go_at_call 20
  refine C2.mono ?_
  rintro e w5 ⟨rfl, ⟨ys, ho5, hy5⟩, hg5⟩
  have HM5 : Hid (StRow w5 w2.heap.size (.slice a3 T.length c3) (mks 1 T.length)) := marked_at ho5 hy5
  have HR25 : Hid (StRow w5 w.heap.size (.slice a2 T.length c2) T) := by
    refine ⟨HR24.out.1, ?_⟩
    rcases HR24.out.2 with hn | ⟨g, cap, cur, hv, hg, hgg, rest⟩
    · exact .inl hn
    · refine .inr ⟨g, cap, cur, hv, hg, (hg5.block g (Array.getElem?_eq_some_iff.1 hgg).1 (fun e => ?_)).trans hgg, rest⟩
      have h1 := (hlt2.out g (by rw [hv]; rfl)).2
      have h2 := (hlt3.out g e.symm).1
      omega
  have HB5 : Hid (Below w.heap.size w w5) := HB4.out.grown hg5 HB4.out.size (fun k hk => by have := (hlt3.out k hk).1; omega)
  have C3 := heldTexts_any T.length 1 _ w5 (StAt.own HM5.out) (by omega) (by omega) (by omega)
  clear ho5 hy5 hg5 HR4 HR24 HB4 C2
  go_wp2_with fail
  go_at_call 21
  refine C3.mono ?_
  rintro e w6 ⟨rfl, hb6⟩
  have hs6 := hb6.size
  have HM6 : Hid (StRow w6 w2.heap.size (.slice a3 T.length c3) (mks 1 T.length)) := HM5.out.below hb6
  have HR26 : Hid (StRow w6 w.heap.size (.slice a2 T.length c2) T) := HR25.out.below hb6
  have HB6 : Hid (Below w.heap.size w w6) := HB5.out.trans (hb6.mono HB5.out.size)
  clear hb6 HM5 HR25 HB5 C3
  go_wp2_with fail
  go_at_call 18
  refine (B.out _).mono ?_
  rintro e w7 ⟨⟨v7, rfl, hr7⟩, hb7⟩
  obtain ⟨a7, c7, rfl⟩ := hr7.slice
  have HM7 : Hid (StRow w7 w2.heap.size (.slice a3 T.length c3) (mks 1 T.length)) := HM6.out.below hb7
  have HR27 : Hid (StRow w7 w.heap.size (.slice a2 T.length c2) T) := HR26.out.below hb7
  have HB7 : Hid (Below w.heap.size w w7) := HB6.out.trans (hb7.mono HB6.out.size)
  have C4 := eqTexts_same T _ _ w7 (StAt.own hr7) (StAt.own HR27.out) (by omega)
  clear hr7 hb7 HM6 HR26 HB6 B
  go_wp2_with fail
  go_at_call 19
  refine C4.mono ?_
  rintro e w8 ⟨rfl, hb8⟩
  have HM8 : Hid (StRow w8 w2.heap.size (.slice a3 T.length c3) (mks 1 T.length)) := HM7.out.below hb8
  have HB8 : Hid (Below w.heap.size w w8) := HB7.out.trans (hb8.mono HB7.out.size)
  have C5 := heldTexts_any T.length 1 _ w8 (StAt.own HM8.out) (by omega) (by omega) (by omega)
  clear hb8 HM7 HR27 HB7 C4
  go_wp2_with fail
  go_at_call 21
  refine C5.mono ?_
  rintro e w9 ⟨rfl, hb9⟩
  have hB9 : Below w.heap.size w w9 := HB8.out.trans (hb9.mono HB8.out.size)
  clear hb9 HM8 HB8 C5
  go_wp2
  go_ret
  exact ⟨rfl, hB9⟩

namespace fnExactUnframeAll
open Go.ChangeShapes Go.WideShapes Go.ChangeAt

theorem own : ownKnob Try.prog.godebug = none := by kernel_rfl
theorem laidOut : laidOutB Try.prog = true := by kernel_rfl

set_option maxRecDepth 100000 in
theorem lifted (os : Os) (started : os.Started) (H : Type) (enc : TypeId × Value → H) :
    ReturnsInHanded {} Try.checked os 5 .any (Rows.fnExactUnframeAllSpec.pre6 enc Try.prog Try.f5 Rows.fnExactUnframeAllRow.domain false) (Rows.fnExactUnframeAllSpec.post enc Try.prog Try.f5 false true false false) := by
  refine returnsInHanded_of_change (C := Try.checked) own started (by kernel_rfl) Try.func5
    (ChangeSpec.witness6 (enc := enc) (C := Try.checked) false ⟨#[], #[.string ByteArray.empty], []⟩ 8 (by kernel_rfl) (by kernel_rfl) (by kernel_rfl) (by kernel_rfl)) ?_
  intro W base args ds gs before hval0 hW hcnd _
  have hval : ∀ (j : Nat) t v, Try.f5.params[j]? = some t → args[j]? = some v → Value.okWide Try.prog W .any base t v := hval0
  have hW' := hW
  obtain ⟨p, q, hA0, hV, rfl, hfz, hnd⟩ := hW
  have hA : DataW.TrodAll enc Try.prog W 0 (fun _ => true) true Try.f5.params.toList args.toList ds p := hA0
  rw [Try.params5] at hA hval
  obtain ⟨v0, vs0, d0, ds0, p0, q0, hargs, rfl, rfl, h0, r0⟩ := trodAll_cons hA
  obtain ⟨rfl, rfl, rfl⟩ := trodAll_nil r0
  obtain rfl : args = #[v0] := by cases args; simp_all
  obtain ⟨rfl, rfl⟩ := trodVars_none hV
  obtain ⟨s0, rfl, rfl, rfl, hs0⟩ := ChangeMaps.open_string Try.underlying9 (hval 0 9 v0 rfl rfl) h0
  refine (walkFnExactUnframeAll s0 W hs0).mono fun e W' ⟨he, hg⟩ => ?_
  subst he
  exact ⟨_, rfl, _, _, _, [], _, [], hW', trodAll_mk1 (shut_bool Try.underlying4 _), (trodAll_cons_mk (ChangeMaps.shut_string Try.underlying9 hs0) trodAll_mk0), rfl, hg.frame _, fun h => by cases h⟩

theorem over : Rows.fnExactUnframeAllRow.holds Try.pinned (OpenSpec.ofChange Rows.fnExactUnframeAllSpec) :=
  OpenClaim.holds_of_wide 5 Try.f5 rfl rfl rfl rfl rfl rfl rfl ⟨rfl, rfl, rfl, rfl, rfl⟩ rfl rfl rfl rfl rfl (by kernel_rfl) Try.func5 (by kernel_rfl)
    (of_decide_eq_true (by kernel_rfl)) (by unfold Func.isWrapper; first | (rw [if_pos (by decide +kernel)]; kernel_rfl) | (rw [if_neg (by decide +kernel)]; exact ⟨rfl, rfl⟩))
    (fun os started H enc _ => lifted os started H enc)

end fnExactUnframeAll

theorem fnExactUnframeAll_holds : Rows.FnExactUnframeAllSaid := fnExactUnframeAll.over
#print axioms fnExactUnframeAll_holds
end Go.Proofs.Ytcpjbacjmmbabaa
