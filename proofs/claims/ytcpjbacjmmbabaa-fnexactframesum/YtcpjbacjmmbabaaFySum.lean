/- Proved here: at every text the law FnExactFrameSum answers true, that is, FrameSum answers as its model, its answer owns its memory, and it writes into nothing.
   Conditions: none beside the row's own. -/
import Derived.Test.YtcpjbacjmmbabaaFxB
import Derived.OpenShut
import Derived.ShutString
import Derived.ChangeMaps5
namespace Go.Proofs.Ytcpjbacjmmbabaa
open Go.RowKit Plain Tpc Frm

set_option maxRecDepth 100000 in
set_option maxHeartbeats 4000000 in
theorem walkFnExactFrameSum (p : ByteArray) (w : World) (hm : p.size ≤ maxLen) :
    Calls Try.prog 3 #[.string p] w fun e w' => e = .returned (.bool true) ∧ Below w.heap.size w w' := by
  have hm' : p.size ≤ 9223372036854775807 := by unfold maxLen at hm; omega
  by_cases hbigp : 1048576 < p.size
  · have d : decide ((1048576 : Int) < (p.size : Int)) = true := by simp; omega
    go_enter Try.func3, Try.ntmps3
    go_wp2
    go_ret
    exact ⟨rfl, Below.refl _ _⟩
  have dp : decide ((1048576 : Int) < (p.size : Int)) = false := by simp; omega
  have A : Hid (∀ W, type_of% (specSum p W hm)) := fun W => specSum p W hm
  have B : Hid (∀ W, type_of% (implSum p W hm)) := fun W => implSum p W hm
  generalize (if p.size ≤ 60 then ((fsum (ul p) : Nat) : Int) else 0) = r at A B
  generalize decide (p.size ≤ 60) = b at A B
  have hb : (b != b) = false := bne_self_eq_false b
  have hr : (r != r) = false := bne_self_eq_false r
  go_enter Try.func3, Try.ntmps3
  go_wp2_with fail
  refine (A.out _).mono ?_
  rintro e w2 ⟨rfl, rfl⟩
  go_wp2_with fail
  refine (B.out _).mono ?_
  rintro e w3 ⟨rfl, rfl⟩
  go_wp2
  go_ret
  exact ⟨rfl, Below.refl _ _⟩

namespace fnExactFrameSum
open Go.ChangeShapes Go.WideShapes Go.ChangeAt

theorem own : ownKnob Try.prog.godebug = none := by kernel_rfl
theorem laidOut : laidOutB Try.prog = true := by kernel_rfl

set_option maxRecDepth 100000 in
theorem lifted (os : Os) (started : os.Started) (H : Type) (enc : TypeId × Value → H) :
    ReturnsInHanded {} Try.checked os 3 .any (Rows.fnExactFrameSumSpec.pre6 enc Try.prog Try.f3 Rows.fnExactFrameSumRow.domain false) (Rows.fnExactFrameSumSpec.post enc Try.prog Try.f3 false true false false) := by
  refine returnsInHanded_of_change (C := Try.checked) own started (by kernel_rfl) Try.func3
    (ChangeSpec.witness6 (enc := enc) (C := Try.checked) false ⟨#[], #[.string ByteArray.empty], []⟩ 8 (by kernel_rfl) (by kernel_rfl) (by kernel_rfl) (by kernel_rfl)) ?_
  intro W base args ds gs before hval0 hW hcnd _
  have hval : ∀ (j : Nat) t v, Try.f3.params[j]? = some t → args[j]? = some v → Value.okWide Try.prog W .any base t v := hval0
  have hW' := hW
  obtain ⟨p, q, hA0, hV, rfl, hfz, hnd⟩ := hW
  have hA : DataW.TrodAll enc Try.prog W 0 (fun _ => true) true Try.f3.params.toList args.toList ds p := hA0
  rw [Try.params3] at hA hval
  obtain ⟨v0, vs0, d0, ds0, p0, q0, hargs, rfl, rfl, h0, r0⟩ := trodAll_cons hA
  obtain ⟨rfl, rfl, rfl⟩ := trodAll_nil r0
  obtain rfl : args = #[v0] := by cases args; simp_all
  obtain ⟨rfl, rfl⟩ := trodVars_none hV
  obtain ⟨s0, rfl, rfl, rfl, hs0⟩ := ChangeMaps.open_string Try.underlying9 (hval 0 9 v0 rfl rfl) h0
  refine (walkFnExactFrameSum s0 W hs0).mono fun e W' ⟨he, hg⟩ => ?_
  subst he
  exact ⟨_, rfl, _, _, _, [], _, [], hW', trodAll_mk1 (shut_bool Try.underlying4 _), (trodAll_cons_mk (ChangeMaps.shut_string Try.underlying9 hs0) trodAll_mk0), rfl, hg.frame _, fun h => by cases h⟩

theorem over : Rows.fnExactFrameSumRow.holds Try.pinned (OpenSpec.ofChange Rows.fnExactFrameSumSpec) :=
  OpenClaim.holds_of_wide 3 Try.f3 rfl rfl rfl rfl rfl rfl rfl ⟨rfl, rfl, rfl, rfl, rfl⟩ rfl rfl rfl rfl rfl (by kernel_rfl) Try.func3 (by kernel_rfl)
    (of_decide_eq_true (by kernel_rfl)) (by unfold Func.isWrapper; first | (rw [if_pos (by decide +kernel)]; kernel_rfl) | (rw [if_neg (by decide +kernel)]; exact ⟨rfl, rfl⟩))
    (fun os started H enc _ => lifted os started H enc)

end fnExactFrameSum

theorem fnExactFrameSum_holds : Rows.FnExactFrameSumSaid := fnExactFrameSum.over
#print axioms fnExactFrameSum_holds
end Go.Proofs.Ytcpjbacjmmbabaa
