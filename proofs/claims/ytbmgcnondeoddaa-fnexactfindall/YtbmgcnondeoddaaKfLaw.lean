/- Proved here: at every two texts the law FnExactFindAll answers true, that is, FindAll answers as its model, its answer owns its memory, and it writes into nothing.
   Conditions: none beside the row's own. -/
import Derived.Test.YtbmgcnondeoddaaKmI
import Derived.OpenShut
import Derived.ShutString
import Derived.ChangeMaps5
namespace Go.Proofs.Ytbmgcnondeoddaa
open Go.RowKit Plain Tpc Kmp

set_option maxRecDepth 100000 in
set_option maxHeartbeats 4000000 in
theorem walkFnExactFindAll (s p : ByteArray) (w : World) (hs : s.size ≤ maxLen) (hm : p.size ≤ maxLen) :
    Calls Try.prog 5 #[.string s, .string p] w fun e w' => e = .returned (.bool true) ∧ Below w.heap.size w w' := by
  have hs' : s.size ≤ 9223372036854775807 := by unfold maxLen at hs; omega
  have hm' : p.size ≤ 9223372036854775807 := by unfold maxLen at hm; omega
  by_cases hbigs : 1048576 < s.size
  · have d : decide ((1048576 : Int) < (s.size : Int)) = true := by simp; omega
    go_enter Try.func5, Try.ntmps5
    go_wp2
    go_ret
    exact ⟨rfl, Below.refl _ _⟩
  have ds : decide ((1048576 : Int) < (s.size : Int)) = false := by simp; omega
  by_cases hbigp : 1048576 < p.size
  · have d : decide ((1048576 : Int) < (p.size : Int)) = true := by simp; omega
    go_enter Try.func5, Try.ntmps5
    go_wp2
    go_ret
    exact ⟨rfl, Below.refl _ _⟩
  have dp : decide ((1048576 : Int) < (p.size : Int)) = false := by simp; omega
  obtain ⟨R, hR⟩ : ∃ R, R = fof s p := ⟨_, rfl⟩
  have A : Hid (∀ W, Calls Try.prog 19 #[.string s, .string p] W fun e w' => OFind W w' e R) := fun W => by rw [hR]; exact specFind s p W hs hm
  have B : Hid (∀ W, Calls Try.prog 20 #[.string s, .string p] W fun e w' => OFind W w' e R) := fun W => by rw [hR]; exact implFind s p W hs hm
  have hlen : R.1.length ≤ 200 := by rw [hR]; exact fof_len s p
  clear hR
  obtain ⟨l, n, ok⟩ := R
  unfold OFind at A B
  dsimp only at A B hlen
  have hmx : l.length ≤ maxLen := by unfold maxLen; omega
  go_enter Try.func5, Try.ntmps5
  go_wp2_with fail
  refine (A.out _).mono ?_
  rintro e w1 ⟨v1, rfl, ho1, hb1⟩
  have HZ1 : Hid (IntsAt w1 w1.heap.size v1 l) := IntsAt.own ho1 hmx
  have hs1 := hb1.size
  clear ho1
  go_wp2_with fail
  refine (B.out w1).mono ?_
  rintro e w2 ⟨v2, rfl, ho2, hb2⟩
  have HV2 : Hid (NRow w2 w1.heap.size v2 l) := ho2
  have HX2 : Hid (Below w1.heap.size w1 w2) := hb2
  clear ho2 hb2
  go_wp2_with fail
  refine (eqIntS_same l v2 v1 w2 (IntsAt.own HV2.out hmx) (HZ1.out.below HX2.out) (by omega)).mono ?_
  rintro e w3 ⟨rfl, hb3⟩
  have HV3 : Hid (NRow w3 w1.heap.size v2 l) := HV2.out.below hb3
  have HX3 : Hid (Below w1.heap.size w1 w3) := HX2.out.trans (hb3.mono HX2.out.size)
  clear hb3 HV2 HX2
  go_wp2_with fail
  refine (markIntS_any w1.heap.size l.length 1 v2 _ w3 HV3.out (by omega) (by omega)).mono ?_
  rintro e w15 ⟨rfl, ⟨ys15, ho15, hm15⟩, hb15⟩
  have HX15 : Hid (Below w1.heap.size w1 w15) := HX3.out.trans hb15
  have HM15 : Hid (IntsAt w15 w15.heap.size v2 ((List.range l.length).map (1 + ·))) := markedInts ho15 hm15 hmx
  clear ho15 hm15 hb15 HX3 HV3
  go_wp2_with fail
  refine (heldIntS_any l.length 1 v2 _ HM15.out (by omega) (by omega)).mono ?_
  rintro e w16 ⟨rfl, hb16⟩
  have HX16 : Hid (Below w1.heap.size w1 w16) := HX15.out.trans (hb16.mono HX15.out.size)
  have HM16 : Hid (IntsAt w16 w16.heap.size v2 ((List.range l.length).map (1 + ·))) := HM15.out.below hb16
  have hge16 : (0 : Int) ≤ ((1 + l.length : Nat) : Int) := by omega
  clear hb16 HX15 HM15
  go_wp2_with fail
  refine (B.out w16).mono ?_
  rintro e w19 ⟨v3, rfl, ho19, hb19⟩
  have HZ19 : Hid (IntsAt w19 w19.heap.size v3 l) := IntsAt.own ho19 hmx
  have HX19 : Hid (Below w1.heap.size w1 w19) := HX16.out.trans (hb19.mono HX16.out.size)
  have HM19 : Hid (IntsAt w19 w19.heap.size v2 ((List.range l.length).map (1 + ·))) := HM16.out.below hb19
  clear hb19 HX16 HM16 ho19
  go_wp2_with fail
  refine (eqIntS_same l v3 v1 w19 HZ19.out (HZ1.out.below HX19.out) (by omega)).mono ?_
  rintro e w20 ⟨rfl, hb20⟩
  have HX20 : Hid (Below w1.heap.size w1 w20) := HX19.out.trans (hb20.mono HX19.out.size)
  have HM20 : Hid (IntsAt w20 w20.heap.size v2 ((List.range l.length).map (1 + ·))) := HM19.out.below hb20
  clear hb20 HX19 HM19 HZ19
  go_wp2_with fail
  refine (heldIntS_any l.length 1 v2 _ HM20.out (by omega) (by omega)).mono ?_
  rintro e w21 ⟨rfl, hb21⟩
  have HX21 : Hid (Below w1.heap.size w1 w21) := HX20.out.trans (hb21.mono HX20.out.size)
  have hB21 : Below w.heap.size w w21 := hb1.trans (HX21.out.mono hs1)
  clear hb21 HX20 HM20
  go_wp2
  go_ret
  exact ⟨rfl, hB21⟩

namespace fnExactFindAll
open Go.ChangeShapes Go.WideShapes Go.ChangeAt

theorem own : ownKnob Try.prog.godebug = none := by kernel_rfl

set_option maxRecDepth 100000 in
theorem lifted (os : Os) (started : os.Started) (H : Type) (enc : TypeId × Value → H) :
    ReturnsInHanded {} Try.checked os 5 .any (Rows.fnExactFindAllSpec.pre6 enc Try.prog Try.f5 Rows.fnExactFindAllRow.domain false) (Rows.fnExactFindAllSpec.post enc Try.prog Try.f5 false true false false) := by
  refine returnsInHanded_of_change (C := Try.checked) own started (by kernel_rfl) Try.func5
    (ChangeSpec.witness6 (enc := enc) (C := Try.checked) false ⟨#[], #[.string ByteArray.empty, .string ByteArray.empty], []⟩ 8 (by kernel_rfl) (by kernel_rfl) (by kernel_rfl) (by kernel_rfl)) ?_
  intro W base args ds gs before hval0 hW hcnd _
  have hval : ∀ (j : Nat) t v, Try.f5.params[j]? = some t → args[j]? = some v → Value.okWide Try.prog W .any base t v := hval0
  have hW' := hW
  obtain ⟨p, q, hA0, hV, rfl, hfz, hnd⟩ := hW
  have hA : DataW.TrodAll enc Try.prog W 0 (fun _ => true) true Try.f5.params.toList args.toList ds p := hA0
  rw [Try.params5] at hA hval
  obtain ⟨v0, vs0, d0, ds0, p0, q0, hargs, rfl, rfl, h0, r0⟩ := trodAll_cons hA
  obtain ⟨v1, vs1, d1, ds1, p1, q1, rfl, rfl, rfl, h1, r1⟩ := trodAll_cons r0
  obtain ⟨rfl, rfl, rfl⟩ := trodAll_nil r1
  obtain rfl : args = #[v0, v1] := by cases args; simp_all
  obtain ⟨rfl, rfl⟩ := trodVars_none hV
  obtain ⟨s, rfl, rfl, rfl, hs⟩ := ChangeMaps.open_string Try.underlying9 (hval 0 9 v0 rfl rfl) h0
  obtain ⟨s', rfl, rfl, rfl, hs'⟩ := ChangeMaps.open_string Try.underlying9 (hval 1 9 v1 rfl rfl) h1
  refine (walkFnExactFindAll s s' W hs hs').mono fun e W' ⟨he, hg⟩ => ?_
  subst he
  exact ⟨_, rfl, _, _, _, [], _, [], hW', trodAll_mk1 (shut_bool Try.underlying4 _), (trodAll_cons_mk (ChangeMaps.shut_string Try.underlying9 hs) (trodAll_cons_mk (ChangeMaps.shut_string Try.underlying9 hs') trodAll_mk0)), rfl, hg.frame _, fun h => by cases h⟩

theorem over : Rows.fnExactFindAllRow.holds Try.pinned (OpenSpec.ofChange Rows.fnExactFindAllSpec) :=
  OpenClaim.holds_of_wide 5 Try.f5 rfl rfl rfl rfl rfl rfl rfl ⟨rfl, rfl, rfl, rfl, rfl⟩ rfl rfl rfl rfl rfl (by kernel_rfl) Try.func5 (by kernel_rfl)
    (of_decide_eq_true (by kernel_rfl)) (by unfold Func.isWrapper; first | (rw [if_pos (by decide +kernel)]; kernel_rfl) | (rw [if_neg (by decide +kernel)]; exact ⟨rfl, rfl⟩))
    (fun os started H enc _ => lifted os started H enc)

end fnExactFindAll

theorem fnExactFindAll_holds : Rows.FnExactFindAllSaid := fnExactFindAll.over
#print axioms fnExactFindAll_holds
end Go.Proofs.Ytbmgcnondeoddaa
