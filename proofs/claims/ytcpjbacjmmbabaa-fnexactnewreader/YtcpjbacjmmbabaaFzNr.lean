/- Proved here: at every call the law FnExactNewReader answers true, that is, NewReader answers as its model, its answer owns its memory, and it writes into nothing.
   Conditions: none beside the row's own. -/
import Derived.Test.YtcpjbacjmmbabaaFxS
import Derived.Test.YtcpjbacjmmbabaaFxT
import Derived.Deep.DeepCutAuto
import Derived.Deep.RegionHeld3
import Derived.Deep.DrawnRows
import Derived.OpenShut
import Derived.ShutString
import Derived.ChangeMaps5
namespace Go.Proofs.Ytcpjbacjmmbabaa
open Go.RowKit Plain Tpc Frm

set_option maxRecDepth 100000 in
set_option maxHeartbeats 16000000 in
theorem walkFnExactNewReader (w : World) :
    Calls Try.prog 6 #[] w fun e w' => e = .returned (.bool true) ∧ Below w.heap.size w w' := by
  have hFl : rnew.got.length ≤ 41 := by decide
  have CS : Hid (∀ W, Calls Try.prog 22 #[] W fun e w' => ∃ a c, e = .returned (rnew.val (.slice a rnew.got.length c)) ∧ StRow w' W.heap.size (.slice a rnew.got.length c) rnew.got ∧ Below W.heap.size W w') := fun W => (specNew W).mono fun e w' h => by
    obtain ⟨v', he, hro, hb⟩ := h
    obtain ⟨a, c, rfl⟩ := hro.slice
    exact ⟨a, c, he, hro, hb⟩
  have CI : Hid (∀ W, Calls Try.prog 23 #[] W fun e w' => ∃ a c, e = .returned (rnew.val (.slice a rnew.got.length c)) ∧ StRow w' W.heap.size (.slice a rnew.got.length c) rnew.got ∧ Below W.heap.size W w') := fun W => (implNew W).mono fun e w' h => by
    obtain ⟨v', he, hro, hb⟩ := h
    obtain ⟨a, c, rfl⟩ := hro.slice
    exact ⟨a, c, he, hro, hb⟩
  have EF : Hid (∀ W v1 v2, StAt W W.heap.size v1 rnew.got → StAt W W.heap.size v2 rnew.got → Calls Try.prog 24 #[rnew.val v1, rnew.val v2] W fun e w' => e = .returned (.bool true) ∧ Below W.heap.size W w') := fun W v1 v2 h1 h2 => eqReader_same _ v1 v2 W h1 h2 (by omega)
  have MG : Hid (∀ B n u xs W, World.ownsRow W B 9 1 u n xs → n ≤ 2097152 → Calls Try.prog 25 #[rnew.val u, .int .i64 1] W fun e w' => e = .returned (.int .i64 ((1 + n : Nat) : Int)) ∧ (∃ ys, w'.ownsRow B 9 1 u n ys ∧ ∀ j, j < n → ys[j]? = some (.string (mt (1 + j)))) ∧ W.grownBy w' u.ownBlock) := fun B n u xs W h hn => markReader_any _ B n 1 u xs W h hn (by omega) (by omega)
  have HG : Hid (∀ n u W, StAt W W.heap.size u (mks 1 n) → n ≤ 2097152 → Calls Try.prog 26 #[rnew.val u, .int .i64 1] W fun e w' => e = .returned (.int .i64 ((1 + n : Nat) : Int)) ∧ Below W.heap.size W w') := fun n u W h hn => heldReader_any _ n 1 u W h hn (by omega) (by omega)
  unfold Rdr.val at CS CI EF MG HG
  generalize rnew = F at CS CI EF MG HG hFl
  obtain ⟨fq, fL, fb⟩ := F
  dsimp only at *
  have HBw : Hid (Below w.heap.size w w) := Below.refl _ _
  go_enter Try.func6, Try.ntmps6
  go_wp2_with fail
  go_at_call 22
  refine (CS.out _).mono ?_
  rintro e w2 ⟨a2, c2, rfl, hr2, hb2⟩
  have hsw2 := hb2.size
  have HBw2 : Hid (Below w.heap.size w w2) := HBw.out.trans (hb2.mono HBw.out.size)
  clear HBw
  clear hb2
  have HRU : Hid (StRow w2 w.heap.size (.slice a2 fL.length c2) fL) := hr2
  have HLU : Hid (∀ g, (.slice a2 fL.length c2 : Value).ownBlock = some g → w.heap.size ≤ g ∧ g < w2.heap.size) := fun g hg => World.ownsRow.lt hr2 g hg
  clear hr2
  obtain ⟨W1, hW1⟩ : ∃ X, X = w2.alloc (.cells #[.string fq, .slice a2 fL.length c2, .bool fb] 33) := ⟨_, rfl⟩
  have hbW1 : Below w2.heap.size w2 W1 := by rw [hW1]; exact (Below.refl _ _).alloc (Nat.le_refl _) _
  have hlW1 : w2.heap.size < W1.heap.size := by rw [hW1]; simp
  have hsW1 := hbW1.size
  have HBW1 : Hid (Below w.heap.size w W1) := HBw2.out.trans (hbW1.mono HBw2.out.size)
  have HRU : Hid (StRow W1 w.heap.size (.slice a2 fL.length c2) fL) := HRU.out.below hbW1
  clear HBw2
  have HV1 : Hid (Rv W1 (w2.heap.size) (.string fq) (.slice a2 fL.length c2) (.bool fb)) := by show Rv _ _ _ _ _; rw [hW1]; exact Rv.fresh w2 _ _ _ _
  clear hbW1
  go_upto_region 2 with fail
  rw [← hW1]
  clear hW1
  go_wp2_with fail
  go_at_call 23
  refine (CI.out _).mono ?_
  rintro e w3 ⟨a3, c3, rfl, hr3, hb3⟩
  have hsw3 := hb3.size
  have HBw3 : Hid (Below w.heap.size w w3) := HBW1.out.trans (hb3.mono HBW1.out.size)
  have HV1 : Hid (Rv w3 (w2.heap.size) (.string fq) (.slice a2 fL.length c2) (.bool fb)) := HV1.out.below hb3
  have HRU : Hid (StRow w3 w.heap.size (.slice a2 fL.length c2) fL) := HRU.out.below hb3
  clear HBW1
  clear hb3
  have HRG : Hid (StRow w3 W1.heap.size (.slice a3 fL.length c3) fL) := hr3
  have HLG : Hid (∀ g, (.slice a3 fL.length c3 : Value).ownBlock = some g → W1.heap.size ≤ g ∧ g < w3.heap.size) := fun g hg => World.ownsRow.lt hr3 g hg
  clear hr3
  obtain ⟨W2, hW2⟩ : ∃ X, X = w3.alloc (.cells #[.string fq, .slice a3 fL.length c3, .bool fb] 33) := ⟨_, rfl⟩
  have hbW2 : Below w3.heap.size w3 W2 := by rw [hW2]; exact (Below.refl _ _).alloc (Nat.le_refl _) _
  have hlW2 : w3.heap.size < W2.heap.size := by rw [hW2]; simp
  have hsW2 := hbW2.size
  have HBW2 : Hid (Below w.heap.size w W2) := HBw3.out.trans (hbW2.mono HBw3.out.size)
  have HV1 : Hid (Rv W2 (w2.heap.size) (.string fq) (.slice a2 fL.length c2) (.bool fb)) := HV1.out.below hbW2
  have HRU : Hid (StRow W2 w.heap.size (.slice a2 fL.length c2) fL) := HRU.out.below hbW2
  have HRG : Hid (StRow W2 W1.heap.size (.slice a3 fL.length c3) fL) := HRG.out.below hbW2
  clear HBw3
  have HV2 : Hid (Rv W2 (w3.heap.size) (.string fq) (.slice a3 fL.length c3) (.bool fb)) := by show Rv _ _ _ _ _; rw [hW2]; exact Rv.fresh w3 _ _ _ _
  clear hbW2
  go_upto_region 3 with fail
  rw [← hW2]
  clear hW2
  have y20 := HV2.out.c0
  have y21 := HV2.out.c1
  have y22 := HV2.out.c2
  have y10 := HV1.out.c0
  have y11 := HV1.out.c1
  have y12 := HV1.out.c2
  go_wp2_with fail
  go_at_call 24
  refine (EF.out _ _ _ (StAt.own HRG.out) (StAt.own HRU.out)).mono ?_
  rintro e w4 ⟨rfl, hbw4⟩
  clear y20 y21 y22 y10 y11 y12
  have hsw4 := hbw4.size
  have HBw4 : Hid (Below w.heap.size w w4) := HBW2.out.trans (hbw4.mono HBW2.out.size)
  have HV1 : Hid (Rv w4 (w2.heap.size) (.string fq) (.slice a2 fL.length c2) (.bool fb)) := HV1.out.below hbw4
  have HV2 : Hid (Rv w4 (w3.heap.size) (.string fq) (.slice a3 fL.length c3) (.bool fb)) := HV2.out.below hbw4
  have HRU : Hid (StRow w4 w.heap.size (.slice a2 fL.length c2) fL) := HRU.out.below hbw4
  have HRG : Hid (StRow w4 W1.heap.size (.slice a3 fL.length c3) fL) := HRG.out.below hbw4
  clear HBW2
  clear hbw4
  have y20 := HV2.out.c0
  have y21 := HV2.out.c1
  have y22 := HV2.out.c2
  go_wp2_with fail
  go_at_call 25
  refine (MG.out (W1.heap.size) fL.length (.slice a3 fL.length c3) _ _ HRG.out (by omega)).mono ?_
  rintro e w5 ⟨rfl, ⟨ys5, ho5, hy5⟩, hg5⟩
  clear y20 y21 y22
  have hsw5 := hg5.size
  have HBw5 : Hid (Below w.heap.size w w5) := HBw4.out.grown hg5 HBw4.out.size (fun k hk => by have := HLG.out k hk; omega)
  have HV1 : Hid (Rv w5 (w2.heap.size) (.string fq) (.slice a2 fL.length c2) (.bool fb)) := HV1.out.grown hg5 (fun e => by have := HLG.out _ e.symm; omega)
  have HV2 : Hid (Rv w5 (w3.heap.size) (.string fq) (.slice a3 fL.length c3) (.bool fb)) := HV2.out.grown hg5 (fun e => by have := HLG.out _ e.symm; omega)
  have HRU : Hid (StRow w5 w.heap.size (.slice a2 fL.length c2) fL) := own_asideF HRU.out hg5 (fun g h1 e => by have h2 := HLU.out g h1; have h3 := HLG.out g e.symm; omega)
  clear HBw4
  clear hg5
  have HM : Hid (StRow w5 (W1.heap.size) (.slice a3 fL.length c3) (mks 1 fL.length)) := marked_at ho5 hy5
  clear HRG ho5 hy5
  have HRG := HM
  clear HM
  have y20 := HV2.out.c0
  have y21 := HV2.out.c1
  have y22 := HV2.out.c2
  go_wp2_with fail
  go_at_call 26
  refine (HG.out fL.length _ _ (StAt.own HRG.out) (by omega)).mono ?_
  rintro e w6 ⟨rfl, hbw6⟩
  clear y20 y21 y22
  have hsw6 := hbw6.size
  have HBw6 : Hid (Below w.heap.size w w6) := HBw5.out.trans (hbw6.mono HBw5.out.size)
  have HV1 : Hid (Rv w6 (w2.heap.size) (.string fq) (.slice a2 fL.length c2) (.bool fb)) := HV1.out.below hbw6
  have HV2 : Hid (Rv w6 (w3.heap.size) (.string fq) (.slice a3 fL.length c3) (.bool fb)) := HV2.out.below hbw6
  have HRU : Hid (StRow w6 w.heap.size (.slice a2 fL.length c2) fL) := HRU.out.below hbw6
  have HRG : Hid (StRow w6 W1.heap.size (.slice a3 fL.length c3) (mks 1 fL.length)) := HRG.out.below hbw6
  clear HBw5
  clear hbw6
  have hk6 : ¬ (((1 + fL.length : Nat) : Int) < 0) := by omega
  go_wp2_with fail
  go_at_call 23
  refine (CI.out _).mono ?_
  rintro e w7 ⟨a7, c7, rfl, hr7, hb7⟩
  have hsw7 := hb7.size
  have HBw7 : Hid (Below w.heap.size w w7) := HBw6.out.trans (hb7.mono HBw6.out.size)
  have HV1 : Hid (Rv w7 (w2.heap.size) (.string fq) (.slice a2 fL.length c2) (.bool fb)) := HV1.out.below hb7
  have HV2 : Hid (Rv w7 (w3.heap.size) (.string fq) (.slice a3 fL.length c3) (.bool fb)) := HV2.out.below hb7
  have HRU : Hid (StRow w7 w.heap.size (.slice a2 fL.length c2) fL) := HRU.out.below hb7
  have HRG : Hid (StRow w7 W1.heap.size (.slice a3 fL.length c3) (mks 1 fL.length)) := HRG.out.below hb7
  clear HBw6
  clear hb7
  have HRZ : Hid (StRow w7 w6.heap.size (.slice a7 fL.length c7) fL) := hr7
  have HLZ : Hid (∀ g, (.slice a7 fL.length c7 : Value).ownBlock = some g → w6.heap.size ≤ g ∧ g < w7.heap.size) := fun g hg => World.ownsRow.lt hr7 g hg
  clear hr7
  obtain ⟨W5, hW5⟩ : ∃ X, X = w7.alloc (.cells #[.string fq, .slice a7 fL.length c7, .bool fb] 33) := ⟨_, rfl⟩
  have hbW5 : Below w7.heap.size w7 W5 := by rw [hW5]; exact (Below.refl _ _).alloc (Nat.le_refl _) _
  have hlW5 : w7.heap.size < W5.heap.size := by rw [hW5]; simp
  have hsW5 := hbW5.size
  have HBW5 : Hid (Below w.heap.size w W5) := HBw7.out.trans (hbW5.mono HBw7.out.size)
  have HV1 : Hid (Rv W5 (w2.heap.size) (.string fq) (.slice a2 fL.length c2) (.bool fb)) := HV1.out.below hbW5
  have HV2 : Hid (Rv W5 (w3.heap.size) (.string fq) (.slice a3 fL.length c3) (.bool fb)) := HV2.out.below hbW5
  have HRU : Hid (StRow W5 w.heap.size (.slice a2 fL.length c2) fL) := HRU.out.below hbW5
  have HRG : Hid (StRow W5 W1.heap.size (.slice a3 fL.length c3) (mks 1 fL.length)) := HRG.out.below hbW5
  have HRZ : Hid (StRow W5 w6.heap.size (.slice a7 fL.length c7) fL) := HRZ.out.below hbW5
  clear HBw7
  have HV5 : Hid (Rv W5 (w7.heap.size) (.string fq) (.slice a7 fL.length c7) (.bool fb)) := by show Rv _ _ _ _ _; rw [hW5]; exact Rv.fresh w7 _ _ _ _
  clear hbW5
  go_upto_region 14 with fail
  rw [← hW5]
  clear hW5
  have y50 := HV5.out.c0
  have y51 := HV5.out.c1
  have y52 := HV5.out.c2
  have y10 := HV1.out.c0
  have y11 := HV1.out.c1
  have y12 := HV1.out.c2
  go_wp2_with fail
  go_at_call 24
  refine (EF.out _ _ _ (StAt.own HRZ.out) (StAt.own HRU.out)).mono ?_
  rintro e w8 ⟨rfl, hbw8⟩
  clear y50 y51 y52 y10 y11 y12
  have hsw8 := hbw8.size
  have HBw8 : Hid (Below w.heap.size w w8) := HBW5.out.trans (hbw8.mono HBW5.out.size)
  have HV1 : Hid (Rv w8 (w2.heap.size) (.string fq) (.slice a2 fL.length c2) (.bool fb)) := HV1.out.below hbw8
  have HV2 : Hid (Rv w8 (w3.heap.size) (.string fq) (.slice a3 fL.length c3) (.bool fb)) := HV2.out.below hbw8
  have HV5 : Hid (Rv w8 (w7.heap.size) (.string fq) (.slice a7 fL.length c7) (.bool fb)) := HV5.out.below hbw8
  have HRU : Hid (StRow w8 w.heap.size (.slice a2 fL.length c2) fL) := HRU.out.below hbw8
  have HRG : Hid (StRow w8 W1.heap.size (.slice a3 fL.length c3) (mks 1 fL.length)) := HRG.out.below hbw8
  have HRZ : Hid (StRow w8 w6.heap.size (.slice a7 fL.length c7) fL) := HRZ.out.below hbw8
  clear HBW5
  clear hbw8
  have y20 := HV2.out.c0
  have y21 := HV2.out.c1
  have y22 := HV2.out.c2
  go_wp2_with fail
  go_at_call 26
  refine (HG.out fL.length _ _ (StAt.own HRG.out) (by omega)).mono ?_
  rintro e w9 ⟨rfl, hbw9⟩
  clear y20 y21 y22
  have hsw9 := hbw9.size
  have HBw9 : Hid (Below w.heap.size w w9) := HBw8.out.trans (hbw9.mono HBw8.out.size)
  have HV1 : Hid (Rv w9 (w2.heap.size) (.string fq) (.slice a2 fL.length c2) (.bool fb)) := HV1.out.below hbw9
  have HV2 : Hid (Rv w9 (w3.heap.size) (.string fq) (.slice a3 fL.length c3) (.bool fb)) := HV2.out.below hbw9
  have HV5 : Hid (Rv w9 (w7.heap.size) (.string fq) (.slice a7 fL.length c7) (.bool fb)) := HV5.out.below hbw9
  have HRU : Hid (StRow w9 w.heap.size (.slice a2 fL.length c2) fL) := HRU.out.below hbw9
  have HRG : Hid (StRow w9 W1.heap.size (.slice a3 fL.length c3) (mks 1 fL.length)) := HRG.out.below hbw9
  have HRZ : Hid (StRow w9 w6.heap.size (.slice a7 fL.length c7) fL) := HRZ.out.below hbw9
  clear HBw8
  clear hbw9
  go_wp2_with fail
  go_ret
  exact ⟨rfl, HBw9.out⟩

namespace fnExactNewReader
open Go.ChangeShapes Go.WideShapes Go.ChangeAt

theorem own : ownKnob Try.prog.godebug = none := by kernel_rfl
theorem laidOut : laidOutB Try.prog = true := by kernel_rfl

set_option maxRecDepth 100000 in
theorem lifted (os : Os) (started : os.Started) (H : Type) (enc : TypeId × Value → H) :
    ReturnsInHanded {} Try.checked os 6 .any (Rows.fnExactNewReaderSpec.pre6 enc Try.prog Try.f6 Rows.fnExactNewReaderRow.domain false) (Rows.fnExactNewReaderSpec.post enc Try.prog Try.f6 false true false false) := by
  refine returnsInHanded_of_change (C := Try.checked) own started (by kernel_rfl) Try.func6
    (ChangeSpec.witness6 (enc := enc) (C := Try.checked) false ⟨#[], #[], []⟩ 8 (by kernel_rfl) (by kernel_rfl) (by kernel_rfl) (by kernel_rfl)) ?_
  intro W base args ds gs before hval0 hW hcnd _
  have hval : ∀ (j : Nat) t v, Try.f6.params[j]? = some t → args[j]? = some v → Value.okWide Try.prog W .any base t v := hval0
  have hW' := hW
  obtain ⟨p, q, hA0, hV, rfl, hfz, hnd⟩ := hW
  have hA : DataW.TrodAll enc Try.prog W 0 (fun _ => true) true Try.f6.params.toList args.toList ds p := hA0
  rw [Try.params6] at hA hval
  obtain ⟨hargs, rfl, rfl⟩ := trodAll_nil hA
  obtain rfl : args = #[] := by cases args; simp_all
  obtain ⟨rfl, rfl⟩ := trodVars_none hV
  refine (walkFnExactNewReader  W ).mono fun e W' ⟨he, hg⟩ => ?_
  subst he
  exact ⟨_, rfl, _, _, _, [], _, [], hW', trodAll_mk1 (shut_bool Try.underlying4 _), trodAll_mk0, rfl, hg.frame _, fun h => by cases h⟩

theorem over : Rows.fnExactNewReaderRow.holds Try.pinned (OpenSpec.ofChange Rows.fnExactNewReaderSpec) :=
  OpenClaim.holds_of_wide 6 Try.f6 rfl rfl rfl rfl rfl rfl rfl ⟨rfl, rfl, rfl, rfl, rfl⟩ rfl rfl rfl rfl rfl (by kernel_rfl) Try.func6 (by kernel_rfl)
    (of_decide_eq_true (by kernel_rfl)) (by unfold Func.isWrapper; first | (rw [if_pos (by decide +kernel)]; kernel_rfl) | (rw [if_neg (by decide +kernel)]; exact ⟨rfl, rfl⟩))
    (fun os started H enc _ => lifted os started H enc)

end fnExactNewReader

theorem fnExactNewReader_holds : Rows.FnExactNewReaderSaid := fnExactNewReader.over
#print axioms fnExactNewReader_holds
end Go.Proofs.Ytcpjbacjmmbabaa
