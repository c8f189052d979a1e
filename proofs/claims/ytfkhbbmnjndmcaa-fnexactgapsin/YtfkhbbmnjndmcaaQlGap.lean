/- Proved here: at every queue the law FnExactGapsIn answers true, that is, GapsIn answers as its model, its answer owns its memory, and it writes into nothing.
   Conditions: none beside the row's own. -/
import Derived.Test.YtfkhbbmnjndmcaaQsI
import Derived.Test.YtfkhbbmnjndmcaaQuG
import Derived.Deep.DeepCutAuto
import Derived.Deep.RegionHeld3
import Derived.Deep.DrawnRows
import Derived.OpenShut
import Derived.ChangeMaps5
namespace Go.Proofs.Ytfkhbbmnjndmcaa
attribute [local go_sem ↓] Go.wp_at_zero Go.wp_at_succ
open Go.RowKit Plain Qus

set_option maxRecDepth 100000 in
set_option maxHeartbeats 16000000 in
theorem walkFnExactGapsIn (s : Qu) (v1 v2 v3 : Value) (w : World) (hA : QuAt w w.heap.size s v1 v2 v3) :
    Calls Try.prog 9 #[s.val v1 v2 v3] w fun e w' => e = .returned (.bool true) ∧ Below w.heap.size w w' := by
  obtain ⟨aw0, cw0, ah0, ch0, ad0, cd0, rfl, rfl, rfl⟩ := hA.form
  have HA : Hid (QuAt w w.heap.size s (.slice aw0 s.wt.length cw0) (.slice ah0 s.hd.length ch0) (.slice ad0 s.dr.length cd0)) := hA
  have SZ : Hid (∀ W, Below w.heap.size w W → Calls Try.prog 17 #[.agg #[.int .i64 s.cap, .int .i64 s.rule, .int .i64 s.next, .slice aw0 s.wt.length cw0, .slice ah0 s.hd.length ch0, .slice ad0 s.dr.length cd0], .int .i64 1048576] W fun e w' => (∃ r : Int, e = .returned (.int .i64 r) ∧ SzQ s r) ∧ Below W.heap.size W w') := fun W hW => szQueue_left s _ _ _ W (HA.out.below hW)
  have C1 : Hid (SmlQ s 1048576 → ∀ W, Below w.heap.size w W → Calls Try.prog 19 #[.agg #[.int .i64 s.cap, .int .i64 s.rule, .int .i64 s.next, .slice aw0 s.wt.length cw0, .slice ah0 s.hd.length ch0, .slice ad0 s.dr.length cd0]] W fun e w' => QuOut W w' s (fun v => e = .returned v)) := fun hl W hW => (toQueue_any s _ _ _ W (HA.out.below hW) hl).mono fun e w' h => by
    obtain ⟨u1, u2, u3, he, hr, hb⟩ := h
    exact QuOut.mk he hr hb
  have ES : Hid (SmlQ s 1048576 → ∀ W v1 v2 v3 u1 u2 u3, QuAt W W.heap.size s v1 v2 v3 → QuAt W W.heap.size s u1 u2 u3 → Calls Try.prog 14 #[.agg #[.int .i64 s.cap, .int .i64 s.rule, .int .i64 s.next, v1, v2, v3], .agg #[.int .i64 s.cap, .int .i64 s.rule, .int .i64 s.next, u1, u2, u3]] W fun e w' => e = .returned (.bool true) ∧ Below W.heap.size W w') := fun hl W v1 v2 v3 u1 u2 u3 h1 h2 => eqQueue_same s v1 v2 v3 u1 u2 u3 W h1 h2 ⟨by have := hl.a; omega, by have := hl.b; omega, by have := hl.c; omega⟩
  have CS : Hid (SmlQ s 1048576 → ∀ W v1 v2 v3, QuAt W W.heap.size s v1 v2 v3 → Calls Try.prog 35 #[.agg #[.int .i64 s.cap, .int .i64 s.rule, .int .i64 s.next, v1, v2, v3]] W fun e w' => e = .returned (.tuple #[.int .i64 (gpQ s).1, .bool (gpQ s).2]) ∧ Below W.heap.size W w') := fun hl W v1 v2 v3 h => specGaps s v1 v2 v3 W h hl
  have CI : Hid (∀ W v1 v2 v3, QuAt W W.heap.size s v1 v2 v3 → Calls Try.prog 36 #[.agg #[.int .i64 s.cap, .int .i64 s.rule, .int .i64 s.next, v1, v2, v3]] W fun e w' => e = .returned (.tuple #[.int .i64 (gpQ s).1, .bool (gpQ s).2]) ∧ Below W.heap.size W w') := fun W v1 v2 v3 h => implGaps s v1 v2 v3 W h
  generalize gpQ s = A at CS CI
  obtain ⟨N, K⟩ := A
  dsimp only at CS CI
  have nK : (K != K) = false := bne_self_eq_false K
  have nN : (N != N) = false := bne_self_eq_false N
  unfold Qu.val
  obtain ⟨W0, hW0⟩ : ∃ X, X = w.alloc (.cells #[.int .i64 s.cap, .int .i64 s.rule, .int .i64 s.next, .slice aw0 s.wt.length cw0, .slice ah0 s.hd.length ch0, .slice ad0 s.dr.length cd0] 30) := ⟨_, rfl⟩
  have hb0 : Below w.heap.size w W0 := by rw [hW0]; exact (Below.refl _ w).alloc (Nat.le_refl _) _
  have HV0 : Hid (Sv W0 (w.heap.size) (.int .i64 s.cap) (.int .i64 s.rule) (.int .i64 s.next) (.slice aw0 s.wt.length cw0) (.slice ah0 s.hd.length ch0) (.slice ad0 s.dr.length cd0)) := by show Sv _ _ _ _ _ _ _ _; rw [hW0]; exact Sv.fresh w _ _ _ _ _ _ _
  have hlW0 : w.heap.size < W0.heap.size := by rw [hW0]; simp
  have HBW0 : Hid (Below w.heap.size w W0) := hb0
  clear hb0 hA
  go_enter Try.func9, Try.ntmps9
  go_upto_region 1 with fail
  rw [← hW0]
  clear hW0
  have y00 := HV0.out.c0
  have y01 := HV0.out.c1
  have y02 := HV0.out.c2
  have y03 := HV0.out.c3
  have y04 := HV0.out.c4
  have y05 := HV0.out.c5
  go_wp2_with fail
  go_at_call 17
  refine (SZ.out _ HBW0.out).mono ?_
  rintro e w1 ⟨⟨r, rfl, hr0, hr1, hr2⟩, hb1⟩
  clear y00 y01 y02 y03 y04 y05
  have hsw1 := hb1.size
  have HBw1 : Hid (Below w.heap.size w w1) := HBW0.out.trans (hb1.mono HBW0.out.size)
  have HV0 : Hid (Sv w1 (w.heap.size) (.int .i64 s.cap) (.int .i64 s.rule) (.int .i64 s.next) (.slice aw0 s.wt.length cw0) (.slice ah0 s.hd.length ch0) (.slice ad0 s.dr.length cd0)) := HV0.out.below hb1
  clear HBW0
  clear hb1
  by_cases hneg : r < 0
  · clear hr2 C1 ES CS CI
    go_wp2_with fail
    go_ret
    exact ⟨rfl, HBw1.out⟩
  have hsml := hr2 (by omega)
  clear hr2 SZ
  have HC1 : Hid (type_of% (C1.out hsml)) := C1.out hsml
  have HES : Hid (type_of% (ES.out hsml)) := ES.out hsml
  clear C1 ES
  have HCS : Hid (type_of% (CS.out hsml)) := CS.out hsml
  clear CS
  have HSM : Hid (type_of% hsml) := hsml
  have y00 := HV0.out.c0
  have y01 := HV0.out.c1
  have y02 := HV0.out.c2
  have y03 := HV0.out.c3
  have y04 := HV0.out.c4
  have y05 := HV0.out.c5
  go_wp2_with fail
  go_at_call 19
  refine (HC1.out _ HBw1.out).mono ?_
  rintro e w2 ⟨aw2, cw2, ah2, ch2, ad2, cd2, rfl, hr2, hb2⟩
  clear y00 y01 y02 y03 y04 y05
  have hsw2 := hb2.size
  have HBw2 : Hid (Below w.heap.size w w2) := HBw1.out.trans (hb2.mono HBw1.out.size)
  have HV0 : Hid (Sv w2 (w.heap.size) (.int .i64 s.cap) (.int .i64 s.rule) (.int .i64 s.next) (.slice aw0 s.wt.length cw0) (.slice ah0 s.hd.length ch0) (.slice ad0 s.dr.length cd0)) := HV0.out.below hb2
  clear HBw1
  clear hb2
  go_wp2_with fail
  go_at_call 35
  refine (HCS.out _ _ _ _ hr2.at).mono ?_
  rintro e w3 ⟨rfl, hb3⟩
  clear hr2
  have hsw3 := hb3.size
  have HBw3 : Hid (Below w.heap.size w w3) := HBw2.out.trans (hb3.mono HBw2.out.size)
  have HV0 : Hid (Sv w3 (w.heap.size) (.int .i64 s.cap) (.int .i64 s.rule) (.int .i64 s.next) (.slice aw0 s.wt.length cw0) (.slice ah0 s.hd.length ch0) (.slice ad0 s.dr.length cd0)) := HV0.out.below hb3
  clear HBw2
  clear hb3 HCS
  have y00 := HV0.out.c0
  have y01 := HV0.out.c1
  have y02 := HV0.out.c2
  have y03 := HV0.out.c3
  have y04 := HV0.out.c4
  have y05 := HV0.out.c5
  go_wp2_with fail
  go_at_call 19
  refine (HC1.out _ HBw3.out).mono ?_
  rintro e w4 ⟨aw4, cw4, ah4, ch4, ad4, cd4, rfl, hr4, hb4⟩
  clear y00 y01 y02 y03 y04 y05
  have hsw4 := hb4.size
  have HBw4 : Hid (Below w.heap.size w w4) := HBw3.out.trans (hb4.mono HBw3.out.size)
  have HV0 : Hid (Sv w4 (w.heap.size) (.int .i64 s.cap) (.int .i64 s.rule) (.int .i64 s.next) (.slice aw0 s.wt.length cw0) (.slice ah0 s.hd.length ch0) (.slice ad0 s.dr.length cd0)) := HV0.out.below hb4
  clear HBw3
  clear hb4
  have HRX : Hid (QuRow w4 (w3.heap.size) s (.slice aw4 s.wt.length cw4) (.slice ah4 s.hd.length ch4) (.slice ad4 s.dr.length cd4)) := hr4
  have HLX : Hid (OwnQ (w3.heap.size) w4.heap.size (.slice aw4 s.wt.length cw4) (.slice ah4 s.hd.length ch4) (.slice ad4 s.dr.length cd4)) := QuRow.ownIn hr4
  clear hr4
  obtain ⟨W5, hW5⟩ : ∃ X, X = w4.alloc (.cells #[.int .i64 s.cap, .int .i64 s.rule, .int .i64 s.next, .slice aw4 s.wt.length cw4, .slice ah4 s.hd.length ch4, .slice ad4 s.dr.length cd4] 24) := ⟨_, rfl⟩
  have hbW5 : Below w4.heap.size w4 W5 := by rw [hW5]; exact (Below.refl _ _).alloc (Nat.le_refl _) _
  have hlW5 : w4.heap.size < W5.heap.size := by rw [hW5]; simp
  have hsW5 := hbW5.size
  have HBW5 : Hid (Below w.heap.size w W5) := HBw4.out.trans (hbW5.mono HBw4.out.size)
  have HV0 : Hid (Sv W5 (w.heap.size) (.int .i64 s.cap) (.int .i64 s.rule) (.int .i64 s.next) (.slice aw0 s.wt.length cw0) (.slice ah0 s.hd.length ch0) (.slice ad0 s.dr.length cd0)) := HV0.out.below hbW5
  have HRX : Hid (QuRow W5 (w3.heap.size) s (.slice aw4 s.wt.length cw4) (.slice ah4 s.hd.length ch4) (.slice ad4 s.dr.length cd4)) := HRX.out.below hbW5
  clear HBw4
  have HV5 : Hid (Sv W5 (w4.heap.size) (.int .i64 s.cap) (.int .i64 s.rule) (.int .i64 s.next) (.slice aw4 s.wt.length cw4) (.slice ah4 s.hd.length ch4) (.slice ad4 s.dr.length cd4)) := by show Sv _ _ _ _ _ _ _ _; rw [hW5]; exact Sv.fresh w4 _ _ _ _ _ _ _
  clear hbW5
  go_upto_region 7 with fail
  rw [← hW5]
  clear hW5
  have y50 := HV5.out.c0
  have y51 := HV5.out.c1
  have y52 := HV5.out.c2
  have y53 := HV5.out.c3
  have y54 := HV5.out.c4
  have y55 := HV5.out.c5
  go_wp2_with fail
  go_at_call 36
  refine (CI.out _ _ _ _ HRX.out.at).mono ?_
  rintro e w6 ⟨rfl, hb6⟩
  clear y50 y51 y52 y53 y54 y55
  have hsw6 := hb6.size
  have HBw6 : Hid (Below w.heap.size w w6) := HBW5.out.trans (hb6.mono HBW5.out.size)
  have HV0 : Hid (Sv w6 (w.heap.size) (.int .i64 s.cap) (.int .i64 s.rule) (.int .i64 s.next) (.slice aw0 s.wt.length cw0) (.slice ah0 s.hd.length ch0) (.slice ad0 s.dr.length cd0)) := HV0.out.below hb6
  have HV5 : Hid (Sv w6 (w4.heap.size) (.int .i64 s.cap) (.int .i64 s.rule) (.int .i64 s.next) (.slice aw4 s.wt.length cw4) (.slice ah4 s.hd.length ch4) (.slice ad4 s.dr.length cd4)) := HV5.out.below hb6
  have HRX : Hid (QuRow w6 (w3.heap.size) s (.slice aw4 s.wt.length cw4) (.slice ah4 s.hd.length ch4) (.slice ad4 s.dr.length cd4)) := HRX.out.below hb6
  clear HBW5
  clear hb6 CI
  go_upto_region 10 with fail
  have HBw6d : Hid (Below w.heap.size w w6.drew) := HBw6.out.drew
  have KD : Hid (∀ W, Below w6.heap.size w6 W → W.cell? ⟨w4.heap.size, 0, none⟩ = some (.int .i64 s.cap) ∧ W.cell? ⟨w4.heap.size, 1, none⟩ = some (.int .i64 s.rule) ∧ W.cell? ⟨w4.heap.size, 2, none⟩ = some (.int .i64 s.next) ∧ W.cell? ⟨w4.heap.size, 3, none⟩ = some (.slice aw4 s.wt.length cw4) ∧ W.cell? ⟨w4.heap.size, 4, none⟩ = some (.slice ah4 s.hd.length ch4) ∧ W.cell? ⟨w4.heap.size, 5, none⟩ = some (.slice ad4 s.dr.length cd4) ∧ W.cell? ⟨w.heap.size, 0, none⟩ = some (.int .i64 s.cap) ∧ W.cell? ⟨w.heap.size, 1, none⟩ = some (.int .i64 s.rule) ∧ W.cell? ⟨w.heap.size, 2, none⟩ = some (.int .i64 s.next) ∧ W.cell? ⟨w.heap.size, 3, none⟩ = some (.slice aw0 s.wt.length cw0) ∧ W.cell? ⟨w.heap.size, 4, none⟩ = some (.slice ah0 s.hd.length ch0) ∧ W.cell? ⟨w.heap.size, 5, none⟩ = some (.slice ad0 s.dr.length cd0)) := fun W hW => ⟨(HV5.out.below hW).c0, (HV5.out.below hW).c1, (HV5.out.below hW).c2, (HV5.out.below hW).c3, (HV5.out.below hW).c4, (HV5.out.below hW).c5, (HV0.out.below hW).c0, (HV0.out.below hW).c1, (HV0.out.below hW).c2, (HV0.out.below hW).c3, (HV0.out.below hW).c4, (HV0.out.below hW).c5⟩
  go_region_held3 (fun W => W.cell? ⟨w4.heap.size, 0, none⟩ = some (.int .i64 s.cap) ∧ W.cell? ⟨w4.heap.size, 1, none⟩ = some (.int .i64 s.rule) ∧ W.cell? ⟨w4.heap.size, 2, none⟩ = some (.int .i64 s.next) ∧ W.cell? ⟨w4.heap.size, 3, none⟩ = some (.slice aw4 s.wt.length cw4) ∧ W.cell? ⟨w4.heap.size, 4, none⟩ = some (.slice ah4 s.hd.length ch4) ∧ W.cell? ⟨w4.heap.size, 5, none⟩ = some (.slice ad4 s.dr.length cd4) ∧ W.cell? ⟨w.heap.size, 0, none⟩ = some (.int .i64 s.cap) ∧ W.cell? ⟨w.heap.size, 1, none⟩ = some (.int .i64 s.rule) ∧ W.cell? ⟨w.heap.size, 2, none⟩ = some (.int .i64 s.next) ∧ W.cell? ⟨w.heap.size, 3, none⟩ = some (.slice aw0 s.wt.length cw0) ∧ W.cell? ⟨w.heap.size, 4, none⟩ = some (.slice ah0 s.hd.length ch0) ∧ W.cell? ⟨w.heap.size, 5, none⟩ = some (.slice ad0 s.dr.length cd0)) (first | with_reducible exact KD.out _ (Below.refl _ w6).drew | with_reducible exact KD.out _ hbD | with_reducible exact KD.out _ hbE)
    (first | ((go_at_call 14; (with_reducible refine (HES.out _ _ _ _ _ _ _ HRXd.out.at HRD.out.at).mono ?_); rintro e w8 ⟨rfl, hbE0⟩; have hbE : Below w6.heap.size w6 w8 := hbD.trans (hbE0.mono hbD.size))) | ((go_at_call 19; (with_reducible refine (HC1.out _ HBw6d.out).mono ?_); rintro e w7 ⟨aw7, cw7, ah7, ch7, ad7, cd7, rfl, hrD, hbD0⟩; have hbD : Below w6.heap.size w6 w7 := (Below.refl _ w6).drew.trans (hbD0.mono (Nat.le_refl _)); have HRXd : Hid (QuRow w7 (w3.heap.size) s (.slice aw4 s.wt.length cw4) (.slice ah4 s.hd.length ch4) (.slice ad4 s.dr.length cd4)) := HRX.out.below hbD; have HRD : Hid (QuRow w7 w6.drew.heap.size s (.slice aw7 s.wt.length cw7) (.slice ah7 s.hd.length ch7) (.slice ad7 s.dr.length cd7)) := hrD)))
  clear KD HRXd HRD hbD hbD0 hrD hbE0
  have hsw8 := hbE.size
  have HBw8 : Hid (Below w.heap.size w w8) := HBw6.out.trans (hbE.mono HBw6.out.size)
  have HV0 : Hid (Sv w8 (w.heap.size) (.int .i64 s.cap) (.int .i64 s.rule) (.int .i64 s.next) (.slice aw0 s.wt.length cw0) (.slice ah0 s.hd.length ch0) (.slice ad0 s.dr.length cd0)) := HV0.out.below hbE
  have HV5 : Hid (Sv w8 (w4.heap.size) (.int .i64 s.cap) (.int .i64 s.rule) (.int .i64 s.next) (.slice aw4 s.wt.length cw4) (.slice ah4 s.hd.length ch4) (.slice ad4 s.dr.length cd4)) := HV5.out.below hbE
  have HRX : Hid (QuRow w8 (w3.heap.size) s (.slice aw4 s.wt.length cw4) (.slice ah4 s.hd.length ch4) (.slice ad4 s.dr.length cd4)) := HRX.out.below hbE
  clear HBw6
  clear hbE
  go_wp2_with fail
  go_ret
  exact ⟨rfl, HBw8.out⟩

namespace fnExactGapsIn
open Go.ChangeShapes Go.WideShapes Go.ChangeAt

theorem own : ownKnob Try.prog.godebug = none := by kernel_rfl
theorem laidOut : laidOutB Try.prog = true := by kernel_rfl

set_option maxRecDepth 100000 in
theorem lifted (os : Os) (started : os.Started) (H : Type) (enc : TypeId × Value → H) :
    ReturnsInHanded {} Try.checked os 9 .any (Rows.fnExactGapsInSpec.pre6 enc Try.prog Try.f9 Rows.fnExactGapsInRow.domain false) (Rows.fnExactGapsInSpec.post enc Try.prog Try.f9 false true false false) := by
  refine returnsInHanded_of_change (C := Try.checked) own started (by kernel_rfl) Try.func9
    (ChangeSpec.witness6 (enc := enc) (C := Try.checked) false ⟨#[], #[.agg #[.int .i64 0, .int .i64 0, .int .i64 0, .slice none 0 0, .slice none 0 0, .slice none 0 0]], []⟩ 8 (by kernel_rfl) (by kernel_rfl) (by kernel_rfl) (by kernel_rfl)) ?_
  intro W base args ds gs before hval0 hW hcnd _
  have hval : ∀ (j : Nat) t v, Try.f9.params[j]? = some t → args[j]? = some v → Value.okWide Try.prog W .any base t v := hval0
  have hW' := hW
  obtain ⟨p, q, hA0, hV, rfl, hfz, hnd⟩ := hW
  have hA : DataW.TrodAll enc Try.prog W 0 (fun _ => true) true Try.f9.params.toList args.toList ds p := hA0
  rw [Try.params9] at hA hval
  obtain ⟨v0, vs0, d0, ds0, p0, q0, hargs, rfl, rfl, h0, r0⟩ := trodAll_cons hA
  obtain ⟨rfl, rfl, rfl⟩ := trodAll_nil r0
  obtain rfl : args = #[v0] := by cases args; simp_all
  obtain ⟨rfl, rfl⟩ := trodVars_none hV
  have h0k := h0
  obtain ⟨R0, va0, vb0, vc0, rfl, hT0⟩ := open_queue (hval 0 30 v0 rfl rfl) h0
  clear hA0 hval0
  have hlt0 : ∀ x ∈ p0, x.block < W.heap.size := fun x hx => by
    have := hW'.lt x (by simp_all)
    simpa using this
  refine (walkFnExactGapsIn R0 va0 vb0 vc0 W hT0).mono fun e W' ⟨he, hg⟩ => ?_
  subst he
  exact ⟨_, rfl, _, _, _, [], _, [], hW', trodAll_mk1 (shut_bool Try.underlying4 _), (trodAll_cons_mk (Below.trod laidOut (by kernel_rfl) (of_decide_eq_true (by kernel_rfl)) h0k hg (fun x hx => hlt0 x hx)) trodAll_mk0), rfl, hg.frame _, fun h => by cases h⟩

theorem over : Rows.fnExactGapsInRow.holds Try.pinned (OpenSpec.ofChange Rows.fnExactGapsInSpec) :=
  OpenClaim.holds_of_wide 9 Try.f9 rfl rfl rfl rfl rfl rfl rfl ⟨rfl, rfl, rfl, rfl, rfl⟩ rfl rfl rfl rfl rfl (by kernel_rfl) Try.func9 (by kernel_rfl)
    (of_decide_eq_true (by kernel_rfl)) (by unfold Func.isWrapper; first | (rw [if_pos (by decide +kernel)]; kernel_rfl) | (rw [if_neg (by decide +kernel)]; exact ⟨rfl, rfl⟩))
    (fun os started H enc _ => lifted os started H enc)

end fnExactGapsIn

theorem fnExactGapsIn_holds : Rows.FnExactGapsInSaid := fnExactGapsIn.over
#print axioms fnExactGapsIn_holds
end Go.Proofs.Ytfkhbbmnjndmcaa
