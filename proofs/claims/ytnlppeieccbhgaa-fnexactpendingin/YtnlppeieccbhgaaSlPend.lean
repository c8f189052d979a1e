/- Proved here: at every session the law FnExactPendingIn answers true, that is, PendingIn answers as its model, its answer owns its memory, and it writes into nothing.
   Conditions: none beside the row's own. -/
import Derived.Test.YtnlppeieccbhgaaSnK
import Derived.Deep.DeepCutAuto
import Derived.Deep.RegionHeld3
import Derived.Deep.DrawnRows
import Derived.OpenShut
import Derived.ShutString
import Derived.ChangeMaps5
namespace Go.Proofs.Ytnlppeieccbhgaa
attribute [local go_sem ↓] Go.wp_at_zero Go.wp_at_succ
open Go.RowKit Plain Tpc Ssn

set_option maxRecDepth 100000 in
set_option maxHeartbeats 16000000 in
theorem walkFnExactPendingIn (s : Ses) (vi vh vw va : Value) (w : World) (hA : SesAt w w.heap.size s vi vh vw va) (hS : Shr s 9223372036854775807) :
    Calls Try.prog 5 #[s.val vi vh vw va] w fun e w' => e = .returned (.bool true) ∧ Below w.heap.size w w' := by
  obtain ⟨ai0, ci0, ah0, ch0, aw0, cw0, aa0, ca0, rfl, rfl, rfl, rfl⟩ := hA.form
  have HA : Hid (SesAt w w.heap.size s (.slice ai0 s.items.length ci0) (.slice ah0 s.handed.length ch0) (.slice aw0 s.way.length cw0) (.slice aa0 s.acks.length ca0)) := hA
  have SZ : Hid (∀ W, Below w.heap.size w W → Calls Try.prog 16 #[.agg #[.int .i64 s.ep, .slice ai0 s.items.length ci0, .int .i64 s.base, .slice ah0 s.handed.length ch0, .slice aw0 s.way.length cw0, .slice aa0 s.acks.length ca0], .int .i64 1048576] W fun e w' => (∃ r : Int, e = .returned (.int .i64 r) ∧ SzR s r) ∧ Below W.heap.size W w') := fun W hW => szSession_left s _ _ _ _ W (HA.out.below hW) hS
  have C1 : Hid (Sml s 1048576 → ∀ W, Below w.heap.size w W → Calls Try.prog 18 #[.agg #[.int .i64 s.ep, .slice ai0 s.items.length ci0, .int .i64 s.base, .slice ah0 s.handed.length ch0, .slice aw0 s.way.length cw0, .slice aa0 s.acks.length ca0]] W fun e w' => SesOut W w' s (fun v => e = .returned v)) := fun hl W hW => (toSession_any s _ _ _ _ W (HA.out.below hW) hl).mono fun e w' h => by
    obtain ⟨ui, uh, uw, ua, he, hr, hb⟩ := h
    exact SesOut.mk he hr hb
  have ES : Hid (Sml s 1048576 → ∀ W vi vh vw va ui uh uw ua, SesAt W W.heap.size s vi vh vw va → SesAt W W.heap.size s ui uh uw ua → Calls Try.prog 13 #[.agg #[.int .i64 s.ep, vi, .int .i64 s.base, vh, vw, va], .agg #[.int .i64 s.ep, ui, .int .i64 s.base, uh, uw, ua]] W fun e w' => e = .returned (.bool true) ∧ Below W.heap.size W w') := fun hl W vi vh vw va ui uh uw ua h1 h2 => eqSession_same s vi vh vw va ui uh uw ua W h1 h2 ⟨by have := hl.i; omega, by have := hl.h; omega, by have := hl.y; omega, by have := hl.a; omega⟩
  have hLl : (pnL s).length ≤ 30 := by
    unfold pnL
    by_cases h : gs s = true
    · rw [if_pos h, List.length_drop]
      obtain ⟨_, h2, _⟩ := gs_parts h
      have := (gI_parts h2).1
      omega
    · rw [if_neg h]
      exact Nat.zero_le _
  have CS : Hid (∀ W vi vh vw va, SesAt W W.heap.size s vi vh vw va → Calls Try.prog 20 #[.agg #[.int .i64 s.ep, vi, .int .i64 s.base, vh, vw, va]] W fun e w' => ∃ a c, e = .returned (.tuple #[.slice a (pnL s).length c, .bool (gs s)]) ∧ StRow w' W.heap.size (.slice a (pnL s).length c) (pnL s) ∧ Below W.heap.size W w') := fun W vi vh vw va h => (specPend s vi vh vw va W h hS).mono fun e w' h => by
    obtain ⟨v, he, hr, hb⟩ := h
    obtain ⟨a, c, rfl⟩ := StRow.slice hr
    exact ⟨a, c, he, hr, hb⟩
  have CI : Hid (∀ W vi vh vw va, SesAt W W.heap.size s vi vh vw va → Calls Try.prog 21 #[.agg #[.int .i64 s.ep, vi, .int .i64 s.base, vh, vw, va]] W fun e w' => ∃ a c, e = .returned (.tuple #[.slice a (pnL s).length c, .bool (gs s)]) ∧ StRow w' W.heap.size (.slice a (pnL s).length c) (pnL s) ∧ Below W.heap.size W w') := fun W vi vh vw va h => (implPend s vi vh vw va W h hS).mono fun e w' h => by
    obtain ⟨v, he, hr, hb⟩ := h
    obtain ⟨a, c, rfl⟩ := StRow.slice hr
    exact ⟨a, c, he, hr, hb⟩
  have MX : Hid (Sml s 1048576 → ∀ B T W vi vh vw va, SesRow W B s vi vh vw va → OwnIn B T vi vh vw va → Calls Try.prog 14 #[.agg #[.int .i64 s.ep, vi, .int .i64 s.base, vh, vw, va], .int .i64 1] W fun e w' => e = .returned (.int .i64 ((1 + s.items.length + s.handed.length + s.way.length * 3 + s.acks.length * 2 : Nat) : Int)) ∧ SesMk w' w'.heap.size 1 s.items.length s.handed.length s.way.length s.acks.length vi vh vw va ∧ Mid B T W w') := fun hl B T W vi vh vw va h1 h2 => markSession_any s B T 1 vi vh vw va W h1 (fun g hg => (h2 g hg).2) hl (by omega) (by omega)
  generalize gs s = K at CS CI
  generalize pnL s = L at CS CI hLl
  have nK : (K != K) = false := bne_self_eq_false K
  unfold Ses.val
  obtain ⟨W0, hW0⟩ : ∃ X, X = w.alloc (.cells #[.int .i64 s.ep, .slice ai0 s.items.length ci0, .int .i64 s.base, .slice ah0 s.handed.length ch0, .slice aw0 s.way.length cw0, .slice aa0 s.acks.length ca0] 35) := ⟨_, rfl⟩
  have hb0 : Below w.heap.size w W0 := by rw [hW0]; exact (Below.refl _ w).alloc (Nat.le_refl _) _
  have HV0 : Hid (Sv W0 (w.heap.size) (.int .i64 s.ep) (.slice ai0 s.items.length ci0) (.int .i64 s.base) (.slice ah0 s.handed.length ch0) (.slice aw0 s.way.length cw0) (.slice aa0 s.acks.length ca0)) := by show Sv _ _ _ _ _ _ _ _; rw [hW0]; exact Sv.fresh w _ _ _ _ _ _ _
  have hlW0 : w.heap.size < W0.heap.size := by rw [hW0]; simp
  have HBW0 : Hid (Below w.heap.size w W0) := hb0
  clear hb0 hA hS
  go_enter Try.func5, Try.ntmps5
  go_upto_region 1 with fail
  rw [← hW0]
  clear hW0
  have y00 := HV0.out.c0
  have y01 := HV0.out.c1
  have y02 := HV0.out.c2
  have y03 := HV0.out.c3
  have y04 := HV0.out.c4
  have y05 := HV0.out.c5
  go_wp2_with fail
  go_at_call 16
  refine (SZ.out _ HBW0.out).mono ?_
  rintro e w1 ⟨⟨r, rfl, hr0, hr1, hr2⟩, hb1⟩
  clear y00 y01 y02 y03 y04 y05
  have hsw1 := hb1.size
  have HBw1 : Hid (Below w.heap.size w w1) := HBW0.out.trans (hb1.mono HBW0.out.size)
  have HV0 : Hid (Sv w1 (w.heap.size) (.int .i64 s.ep) (.slice ai0 s.items.length ci0) (.int .i64 s.base) (.slice ah0 s.handed.length ch0) (.slice aw0 s.way.length cw0) (.slice aa0 s.acks.length ca0)) := HV0.out.below hb1
  clear HBW0
  clear hb1
  by_cases hneg : r < 0
  · clear hr2 C1 ES CS CI MX
    go_wp2_with fail
    go_ret
    exact ⟨rfl, HBw1.out⟩
  obtain ⟨hsml, hshr⟩ := hr2 (by omega)
  clear hr2 SZ
  have HC1 : Hid (type_of% (C1.out hsml)) := C1.out hsml
  have HES : Hid (type_of% (ES.out hsml)) := ES.out hsml
  clear C1 ES
  have HMX : Hid (type_of% (MX.out hsml)) := MX.out hsml
  clear MX
  have y00 := HV0.out.c0
  have y01 := HV0.out.c1
  have y02 := HV0.out.c2
  have y03 := HV0.out.c3
  have y04 := HV0.out.c4
  have y05 := HV0.out.c5
  go_wp2_with fail
  go_at_call 18
  refine (HC1.out _ HBw1.out).mono ?_
  rintro e w2 ⟨ai2, ci2, ah2, ch2, aw2, cw2, aa2, ca2, rfl, hr2, hb2⟩
  clear y00 y01 y02 y03 y04 y05
  have hsw2 := hb2.size
  have HBw2 : Hid (Below w.heap.size w w2) := HBw1.out.trans (hb2.mono HBw1.out.size)
  have HV0 : Hid (Sv w2 (w.heap.size) (.int .i64 s.ep) (.slice ai0 s.items.length ci0) (.int .i64 s.base) (.slice ah0 s.handed.length ch0) (.slice aw0 s.way.length cw0) (.slice aa0 s.acks.length ca0)) := HV0.out.below hb2
  clear HBw1
  clear hb2
  go_wp2_with fail
  go_at_call 20
  refine (CS.out _ _ _ _ _ hr2.at).mono ?_
  rintro e w3 ⟨a3, c3, rfl, hr3, hb3⟩
  clear hr2
  have hsw3 := hb3.size
  have HBw3 : Hid (Below w.heap.size w w3) := HBw2.out.trans (hb3.mono HBw2.out.size)
  have HV0 : Hid (Sv w3 (w.heap.size) (.int .i64 s.ep) (.slice ai0 s.items.length ci0) (.int .i64 s.base) (.slice ah0 s.handed.length ch0) (.slice aw0 s.way.length cw0) (.slice aa0 s.acks.length ca0)) := HV0.out.below hb3
  clear HBw2
  clear hb3 CS
  have HTU : Hid (StRow w3 (w2.heap.size) (.slice a3 L.length c3) L) := hr3
  have HOU : Hid (∀ g, (.slice a3 L.length c3 : Value).ownBlock = some g → w2.heap.size ≤ g ∧ g < w3.heap.size) := fun g hg => World.ownsRow.lt hr3 g hg
  clear hr3
  have y00 := HV0.out.c0
  have y01 := HV0.out.c1
  have y02 := HV0.out.c2
  have y03 := HV0.out.c3
  have y04 := HV0.out.c4
  have y05 := HV0.out.c5
  go_wp2_with fail
  go_at_call 18
  refine (HC1.out _ HBw3.out).mono ?_
  rintro e w4 ⟨ai4, ci4, ah4, ch4, aw4, cw4, aa4, ca4, rfl, hr4, hb4⟩
  clear y00 y01 y02 y03 y04 y05
  have hsw4 := hb4.size
  have HBw4 : Hid (Below w.heap.size w w4) := HBw3.out.trans (hb4.mono HBw3.out.size)
  have HV0 : Hid (Sv w4 (w.heap.size) (.int .i64 s.ep) (.slice ai0 s.items.length ci0) (.int .i64 s.base) (.slice ah0 s.handed.length ch0) (.slice aw0 s.way.length cw0) (.slice aa0 s.acks.length ca0)) := HV0.out.below hb4
  have HTU : Hid (StRow w4 (w2.heap.size) (.slice a3 L.length c3) L) := own_belowY HTU.out hb4
  clear HBw3
  clear hb4
  have HRX : Hid (SesRow w4 (w3.heap.size) s (.slice ai4 s.items.length ci4) (.slice ah4 s.handed.length ch4) (.slice aw4 s.way.length cw4) (.slice aa4 s.acks.length ca4)) := hr4
  have HLX : Hid (OwnIn (w3.heap.size) w4.heap.size (.slice ai4 s.items.length ci4) (.slice ah4 s.handed.length ch4) (.slice aw4 s.way.length cw4) (.slice aa4 s.acks.length ca4)) := SesRow.ownIn hr4
  clear hr4
  obtain ⟨W5, hW5⟩ : ∃ X, X = w4.alloc (.cells #[.int .i64 s.ep, .slice ai4 s.items.length ci4, .int .i64 s.base, .slice ah4 s.handed.length ch4, .slice aw4 s.way.length cw4, .slice aa4 s.acks.length ca4] 26) := ⟨_, rfl⟩
  have hbW5 : Below w4.heap.size w4 W5 := by rw [hW5]; exact (Below.refl _ _).alloc (Nat.le_refl _) _
  have hlW5 : w4.heap.size < W5.heap.size := by rw [hW5]; simp
  have hsW5 := hbW5.size
  have HBW5 : Hid (Below w.heap.size w W5) := HBw4.out.trans (hbW5.mono HBw4.out.size)
  have HV0 : Hid (Sv W5 (w.heap.size) (.int .i64 s.ep) (.slice ai0 s.items.length ci0) (.int .i64 s.base) (.slice ah0 s.handed.length ch0) (.slice aw0 s.way.length cw0) (.slice aa0 s.acks.length ca0)) := HV0.out.below hbW5
  have HRX : Hid (SesRow W5 (w3.heap.size) s (.slice ai4 s.items.length ci4) (.slice ah4 s.handed.length ch4) (.slice aw4 s.way.length cw4) (.slice aa4 s.acks.length ca4)) := HRX.out.below hbW5
  have HTU : Hid (StRow W5 (w2.heap.size) (.slice a3 L.length c3) L) := own_belowY HTU.out hbW5
  clear HBw4
  have HV5 : Hid (Sv W5 (w4.heap.size) (.int .i64 s.ep) (.slice ai4 s.items.length ci4) (.int .i64 s.base) (.slice ah4 s.handed.length ch4) (.slice aw4 s.way.length cw4) (.slice aa4 s.acks.length ca4)) := by show Sv _ _ _ _ _ _ _ _; rw [hW5]; exact Sv.fresh w4 _ _ _ _ _ _ _
  clear hbW5
  go_upto_region 7 with fail
  rw [← hW5]
  clear hW5
  have y50 := HV5.out.c0
  have y51 := HV5.out.c1
  have y52 := HV5.out.c2
  have y53 := HV5.out.c3
  have y54 := HV5.out.c4
  have y55 := HV5.out.c5
  go_wp2_with fail
  go_at_call 21
  refine (CI.out _ _ _ _ _ HRX.out.at).mono ?_
  rintro e w6 ⟨a6, c6, rfl, hr6, hb6⟩
  clear y50 y51 y52 y53 y54 y55
  have hsw6 := hb6.size
  have HBw6 : Hid (Below w.heap.size w w6) := HBW5.out.trans (hb6.mono HBW5.out.size)
  have HV0 : Hid (Sv w6 (w.heap.size) (.int .i64 s.ep) (.slice ai0 s.items.length ci0) (.int .i64 s.base) (.slice ah0 s.handed.length ch0) (.slice aw0 s.way.length cw0) (.slice aa0 s.acks.length ca0)) := HV0.out.below hb6
  have HV5 : Hid (Sv w6 (w4.heap.size) (.int .i64 s.ep) (.slice ai4 s.items.length ci4) (.int .i64 s.base) (.slice ah4 s.handed.length ch4) (.slice aw4 s.way.length cw4) (.slice aa4 s.acks.length ca4)) := HV5.out.below hb6
  have HRX : Hid (SesRow w6 (w3.heap.size) s (.slice ai4 s.items.length ci4) (.slice ah4 s.handed.length ch4) (.slice aw4 s.way.length cw4) (.slice aa4 s.acks.length ca4)) := HRX.out.below hb6
  have HTU : Hid (StRow w6 (w2.heap.size) (.slice a3 L.length c3) L) := own_belowY HTU.out hb6
  clear HBW5
  clear hb6
  have HTG : Hid (StRow w6 (W5.heap.size) (.slice a6 L.length c6) L) := hr6
  have HOG : Hid (∀ g, (.slice a6 L.length c6 : Value).ownBlock = some g → W5.heap.size ≤ g ∧ g < w6.heap.size) := fun g hg => World.ownsRow.lt hr6 g hg
  clear hr6
  go_wp2_with fail
  go_at_call 22
  refine (eqTexts_same L _ _ w6 (StAt.own HTG.out) (StAt.own HTU.out) (by omega)).mono ?_
  rintro e w7 ⟨rfl, hbw7⟩
  have hsw7 := hbw7.size
  have HBw7 : Hid (Below w.heap.size w w7) := HBw6.out.trans (hbw7.mono HBw6.out.size)
  have HV0 : Hid (Sv w7 (w.heap.size) (.int .i64 s.ep) (.slice ai0 s.items.length ci0) (.int .i64 s.base) (.slice ah0 s.handed.length ch0) (.slice aw0 s.way.length cw0) (.slice aa0 s.acks.length ca0)) := HV0.out.below hbw7
  have HV5 : Hid (Sv w7 (w4.heap.size) (.int .i64 s.ep) (.slice ai4 s.items.length ci4) (.int .i64 s.base) (.slice ah4 s.handed.length ch4) (.slice aw4 s.way.length cw4) (.slice aa4 s.acks.length ca4)) := HV5.out.below hbw7
  have HRX : Hid (SesRow w7 (w3.heap.size) s (.slice ai4 s.items.length ci4) (.slice ah4 s.handed.length ch4) (.slice aw4 s.way.length cw4) (.slice aa4 s.acks.length ca4)) := HRX.out.below hbw7
  have HTU : Hid (StRow w7 (w2.heap.size) (.slice a3 L.length c3) L) := own_belowY HTU.out hbw7
  have HTG : Hid (StRow w7 (W5.heap.size) (.slice a6 L.length c6) L) := own_belowY HTG.out hbw7
  clear HBw6
  clear hbw7
  go_upto_region 10 with fail
  have HBw7d : Hid (Below w.heap.size w w7.drew) := HBw7.out.drew
  have KD : Hid (∀ W, Below w7.heap.size w7 W → W.cell? ⟨w4.heap.size, 0, none⟩ = some (.int .i64 s.ep) ∧ W.cell? ⟨w4.heap.size, 1, none⟩ = some (.slice ai4 s.items.length ci4) ∧ W.cell? ⟨w4.heap.size, 2, none⟩ = some (.int .i64 s.base) ∧ W.cell? ⟨w4.heap.size, 3, none⟩ = some (.slice ah4 s.handed.length ch4) ∧ W.cell? ⟨w4.heap.size, 4, none⟩ = some (.slice aw4 s.way.length cw4) ∧ W.cell? ⟨w4.heap.size, 5, none⟩ = some (.slice aa4 s.acks.length ca4) ∧ W.cell? ⟨w.heap.size, 0, none⟩ = some (.int .i64 s.ep) ∧ W.cell? ⟨w.heap.size, 1, none⟩ = some (.slice ai0 s.items.length ci0) ∧ W.cell? ⟨w.heap.size, 2, none⟩ = some (.int .i64 s.base) ∧ W.cell? ⟨w.heap.size, 3, none⟩ = some (.slice ah0 s.handed.length ch0) ∧ W.cell? ⟨w.heap.size, 4, none⟩ = some (.slice aw0 s.way.length cw0) ∧ W.cell? ⟨w.heap.size, 5, none⟩ = some (.slice aa0 s.acks.length ca0)) := fun W hW => ⟨(HV5.out.below hW).c0, (HV5.out.below hW).c1, (HV5.out.below hW).c2, (HV5.out.below hW).c3, (HV5.out.below hW).c4, (HV5.out.below hW).c5, (HV0.out.below hW).c0, (HV0.out.below hW).c1, (HV0.out.below hW).c2, (HV0.out.below hW).c3, (HV0.out.below hW).c4, (HV0.out.below hW).c5⟩
  go_region_held3 (fun W => W.cell? ⟨w4.heap.size, 0, none⟩ = some (.int .i64 s.ep) ∧ W.cell? ⟨w4.heap.size, 1, none⟩ = some (.slice ai4 s.items.length ci4) ∧ W.cell? ⟨w4.heap.size, 2, none⟩ = some (.int .i64 s.base) ∧ W.cell? ⟨w4.heap.size, 3, none⟩ = some (.slice ah4 s.handed.length ch4) ∧ W.cell? ⟨w4.heap.size, 4, none⟩ = some (.slice aw4 s.way.length cw4) ∧ W.cell? ⟨w4.heap.size, 5, none⟩ = some (.slice aa4 s.acks.length ca4) ∧ W.cell? ⟨w.heap.size, 0, none⟩ = some (.int .i64 s.ep) ∧ W.cell? ⟨w.heap.size, 1, none⟩ = some (.slice ai0 s.items.length ci0) ∧ W.cell? ⟨w.heap.size, 2, none⟩ = some (.int .i64 s.base) ∧ W.cell? ⟨w.heap.size, 3, none⟩ = some (.slice ah0 s.handed.length ch0) ∧ W.cell? ⟨w.heap.size, 4, none⟩ = some (.slice aw0 s.way.length cw0) ∧ W.cell? ⟨w.heap.size, 5, none⟩ = some (.slice aa0 s.acks.length ca0)) (first | with_reducible exact KD.out _ (Below.refl _ w7).drew | with_reducible exact KD.out _ hbD | with_reducible exact KD.out _ hbE)
    (first | ((go_at_call 13; (with_reducible refine (HES.out _ _ _ _ _ _ _ _ _ HRXd.out.at HRD.out.at).mono ?_); rintro e w9 ⟨rfl, hbE0⟩; have hbE : Below w7.heap.size w7 w9 := hbD.trans (hbE0.mono hbD.size))) | ((go_at_call 18; (with_reducible refine (HC1.out _ HBw7d.out).mono ?_); rintro e w8 ⟨ai8, ci8, ah8, ch8, aw8, cw8, aa8, ca8, rfl, hrD, hbD0⟩; have hbD : Below w7.heap.size w7 w8 := (Below.refl _ w7).drew.trans (hbD0.mono (Nat.le_refl _)); have HRXd : Hid (SesRow w8 (w3.heap.size) s (.slice ai4 s.items.length ci4) (.slice ah4 s.handed.length ch4) (.slice aw4 s.way.length cw4) (.slice aa4 s.acks.length ca4)) := HRX.out.below hbD; have HRD : Hid (SesRow w8 w7.drew.heap.size s (.slice ai8 s.items.length ci8) (.slice ah8 s.handed.length ch8) (.slice aw8 s.way.length cw8) (.slice aa8 s.acks.length ca8)) := hrD)))
  clear KD HRXd HRD hbD hbD0 hrD hbE0
  have hsw9 := hbE.size
  have HBw9 : Hid (Below w.heap.size w w9) := HBw7.out.trans (hbE.mono HBw7.out.size)
  have HV0 : Hid (Sv w9 (w.heap.size) (.int .i64 s.ep) (.slice ai0 s.items.length ci0) (.int .i64 s.base) (.slice ah0 s.handed.length ch0) (.slice aw0 s.way.length cw0) (.slice aa0 s.acks.length ca0)) := HV0.out.below hbE
  have HV5 : Hid (Sv w9 (w4.heap.size) (.int .i64 s.ep) (.slice ai4 s.items.length ci4) (.int .i64 s.base) (.slice ah4 s.handed.length ch4) (.slice aw4 s.way.length cw4) (.slice aa4 s.acks.length ca4)) := HV5.out.below hbE
  have HRX : Hid (SesRow w9 (w3.heap.size) s (.slice ai4 s.items.length ci4) (.slice ah4 s.handed.length ch4) (.slice aw4 s.way.length cw4) (.slice aa4 s.acks.length ca4)) := HRX.out.below hbE
  have HTU : Hid (StRow w9 (w2.heap.size) (.slice a3 L.length c3) L) := own_belowY HTU.out hbE
  have HTG : Hid (StRow w9 (W5.heap.size) (.slice a6 L.length c6) L) := own_belowY HTG.out hbE
  clear HBw7
  clear hbE
  have y50 := HV5.out.c0
  have y51 := HV5.out.c1
  have y52 := HV5.out.c2
  have y53 := HV5.out.c3
  have y54 := HV5.out.c4
  have y55 := HV5.out.c5
  go_wp2_with fail
  go_at_call 14
  refine (HMX.out (w3.heap.size) (w4.heap.size) _ _ _ _ _ HRX.out HLX.out).mono ?_
  rintro e w10 ⟨rfl, hkw10, hmw10⟩
  clear y50 y51 y52 y53 y54 y55
  have hsw10 := hmw10.size
  have HBw10 : Hid (Below w.heap.size w w10) := HBw9.out.trans ((hmw10.below (by omega)).mono (by omega))
  have HV0 : Hid (Sv w10 (w.heap.size) (.int .i64 s.ep) (.slice ai0 s.items.length ci0) (.int .i64 s.base) (.slice ah0 s.handed.length ch0) (.slice aw0 s.way.length cw0) (.slice aa0 s.acks.length ca0)) := HV0.out.mid hmw10 (by omega)
  have HV5 : Hid (Sv w10 (w4.heap.size) (.int .i64 s.ep) (.slice ai4 s.items.length ci4) (.int .i64 s.base) (.slice ah4 s.handed.length ch4) (.slice aw4 s.way.length cw4) (.slice aa4 s.acks.length ca4)) := HV5.out.mid hmw10 (by omega)
  have HTU : Hid (StRow w10 (w2.heap.size) (.slice a3 L.length c3) L) := HTU.out.mid HOU.out hmw10 (by omega)
  have HTG : Hid (StRow w10 (W5.heap.size) (.slice a6 L.length c6) L) := HTG.out.mid HOG.out hmw10 (by omega)
  clear HBw9
  clear hmw10 HRX HLX
  have HMX : Hid (SesMk w10 w10.heap.size 1 s.items.length s.handed.length s.way.length s.acks.length (.slice ai4 s.items.length ci4) (.slice ah4 s.handed.length ch4) (.slice aw4 s.way.length cw4) (.slice aa4 s.acks.length ca4)) := hkw10
  clear hkw10
  clear HMX
  clear HV5
  have hk10 : ¬ (((1 + s.items.length + s.handed.length + s.way.length * 3 + s.acks.length * 2 : Nat) : Int) < 0) := by omega
  go_wp2_with fail
  go_at_call 22
  refine (eqTexts_same L _ _ w10 (StAt.own HTG.out) (StAt.own HTU.out) (by omega)).mono ?_
  rintro e w11 ⟨rfl, hbw11⟩
  have hsw11 := hbw11.size
  have HBw11 : Hid (Below w.heap.size w w11) := HBw10.out.trans (hbw11.mono HBw10.out.size)
  have HV0 : Hid (Sv w11 (w.heap.size) (.int .i64 s.ep) (.slice ai0 s.items.length ci0) (.int .i64 s.base) (.slice ah0 s.handed.length ch0) (.slice aw0 s.way.length cw0) (.slice aa0 s.acks.length ca0)) := HV0.out.below hbw11
  have HTU : Hid (StRow w11 (w2.heap.size) (.slice a3 L.length c3) L) := own_belowY HTU.out hbw11
  have HTG : Hid (StRow w11 (W5.heap.size) (.slice a6 L.length c6) L) := own_belowY HTG.out hbw11
  clear HBw10
  clear hbw11
  go_wp2_with fail
  go_at_call 23
  refine (markTexts_any (W5.heap.size) L.length 1 _ _ w11 HTG.out (by omega) (by omega) (by omega)).mono ?_
  rintro e w12 ⟨rfl, ⟨ysw12, how12, hyw12⟩, hgw12⟩
  have hmw12 : Mid (W5.heap.size) (w6.heap.size) w11 w12 := Mid.of_grown hgw12 (fun g hg => HOG.out g hg)
  have hsw12 := hmw12.size
  have HBw12 : Hid (Below w.heap.size w w12) := HBw11.out.trans ((hmw12.below (by omega)).mono (by omega))
  have HV0 : Hid (Sv w12 (w.heap.size) (.int .i64 s.ep) (.slice ai0 s.items.length ci0) (.int .i64 s.base) (.slice ah0 s.handed.length ch0) (.slice aw0 s.way.length cw0) (.slice aa0 s.acks.length ca0)) := HV0.out.mid hmw12 (by omega)
  have HTU : Hid (StRow w12 (w2.heap.size) (.slice a3 L.length c3) L) := HTU.out.mid HOU.out hmw12 (by omega)
  clear HBw11
  have HMG : Hid (StRow w12 (W5.heap.size) (.slice a6 L.length c6) (mks 1 L.length)) := marked_at how12 hyw12
  clear HTG hmw12 hgw12 how12 hyw12
  have HTG := HMG
  clear HMG
  go_wp2_with fail
  go_at_call 24
  refine (heldTexts_any L.length 1 _ w12 (StAt.own HTG.out) (by omega) (by omega) (by omega)).mono ?_
  rintro e w13 ⟨rfl, hbw13⟩
  have hsw13 := hbw13.size
  have HBw13 : Hid (Below w.heap.size w w13) := HBw12.out.trans (hbw13.mono HBw12.out.size)
  have HV0 : Hid (Sv w13 (w.heap.size) (.int .i64 s.ep) (.slice ai0 s.items.length ci0) (.int .i64 s.base) (.slice ah0 s.handed.length ch0) (.slice aw0 s.way.length cw0) (.slice aa0 s.acks.length ca0)) := HV0.out.below hbw13
  have HTU : Hid (StRow w13 (w2.heap.size) (.slice a3 L.length c3) L) := own_belowY HTU.out hbw13
  have HTG : Hid (StRow w13 (W5.heap.size) (.slice a6 L.length c6) (mks 1 L.length)) := own_belowY HTG.out hbw13
  clear HBw12
  clear hbw13
  have hk12 : ¬ (((1 + L.length : Nat) : Int) < 0) := by omega
  have y00 := HV0.out.c0
  have y01 := HV0.out.c1
  have y02 := HV0.out.c2
  have y03 := HV0.out.c3
  have y04 := HV0.out.c4
  have y05 := HV0.out.c5
  go_wp2_with fail
  go_at_call 18
  refine (HC1.out _ HBw13.out).mono ?_
  rintro e w14 ⟨ai14, ci14, ah14, ch14, aw14, cw14, aa14, ca14, rfl, hr14, hb14⟩
  clear y00 y01 y02 y03 y04 y05
  have hsw14 := hb14.size
  have HBw14 : Hid (Below w.heap.size w w14) := HBw13.out.trans (hb14.mono HBw13.out.size)
  have HV0 : Hid (Sv w14 (w.heap.size) (.int .i64 s.ep) (.slice ai0 s.items.length ci0) (.int .i64 s.base) (.slice ah0 s.handed.length ch0) (.slice aw0 s.way.length cw0) (.slice aa0 s.acks.length ca0)) := HV0.out.below hb14
  have HTU : Hid (StRow w14 (w2.heap.size) (.slice a3 L.length c3) L) := own_belowY HTU.out hb14
  have HTG : Hid (StRow w14 (W5.heap.size) (.slice a6 L.length c6) (mks 1 L.length)) := own_belowY HTG.out hb14
  clear HBw13
  clear hb14
  go_wp2_with fail
  go_at_call 21
  refine (CI.out _ _ _ _ _ hr14.at).mono ?_
  rintro e w15 ⟨a15, c15, rfl, hr15, hb15⟩
  clear hr14
  have hsw15 := hb15.size
  have HBw15 : Hid (Below w.heap.size w w15) := HBw14.out.trans (hb15.mono HBw14.out.size)
  have HV0 : Hid (Sv w15 (w.heap.size) (.int .i64 s.ep) (.slice ai0 s.items.length ci0) (.int .i64 s.base) (.slice ah0 s.handed.length ch0) (.slice aw0 s.way.length cw0) (.slice aa0 s.acks.length ca0)) := HV0.out.below hb15
  have HTU : Hid (StRow w15 (w2.heap.size) (.slice a3 L.length c3) L) := own_belowY HTU.out hb15
  have HTG : Hid (StRow w15 (W5.heap.size) (.slice a6 L.length c6) (mks 1 L.length)) := own_belowY HTG.out hb15
  clear HBw14
  clear hb15
  have HTZ : Hid (StRow w15 (w14.heap.size) (.slice a15 L.length c15) L) := hr15
  have HOZ : Hid (∀ g, (.slice a15 L.length c15 : Value).ownBlock = some g → w14.heap.size ≤ g ∧ g < w15.heap.size) := fun g hg => World.ownsRow.lt hr15 g hg
  clear hr15
  go_wp2_with fail
  go_at_call 22
  refine (eqTexts_same L _ _ w15 (StAt.own HTZ.out) (StAt.own HTU.out) (by omega)).mono ?_
  rintro e w16 ⟨rfl, hbw16⟩
  have hsw16 := hbw16.size
  have HBw16 : Hid (Below w.heap.size w w16) := HBw15.out.trans (hbw16.mono HBw15.out.size)
  have HV0 : Hid (Sv w16 (w.heap.size) (.int .i64 s.ep) (.slice ai0 s.items.length ci0) (.int .i64 s.base) (.slice ah0 s.handed.length ch0) (.slice aw0 s.way.length cw0) (.slice aa0 s.acks.length ca0)) := HV0.out.below hbw16
  have HTU : Hid (StRow w16 (w2.heap.size) (.slice a3 L.length c3) L) := own_belowY HTU.out hbw16
  have HTG : Hid (StRow w16 (W5.heap.size) (.slice a6 L.length c6) (mks 1 L.length)) := own_belowY HTG.out hbw16
  have HTZ : Hid (StRow w16 (w14.heap.size) (.slice a15 L.length c15) L) := own_belowY HTZ.out hbw16
  clear HBw15
  clear hbw16
  go_wp2_with fail
  go_at_call 24
  refine (heldTexts_any L.length 1 _ w16 (StAt.own HTG.out) (by omega) (by omega) (by omega)).mono ?_
  rintro e w17 ⟨rfl, hbw17⟩
  have hsw17 := hbw17.size
  have HBw17 : Hid (Below w.heap.size w w17) := HBw16.out.trans (hbw17.mono HBw16.out.size)
  have HV0 : Hid (Sv w17 (w.heap.size) (.int .i64 s.ep) (.slice ai0 s.items.length ci0) (.int .i64 s.base) (.slice ah0 s.handed.length ch0) (.slice aw0 s.way.length cw0) (.slice aa0 s.acks.length ca0)) := HV0.out.below hbw17
  have HTU : Hid (StRow w17 (w2.heap.size) (.slice a3 L.length c3) L) := own_belowY HTU.out hbw17
  have HTG : Hid (StRow w17 (W5.heap.size) (.slice a6 L.length c6) (mks 1 L.length)) := own_belowY HTG.out hbw17
  have HTZ : Hid (StRow w17 (w14.heap.size) (.slice a15 L.length c15) L) := own_belowY HTZ.out hbw17
  clear HBw16
  clear hbw17
  go_wp2_with fail
  go_ret
  exact ⟨rfl, HBw17.out⟩

namespace fnExactPendingIn
open Go.ChangeShapes Go.WideShapes Go.ChangeAt

theorem own : ownKnob Try.prog.godebug = none := by kernel_rfl
theorem laidOut : laidOutB Try.prog = true := by kernel_rfl

set_option maxRecDepth 100000 in
theorem lifted (os : Os) (started : os.Started) (H : Type) (enc : TypeId × Value → H) :
    ReturnsInHanded {} Try.checked os 5 .any (Rows.fnExactPendingInSpec.pre6 enc Try.prog Try.f5 Rows.fnExactPendingInRow.domain false) (Rows.fnExactPendingInSpec.post enc Try.prog Try.f5 false true false false) := by
  refine returnsInHanded_of_change (C := Try.checked) own started (by kernel_rfl) Try.func5
    (ChangeSpec.witness6 (enc := enc) (C := Try.checked) false ⟨#[], #[.agg #[.int .i64 0, .slice none 0 0, .int .i64 0, .slice none 0 0, .slice none 0 0, .slice none 0 0]], []⟩ 8 (by kernel_rfl) (by kernel_rfl) (by kernel_rfl) (by kernel_rfl)) ?_
  intro W base args ds gs before hval0 hW hcnd _
  have hval : ∀ (j : Nat) t v, Try.f5.params[j]? = some t → args[j]? = some v → Value.okWide Try.prog W .any base t v := hval0
  have hW' := hW
  obtain ⟨p, q, hA0, hV, rfl, hfz, hnd⟩ := hW
  have hA : DataW.TrodAll enc Try.prog W 0 (fun _ => true) true Try.f5.params.toList args.toList ds p := hA0
  rw [Try.params5] at hA hval
  obtain ⟨v0, vs0, d0, ds0, p0, q0, hargs, rfl, rfl, h0, r0⟩ := trodAll_cons hA
  obtain ⟨rfl, rfl, rfl⟩ := trodAll_nil r0
  obtain rfl : args = #[v0] := by cases args; simp_all
  obtain ⟨rfl, rfl⟩ := trodVars_none hV
  have h0k := h0
  obtain ⟨R0, vi0, vh0, vw0, va0, rfl, hT0, hN0⟩ := open_session (hval 0 35 v0 rfl rfl) h0
  clear hA0 hval0
  have hlt0 : ∀ x ∈ p0, x.block < W.heap.size := fun x hx => by
    have := hW'.lt x (by simp_all)
    simpa using this
  refine (walkFnExactPendingIn R0 vi0 vh0 vw0 va0 W hT0 hN0).mono fun e W' ⟨he, hg⟩ => ?_
  subst he
  exact ⟨_, rfl, _, _, _, [], _, [], hW', trodAll_mk1 (shut_bool Try.underlying4 _), (trodAll_cons_mk (Below.trod laidOut (by kernel_rfl) (of_decide_eq_true (by kernel_rfl)) h0k hg (fun x hx => hlt0 x hx)) trodAll_mk0), rfl, hg.frame _, fun h => by cases h⟩

theorem over : Rows.fnExactPendingInRow.holds Try.pinned (OpenSpec.ofChange Rows.fnExactPendingInSpec) :=
  OpenClaim.holds_of_wide 5 Try.f5 rfl rfl rfl rfl rfl rfl rfl ⟨rfl, rfl, rfl, rfl, rfl⟩ rfl rfl rfl rfl rfl (by kernel_rfl) Try.func5 (by kernel_rfl)
    (of_decide_eq_true (by kernel_rfl)) (by unfold Func.isWrapper; first | (rw [if_pos (by decide +kernel)]; kernel_rfl) | (rw [if_neg (by decide +kernel)]; exact ⟨rfl, rfl⟩))
    (fun os started H enc _ => lifted os started H enc)

end fnExactPendingIn

theorem fnExactPendingIn_holds : Rows.FnExactPendingInSaid := fnExactPendingIn.over
#print axioms fnExactPendingIn_holds
end Go.Proofs.Ytnlppeieccbhgaa
