/- Proved here: at every cap and rule the law FnExactNewQueue answers true, that is, NewQueue answers as its model, its answer owns its memory, and it writes into nothing.
   Conditions: none beside the row's own. -/
import Derived.Test.YtfkhbbmnjndmcaaQsH
import Derived.Deep.DeepCutAuto
import Derived.Deep.RegionHeld3
import Derived.Deep.DrawnRows
import Derived.OpenShut
import Derived.ChangeMaps5
namespace Go.Proofs.Ytfkhbbmnjndmcaa
attribute [local go_sem ↓] Go.wp_at_zero Go.wp_at_succ
open Go.RowKit Plain Qus

set_option maxRecDepth 100000 in
set_option maxHeartbeats 16000000 in
theorem walkFnExactNewQueue (c r : Int) (w : World) :
    Calls Try.prog 3 #[.int .i64 c, .int .i64 r] w fun e w' => e = .returned (.bool true) ∧ Below w.heap.size w w' := by
  have hFl : SmlQ (nqQ c r) 1000 := by
    unfold nqQ
    split
    · exact ⟨by simp, by simp, by simp⟩
    · exact ⟨Nat.zero_le _, Nat.zero_le _, Nat.zero_le _⟩
  have CS : Hid (∀ W, Calls Try.prog 12 #[.int .i64 c, .int .i64 r] W fun e w' => QuOut W w' (nqQ c r) (fun v => e = .returned (.tuple #[v, .bool (okR c r)]))) := fun W => specNewQ c r W
  have CI : Hid (∀ W, Calls Try.prog 13 #[.int .i64 c, .int .i64 r] W fun e w' => QuOut W w' (nqQ c r) (fun v => e = .returned (.tuple #[v, .bool (okR c r)]))) := fun W => implNewQ c r W
  generalize nqQ c r = F at CS CI hFl
  generalize okR c r = K at CS CI
  have EF : Hid (∀ W v1 v2 v3 u1 u2 u3, QuAt W W.heap.size F v1 v2 v3 → QuAt W W.heap.size F u1 u2 u3 → Calls Try.prog 14 #[.agg #[.int .i64 F.cap, .int .i64 F.rule, .int .i64 F.next, v1, v2, v3], .agg #[.int .i64 F.cap, .int .i64 F.rule, .int .i64 F.next, u1, u2, u3]] W fun e w' => e = .returned (.bool true) ∧ Below W.heap.size W w') := fun W v1 v2 v3 u1 u2 u3 h1 h2 => eqQueue_same F v1 v2 v3 u1 u2 u3 W h1 h2 ⟨by have := hFl.a; omega, by have := hFl.b; omega, by have := hFl.c; omega⟩
  have MG : Hid (∀ B T W v1 v2 v3, QuRow W B F v1 v2 v3 → OwnQ B T v1 v2 v3 → Calls Try.prog 15 #[.agg #[.int .i64 F.cap, .int .i64 F.rule, .int .i64 F.next, v1, v2, v3], .int .i64 1] W fun e w' => e = .returned (.int .i64 ((1 + F.wt.length + F.hd.length + F.dr.length : Nat) : Int)) ∧ QuMk w' w'.heap.size 1 F.wt.length F.hd.length F.dr.length v1 v2 v3 ∧ Mid B T W w') := fun B T W v1 v2 v3 h1 h2 => markQueue_any F B T 1 v1 v2 v3 W h1 (fun g hg => (h2 g hg).2) ⟨by have := hFl.a; omega, by have := hFl.b; omega, by have := hFl.c; omega⟩ (by omega)
  have HG : Hid (∀ W v1 v2 v3, QuMk W W.heap.size 1 F.wt.length F.hd.length F.dr.length v1 v2 v3 → Calls Try.prog 16 #[.agg #[.int .i64 F.cap, .int .i64 F.rule, .int .i64 F.next, v1, v2, v3], .int .i64 1] W fun e w' => e = .returned (.int .i64 ((1 + F.wt.length + F.hd.length + F.dr.length : Nat) : Int)) ∧ Below W.heap.size W w') := fun W v1 v2 v3 h => heldQueue_any F 1 _ _ _ v1 v2 v3 W h (by have := hFl.a; omega) (by have := hFl.b; omega) (by have := hFl.c; omega) (by omega)
  have nK : (K != K) = false := bne_self_eq_false K
  have hNK : ¬ (((1 + F.wt.length + F.hd.length + F.dr.length : Nat) : Int) < 0) := by omega
  clear hFl
  go_enter Try.func3, Try.ntmps3
  go_wp2_with fail
  go_at_call 12
  refine (CS.out _).mono ?_
  rintro e w1 ⟨aw1, cw1, ah1, ch1, ad1, cd1, rfl, hr1, hb1⟩
  have hsw1 := hb1.size
  have HBw1 : Hid (Below w.heap.size w w1) := hb1
  clear hb1
  have HRU : Hid (QuRow w1 (w.heap.size) F (.slice aw1 F.wt.length cw1) (.slice ah1 F.hd.length ch1) (.slice ad1 F.dr.length cd1)) := hr1
  have HLU : Hid (OwnQ (w.heap.size) w1.heap.size (.slice aw1 F.wt.length cw1) (.slice ah1 F.hd.length ch1) (.slice ad1 F.dr.length cd1)) := QuRow.ownIn hr1
  clear hr1
  obtain ⟨W1, hW1⟩ : ∃ X, X = w1.alloc (.cells #[.int .i64 F.cap, .int .i64 F.rule, .int .i64 F.next, .slice aw1 F.wt.length cw1, .slice ah1 F.hd.length ch1, .slice ad1 F.dr.length cd1] 24) := ⟨_, rfl⟩
  have hbW1 : Below w1.heap.size w1 W1 := by rw [hW1]; exact (Below.refl _ _).alloc (Nat.le_refl _) _
  have hlW1 : w1.heap.size < W1.heap.size := by rw [hW1]; simp
  have hsW1 := hbW1.size
  have HBW1 : Hid (Below w.heap.size w W1) := HBw1.out.trans (hbW1.mono HBw1.out.size)
  have HRU : Hid (QuRow W1 (w.heap.size) F (.slice aw1 F.wt.length cw1) (.slice ah1 F.hd.length ch1) (.slice ad1 F.dr.length cd1)) := HRU.out.below hbW1
  clear HBw1
  have HV1 : Hid (Sv W1 (w1.heap.size) (.int .i64 F.cap) (.int .i64 F.rule) (.int .i64 F.next) (.slice aw1 F.wt.length cw1) (.slice ah1 F.hd.length ch1) (.slice ad1 F.dr.length cd1)) := by show Sv _ _ _ _ _ _ _ _; rw [hW1]; exact Sv.fresh w1 _ _ _ _ _ _ _
  clear hbW1
  go_upto_region 2 with fail
  rw [← hW1]
  clear hW1
  go_wp2_with fail
  go_at_call 13
  refine (CI.out _).mono ?_
  rintro e w2 ⟨aw2, cw2, ah2, ch2, ad2, cd2, rfl, hr2, hb2⟩
  have hsw2 := hb2.size
  have HBw2 : Hid (Below w.heap.size w w2) := HBW1.out.trans (hb2.mono HBW1.out.size)
  have HV1 : Hid (Sv w2 (w1.heap.size) (.int .i64 F.cap) (.int .i64 F.rule) (.int .i64 F.next) (.slice aw1 F.wt.length cw1) (.slice ah1 F.hd.length ch1) (.slice ad1 F.dr.length cd1)) := HV1.out.below hb2
  have HRU : Hid (QuRow w2 (w.heap.size) F (.slice aw1 F.wt.length cw1) (.slice ah1 F.hd.length ch1) (.slice ad1 F.dr.length cd1)) := HRU.out.below hb2
  clear HBW1
  clear hb2
  have HRG : Hid (QuRow w2 (W1.heap.size) F (.slice aw2 F.wt.length cw2) (.slice ah2 F.hd.length ch2) (.slice ad2 F.dr.length cd2)) := hr2
  have HLG : Hid (OwnQ (W1.heap.size) w2.heap.size (.slice aw2 F.wt.length cw2) (.slice ah2 F.hd.length ch2) (.slice ad2 F.dr.length cd2)) := QuRow.ownIn hr2
  clear hr2
  obtain ⟨W2, hW2⟩ : ∃ X, X = w2.alloc (.cells #[.int .i64 F.cap, .int .i64 F.rule, .int .i64 F.next, .slice aw2 F.wt.length cw2, .slice ah2 F.hd.length ch2, .slice ad2 F.dr.length cd2] 24) := ⟨_, rfl⟩
  have hbW2 : Below w2.heap.size w2 W2 := by rw [hW2]; exact (Below.refl _ _).alloc (Nat.le_refl _) _
  have hlW2 : w2.heap.size < W2.heap.size := by rw [hW2]; simp
  have hsW2 := hbW2.size
  have HBW2 : Hid (Below w.heap.size w W2) := HBw2.out.trans (hbW2.mono HBw2.out.size)
  have HV1 : Hid (Sv W2 (w1.heap.size) (.int .i64 F.cap) (.int .i64 F.rule) (.int .i64 F.next) (.slice aw1 F.wt.length cw1) (.slice ah1 F.hd.length ch1) (.slice ad1 F.dr.length cd1)) := HV1.out.below hbW2
  have HRU : Hid (QuRow W2 (w.heap.size) F (.slice aw1 F.wt.length cw1) (.slice ah1 F.hd.length ch1) (.slice ad1 F.dr.length cd1)) := HRU.out.below hbW2
  have HRG : Hid (QuRow W2 (W1.heap.size) F (.slice aw2 F.wt.length cw2) (.slice ah2 F.hd.length ch2) (.slice ad2 F.dr.length cd2)) := HRG.out.below hbW2
  clear HBw2
  have HV2 : Hid (Sv W2 (w2.heap.size) (.int .i64 F.cap) (.int .i64 F.rule) (.int .i64 F.next) (.slice aw2 F.wt.length cw2) (.slice ah2 F.hd.length ch2) (.slice ad2 F.dr.length cd2)) := by show Sv _ _ _ _ _ _ _ _; rw [hW2]; exact Sv.fresh w2 _ _ _ _ _ _ _
  clear hbW2
  go_upto_region 3 with fail
  rw [← hW2]
  clear hW2
  have y20 := HV2.out.c0
  have y21 := HV2.out.c1
  have y22 := HV2.out.c2
  have y23 := HV2.out.c3
  have y24 := HV2.out.c4
  have y25 := HV2.out.c5
  have y10 := HV1.out.c0
  have y11 := HV1.out.c1
  have y12 := HV1.out.c2
  have y13 := HV1.out.c3
  have y14 := HV1.out.c4
  have y15 := HV1.out.c5
  go_wp2_with fail
  go_at_call 14
  refine (EF.out _ _ _ _ _ _ _ HRG.out.at HRU.out.at).mono ?_
  rintro e w3 ⟨rfl, hbw3⟩
  clear y20 y21 y22 y23 y24 y25 y10 y11 y12 y13 y14 y15
  have hsw3 := hbw3.size
  have HBw3 : Hid (Below w.heap.size w w3) := HBW2.out.trans (hbw3.mono HBW2.out.size)
  have HV1 : Hid (Sv w3 (w1.heap.size) (.int .i64 F.cap) (.int .i64 F.rule) (.int .i64 F.next) (.slice aw1 F.wt.length cw1) (.slice ah1 F.hd.length ch1) (.slice ad1 F.dr.length cd1)) := HV1.out.below hbw3
  have HV2 : Hid (Sv w3 (w2.heap.size) (.int .i64 F.cap) (.int .i64 F.rule) (.int .i64 F.next) (.slice aw2 F.wt.length cw2) (.slice ah2 F.hd.length ch2) (.slice ad2 F.dr.length cd2)) := HV2.out.below hbw3
  have HRU : Hid (QuRow w3 (w.heap.size) F (.slice aw1 F.wt.length cw1) (.slice ah1 F.hd.length ch1) (.slice ad1 F.dr.length cd1)) := HRU.out.below hbw3
  have HRG : Hid (QuRow w3 (W1.heap.size) F (.slice aw2 F.wt.length cw2) (.slice ah2 F.hd.length ch2) (.slice ad2 F.dr.length cd2)) := HRG.out.below hbw3
  clear HBW2
  clear hbw3
  have y20 := HV2.out.c0
  have y21 := HV2.out.c1
  have y22 := HV2.out.c2
  have y23 := HV2.out.c3
  have y24 := HV2.out.c4
  have y25 := HV2.out.c5
  go_wp2_with fail
  go_at_call 15
  refine (MG.out (W1.heap.size) (w2.heap.size) _ _ _ _ HRG.out HLG.out).mono ?_
  rintro e w4 ⟨rfl, hkw4, hmw4⟩
  clear y20 y21 y22 y23 y24 y25
  have hsw4 := hmw4.size
  have HBw4 : Hid (Below w.heap.size w w4) := HBw3.out.trans ((hmw4.below (by omega)).mono (by omega))
  have HV1 : Hid (Sv w4 (w1.heap.size) (.int .i64 F.cap) (.int .i64 F.rule) (.int .i64 F.next) (.slice aw1 F.wt.length cw1) (.slice ah1 F.hd.length ch1) (.slice ad1 F.dr.length cd1)) := HV1.out.mid hmw4 (by omega)
  have HV2 : Hid (Sv w4 (w2.heap.size) (.int .i64 F.cap) (.int .i64 F.rule) (.int .i64 F.next) (.slice aw2 F.wt.length cw2) (.slice ah2 F.hd.length ch2) (.slice ad2 F.dr.length cd2)) := HV2.out.mid hmw4 (by omega)
  have HRU : Hid (QuRow w4 (w.heap.size) F (.slice aw1 F.wt.length cw1) (.slice ah1 F.hd.length ch1) (.slice ad1 F.dr.length cd1)) := HRU.out.mid HLU.out hmw4 (by omega)
  clear HBw3
  clear hmw4 HRG HLG
  have HMG : Hid (QuMk w4 w4.heap.size 1 F.wt.length F.hd.length F.dr.length (.slice aw2 F.wt.length cw2) (.slice ah2 F.hd.length ch2) (.slice ad2 F.dr.length cd2)) := hkw4
  clear hkw4
  have y20 := HV2.out.c0
  have y21 := HV2.out.c1
  have y22 := HV2.out.c2
  have y23 := HV2.out.c3
  have y24 := HV2.out.c4
  have y25 := HV2.out.c5
  go_wp2_with fail
  go_at_call 16
  refine (HG.out _ _ _ _ HMG.out).mono ?_
  rintro e w5 ⟨rfl, hbw5⟩
  clear y20 y21 y22 y23 y24 y25
  have hsw5 := hbw5.size
  have HBw5 : Hid (Below w.heap.size w w5) := HBw4.out.trans (hbw5.mono HBw4.out.size)
  have HV1 : Hid (Sv w5 (w1.heap.size) (.int .i64 F.cap) (.int .i64 F.rule) (.int .i64 F.next) (.slice aw1 F.wt.length cw1) (.slice ah1 F.hd.length ch1) (.slice ad1 F.dr.length cd1)) := HV1.out.below hbw5
  have HV2 : Hid (Sv w5 (w2.heap.size) (.int .i64 F.cap) (.int .i64 F.rule) (.int .i64 F.next) (.slice aw2 F.wt.length cw2) (.slice ah2 F.hd.length ch2) (.slice ad2 F.dr.length cd2)) := HV2.out.below hbw5
  have HRU : Hid (QuRow w5 (w.heap.size) F (.slice aw1 F.wt.length cw1) (.slice ah1 F.hd.length ch1) (.slice ad1 F.dr.length cd1)) := HRU.out.below hbw5
  have HMG : Hid (QuMk w5 w5.heap.size 1 F.wt.length F.hd.length F.dr.length (.slice aw2 F.wt.length cw2) (.slice ah2 F.hd.length ch2) (.slice ad2 F.dr.length cd2)) := HMG.out.below hbw5
  clear HBw4
  clear hbw5
  go_wp2_with fail
  go_at_call 13
  refine (CI.out _).mono ?_
  rintro e w6 ⟨aw6, cw6, ah6, ch6, ad6, cd6, rfl, hr6, hb6⟩
  have hsw6 := hb6.size
  have HBw6 : Hid (Below w.heap.size w w6) := HBw5.out.trans (hb6.mono HBw5.out.size)
  have HV1 : Hid (Sv w6 (w1.heap.size) (.int .i64 F.cap) (.int .i64 F.rule) (.int .i64 F.next) (.slice aw1 F.wt.length cw1) (.slice ah1 F.hd.length ch1) (.slice ad1 F.dr.length cd1)) := HV1.out.below hb6
  have HV2 : Hid (Sv w6 (w2.heap.size) (.int .i64 F.cap) (.int .i64 F.rule) (.int .i64 F.next) (.slice aw2 F.wt.length cw2) (.slice ah2 F.hd.length ch2) (.slice ad2 F.dr.length cd2)) := HV2.out.below hb6
  have HRU : Hid (QuRow w6 (w.heap.size) F (.slice aw1 F.wt.length cw1) (.slice ah1 F.hd.length ch1) (.slice ad1 F.dr.length cd1)) := HRU.out.below hb6
  have HMG : Hid (QuMk w6 w6.heap.size 1 F.wt.length F.hd.length F.dr.length (.slice aw2 F.wt.length cw2) (.slice ah2 F.hd.length ch2) (.slice ad2 F.dr.length cd2)) := HMG.out.below hb6
  clear HBw5
  clear hb6
  have HRZ : Hid (QuRow w6 (w5.heap.size) F (.slice aw6 F.wt.length cw6) (.slice ah6 F.hd.length ch6) (.slice ad6 F.dr.length cd6)) := hr6
  have HLZ : Hid (OwnQ (w5.heap.size) w6.heap.size (.slice aw6 F.wt.length cw6) (.slice ah6 F.hd.length ch6) (.slice ad6 F.dr.length cd6)) := QuRow.ownIn hr6
  clear hr6
  obtain ⟨W6, hW6⟩ : ∃ X, X = w6.alloc (.cells #[.int .i64 F.cap, .int .i64 F.rule, .int .i64 F.next, .slice aw6 F.wt.length cw6, .slice ah6 F.hd.length ch6, .slice ad6 F.dr.length cd6] 24) := ⟨_, rfl⟩
  have hbW6 : Below w6.heap.size w6 W6 := by rw [hW6]; exact (Below.refl _ _).alloc (Nat.le_refl _) _
  have hlW6 : w6.heap.size < W6.heap.size := by rw [hW6]; simp
  have hsW6 := hbW6.size
  have HBW6 : Hid (Below w.heap.size w W6) := HBw6.out.trans (hbW6.mono HBw6.out.size)
  have HV1 : Hid (Sv W6 (w1.heap.size) (.int .i64 F.cap) (.int .i64 F.rule) (.int .i64 F.next) (.slice aw1 F.wt.length cw1) (.slice ah1 F.hd.length ch1) (.slice ad1 F.dr.length cd1)) := HV1.out.below hbW6
  have HV2 : Hid (Sv W6 (w2.heap.size) (.int .i64 F.cap) (.int .i64 F.rule) (.int .i64 F.next) (.slice aw2 F.wt.length cw2) (.slice ah2 F.hd.length ch2) (.slice ad2 F.dr.length cd2)) := HV2.out.below hbW6
  have HRU : Hid (QuRow W6 (w.heap.size) F (.slice aw1 F.wt.length cw1) (.slice ah1 F.hd.length ch1) (.slice ad1 F.dr.length cd1)) := HRU.out.below hbW6
  have HRZ : Hid (QuRow W6 (w5.heap.size) F (.slice aw6 F.wt.length cw6) (.slice ah6 F.hd.length ch6) (.slice ad6 F.dr.length cd6)) := HRZ.out.below hbW6
  have HMG : Hid (QuMk W6 W6.heap.size 1 F.wt.length F.hd.length F.dr.length (.slice aw2 F.wt.length cw2) (.slice ah2 F.hd.length ch2) (.slice ad2 F.dr.length cd2)) := HMG.out.below hbW6
  clear HBw6
  have HV6 : Hid (Sv W6 (w6.heap.size) (.int .i64 F.cap) (.int .i64 F.rule) (.int .i64 F.next) (.slice aw6 F.wt.length cw6) (.slice ah6 F.hd.length ch6) (.slice ad6 F.dr.length cd6)) := by show Sv _ _ _ _ _ _ _ _; rw [hW6]; exact Sv.fresh w6 _ _ _ _ _ _ _
  clear hbW6
  go_upto_region 14 with fail
  rw [← hW6]
  clear hW6
  have y60 := HV6.out.c0
  have y61 := HV6.out.c1
  have y62 := HV6.out.c2
  have y63 := HV6.out.c3
  have y64 := HV6.out.c4
  have y65 := HV6.out.c5
  have y10 := HV1.out.c0
  have y11 := HV1.out.c1
  have y12 := HV1.out.c2
  have y13 := HV1.out.c3
  have y14 := HV1.out.c4
  have y15 := HV1.out.c5
  go_wp2_with fail
  go_at_call 14
  refine (EF.out _ _ _ _ _ _ _ HRZ.out.at HRU.out.at).mono ?_
  rintro e w7 ⟨rfl, hbw7⟩
  clear y60 y61 y62 y63 y64 y65 y10 y11 y12 y13 y14 y15
  have hsw7 := hbw7.size
  have HBw7 : Hid (Below w.heap.size w w7) := HBW6.out.trans (hbw7.mono HBW6.out.size)
  have HV1 : Hid (Sv w7 (w1.heap.size) (.int .i64 F.cap) (.int .i64 F.rule) (.int .i64 F.next) (.slice aw1 F.wt.length cw1) (.slice ah1 F.hd.length ch1) (.slice ad1 F.dr.length cd1)) := HV1.out.below hbw7
  have HV2 : Hid (Sv w7 (w2.heap.size) (.int .i64 F.cap) (.int .i64 F.rule) (.int .i64 F.next) (.slice aw2 F.wt.length cw2) (.slice ah2 F.hd.length ch2) (.slice ad2 F.dr.length cd2)) := HV2.out.below hbw7
  have HV6 : Hid (Sv w7 (w6.heap.size) (.int .i64 F.cap) (.int .i64 F.rule) (.int .i64 F.next) (.slice aw6 F.wt.length cw6) (.slice ah6 F.hd.length ch6) (.slice ad6 F.dr.length cd6)) := HV6.out.below hbw7
  have HRU : Hid (QuRow w7 (w.heap.size) F (.slice aw1 F.wt.length cw1) (.slice ah1 F.hd.length ch1) (.slice ad1 F.dr.length cd1)) := HRU.out.below hbw7
  have HRZ : Hid (QuRow w7 (w5.heap.size) F (.slice aw6 F.wt.length cw6) (.slice ah6 F.hd.length ch6) (.slice ad6 F.dr.length cd6)) := HRZ.out.below hbw7
  have HMG : Hid (QuMk w7 w7.heap.size 1 F.wt.length F.hd.length F.dr.length (.slice aw2 F.wt.length cw2) (.slice ah2 F.hd.length ch2) (.slice ad2 F.dr.length cd2)) := HMG.out.below hbw7
  clear HBW6
  clear hbw7
  have y20 := HV2.out.c0
  have y21 := HV2.out.c1
  have y22 := HV2.out.c2
  have y23 := HV2.out.c3
  have y24 := HV2.out.c4
  have y25 := HV2.out.c5
  go_wp2_with fail
  go_at_call 16
  refine (HG.out _ _ _ _ HMG.out).mono ?_
  rintro e w8 ⟨rfl, hbw8⟩
  clear y20 y21 y22 y23 y24 y25
  have hsw8 := hbw8.size
  have HBw8 : Hid (Below w.heap.size w w8) := HBw7.out.trans (hbw8.mono HBw7.out.size)
  have HV1 : Hid (Sv w8 (w1.heap.size) (.int .i64 F.cap) (.int .i64 F.rule) (.int .i64 F.next) (.slice aw1 F.wt.length cw1) (.slice ah1 F.hd.length ch1) (.slice ad1 F.dr.length cd1)) := HV1.out.below hbw8
  have HV2 : Hid (Sv w8 (w2.heap.size) (.int .i64 F.cap) (.int .i64 F.rule) (.int .i64 F.next) (.slice aw2 F.wt.length cw2) (.slice ah2 F.hd.length ch2) (.slice ad2 F.dr.length cd2)) := HV2.out.below hbw8
  have HV6 : Hid (Sv w8 (w6.heap.size) (.int .i64 F.cap) (.int .i64 F.rule) (.int .i64 F.next) (.slice aw6 F.wt.length cw6) (.slice ah6 F.hd.length ch6) (.slice ad6 F.dr.length cd6)) := HV6.out.below hbw8
  have HRU : Hid (QuRow w8 (w.heap.size) F (.slice aw1 F.wt.length cw1) (.slice ah1 F.hd.length ch1) (.slice ad1 F.dr.length cd1)) := HRU.out.below hbw8
  have HRZ : Hid (QuRow w8 (w5.heap.size) F (.slice aw6 F.wt.length cw6) (.slice ah6 F.hd.length ch6) (.slice ad6 F.dr.length cd6)) := HRZ.out.below hbw8
  have HMG : Hid (QuMk w8 w8.heap.size 1 F.wt.length F.hd.length F.dr.length (.slice aw2 F.wt.length cw2) (.slice ah2 F.hd.length ch2) (.slice ad2 F.dr.length cd2)) := HMG.out.below hbw8
  clear HBw7
  clear hbw8
  go_wp2_with fail
  go_ret
  exact ⟨rfl, HBw8.out⟩

namespace fnExactNewQueue
open Go.ChangeShapes Go.WideShapes Go.ChangeAt

theorem own : ownKnob Try.prog.godebug = none := by kernel_rfl
theorem laidOut : laidOutB Try.prog = true := by kernel_rfl

set_option maxRecDepth 100000 in
theorem lifted (os : Os) (started : os.Started) (H : Type) (enc : TypeId × Value → H) :
    ReturnsInHanded {} Try.checked os 3 .any (Rows.fnExactNewQueueSpec.pre6 enc Try.prog Try.f3 Rows.fnExactNewQueueRow.domain false) (Rows.fnExactNewQueueSpec.post enc Try.prog Try.f3 false true false false) := by
  refine returnsInHanded_of_change (C := Try.checked) own started (by kernel_rfl) Try.func3
    (ChangeSpec.witness6 (enc := enc) (C := Try.checked) false ⟨#[], #[.int .i64 0, .int .i64 0], []⟩ 8 (by kernel_rfl) (by kernel_rfl) (by kernel_rfl) (by kernel_rfl)) ?_
  intro W base args ds gs before hval0 hW hcnd _
  have hval : ∀ (j : Nat) t v, Try.f3.params[j]? = some t → args[j]? = some v → Value.okWide Try.prog W .any base t v := hval0
  have hW' := hW
  obtain ⟨p, q, hA0, hV, rfl, hfz, hnd⟩ := hW
  have hA : DataW.TrodAll enc Try.prog W 0 (fun _ => true) true Try.f3.params.toList args.toList ds p := hA0
  rw [Try.params3] at hA hval
  obtain ⟨v0, vs0, d0, ds0, p0, q0, hargs, rfl, rfl, h0, r0⟩ := trodAll_cons hA
  obtain ⟨v1, vs1, d1, ds1, p1, q1, rfl, rfl, rfl, h1, r1⟩ := trodAll_cons r0
  obtain ⟨rfl, rfl, rfl⟩ := trodAll_nil r1
  obtain rfl : args = #[v0, v1] := by cases args; simp_all
  obtain ⟨rfl, rfl⟩ := trodVars_none hV
  obtain ⟨n0, rfl, rfl, rfl, hr0⟩ := open_int Try.underlying3 (hval 0 3 v0 rfl rfl) h0
  obtain ⟨n1, rfl, rfl, rfl, hr1⟩ := open_int Try.underlying3 (hval 1 3 v1 rfl rfl) h1
  refine (walkFnExactNewQueue n0 n1 W ).mono fun e W' ⟨he, hg⟩ => ?_
  subst he
  exact ⟨_, rfl, _, _, _, [], _, [], hW', trodAll_mk1 (shut_bool Try.underlying4 _), (trodAll_cons_mk (shut_int Try.underlying3 hr0) (trodAll_cons_mk (shut_int Try.underlying3 hr1) trodAll_mk0)), rfl, hg.frame _, fun h => by cases h⟩

theorem over : Rows.fnExactNewQueueRow.holds Try.pinned (OpenSpec.ofChange Rows.fnExactNewQueueSpec) :=
  OpenClaim.holds_of_wide 3 Try.f3 rfl rfl rfl rfl rfl rfl rfl ⟨rfl, rfl, rfl, rfl, rfl⟩ rfl rfl rfl rfl rfl (by kernel_rfl) Try.func3 (by kernel_rfl)
    (of_decide_eq_true (by kernel_rfl)) (by unfold Func.isWrapper; first | (rw [if_pos (by decide +kernel)]; kernel_rfl) | (rw [if_neg (by decide +kernel)]; exact ⟨rfl, rfl⟩))
    (fun os started H enc _ => lifted os started H enc)

end fnExactNewQueue

theorem fnExactNewQueue_holds : Rows.FnExactNewQueueSaid := fnExactNewQueue.over
#print axioms fnExactNewQueue_holds
end Go.Proofs.Ytfkhbbmnjndmcaa
