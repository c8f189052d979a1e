/- Proved here: at every queue the law FnExactHand answers true, that is, Hand answers as its model, its answer owns its memory, and it writes into nothing.
   Conditions: none beside the row's own. -/
import Derived.Test.YtfkhbbmnjndmcaaQsH
import Derived.Deep.DeepCutAuto
import Derived.Deep.RegionHeld3
import Derived.Deep.DrawnRows
import Derived.OpenShut
import Derived.ChangeMaps5
namespace Go.Proofs.Ytfkhbbmnjndmcaa
attribute [local go_sem ↓] Go.wp_at_zero Go.wp_at_succ
open Go.RowKit Plain Qus

set_option maxRecDepth 100000 in
set_option maxHeartbeats 16000000 in
theorem walkFnExactHand (s : Qu) (v1 v2 v3 : Value) (w : World) (hA : QuAt w w.heap.size s v1 v2 v3) :
    Calls Try.prog 6 #[s.val v1 v2 v3] w fun e w' => e = .returned (.bool true) ∧ Below w.heap.size w w' := by
  obtain ⟨aw0, cw0, ah0, ch0, ad0, cd0, rfl, rfl, rfl⟩ := hA.form
  have HA : Hid (QuAt w w.heap.size s (.slice aw0 s.wt.length cw0) (.slice ah0 s.hd.length ch0) (.slice ad0 s.dr.length cd0)) := hA
  have SZ : Hid (∀ W, Below w.heap.size w W → Calls Try.prog 17 #[.agg #[.int .i64 s.cap, .int .i64 s.rule, .int .i64 s.next, .slice aw0 s.wt.length cw0, .slice ah0 s.hd.length ch0, .slice ad0 s.dr.length cd0], .int .i64 1048576] W fun e w' => (∃ r : Int, e = .returned (.int .i64 r) ∧ SzQ s r) ∧ Below W.heap.size W w') := fun W hW => szQueue_left s _ _ _ W (HA.out.below hW)
  have C1 : Hid (SmlQ s 1048576 → ∀ W, Below w.heap.size w W → Calls Try.prog 19 #[.agg #[.int .i64 s.cap, .int .i64 s.rule, .int .i64 s.next, .slice aw0 s.wt.length cw0, .slice ah0 s.hd.length ch0, .slice ad0 s.dr.length cd0]] W fun e w' => QuOut W w' s (fun v => e = .returned v)) := fun hl W hW => (toQueue_any s _ _ _ W (HA.out.below hW) hl).mono fun e w' h => by
    obtain ⟨u1, u2, u3, he, hr, hb⟩ := h
    exact QuOut.mk he hr hb
  have ES : Hid (SmlQ s 1048576 → ∀ W v1 v2 v3 u1 u2 u3, QuAt W W.heap.size s v1 v2 v3 → QuAt W W.heap.size s u1 u2 u3 → Calls Try.prog 14 #[.agg #[.int .i64 s.cap, .int .i64 s.rule, .int .i64 s.next, v1, v2, v3], .agg #[.int .i64 s.cap, .int .i64 s.rule, .int .i64 s.next, u1, u2, u3]] W fun e w' => e = .returned (.bool true) ∧ Below W.heap.size W w') := fun hl W v1 v2 v3 u1 u2 u3 h1 h2 => eqQueue_same s v1 v2 v3 u1 u2 u3 W h1 h2 ⟨by have := hl.a; omega, by have := hl.b; omega, by have := hl.c; omega⟩
  have MX : Hid (SmlQ s 1048576 → ∀ B T W v1 v2 v3, QuRow W B s v1 v2 v3 → OwnQ B T v1 v2 v3 → Calls Try.prog 15 #[.agg #[.int .i64 s.cap, .int .i64 s.rule, .int .i64 s.next, v1, v2, v3], .int .i64 1] W fun e w' => e = .returned (.int .i64 ((1 + s.wt.length + s.hd.length + s.dr.length : Nat) : Int)) ∧ QuMk w' w'.heap.size 1 s.wt.length s.hd.length s.dr.length v1 v2 v3 ∧ Mid B T W w') := fun hl B T W v1 v2 v3 h1 h2 => markQueue_any s B T 1 v1 v2 v3 W h1 (fun g hg => (h2 g hg).2) hl (by omega)
  have hFl : SmlQ (hnQ s).1 1000 := hnQ_small s
  have CS : Hid (SmlQ s 1048576 → ∀ W v1 v2 v3, QuAt W W.heap.size s v1 v2 v3 → Calls Try.prog 23 #[.agg #[.int .i64 s.cap, .int .i64 s.rule, .int .i64 s.next, v1, v2, v3]] W fun e w' => QuOut W w' (hnQ s).1 (fun v => e = .returned (.tuple #[v, .int .i64 (hnQ s).2.1, .bool (hnQ s).2.2]))) := fun hl W v1 v2 v3 h => specHandQ s v1 v2 v3 W h hl
  have CI : Hid (∀ W v1 v2 v3, QuAt W W.heap.size s v1 v2 v3 → Calls Try.prog 24 #[.agg #[.int .i64 s.cap, .int .i64 s.rule, .int .i64 s.next, v1, v2, v3]] W fun e w' => QuOut W w' (hnQ s).1 (fun v => e = .returned (.tuple #[v, .int .i64 (hnQ s).2.1, .bool (hnQ s).2.2]))) := fun W v1 v2 v3 h => implHandQ s v1 v2 v3 W h
  generalize hnQ s = A at CS CI hFl
  obtain ⟨F, no, K⟩ := A
  dsimp only at CS CI hFl
  have EF : Hid (∀ W v1 v2 v3 u1 u2 u3, QuAt W W.heap.size F v1 v2 v3 → QuAt W W.heap.size F u1 u2 u3 → Calls Try.prog 14 #[.agg #[.int .i64 F.cap, .int .i64 F.rule, .int .i64 F.next, v1, v2, v3], .agg #[.int .i64 F.cap, .int .i64 F.rule, .int .i64 F.next, u1, u2, u3]] W fun e w' => e = .returned (.bool true) ∧ Below W.heap.size W w') := fun W v1 v2 v3 u1 u2 u3 h1 h2 => eqQueue_same F v1 v2 v3 u1 u2 u3 W h1 h2 ⟨by have := hFl.a; omega, by have := hFl.b; omega, by have := hFl.c; omega⟩
  have MG : Hid (∀ B T W v1 v2 v3, QuRow W B F v1 v2 v3 → OwnQ B T v1 v2 v3 → Calls Try.prog 15 #[.agg #[.int .i64 F.cap, .int .i64 F.rule, .int .i64 F.next, v1, v2, v3], .int .i64 1] W fun e w' => e = .returned (.int .i64 ((1 + F.wt.length + F.hd.length + F.dr.length : Nat) : Int)) ∧ QuMk w' w'.heap.size 1 F.wt.length F.hd.length F.dr.length v1 v2 v3 ∧ Mid B T W w') := fun B T W v1 v2 v3 h1 h2 => markQueue_any F B T 1 v1 v2 v3 W h1 (fun g hg => (h2 g hg).2) ⟨by have := hFl.a; omega, by have := hFl.b; omega, by have := hFl.c; omega⟩ (by omega)
  have HG : Hid (∀ W v1 v2 v3, QuMk W W.heap.size 1 F.wt.length F.hd.length F.dr.length v1 v2 v3 → Calls Try.prog 16 #[.agg #[.int .i64 F.cap, .int .i64 F.rule, .int .i64 F.next, v1, v2, v3], .int .i64 1] W fun e w' => e = .returned (.int .i64 ((1 + F.wt.length + F.hd.length + F.dr.length : Nat) : Int)) ∧ Below W.heap.size W w') := fun W v1 v2 v3 h => heldQueue_any F 1 _ _ _ v1 v2 v3 W h (by have := hFl.a; omega) (by have := hFl.b; omega) (by have := hFl.c; omega) (by omega)
  have nK : (K != K) = false := bne_self_eq_false K
  have nN : (no != no) = false := bne_self_eq_false no
  have hNK : ¬ (((1 + F.wt.length + F.hd.length + F.dr.length : Nat) : Int) < 0) := by omega
  have hNS : ¬ (((1 + s.wt.length + s.hd.length + s.dr.length : Nat) : Int) < 0) := by omega
  clear hFl
  unfold Qu.val
  obtain ⟨W0, hW0⟩ : ∃ X, X = w.alloc (.cells #[.int .i64 s.cap, .int .i64 s.rule, .int .i64 s.next, .slice aw0 s.wt.length cw0, .slice ah0 s.hd.length ch0, .slice ad0 s.dr.length cd0] 30) := ⟨_, rfl⟩
  have hb0 : Below w.heap.size w W0 := by rw [hW0]; exact (Below.refl _ w).alloc (Nat.le_refl _) _
  have HV0 : Hid (Sv W0 (w.heap.size) (.int .i64 s.cap) (.int .i64 s.rule) (.int .i64 s.next) (.slice aw0 s.wt.length cw0) (.slice ah0 s.hd.length ch0) (.slice ad0 s.dr.length cd0)) := by show Sv _ _ _ _ _ _ _ _; rw [hW0]; exact Sv.fresh w _ _ _ _ _ _ _
  have hlW0 : w.heap.size < W0.heap.size := by rw [hW0]; simp
  have HBW0 : Hid (Below w.heap.size w W0) := hb0
  clear hb0 hA
  go_enter Try.func6, Try.ntmps6
  go_upto_region 1 with fail
  rw [← hW0]
  clear hW0
  have y00 := HV0.out.c0
  have y01 := HV0.out.c1
  have y02 := HV0.out.c2
  have y03 := HV0.out.c3
  have y04 := HV0.out.c4
  have y05 := HV0.out.c5
  go_wp2_with fail
  go_at_call 17
  refine (SZ.out _ HBW0.out).mono ?_
  rintro e w1 ⟨⟨r, rfl, hr0, hr1, hr2⟩, hb1⟩
  clear y00 y01 y02 y03 y04 y05
  have hsw1 := hb1.size
  have HBw1 : Hid (Below w.heap.size w w1) := HBW0.out.trans (hb1.mono HBW0.out.size)
  have HV0 : Hid (Sv w1 (w.heap.size) (.int .i64 s.cap) (.int .i64 s.rule) (.int .i64 s.next) (.slice aw0 s.wt.length cw0) (.slice ah0 s.hd.length ch0) (.slice ad0 s.dr.length cd0)) := HV0.out.below hb1
  clear HBW0
  clear hb1
  by_cases hneg : r < 0
  · clear hr2 C1 ES CS CI MX EF MG HG
    go_wp2_with fail
    go_ret
    exact ⟨rfl, HBw1.out⟩
  have hsml := hr2 (by omega)
  clear hr2 SZ
  have HC1 : Hid (type_of% (C1.out hsml)) := C1.out hsml
  have HES : Hid (type_of% (ES.out hsml)) := ES.out hsml
  clear C1 ES
  have HCS : Hid (type_of% (CS.out hsml)) := CS.out hsml
  clear CS
  have HMX : Hid (type_of% (MX.out hsml)) := MX.out hsml
  clear MX
  have HSM : Hid (type_of% hsml) := hsml
  have y00 := HV0.out.c0
  have y01 := HV0.out.c1
  have y02 := HV0.out.c2
  have y03 := HV0.out.c3
  have y04 := HV0.out.c4
  have y05 := HV0.out.c5
  go_wp2_with fail
  go_at_call 19
  refine (HC1.out _ HBw1.out).mono ?_
  rintro e w2 ⟨aw2, cw2, ah2, ch2, ad2, cd2, rfl, hr2, hb2⟩
  clear y00 y01 y02 y03 y04 y05
  have hsw2 := hb2.size
  have HBw2 : Hid (Below w.heap.size w w2) := HBw1.out.trans (hb2.mono HBw1.out.size)
  have HV0 : Hid (Sv w2 (w.heap.size) (.int .i64 s.cap) (.int .i64 s.rule) (.int .i64 s.next) (.slice aw0 s.wt.length cw0) (.slice ah0 s.hd.length ch0) (.slice ad0 s.dr.length cd0)) := HV0.out.below hb2
  clear HBw1
  clear hb2
  go_wp2_with fail
  go_at_call 23
  refine (HCS.out _ _ _ _ hr2.at).mono ?_
  rintro e w3 ⟨aw3, cw3, ah3, ch3, ad3, cd3, rfl, hr3, hb3⟩
  clear hr2
  have hsw3 := hb3.size
  have HBw3 : Hid (Below w.heap.size w w3) := HBw2.out.trans (hb3.mono HBw2.out.size)
  have HV0 : Hid (Sv w3 (w.heap.size) (.int .i64 s.cap) (.int .i64 s.rule) (.int .i64 s.next) (.slice aw0 s.wt.length cw0) (.slice ah0 s.hd.length ch0) (.slice ad0 s.dr.length cd0)) := HV0.out.below hb3
  clear HBw2
  clear hb3 HCS
  have HRU : Hid (QuRow w3 (w2.heap.size) F (.slice aw3 F.wt.length cw3) (.slice ah3 F.hd.length ch3) (.slice ad3 F.dr.length cd3)) := hr3
  have HLU : Hid (OwnQ (w2.heap.size) w3.heap.size (.slice aw3 F.wt.length cw3) (.slice ah3 F.hd.length ch3) (.slice ad3 F.dr.length cd3)) := QuRow.ownIn hr3
  clear hr3
  obtain ⟨W3, hW3⟩ : ∃ X, X = w3.alloc (.cells #[.int .i64 F.cap, .int .i64 F.rule, .int .i64 F.next, .slice aw3 F.wt.length cw3, .slice ah3 F.hd.length ch3, .slice ad3 F.dr.length cd3] 24) := ⟨_, rfl⟩
  have hbW3 : Below w3.heap.size w3 W3 := by rw [hW3]; exact (Below.refl _ _).alloc (Nat.le_refl _) _
  have hlW3 : w3.heap.size < W3.heap.size := by rw [hW3]; simp
  have hsW3 := hbW3.size
  have HBW3 : Hid (Below w.heap.size w W3) := HBw3.out.trans (hbW3.mono HBw3.out.size)
  have HV0 : Hid (Sv W3 (w.heap.size) (.int .i64 s.cap) (.int .i64 s.rule) (.int .i64 s.next) (.slice aw0 s.wt.length cw0) (.slice ah0 s.hd.length ch0) (.slice ad0 s.dr.length cd0)) := HV0.out.below hbW3
  have HRU : Hid (QuRow W3 (w2.heap.size) F (.slice aw3 F.wt.length cw3) (.slice ah3 F.hd.length ch3) (.slice ad3 F.dr.length cd3)) := HRU.out.below hbW3
  clear HBw3
  have HV3 : Hid (Sv W3 (w3.heap.size) (.int .i64 F.cap) (.int .i64 F.rule) (.int .i64 F.next) (.slice aw3 F.wt.length cw3) (.slice ah3 F.hd.length ch3) (.slice ad3 F.dr.length cd3)) := by show Sv _ _ _ _ _ _ _ _; rw [hW3]; exact Sv.fresh w3 _ _ _ _ _ _ _
  clear hbW3
  go_upto_region 6 with fail
  rw [← hW3]
  clear hW3
  have y00 := HV0.out.c0
  have y01 := HV0.out.c1
  have y02 := HV0.out.c2
  have y03 := HV0.out.c3
  have y04 := HV0.out.c4
  have y05 := HV0.out.c5
  go_wp2_with fail
  go_at_call 19
  refine (HC1.out _ HBW3.out).mono ?_
  rintro e w4 ⟨aw4, cw4, ah4, ch4, ad4, cd4, rfl, hr4, hb4⟩
  clear y00 y01 y02 y03 y04 y05
  have hsw4 := hb4.size
  have HBw4 : Hid (Below w.heap.size w w4) := HBW3.out.trans (hb4.mono HBW3.out.size)
  have HV0 : Hid (Sv w4 (w.heap.size) (.int .i64 s.cap) (.int .i64 s.rule) (.int .i64 s.next) (.slice aw0 s.wt.length cw0) (.slice ah0 s.hd.length ch0) (.slice ad0 s.dr.length cd0)) := HV0.out.below hb4
  have HV3 : Hid (Sv w4 (w3.heap.size) (.int .i64 F.cap) (.int .i64 F.rule) (.int .i64 F.next) (.slice aw3 F.wt.length cw3) (.slice ah3 F.hd.length ch3) (.slice ad3 F.dr.length cd3)) := HV3.out.below hb4
  have HRU : Hid (QuRow w4 (w2.heap.size) F (.slice aw3 F.wt.length cw3) (.slice ah3 F.hd.length ch3) (.slice ad3 F.dr.length cd3)) := HRU.out.below hb4
  clear HBW3
  clear hb4
  have HRX : Hid (QuRow w4 (W3.heap.size) s (.slice aw4 s.wt.length cw4) (.slice ah4 s.hd.length ch4) (.slice ad4 s.dr.length cd4)) := hr4
  have HLX : Hid (OwnQ (W3.heap.size) w4.heap.size (.slice aw4 s.wt.length cw4) (.slice ah4 s.hd.length ch4) (.slice ad4 s.dr.length cd4)) := QuRow.ownIn hr4
  clear hr4
  obtain ⟨W5, hW5⟩ : ∃ X, X = w4.alloc (.cells #[.int .i64 s.cap, .int .i64 s.rule, .int .i64 s.next, .slice aw4 s.wt.length cw4, .slice ah4 s.hd.length ch4, .slice ad4 s.dr.length cd4] 24) := ⟨_, rfl⟩
  have hbW5 : Below w4.heap.size w4 W5 := by rw [hW5]; exact (Below.refl _ _).alloc (Nat.le_refl _) _
  have hlW5 : w4.heap.size < W5.heap.size := by rw [hW5]; simp
  have hsW5 := hbW5.size
  have HBW5 : Hid (Below w.heap.size w W5) := HBw4.out.trans (hbW5.mono HBw4.out.size)
  have HV0 : Hid (Sv W5 (w.heap.size) (.int .i64 s.cap) (.int .i64 s.rule) (.int .i64 s.next) (.slice aw0 s.wt.length cw0) (.slice ah0 s.hd.length ch0) (.slice ad0 s.dr.length cd0)) := HV0.out.below hbW5
  have HV3 : Hid (Sv W5 (w3.heap.size) (.int .i64 F.cap) (.int .i64 F.rule) (.int .i64 F.next) (.slice aw3 F.wt.length cw3) (.slice ah3 F.hd.length ch3) (.slice ad3 F.dr.length cd3)) := HV3.out.below hbW5
  have HRU : Hid (QuRow W5 (w2.heap.size) F (.slice aw3 F.wt.length cw3) (.slice ah3 F.hd.length ch3) (.slice ad3 F.dr.length cd3)) := HRU.out.below hbW5
  have HRX : Hid (QuRow W5 (W3.heap.size) s (.slice aw4 s.wt.length cw4) (.slice ah4 s.hd.length ch4) (.slice ad4 s.dr.length cd4)) := HRX.out.below hbW5
  clear HBw4
  have HV5 : Hid (Sv W5 (w4.heap.size) (.int .i64 s.cap) (.int .i64 s.rule) (.int .i64 s.next) (.slice aw4 s.wt.length cw4) (.slice ah4 s.hd.length ch4) (.slice ad4 s.dr.length cd4)) := by show Sv _ _ _ _ _ _ _ _; rw [hW5]; exact Sv.fresh w4 _ _ _ _ _ _ _
  clear hbW5
  go_upto_region 7 with fail
  rw [← hW5]
  clear hW5
  have y50 := HV5.out.c0
  have y51 := HV5.out.c1
  have y52 := HV5.out.c2
  have y53 := HV5.out.c3
  have y54 := HV5.out.c4
  have y55 := HV5.out.c5
  go_wp2_with fail
  go_at_call 24
  refine (CI.out _ _ _ _ HRX.out.at).mono ?_
  rintro e w6 ⟨aw6, cw6, ah6, ch6, ad6, cd6, rfl, hr6, hb6⟩
  clear y50 y51 y52 y53 y54 y55
  have hsw6 := hb6.size
  have HBw6 : Hid (Below w.heap.size w w6) := HBW5.out.trans (hb6.mono HBW5.out.size)
  have HV0 : Hid (Sv w6 (w.heap.size) (.int .i64 s.cap) (.int .i64 s.rule) (.int .i64 s.next) (.slice aw0 s.wt.length cw0) (.slice ah0 s.hd.length ch0) (.slice ad0 s.dr.length cd0)) := HV0.out.below hb6
  have HV3 : Hid (Sv w6 (w3.heap.size) (.int .i64 F.cap) (.int .i64 F.rule) (.int .i64 F.next) (.slice aw3 F.wt.length cw3) (.slice ah3 F.hd.length ch3) (.slice ad3 F.dr.length cd3)) := HV3.out.below hb6
  have HV5 : Hid (Sv w6 (w4.heap.size) (.int .i64 s.cap) (.int .i64 s.rule) (.int .i64 s.next) (.slice aw4 s.wt.length cw4) (.slice ah4 s.hd.length ch4) (.slice ad4 s.dr.length cd4)) := HV5.out.below hb6
  have HRU : Hid (QuRow w6 (w2.heap.size) F (.slice aw3 F.wt.length cw3) (.slice ah3 F.hd.length ch3) (.slice ad3 F.dr.length cd3)) := HRU.out.below hb6
  have HRX : Hid (QuRow w6 (W3.heap.size) s (.slice aw4 s.wt.length cw4) (.slice ah4 s.hd.length ch4) (.slice ad4 s.dr.length cd4)) := HRX.out.below hb6
  clear HBW5
  clear hb6
  have HRG : Hid (QuRow w6 (W5.heap.size) F (.slice aw6 F.wt.length cw6) (.slice ah6 F.hd.length ch6) (.slice ad6 F.dr.length cd6)) := hr6
  have HLG : Hid (OwnQ (W5.heap.size) w6.heap.size (.slice aw6 F.wt.length cw6) (.slice ah6 F.hd.length ch6) (.slice ad6 F.dr.length cd6)) := QuRow.ownIn hr6
  clear hr6
  obtain ⟨W6, hW6⟩ : ∃ X, X = w6.alloc (.cells #[.int .i64 F.cap, .int .i64 F.rule, .int .i64 F.next, .slice aw6 F.wt.length cw6, .slice ah6 F.hd.length ch6, .slice ad6 F.dr.length cd6] 24) := ⟨_, rfl⟩
  have hbW6 : Below w6.heap.size w6 W6 := by rw [hW6]; exact (Below.refl _ _).alloc (Nat.le_refl _) _
  have hlW6 : w6.heap.size < W6.heap.size := by rw [hW6]; simp
  have hsW6 := hbW6.size
  have HBW6 : Hid (Below w.heap.size w W6) := HBw6.out.trans (hbW6.mono HBw6.out.size)
  have HV0 : Hid (Sv W6 (w.heap.size) (.int .i64 s.cap) (.int .i64 s.rule) (.int .i64 s.next) (.slice aw0 s.wt.length cw0) (.slice ah0 s.hd.length ch0) (.slice ad0 s.dr.length cd0)) := HV0.out.below hbW6
  have HV3 : Hid (Sv W6 (w3.heap.size) (.int .i64 F.cap) (.int .i64 F.rule) (.int .i64 F.next) (.slice aw3 F.wt.length cw3) (.slice ah3 F.hd.length ch3) (.slice ad3 F.dr.length cd3)) := HV3.out.below hbW6
  have HV5 : Hid (Sv W6 (w4.heap.size) (.int .i64 s.cap) (.int .i64 s.rule) (.int .i64 s.next) (.slice aw4 s.wt.length cw4) (.slice ah4 s.hd.length ch4) (.slice ad4 s.dr.length cd4)) := HV5.out.below hbW6
  have HRU : Hid (QuRow W6 (w2.heap.size) F (.slice aw3 F.wt.length cw3) (.slice ah3 F.hd.length ch3) (.slice ad3 F.dr.length cd3)) := HRU.out.below hbW6
  have HRX : Hid (QuRow W6 (W3.heap.size) s (.slice aw4 s.wt.length cw4) (.slice ah4 s.hd.length ch4) (.slice ad4 s.dr.length cd4)) := HRX.out.below hbW6
  have HRG : Hid (QuRow W6 (W5.heap.size) F (.slice aw6 F.wt.length cw6) (.slice ah6 F.hd.length ch6) (.slice ad6 F.dr.length cd6)) := HRG.out.below hbW6
  clear HBw6
  have HV6 : Hid (Sv W6 (w6.heap.size) (.int .i64 F.cap) (.int .i64 F.rule) (.int .i64 F.next) (.slice aw6 F.wt.length cw6) (.slice ah6 F.hd.length ch6) (.slice ad6 F.dr.length cd6)) := by show Sv _ _ _ _ _ _ _ _; rw [hW6]; exact Sv.fresh w6 _ _ _ _ _ _ _
  clear hbW6
  go_upto_region 8 with fail
  rw [← hW6]
  clear hW6
  have y60 := HV6.out.c0
  have y61 := HV6.out.c1
  have y62 := HV6.out.c2
  have y63 := HV6.out.c3
  have y64 := HV6.out.c4
  have y65 := HV6.out.c5
  have y30 := HV3.out.c0
  have y31 := HV3.out.c1
  have y32 := HV3.out.c2
  have y33 := HV3.out.c3
  have y34 := HV3.out.c4
  have y35 := HV3.out.c5
  go_wp2_with fail
  go_at_call 14
  refine (EF.out _ _ _ _ _ _ _ HRG.out.at HRU.out.at).mono ?_
  rintro e w7 ⟨rfl, hbw7⟩
  clear y60 y61 y62 y63 y64 y65 y30 y31 y32 y33 y34 y35
  have hsw7 := hbw7.size
  have HBw7 : Hid (Below w.heap.size w w7) := HBW6.out.trans (hbw7.mono HBW6.out.size)
  have HV0 : Hid (Sv w7 (w.heap.size) (.int .i64 s.cap) (.int .i64 s.rule) (.int .i64 s.next) (.slice aw0 s.wt.length cw0) (.slice ah0 s.hd.length ch0) (.slice ad0 s.dr.length cd0)) := HV0.out.below hbw7
  have HV3 : Hid (Sv w7 (w3.heap.size) (.int .i64 F.cap) (.int .i64 F.rule) (.int .i64 F.next) (.slice aw3 F.wt.length cw3) (.slice ah3 F.hd.length ch3) (.slice ad3 F.dr.length cd3)) := HV3.out.below hbw7
  have HV5 : Hid (Sv w7 (w4.heap.size) (.int .i64 s.cap) (.int .i64 s.rule) (.int .i64 s.next) (.slice aw4 s.wt.length cw4) (.slice ah4 s.hd.length ch4) (.slice ad4 s.dr.length cd4)) := HV5.out.below hbw7
  have HV6 : Hid (Sv w7 (w6.heap.size) (.int .i64 F.cap) (.int .i64 F.rule) (.int .i64 F.next) (.slice aw6 F.wt.length cw6) (.slice ah6 F.hd.length ch6) (.slice ad6 F.dr.length cd6)) := HV6.out.below hbw7
  have HRU : Hid (QuRow w7 (w2.heap.size) F (.slice aw3 F.wt.length cw3) (.slice ah3 F.hd.length ch3) (.slice ad3 F.dr.length cd3)) := HRU.out.below hbw7
  have HRX : Hid (QuRow w7 (W3.heap.size) s (.slice aw4 s.wt.length cw4) (.slice ah4 s.hd.length ch4) (.slice ad4 s.dr.length cd4)) := HRX.out.below hbw7
  have HRG : Hid (QuRow w7 (W5.heap.size) F (.slice aw6 F.wt.length cw6) (.slice ah6 F.hd.length ch6) (.slice ad6 F.dr.length cd6)) := HRG.out.below hbw7
  clear HBW6
  clear hbw7
  go_upto_region 10 with fail
  have HBw7d : Hid (Below w.heap.size w w7.drew) := HBw7.out.drew
  have KD : Hid (∀ W, Below w7.heap.size w7 W → W.cell? ⟨w4.heap.size, 0, none⟩ = some (.int .i64 s.cap) ∧ W.cell? ⟨w4.heap.size, 1, none⟩ = some (.int .i64 s.rule) ∧ W.cell? ⟨w4.heap.size, 2, none⟩ = some (.int .i64 s.next) ∧ W.cell? ⟨w4.heap.size, 3, none⟩ = some (.slice aw4 s.wt.length cw4) ∧ W.cell? ⟨w4.heap.size, 4, none⟩ = some (.slice ah4 s.hd.length ch4) ∧ W.cell? ⟨w4.heap.size, 5, none⟩ = some (.slice ad4 s.dr.length cd4) ∧ W.cell? ⟨w.heap.size, 0, none⟩ = some (.int .i64 s.cap) ∧ W.cell? ⟨w.heap.size, 1, none⟩ = some (.int .i64 s.rule) ∧ W.cell? ⟨w.heap.size, 2, none⟩ = some (.int .i64 s.next) ∧ W.cell? ⟨w.heap.size, 3, none⟩ = some (.slice aw0 s.wt.length cw0) ∧ W.cell? ⟨w.heap.size, 4, none⟩ = some (.slice ah0 s.hd.length ch0) ∧ W.cell? ⟨w.heap.size, 5, none⟩ = some (.slice ad0 s.dr.length cd0)) := fun W hW => ⟨(HV5.out.below hW).c0, (HV5.out.below hW).c1, (HV5.out.below hW).c2, (HV5.out.below hW).c3, (HV5.out.below hW).c4, (HV5.out.below hW).c5, (HV0.out.below hW).c0, (HV0.out.below hW).c1, (HV0.out.below hW).c2, (HV0.out.below hW).c3, (HV0.out.below hW).c4, (HV0.out.below hW).c5⟩
  go_region_held3 (fun W => W.cell? ⟨w4.heap.size, 0, none⟩ = some (.int .i64 s.cap) ∧ W.cell? ⟨w4.heap.size, 1, none⟩ = some (.int .i64 s.rule) ∧ W.cell? ⟨w4.heap.size, 2, none⟩ = some (.int .i64 s.next) ∧ W.cell? ⟨w4.heap.size, 3, none⟩ = some (.slice aw4 s.wt.length cw4) ∧ W.cell? ⟨w4.heap.size, 4, none⟩ = some (.slice ah4 s.hd.length ch4) ∧ W.cell? ⟨w4.heap.size, 5, none⟩ = some (.slice ad4 s.dr.length cd4) ∧ W.cell? ⟨w.heap.size, 0, none⟩ = some (.int .i64 s.cap) ∧ W.cell? ⟨w.heap.size, 1, none⟩ = some (.int .i64 s.rule) ∧ W.cell? ⟨w.heap.size, 2, none⟩ = some (.int .i64 s.next) ∧ W.cell? ⟨w.heap.size, 3, none⟩ = some (.slice aw0 s.wt.length cw0) ∧ W.cell? ⟨w.heap.size, 4, none⟩ = some (.slice ah0 s.hd.length ch0) ∧ W.cell? ⟨w.heap.size, 5, none⟩ = some (.slice ad0 s.dr.length cd0)) (first | with_reducible exact KD.out _ (Below.refl _ w7).drew | with_reducible exact KD.out _ hbD | with_reducible exact KD.out _ hbE)
    (first | ((go_at_call 14; (with_reducible refine (HES.out _ _ _ _ _ _ _ HRXd.out.at HRD.out.at).mono ?_); rintro e w9 ⟨rfl, hbE0⟩; have hbE : Below w7.heap.size w7 w9 := hbD.trans (hbE0.mono hbD.size))) | ((go_at_call 19; (with_reducible refine (HC1.out _ HBw7d.out).mono ?_); rintro e w8 ⟨aw8, cw8, ah8, ch8, ad8, cd8, rfl, hrD, hbD0⟩; have hbD : Below w7.heap.size w7 w8 := (Below.refl _ w7).drew.trans (hbD0.mono (Nat.le_refl _)); have HRXd : Hid (QuRow w8 (W3.heap.size) s (.slice aw4 s.wt.length cw4) (.slice ah4 s.hd.length ch4) (.slice ad4 s.dr.length cd4)) := HRX.out.below hbD; have HRD : Hid (QuRow w8 w7.drew.heap.size s (.slice aw8 s.wt.length cw8) (.slice ah8 s.hd.length ch8) (.slice ad8 s.dr.length cd8)) := hrD)))
  clear KD HRXd HRD hbD hbD0 hrD hbE0
  have hsw9 := hbE.size
  have HBw9 : Hid (Below w.heap.size w w9) := HBw7.out.trans (hbE.mono HBw7.out.size)
  have HV0 : Hid (Sv w9 (w.heap.size) (.int .i64 s.cap) (.int .i64 s.rule) (.int .i64 s.next) (.slice aw0 s.wt.length cw0) (.slice ah0 s.hd.length ch0) (.slice ad0 s.dr.length cd0)) := HV0.out.below hbE
  have HV3 : Hid (Sv w9 (w3.heap.size) (.int .i64 F.cap) (.int .i64 F.rule) (.int .i64 F.next) (.slice aw3 F.wt.length cw3) (.slice ah3 F.hd.length ch3) (.slice ad3 F.dr.length cd3)) := HV3.out.below hbE
  have HV5 : Hid (Sv w9 (w4.heap.size) (.int .i64 s.cap) (.int .i64 s.rule) (.int .i64 s.next) (.slice aw4 s.wt.length cw4) (.slice ah4 s.hd.length ch4) (.slice ad4 s.dr.length cd4)) := HV5.out.below hbE
  have HV6 : Hid (Sv w9 (w6.heap.size) (.int .i64 F.cap) (.int .i64 F.rule) (.int .i64 F.next) (.slice aw6 F.wt.length cw6) (.slice ah6 F.hd.length ch6) (.slice ad6 F.dr.length cd6)) := HV6.out.below hbE
  have HRU : Hid (QuRow w9 (w2.heap.size) F (.slice aw3 F.wt.length cw3) (.slice ah3 F.hd.length ch3) (.slice ad3 F.dr.length cd3)) := HRU.out.below hbE
  have HRX : Hid (QuRow w9 (W3.heap.size) s (.slice aw4 s.wt.length cw4) (.slice ah4 s.hd.length ch4) (.slice ad4 s.dr.length cd4)) := HRX.out.below hbE
  have HRG : Hid (QuRow w9 (W5.heap.size) F (.slice aw6 F.wt.length cw6) (.slice ah6 F.hd.length ch6) (.slice ad6 F.dr.length cd6)) := HRG.out.below hbE
  clear HBw7
  clear hbE
  have y50 := HV5.out.c0
  have y51 := HV5.out.c1
  have y52 := HV5.out.c2
  have y53 := HV5.out.c3
  have y54 := HV5.out.c4
  have y55 := HV5.out.c5
  go_wp2_with fail
  go_at_call 15
  refine (HMX.out (W3.heap.size) (w4.heap.size) _ _ _ _ HRX.out HLX.out).mono ?_
  rintro e w10 ⟨rfl, hkw10, hmw10⟩
  clear y50 y51 y52 y53 y54 y55
  have hsw10 := hmw10.size
  have HBw10 : Hid (Below w.heap.size w w10) := HBw9.out.trans ((hmw10.below (by omega)).mono (by omega))
  have HV0 : Hid (Sv w10 (w.heap.size) (.int .i64 s.cap) (.int .i64 s.rule) (.int .i64 s.next) (.slice aw0 s.wt.length cw0) (.slice ah0 s.hd.length ch0) (.slice ad0 s.dr.length cd0)) := HV0.out.mid hmw10 (by omega)
  have HV3 : Hid (Sv w10 (w3.heap.size) (.int .i64 F.cap) (.int .i64 F.rule) (.int .i64 F.next) (.slice aw3 F.wt.length cw3) (.slice ah3 F.hd.length ch3) (.slice ad3 F.dr.length cd3)) := HV3.out.mid hmw10 (by omega)
  have HV5 : Hid (Sv w10 (w4.heap.size) (.int .i64 s.cap) (.int .i64 s.rule) (.int .i64 s.next) (.slice aw4 s.wt.length cw4) (.slice ah4 s.hd.length ch4) (.slice ad4 s.dr.length cd4)) := HV5.out.mid hmw10 (by omega)
  have HV6 : Hid (Sv w10 (w6.heap.size) (.int .i64 F.cap) (.int .i64 F.rule) (.int .i64 F.next) (.slice aw6 F.wt.length cw6) (.slice ah6 F.hd.length ch6) (.slice ad6 F.dr.length cd6)) := HV6.out.mid hmw10 (by omega)
  have HRU : Hid (QuRow w10 (w2.heap.size) F (.slice aw3 F.wt.length cw3) (.slice ah3 F.hd.length ch3) (.slice ad3 F.dr.length cd3)) := HRU.out.mid HLU.out hmw10 (by omega)
  have HRG : Hid (QuRow w10 (W5.heap.size) F (.slice aw6 F.wt.length cw6) (.slice ah6 F.hd.length ch6) (.slice ad6 F.dr.length cd6)) := HRG.out.mid HLG.out hmw10 (by omega)
  clear HBw9
  clear hmw10 HRX HLX
  have HMX : Hid (QuMk w10 w10.heap.size 1 s.wt.length s.hd.length s.dr.length (.slice aw4 s.wt.length cw4) (.slice ah4 s.hd.length ch4) (.slice ad4 s.dr.length cd4)) := hkw10
  clear hkw10
  have y60 := HV6.out.c0
  have y61 := HV6.out.c1
  have y62 := HV6.out.c2
  have y63 := HV6.out.c3
  have y64 := HV6.out.c4
  have y65 := HV6.out.c5
  have y30 := HV3.out.c0
  have y31 := HV3.out.c1
  have y32 := HV3.out.c2
  have y33 := HV3.out.c3
  have y34 := HV3.out.c4
  have y35 := HV3.out.c5
  go_wp2_with fail
  go_at_call 14
  refine (EF.out _ _ _ _ _ _ _ HRG.out.at HRU.out.at).mono ?_
  rintro e w11 ⟨rfl, hbw11⟩
  clear y60 y61 y62 y63 y64 y65 y30 y31 y32 y33 y34 y35
  have hsw11 := hbw11.size
  have HBw11 : Hid (Below w.heap.size w w11) := HBw10.out.trans (hbw11.mono HBw10.out.size)
  have HV0 : Hid (Sv w11 (w.heap.size) (.int .i64 s.cap) (.int .i64 s.rule) (.int .i64 s.next) (.slice aw0 s.wt.length cw0) (.slice ah0 s.hd.length ch0) (.slice ad0 s.dr.length cd0)) := HV0.out.below hbw11
  have HV3 : Hid (Sv w11 (w3.heap.size) (.int .i64 F.cap) (.int .i64 F.rule) (.int .i64 F.next) (.slice aw3 F.wt.length cw3) (.slice ah3 F.hd.length ch3) (.slice ad3 F.dr.length cd3)) := HV3.out.below hbw11
  have HV5 : Hid (Sv w11 (w4.heap.size) (.int .i64 s.cap) (.int .i64 s.rule) (.int .i64 s.next) (.slice aw4 s.wt.length cw4) (.slice ah4 s.hd.length ch4) (.slice ad4 s.dr.length cd4)) := HV5.out.below hbw11
  have HV6 : Hid (Sv w11 (w6.heap.size) (.int .i64 F.cap) (.int .i64 F.rule) (.int .i64 F.next) (.slice aw6 F.wt.length cw6) (.slice ah6 F.hd.length ch6) (.slice ad6 F.dr.length cd6)) := HV6.out.below hbw11
  have HRU : Hid (QuRow w11 (w2.heap.size) F (.slice aw3 F.wt.length cw3) (.slice ah3 F.hd.length ch3) (.slice ad3 F.dr.length cd3)) := HRU.out.below hbw11
  have HRG : Hid (QuRow w11 (W5.heap.size) F (.slice aw6 F.wt.length cw6) (.slice ah6 F.hd.length ch6) (.slice ad6 F.dr.length cd6)) := HRG.out.below hbw11
  have HMX : Hid (QuMk w11 w11.heap.size 1 s.wt.length s.hd.length s.dr.length (.slice aw4 s.wt.length cw4) (.slice ah4 s.hd.length ch4) (.slice ad4 s.dr.length cd4)) := HMX.out.below hbw11
  clear HBw10
  clear hbw11
  clear HMX
  clear HV5
  have y60 := HV6.out.c0
  have y61 := HV6.out.c1
  have y62 := HV6.out.c2
  have y63 := HV6.out.c3
  have y64 := HV6.out.c4
  have y65 := HV6.out.c5
  go_wp2_with fail
  go_at_call 15
  refine (MG.out (W5.heap.size) (w6.heap.size) _ _ _ _ HRG.out HLG.out).mono ?_
  rintro e w12 ⟨rfl, hkw12, hmw12⟩
  clear y60 y61 y62 y63 y64 y65
  have hsw12 := hmw12.size
  have HBw12 : Hid (Below w.heap.size w w12) := HBw11.out.trans ((hmw12.below (by omega)).mono (by omega))
  have HV0 : Hid (Sv w12 (w.heap.size) (.int .i64 s.cap) (.int .i64 s.rule) (.int .i64 s.next) (.slice aw0 s.wt.length cw0) (.slice ah0 s.hd.length ch0) (.slice ad0 s.dr.length cd0)) := HV0.out.mid hmw12 (by omega)
  have HV3 : Hid (Sv w12 (w3.heap.size) (.int .i64 F.cap) (.int .i64 F.rule) (.int .i64 F.next) (.slice aw3 F.wt.length cw3) (.slice ah3 F.hd.length ch3) (.slice ad3 F.dr.length cd3)) := HV3.out.mid hmw12 (by omega)
  have HV6 : Hid (Sv w12 (w6.heap.size) (.int .i64 F.cap) (.int .i64 F.rule) (.int .i64 F.next) (.slice aw6 F.wt.length cw6) (.slice ah6 F.hd.length ch6) (.slice ad6 F.dr.length cd6)) := HV6.out.mid hmw12 (by omega)
  have HRU : Hid (QuRow w12 (w2.heap.size) F (.slice aw3 F.wt.length cw3) (.slice ah3 F.hd.length ch3) (.slice ad3 F.dr.length cd3)) := HRU.out.mid HLU.out hmw12 (by omega)
  clear HBw11
  clear hmw12 HRG HLG
  have HMG : Hid (QuMk w12 w12.heap.size 1 F.wt.length F.hd.length F.dr.length (.slice aw6 F.wt.length cw6) (.slice ah6 F.hd.length ch6) (.slice ad6 F.dr.length cd6)) := hkw12
  clear hkw12
  have y60 := HV6.out.c0
  have y61 := HV6.out.c1
  have y62 := HV6.out.c2
  have y63 := HV6.out.c3
  have y64 := HV6.out.c4
  have y65 := HV6.out.c5
  go_wp2_with fail
  go_at_call 16
  refine (HG.out _ _ _ _ HMG.out).mono ?_
  rintro e w13 ⟨rfl, hbw13⟩
  clear y60 y61 y62 y63 y64 y65
  have hsw13 := hbw13.size
  have HBw13 : Hid (Below w.heap.size w w13) := HBw12.out.trans (hbw13.mono HBw12.out.size)
  have HV0 : Hid (Sv w13 (w.heap.size) (.int .i64 s.cap) (.int .i64 s.rule) (.int .i64 s.next) (.slice aw0 s.wt.length cw0) (.slice ah0 s.hd.length ch0) (.slice ad0 s.dr.length cd0)) := HV0.out.below hbw13
  have HV3 : Hid (Sv w13 (w3.heap.size) (.int .i64 F.cap) (.int .i64 F.rule) (.int .i64 F.next) (.slice aw3 F.wt.length cw3) (.slice ah3 F.hd.length ch3) (.slice ad3 F.dr.length cd3)) := HV3.out.below hbw13
  have HV6 : Hid (Sv w13 (w6.heap.size) (.int .i64 F.cap) (.int .i64 F.rule) (.int .i64 F.next) (.slice aw6 F.wt.length cw6) (.slice ah6 F.hd.length ch6) (.slice ad6 F.dr.length cd6)) := HV6.out.below hbw13
  have HRU : Hid (QuRow w13 (w2.heap.size) F (.slice aw3 F.wt.length cw3) (.slice ah3 F.hd.length ch3) (.slice ad3 F.dr.length cd3)) := HRU.out.below hbw13
  have HMG : Hid (QuMk w13 w13.heap.size 1 F.wt.length F.hd.length F.dr.length (.slice aw6 F.wt.length cw6) (.slice ah6 F.hd.length ch6) (.slice ad6 F.dr.length cd6)) := HMG.out.below hbw13
  clear HBw12
  clear hbw13
  have y00 := HV0.out.c0
  have y01 := HV0.out.c1
  have y02 := HV0.out.c2
  have y03 := HV0.out.c3
  have y04 := HV0.out.c4
  have y05 := HV0.out.c5
  go_wp2_with fail
  go_at_call 19
  refine (HC1.out _ HBw13.out).mono ?_
  rintro e w14 ⟨aw14, cw14, ah14, ch14, ad14, cd14, rfl, hr14, hb14⟩
  clear y00 y01 y02 y03 y04 y05
  have hsw14 := hb14.size
  have HBw14 : Hid (Below w.heap.size w w14) := HBw13.out.trans (hb14.mono HBw13.out.size)
  have HV0 : Hid (Sv w14 (w.heap.size) (.int .i64 s.cap) (.int .i64 s.rule) (.int .i64 s.next) (.slice aw0 s.wt.length cw0) (.slice ah0 s.hd.length ch0) (.slice ad0 s.dr.length cd0)) := HV0.out.below hb14
  have HV3 : Hid (Sv w14 (w3.heap.size) (.int .i64 F.cap) (.int .i64 F.rule) (.int .i64 F.next) (.slice aw3 F.wt.length cw3) (.slice ah3 F.hd.length ch3) (.slice ad3 F.dr.length cd3)) := HV3.out.below hb14
  have HV6 : Hid (Sv w14 (w6.heap.size) (.int .i64 F.cap) (.int .i64 F.rule) (.int .i64 F.next) (.slice aw6 F.wt.length cw6) (.slice ah6 F.hd.length ch6) (.slice ad6 F.dr.length cd6)) := HV6.out.below hb14
  have HRU : Hid (QuRow w14 (w2.heap.size) F (.slice aw3 F.wt.length cw3) (.slice ah3 F.hd.length ch3) (.slice ad3 F.dr.length cd3)) := HRU.out.below hb14
  have HMG : Hid (QuMk w14 w14.heap.size 1 F.wt.length F.hd.length F.dr.length (.slice aw6 F.wt.length cw6) (.slice ah6 F.hd.length ch6) (.slice ad6 F.dr.length cd6)) := HMG.out.below hb14
  clear HBw13
  clear hb14
  go_wp2_with fail
  go_at_call 24
  refine (CI.out _ _ _ _ hr14.at).mono ?_
  rintro e w15 ⟨aw15, cw15, ah15, ch15, ad15, cd15, rfl, hr15, hb15⟩
  clear hr14
  have hsw15 := hb15.size
  have HBw15 : Hid (Below w.heap.size w w15) := HBw14.out.trans (hb15.mono HBw14.out.size)
  have HV0 : Hid (Sv w15 (w.heap.size) (.int .i64 s.cap) (.int .i64 s.rule) (.int .i64 s.next) (.slice aw0 s.wt.length cw0) (.slice ah0 s.hd.length ch0) (.slice ad0 s.dr.length cd0)) := HV0.out.below hb15
  have HV3 : Hid (Sv w15 (w3.heap.size) (.int .i64 F.cap) (.int .i64 F.rule) (.int .i64 F.next) (.slice aw3 F.wt.length cw3) (.slice ah3 F.hd.length ch3) (.slice ad3 F.dr.length cd3)) := HV3.out.below hb15
  have HV6 : Hid (Sv w15 (w6.heap.size) (.int .i64 F.cap) (.int .i64 F.rule) (.int .i64 F.next) (.slice aw6 F.wt.length cw6) (.slice ah6 F.hd.length ch6) (.slice ad6 F.dr.length cd6)) := HV6.out.below hb15
  have HRU : Hid (QuRow w15 (w2.heap.size) F (.slice aw3 F.wt.length cw3) (.slice ah3 F.hd.length ch3) (.slice ad3 F.dr.length cd3)) := HRU.out.below hb15
  have HMG : Hid (QuMk w15 w15.heap.size 1 F.wt.length F.hd.length F.dr.length (.slice aw6 F.wt.length cw6) (.slice ah6 F.hd.length ch6) (.slice ad6 F.dr.length cd6)) := HMG.out.below hb15
  clear HBw14
  clear hb15
  have HRZ : Hid (QuRow w15 (w14.heap.size) F (.slice aw15 F.wt.length cw15) (.slice ah15 F.hd.length ch15) (.slice ad15 F.dr.length cd15)) := hr15
  have HLZ : Hid (OwnQ (w14.heap.size) w15.heap.size (.slice aw15 F.wt.length cw15) (.slice ah15 F.hd.length ch15) (.slice ad15 F.dr.length cd15)) := QuRow.ownIn hr15
  clear hr15
  obtain ⟨W15, hW15⟩ : ∃ X, X = w15.alloc (.cells #[.int .i64 F.cap, .int .i64 F.rule, .int .i64 F.next, .slice aw15 F.wt.length cw15, .slice ah15 F.hd.length ch15, .slice ad15 F.dr.length cd15] 24) := ⟨_, rfl⟩
  have hbW15 : Below w15.heap.size w15 W15 := by rw [hW15]; exact (Below.refl _ _).alloc (Nat.le_refl _) _
  have hlW15 : w15.heap.size < W15.heap.size := by rw [hW15]; simp
  have hsW15 := hbW15.size
  have HBW15 : Hid (Below w.heap.size w W15) := HBw15.out.trans (hbW15.mono HBw15.out.size)
  have HV0 : Hid (Sv W15 (w.heap.size) (.int .i64 s.cap) (.int .i64 s.rule) (.int .i64 s.next) (.slice aw0 s.wt.length cw0) (.slice ah0 s.hd.length ch0) (.slice ad0 s.dr.length cd0)) := HV0.out.below hbW15
  have HV3 : Hid (Sv W15 (w3.heap.size) (.int .i64 F.cap) (.int .i64 F.rule) (.int .i64 F.next) (.slice aw3 F.wt.length cw3) (.slice ah3 F.hd.length ch3) (.slice ad3 F.dr.length cd3)) := HV3.out.below hbW15
  have HV6 : Hid (Sv W15 (w6.heap.size) (.int .i64 F.cap) (.int .i64 F.rule) (.int .i64 F.next) (.slice aw6 F.wt.length cw6) (.slice ah6 F.hd.length ch6) (.slice ad6 F.dr.length cd6)) := HV6.out.below hbW15
  have HRU : Hid (QuRow W15 (w2.heap.size) F (.slice aw3 F.wt.length cw3) (.slice ah3 F.hd.length ch3) (.slice ad3 F.dr.length cd3)) := HRU.out.below hbW15
  have HRZ : Hid (QuRow W15 (w14.heap.size) F (.slice aw15 F.wt.length cw15) (.slice ah15 F.hd.length ch15) (.slice ad15 F.dr.length cd15)) := HRZ.out.below hbW15
  have HMG : Hid (QuMk W15 W15.heap.size 1 F.wt.length F.hd.length F.dr.length (.slice aw6 F.wt.length cw6) (.slice ah6 F.hd.length ch6) (.slice ad6 F.dr.length cd6)) := HMG.out.below hbW15
  clear HBw15
  have HV15 : Hid (Sv W15 (w15.heap.size) (.int .i64 F.cap) (.int .i64 F.rule) (.int .i64 F.next) (.slice aw15 F.wt.length cw15) (.slice ah15 F.hd.length ch15) (.slice ad15 F.dr.length cd15)) := by show Sv _ _ _ _ _ _ _ _; rw [hW15]; exact Sv.fresh w15 _ _ _ _ _ _ _
  clear hbW15
  go_upto_region 25 with fail
  rw [← hW15]
  clear hW15
  have y150 := HV15.out.c0
  have y151 := HV15.out.c1
  have y152 := HV15.out.c2
  have y153 := HV15.out.c3
  have y154 := HV15.out.c4
  have y155 := HV15.out.c5
  have y30 := HV3.out.c0
  have y31 := HV3.out.c1
  have y32 := HV3.out.c2
  have y33 := HV3.out.c3
  have y34 := HV3.out.c4
  have y35 := HV3.out.c5
  go_wp2_with fail
  go_at_call 14
  refine (EF.out _ _ _ _ _ _ _ HRZ.out.at HRU.out.at).mono ?_
  rintro e w16 ⟨rfl, hbw16⟩
  clear y150 y151 y152 y153 y154 y155 y30 y31 y32 y33 y34 y35
  have hsw16 := hbw16.size
  have HBw16 : Hid (Below w.heap.size w w16) := HBW15.out.trans (hbw16.mono HBW15.out.size)
  have HV0 : Hid (Sv w16 (w.heap.size) (.int .i64 s.cap) (.int .i64 s.rule) (.int .i64 s.next) (.slice aw0 s.wt.length cw0) (.slice ah0 s.hd.length ch0) (.slice ad0 s.dr.length cd0)) := HV0.out.below hbw16
  have HV3 : Hid (Sv w16 (w3.heap.size) (.int .i64 F.cap) (.int .i64 F.rule) (.int .i64 F.next) (.slice aw3 F.wt.length cw3) (.slice ah3 F.hd.length ch3) (.slice ad3 F.dr.length cd3)) := HV3.out.below hbw16
  have HV6 : Hid (Sv w16 (w6.heap.size) (.int .i64 F.cap) (.int .i64 F.rule) (.int .i64 F.next) (.slice aw6 F.wt.length cw6) (.slice ah6 F.hd.length ch6) (.slice ad6 F.dr.length cd6)) := HV6.out.below hbw16
  have HV15 : Hid (Sv w16 (w15.heap.size) (.int .i64 F.cap) (.int .i64 F.rule) (.int .i64 F.next) (.slice aw15 F.wt.length cw15) (.slice ah15 F.hd.length ch15) (.slice ad15 F.dr.length cd15)) := HV15.out.below hbw16
  have HRU : Hid (QuRow w16 (w2.heap.size) F (.slice aw3 F.wt.length cw3) (.slice ah3 F.hd.length ch3) (.slice ad3 F.dr.length cd3)) := HRU.out.below hbw16
  have HRZ : Hid (QuRow w16 (w14.heap.size) F (.slice aw15 F.wt.length cw15) (.slice ah15 F.hd.length ch15) (.slice ad15 F.dr.length cd15)) := HRZ.out.below hbw16
  have HMG : Hid (QuMk w16 w16.heap.size 1 F.wt.length F.hd.length F.dr.length (.slice aw6 F.wt.length cw6) (.slice ah6 F.hd.length ch6) (.slice ad6 F.dr.length cd6)) := HMG.out.below hbw16
  clear HBW15
  clear hbw16
  have y60 := HV6.out.c0
  have y61 := HV6.out.c1
  have y62 := HV6.out.c2
  have y63 := HV6.out.c3
  have y64 := HV6.out.c4
  have y65 := HV6.out.c5
  go_wp2_with fail
  go_at_call 16
  refine (HG.out _ _ _ _ HMG.out).mono ?_
  rintro e w17 ⟨rfl, hbw17⟩
  clear y60 y61 y62 y63 y64 y65
  have hsw17 := hbw17.size
  have HBw17 : Hid (Below w.heap.size w w17) := HBw16.out.trans (hbw17.mono HBw16.out.size)
  have HV0 : Hid (Sv w17 (w.heap.size) (.int .i64 s.cap) (.int .i64 s.rule) (.int .i64 s.next) (.slice aw0 s.wt.length cw0) (.slice ah0 s.hd.length ch0) (.slice ad0 s.dr.length cd0)) := HV0.out.below hbw17
  have HV3 : Hid (Sv w17 (w3.heap.size) (.int .i64 F.cap) (.int .i64 F.rule) (.int .i64 F.next) (.slice aw3 F.wt.length cw3) (.slice ah3 F.hd.length ch3) (.slice ad3 F.dr.length cd3)) := HV3.out.below hbw17
  have HV6 : Hid (Sv w17 (w6.heap.size) (.int .i64 F.cap) (.int .i64 F.rule) (.int .i64 F.next) (.slice aw6 F.wt.length cw6) (.slice ah6 F.hd.length ch6) (.slice ad6 F.dr.length cd6)) := HV6.out.below hbw17
  have HV15 : Hid (Sv w17 (w15.heap.size) (.int .i64 F.cap) (.int .i64 F.rule) (.int .i64 F.next) (.slice aw15 F.wt.length cw15) (.slice ah15 F.hd.length ch15) (.slice ad15 F.dr.length cd15)) := HV15.out.below hbw17
  have HRU : Hid (QuRow w17 (w2.heap.size) F (.slice aw3 F.wt.length cw3) (.slice ah3 F.hd.length ch3) (.slice ad3 F.dr.length cd3)) := HRU.out.below hbw17
  have HRZ : Hid (QuRow w17 (w14.heap.size) F (.slice aw15 F.wt.length cw15) (.slice ah15 F.hd.length ch15) (.slice ad15 F.dr.length cd15)) := HRZ.out.below hbw17
  have HMG : Hid (QuMk w17 w17.heap.size 1 F.wt.length F.hd.length F.dr.length (.slice aw6 F.wt.length cw6) (.slice ah6 F.hd.length ch6) (.slice ad6 F.dr.length cd6)) := HMG.out.below hbw17
  clear HBw16
  clear hbw17
  go_wp2_with fail
  go_ret
  exact ⟨rfl, HBw17.out⟩

namespace fnExactHand
open Go.ChangeShapes Go.WideShapes Go.ChangeAt

theorem own : ownKnob Try.prog.godebug = none := by kernel_rfl
theorem laidOut : laidOutB Try.prog = true := by kernel_rfl

set_option maxRecDepth 100000 in
theorem lifted (os : Os) (started : os.Started) (H : Type) (enc : TypeId × Value → H) :
    ReturnsInHanded {} Try.checked os 6 .any (Rows.fnExactHandSpec.pre6 enc Try.prog Try.f6 Rows.fnExactHandRow.domain false) (Rows.fnExactHandSpec.post enc Try.prog Try.f6 false true false false) := by
  refine returnsInHanded_of_change (C := Try.checked) own started (by kernel_rfl) Try.func6
    (ChangeSpec.witness6 (enc := enc) (C := Try.checked) false ⟨#[], #[.agg #[.int .i64 0, .int .i64 0, .int .i64 0, .slice none 0 0, .slice none 0 0, .slice none 0 0]], []⟩ 8 (by kernel_rfl) (by kernel_rfl) (by kernel_rfl) (by kernel_rfl)) ?_
  intro W base args ds gs before hval0 hW hcnd _
  have hval : ∀ (j : Nat) t v, Try.f6.params[j]? = some t → args[j]? = some v → Value.okWide Try.prog W .any base t v := hval0
  have hW' := hW
  obtain ⟨p, q, hA0, hV, rfl, hfz, hnd⟩ := hW
  have hA : DataW.TrodAll enc Try.prog W 0 (fun _ => true) true Try.f6.params.toList args.toList ds p := hA0
  rw [Try.params6] at hA hval
  obtain ⟨v0, vs0, d0, ds0, p0, q0, hargs, rfl, rfl, h0, r0⟩ := trodAll_cons hA
  obtain ⟨rfl, rfl, rfl⟩ := trodAll_nil r0
  obtain rfl : args = #[v0] := by cases args; simp_all
  obtain ⟨rfl, rfl⟩ := trodVars_none hV
  have h0k := h0
  obtain ⟨R0, va0, vb0, vc0, rfl, hT0⟩ := open_queue (hval 0 30 v0 rfl rfl) h0
  clear hA0 hval0
  have hlt0 : ∀ x ∈ p0, x.block < W.heap.size := fun x hx => by
    have := hW'.lt x (by simp_all)
    simpa using this
  refine (walkFnExactHand R0 va0 vb0 vc0 W hT0).mono fun e W' ⟨he, hg⟩ => ?_
  subst he
  exact ⟨_, rfl, _, _, _, [], _, [], hW', trodAll_mk1 (shut_bool Try.underlying4 _), (trodAll_cons_mk (Below.trod laidOut (by kernel_rfl) (of_decide_eq_true (by kernel_rfl)) h0k hg (fun x hx => hlt0 x hx)) trodAll_mk0), rfl, hg.frame _, fun h => by cases h⟩

theorem over : Rows.fnExactHandRow.holds Try.pinned (OpenSpec.ofChange Rows.fnExactHandSpec) :=
  OpenClaim.holds_of_wide 6 Try.f6 rfl rfl rfl rfl rfl rfl rfl ⟨rfl, rfl, rfl, rfl, rfl⟩ rfl rfl rfl rfl rfl (by kernel_rfl) Try.func6 (by kernel_rfl)
    (of_decide_eq_true (by kernel_rfl)) (by unfold Func.isWrapper; first | (rw [if_pos (by decide +kernel)]; kernel_rfl) | (rw [if_neg (by decide +kernel)]; exact ⟨rfl, rfl⟩))
    (fun os started H enc _ => lifted os started H enc)

end fnExactHand

theorem fnExactHand_holds : Rows.FnExactHandSaid := fnExactHand.over
#print axioms fnExactHand_holds
end Go.Proofs.Ytfkhbbmnjndmcaa
