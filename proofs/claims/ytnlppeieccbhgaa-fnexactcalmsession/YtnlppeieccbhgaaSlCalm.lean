/- Proved here: at every session the law FnExactCalmSession answers true, that is, CalmSession answers as its model, its answer owns its memory, and it writes into nothing.
   Conditions: none beside the row's own. -/
import Derived.Test.YtnlppeieccbhgaaSnK
import Derived.Test.YtnlppeieccbhgaaSnCc
import Derived.Test.YtnlppeieccbhgaaSnCf
import Derived.Deep.DeepCutAuto
import Derived.Deep.RegionHeld3
import Derived.Deep.DrawnRows
import Derived.OpenShut
import Derived.ShutString
import Derived.ChangeMaps5
namespace Go.Proofs.Ytnlppeieccbhgaa
attribute [local go_sem ↓] Go.wp_at_zero Go.wp_at_succ
open Go.RowKit Plain Tpc Ssn

set_option maxRecDepth 100000 in
set_option maxHeartbeats 16000000 in
theorem walkFnExactCalmSession (s : Ses) (vi vh vw va : Value) (w : World) (hA : SesAt w w.heap.size s vi vh vw va) (hS : Shr s 9223372036854775807) :
    Calls Try.prog 8 #[s.val vi vh vw va] w fun e w' => e = .returned (.bool true) ∧ Below w.heap.size w w' := by
  obtain ⟨ai0, ci0, ah0, ch0, aw0, cw0, aa0, ca0, rfl, rfl, rfl, rfl⟩ := hA.form
  have HA : Hid (SesAt w w.heap.size s (.slice ai0 s.items.length ci0) (.slice ah0 s.handed.length ch0) (.slice aw0 s.way.length cw0) (.slice aa0 s.acks.length ca0)) := hA
  have SZ : Hid (∀ W, Below w.heap.size w W → Calls Try.prog 16 #[.agg #[.int .i64 s.ep, .slice ai0 s.items.length ci0, .int .i64 s.base, .slice ah0 s.handed.length ch0, .slice aw0 s.way.length cw0, .slice aa0 s.acks.length ca0], .int .i64 1048576] W fun e w' => (∃ r : Int, e = .returned (.int .i64 r) ∧ SzR s r) ∧ Below W.heap.size W w') := fun W hW => szSession_left s _ _ _ _ W (HA.out.below hW) hS
  have C1 : Hid (Sml s 1048576 → ∀ W, Below w.heap.size w W → Calls Try.prog 18 #[.agg #[.int .i64 s.ep, .slice ai0 s.items.length ci0, .int .i64 s.base, .slice ah0 s.handed.length ch0, .slice aw0 s.way.length cw0, .slice aa0 s.acks.length ca0]] W fun e w' => SesOut W w' s (fun v => e = .returned v)) := fun hl W hW => (toSession_any s _ _ _ _ W (HA.out.below hW) hl).mono fun e w' h => by
    obtain ⟨ui, uh, uw, ua, he, hr, hb⟩ := h
    exact SesOut.mk he hr hb
  have ES : Hid (Sml s 1048576 → ∀ W vi vh vw va ui uh uw ua, SesAt W W.heap.size s vi vh vw va → SesAt W W.heap.size s ui uh uw ua → Calls Try.prog 13 #[.agg #[.int .i64 s.ep, vi, .int .i64 s.base, vh, vw, va], .agg #[.int .i64 s.ep, ui, .int .i64 s.base, uh, uw, ua]] W fun e w' => e = .returned (.bool true) ∧ Below W.heap.size W w') := fun hl W vi vh vw va ui uh uw ua h1 h2 => eqSession_same s vi vh vw va ui uh uw ua W h1 h2 ⟨by have := hl.i; omega, by have := hl.h; omega, by have := hl.y; omega, by have := hl.a; omega⟩
  have hFl : Sml (cmS s) 40 := by
    unfold cmS
    by_cases h : gs s = true
    · rw [if_pos h]
      exact ((clm_good ((gs_iff s).1 h)).1).sml.up (by decide)
    · rw [if_neg h]; exact ⟨Nat.zero_le _, Nat.zero_le _, Nat.zero_le _, Nat.zero_le _⟩
  have CS : Hid (∀ W vi vh vw va, SesAt W W.heap.size s vi vh vw va → Calls Try.prog 38 #[.agg #[.int .i64 s.ep, vi, .int .i64 s.base, vh, vw, va]] W fun e w' => SesOut W w' (cmS s) (fun v => e = .returned (.tuple #[v, .int .i64 (cmN s), .bool (gs s)]))) := fun W vi vh vw va h => specCalmS s vi vh vw va W h hS
  have CI : Hid (∀ W vi vh vw va, SesAt W W.heap.size s vi vh vw va → Calls Try.prog 39 #[.agg #[.int .i64 s.ep, vi, .int .i64 s.base, vh, vw, va]] W fun e w' => SesOut W w' (cmS s) (fun v => e = .returned (.tuple #[v, .int .i64 (cmN s), .bool (gs s)]))) := fun W vi vh vw va h => implCalmS s vi vh vw va W h hS
  have MX : Hid (Sml s 1048576 → ∀ B T W vi vh vw va, SesRow W B s vi vh vw va → OwnIn B T vi vh vw va → Calls Try.prog 14 #[.agg #[.int .i64 s.ep, vi, .int .i64 s.base, vh, vw, va], .int .i64 1] W fun e w' => e = .returned (.int .i64 ((1 + s.items.length + s.handed.length + s.way.length * 3 + s.acks.length * 2 : Nat) : Int)) ∧ SesMk w' w'.heap.size 1 s.items.length s.handed.length s.way.length s.acks.length vi vh vw va ∧ Mid B T W w') := fun hl B T W vi vh vw va h1 h2 => markSession_any s B T 1 vi vh vw va W h1 (fun g hg => (h2 g hg).2) hl (by omega) (by omega)
  generalize cmS s = F at CS CI hFl
  generalize cmN s = N at CS CI
  generalize gs s = K at CS CI
  have EF : Hid (∀ W vi vh vw va ui uh uw ua, SesAt W W.heap.size F vi vh vw va → SesAt W W.heap.size F ui uh uw ua → Calls Try.prog 13 #[.agg #[.int .i64 F.ep, vi, .int .i64 F.base, vh, vw, va], .agg #[.int .i64 F.ep, ui, .int .i64 F.base, uh, uw, ua]] W fun e w' => e = .returned (.bool true) ∧ Below W.heap.size W w') := fun W vi vh vw va ui uh uw ua h1 h2 => eqSession_same F vi vh vw va ui uh uw ua W h1 h2 ⟨by have := hFl.i; omega, by have := hFl.h; omega, by have := hFl.y; omega, by have := hFl.a; omega⟩
  have MG : Hid (∀ B T W vi vh vw va, SesRow W B F vi vh vw va → OwnIn B T vi vh vw va → Calls Try.prog 14 #[.agg #[.int .i64 F.ep, vi, .int .i64 F.base, vh, vw, va], .int .i64 1] W fun e w' => e = .returned (.int .i64 ((1 + F.items.length + F.handed.length + F.way.length * 3 + F.acks.length * 2 : Nat) : Int)) ∧ SesMk w' w'.heap.size 1 F.items.length F.handed.length F.way.length F.acks.length vi vh vw va ∧ Mid B T W w') := fun B T W vi vh vw va h1 h2 => markSession_any F B T 1 vi vh vw va W h1 (fun g hg => (h2 g hg).2) ⟨by have := hFl.i; omega, by have := hFl.h; omega, by have := hFl.y; omega, by have := hFl.a; omega⟩ (by omega) (by omega)
  have HG : Hid (∀ W vi vh vw va, SesMk W W.heap.size 1 F.items.length F.handed.length F.way.length F.acks.length vi vh vw va → Calls Try.prog 15 #[.agg #[.int .i64 F.ep, vi, .int .i64 F.base, vh, vw, va], .int .i64 1] W fun e w' => e = .returned (.int .i64 ((1 + F.items.length + F.handed.length + F.way.length * 3 + F.acks.length * 2 : Nat) : Int)) ∧ Below W.heap.size W w') := fun W vi vh vw va h => heldSession_any F 1 _ _ _ _ vi vh vw va W h (by have := hFl.i; omega) (by have := hFl.h; omega) (by have := hFl.y; omega) (by have := hFl.a; omega) (by omega) (by omega)
  have nK : (K != K) = false := bne_self_eq_false K
  have nN : (N != N) = false := bne_self_eq_false N
  have hNK : ¬ (((1 + F.items.length + F.handed.length + F.way.length * 3 + F.acks.length * 2 : Nat) : Int) < 0) := by omega
  clear hFl
  unfold Ses.val
  obtain ⟨W0, hW0⟩ : ∃ X, X = w.alloc (.cells #[.int .i64 s.ep, .slice ai0 s.items.length ci0, .int .i64 s.base, .slice ah0 s.handed.length ch0, .slice aw0 s.way.length cw0, .slice aa0 s.acks.length ca0] 35) := ⟨_, rfl⟩
  have hb0 : Below w.heap.size w W0 := by rw [hW0]; exact (Below.refl _ w).alloc (Nat.le_refl _) _
  have HV0 : Hid (Sv W0 (w.heap.size) (.int .i64 s.ep) (.slice ai0 s.items.length ci0) (.int .i64 s.base) (.slice ah0 s.handed.length ch0) (.slice aw0 s.way.length cw0) (.slice aa0 s.acks.length ca0)) := by show Sv _ _ _ _ _ _ _ _; rw [hW0]; exact Sv.fresh w _ _ _ _ _ _ _
  have hlW0 : w.heap.size < W0.heap.size := by rw [hW0]; simp
  have HBW0 : Hid (Below w.heap.size w W0) := hb0
  clear hb0 hA hS
  go_enter Try.func8, Try.ntmps8
  go_upto_region 1 with fail
  rw [← hW0]
  clear hW0
  have y00 := HV0.out.c0
  have y01 := HV0.out.c1
  have y02 := HV0.out.c2
  have y03 := HV0.out.c3
  have y04 := HV0.out.c4
  have y05 := HV0.out.c5
  go_wp2_with fail
  go_at_call 16
  refine (SZ.out _ HBW0.out).mono ?_
  rintro e w1 ⟨⟨r, rfl, hr0, hr1, hr2⟩, hb1⟩
  clear y00 y01 y02 y03 y04 y05
  have hsw1 := hb1.size
  have HBw1 : Hid (Below w.heap.size w w1) := HBW0.out.trans (hb1.mono HBW0.out.size)
  have HV0 : Hid (Sv w1 (w.heap.size) (.int .i64 s.ep) (.slice ai0 s.items.length ci0) (.int .i64 s.base) (.slice ah0 s.handed.length ch0) (.slice aw0 s.way.length cw0) (.slice aa0 s.acks.length ca0)) := HV0.out.below hb1
  clear HBW0
  clear hb1
  by_cases hneg : r < 0
  · clear hr2 C1 ES CS CI MX EF MG HG
    go_wp2_with fail
    go_ret
    exact ⟨rfl, HBw1.out⟩
  obtain ⟨hsml, hshr⟩ := hr2 (by omega)
  clear hr2 SZ
  have HC1 : Hid (type_of% (C1.out hsml)) := C1.out hsml
  have HES : Hid (type_of% (ES.out hsml)) := ES.out hsml
  clear C1 ES
  have HMX : Hid (type_of% (MX.out hsml)) := MX.out hsml
  clear MX
  have y00 := HV0.out.c0
  have y01 := HV0.out.c1
  have y02 := HV0.out.c2
  have y03 := HV0.out.c3
  have y04 := HV0.out.c4
  have y05 := HV0.out.c5
  go_wp2_with fail
  go_at_call 18
  refine (HC1.out _ HBw1.out).mono ?_
  rintro e w2 ⟨ai2, ci2, ah2, ch2, aw2, cw2, aa2, ca2, rfl, hr2, hb2⟩
  clear y00 y01 y02 y03 y04 y05
  have hsw2 := hb2.size
  have HBw2 : Hid (Below w.heap.size w w2) := HBw1.out.trans (hb2.mono HBw1.out.size)
  have HV0 : Hid (Sv w2 (w.heap.size) (.int .i64 s.ep) (.slice ai0 s.items.length ci0) (.int .i64 s.base) (.slice ah0 s.handed.length ch0) (.slice aw0 s.way.length cw0) (.slice aa0 s.acks.length ca0)) := HV0.out.below hb2
  clear HBw1
  clear hb2
  go_wp2_with fail
  go_at_call 38
  refine (CS.out _ _ _ _ _ hr2.at).mono ?_
  rintro e w3 ⟨ai3, ci3, ah3, ch3, aw3, cw3, aa3, ca3, rfl, hr3, hb3⟩
  clear hr2
  have hsw3 := hb3.size
  have HBw3 : Hid (Below w.heap.size w w3) := HBw2.out.trans (hb3.mono HBw2.out.size)
  have HV0 : Hid (Sv w3 (w.heap.size) (.int .i64 s.ep) (.slice ai0 s.items.length ci0) (.int .i64 s.base) (.slice ah0 s.handed.length ch0) (.slice aw0 s.way.length cw0) (.slice aa0 s.acks.length ca0)) := HV0.out.below hb3
  clear HBw2
  clear hb3 CS
  have HRU : Hid (SesRow w3 (w2.heap.size) F (.slice ai3 F.items.length ci3) (.slice ah3 F.handed.length ch3) (.slice aw3 F.way.length cw3) (.slice aa3 F.acks.length ca3)) := hr3
  have HLU : Hid (OwnIn (w2.heap.size) w3.heap.size (.slice ai3 F.items.length ci3) (.slice ah3 F.handed.length ch3) (.slice aw3 F.way.length cw3) (.slice aa3 F.acks.length ca3)) := SesRow.ownIn hr3
  clear hr3
  obtain ⟨W3, hW3⟩ : ∃ X, X = w3.alloc (.cells #[.int .i64 F.ep, .slice ai3 F.items.length ci3, .int .i64 F.base, .slice ah3 F.handed.length ch3, .slice aw3 F.way.length cw3, .slice aa3 F.acks.length ca3] 26) := ⟨_, rfl⟩
  have hbW3 : Below w3.heap.size w3 W3 := by rw [hW3]; exact (Below.refl _ _).alloc (Nat.le_refl _) _
  have hlW3 : w3.heap.size < W3.heap.size := by rw [hW3]; simp
  have hsW3 := hbW3.size
  have HBW3 : Hid (Below w.heap.size w W3) := HBw3.out.trans (hbW3.mono HBw3.out.size)
  have HV0 : Hid (Sv W3 (w.heap.size) (.int .i64 s.ep) (.slice ai0 s.items.length ci0) (.int .i64 s.base) (.slice ah0 s.handed.length ch0) (.slice aw0 s.way.length cw0) (.slice aa0 s.acks.length ca0)) := HV0.out.below hbW3
  have HRU : Hid (SesRow W3 (w2.heap.size) F (.slice ai3 F.items.length ci3) (.slice ah3 F.handed.length ch3) (.slice aw3 F.way.length cw3) (.slice aa3 F.acks.length ca3)) := HRU.out.below hbW3
  clear HBw3
  have HV1 : Hid (Sv W3 (w3.heap.size) (.int .i64 F.ep) (.slice ai3 F.items.length ci3) (.int .i64 F.base) (.slice ah3 F.handed.length ch3) (.slice aw3 F.way.length cw3) (.slice aa3 F.acks.length ca3)) := by show Sv _ _ _ _ _ _ _ _; rw [hW3]; exact Sv.fresh w3 _ _ _ _ _ _ _
  clear hbW3
  go_upto_region 6 with fail
  rw [← hW3]
  clear hW3
  have y00 := HV0.out.c0
  have y01 := HV0.out.c1
  have y02 := HV0.out.c2
  have y03 := HV0.out.c3
  have y04 := HV0.out.c4
  have y05 := HV0.out.c5
  go_wp2_with fail
  go_at_call 18
  refine (HC1.out _ HBW3.out).mono ?_
  rintro e w4 ⟨ai4, ci4, ah4, ch4, aw4, cw4, aa4, ca4, rfl, hr4, hb4⟩
  clear y00 y01 y02 y03 y04 y05
  have hsw4 := hb4.size
  have HBw4 : Hid (Below w.heap.size w w4) := HBW3.out.trans (hb4.mono HBW3.out.size)
  have HV0 : Hid (Sv w4 (w.heap.size) (.int .i64 s.ep) (.slice ai0 s.items.length ci0) (.int .i64 s.base) (.slice ah0 s.handed.length ch0) (.slice aw0 s.way.length cw0) (.slice aa0 s.acks.length ca0)) := HV0.out.below hb4
  have HV1 : Hid (Sv w4 (w3.heap.size) (.int .i64 F.ep) (.slice ai3 F.items.length ci3) (.int .i64 F.base) (.slice ah3 F.handed.length ch3) (.slice aw3 F.way.length cw3) (.slice aa3 F.acks.length ca3)) := HV1.out.below hb4
  have HRU : Hid (SesRow w4 (w2.heap.size) F (.slice ai3 F.items.length ci3) (.slice ah3 F.handed.length ch3) (.slice aw3 F.way.length cw3) (.slice aa3 F.acks.length ca3)) := HRU.out.below hb4
  clear HBW3
  clear hb4
  have HRX : Hid (SesRow w4 (W3.heap.size) s (.slice ai4 s.items.length ci4) (.slice ah4 s.handed.length ch4) (.slice aw4 s.way.length cw4) (.slice aa4 s.acks.length ca4)) := hr4
  have HLX : Hid (OwnIn (W3.heap.size) w4.heap.size (.slice ai4 s.items.length ci4) (.slice ah4 s.handed.length ch4) (.slice aw4 s.way.length cw4) (.slice aa4 s.acks.length ca4)) := SesRow.ownIn hr4
  clear hr4
  obtain ⟨W5, hW5⟩ : ∃ X, X = w4.alloc (.cells #[.int .i64 s.ep, .slice ai4 s.items.length ci4, .int .i64 s.base, .slice ah4 s.handed.length ch4, .slice aw4 s.way.length cw4, .slice aa4 s.acks.length ca4] 26) := ⟨_, rfl⟩
  have hbW5 : Below w4.heap.size w4 W5 := by rw [hW5]; exact (Below.refl _ _).alloc (Nat.le_refl _) _
  have hlW5 : w4.heap.size < W5.heap.size := by rw [hW5]; simp
  have hsW5 := hbW5.size
  have HBW5 : Hid (Below w.heap.size w W5) := HBw4.out.trans (hbW5.mono HBw4.out.size)
  have HV0 : Hid (Sv W5 (w.heap.size) (.int .i64 s.ep) (.slice ai0 s.items.length ci0) (.int .i64 s.base) (.slice ah0 s.handed.length ch0) (.slice aw0 s.way.length cw0) (.slice aa0 s.acks.length ca0)) := HV0.out.below hbW5
  have HV1 : Hid (Sv W5 (w3.heap.size) (.int .i64 F.ep) (.slice ai3 F.items.length ci3) (.int .i64 F.base) (.slice ah3 F.handed.length ch3) (.slice aw3 F.way.length cw3) (.slice aa3 F.acks.length ca3)) := HV1.out.below hbW5
  have HRU : Hid (SesRow W5 (w2.heap.size) F (.slice ai3 F.items.length ci3) (.slice ah3 F.handed.length ch3) (.slice aw3 F.way.length cw3) (.slice aa3 F.acks.length ca3)) := HRU.out.below hbW5
  have HRX : Hid (SesRow W5 (W3.heap.size) s (.slice ai4 s.items.length ci4) (.slice ah4 s.handed.length ch4) (.slice aw4 s.way.length cw4) (.slice aa4 s.acks.length ca4)) := HRX.out.below hbW5
  clear HBw4
  have HV5 : Hid (Sv W5 (w4.heap.size) (.int .i64 s.ep) (.slice ai4 s.items.length ci4) (.int .i64 s.base) (.slice ah4 s.handed.length ch4) (.slice aw4 s.way.length cw4) (.slice aa4 s.acks.length ca4)) := by show Sv _ _ _ _ _ _ _ _; rw [hW5]; exact Sv.fresh w4 _ _ _ _ _ _ _
  clear hbW5
  go_upto_region 7 with fail
  rw [← hW5]
  clear hW5
  have y50 := HV5.out.c0
  have y51 := HV5.out.c1
  have y52 := HV5.out.c2
  have y53 := HV5.out.c3
  have y54 := HV5.out.c4
  have y55 := HV5.out.c5
  go_wp2_with fail
  go_at_call 39
  refine (CI.out _ _ _ _ _ HRX.out.at).mono ?_
  rintro e w6 ⟨ai6, ci6, ah6, ch6, aw6, cw6, aa6, ca6, rfl, hr6, hb6⟩
  clear y50 y51 y52 y53 y54 y55
  have hsw6 := hb6.size
  have HBw6 : Hid (Below w.heap.size w w6) := HBW5.out.trans (hb6.mono HBW5.out.size)
  have HV0 : Hid (Sv w6 (w.heap.size) (.int .i64 s.ep) (.slice ai0 s.items.length ci0) (.int .i64 s.base) (.slice ah0 s.handed.length ch0) (.slice aw0 s.way.length cw0) (.slice aa0 s.acks.length ca0)) := HV0.out.below hb6
  have HV1 : Hid (Sv w6 (w3.heap.size) (.int .i64 F.ep) (.slice ai3 F.items.length ci3) (.int .i64 F.base) (.slice ah3 F.handed.length ch3) (.slice aw3 F.way.length cw3) (.slice aa3 F.acks.length ca3)) := HV1.out.below hb6
  have HV5 : Hid (Sv w6 (w4.heap.size) (.int .i64 s.ep) (.slice ai4 s.items.length ci4) (.int .i64 s.base) (.slice ah4 s.handed.length ch4) (.slice aw4 s.way.length cw4) (.slice aa4 s.acks.length ca4)) := HV5.out.below hb6
  have HRU : Hid (SesRow w6 (w2.heap.size) F (.slice ai3 F.items.length ci3) (.slice ah3 F.handed.length ch3) (.slice aw3 F.way.length cw3) (.slice aa3 F.acks.length ca3)) := HRU.out.below hb6
  have HRX : Hid (SesRow w6 (W3.heap.size) s (.slice ai4 s.items.length ci4) (.slice ah4 s.handed.length ch4) (.slice aw4 s.way.length cw4) (.slice aa4 s.acks.length ca4)) := HRX.out.below hb6
  clear HBW5
  clear hb6
  have HRG : Hid (SesRow w6 (W5.heap.size) F (.slice ai6 F.items.length ci6) (.slice ah6 F.handed.length ch6) (.slice aw6 F.way.length cw6) (.slice aa6 F.acks.length ca6)) := hr6
  have HLG : Hid (OwnIn (W5.heap.size) w6.heap.size (.slice ai6 F.items.length ci6) (.slice ah6 F.handed.length ch6) (.slice aw6 F.way.length cw6) (.slice aa6 F.acks.length ca6)) := SesRow.ownIn hr6
  clear hr6
  obtain ⟨W7, hW7⟩ : ∃ X, X = w6.alloc (.cells #[.int .i64 F.ep, .slice ai6 F.items.length ci6, .int .i64 F.base, .slice ah6 F.handed.length ch6, .slice aw6 F.way.length cw6, .slice aa6 F.acks.length ca6] 26) := ⟨_, rfl⟩
  have hbW7 : Below w6.heap.size w6 W7 := by rw [hW7]; exact (Below.refl _ _).alloc (Nat.le_refl _) _
  have hlW7 : w6.heap.size < W7.heap.size := by rw [hW7]; simp
  have hsW7 := hbW7.size
  have HBW7 : Hid (Below w.heap.size w W7) := HBw6.out.trans (hbW7.mono HBw6.out.size)
  have HV0 : Hid (Sv W7 (w.heap.size) (.int .i64 s.ep) (.slice ai0 s.items.length ci0) (.int .i64 s.base) (.slice ah0 s.handed.length ch0) (.slice aw0 s.way.length cw0) (.slice aa0 s.acks.length ca0)) := HV0.out.below hbW7
  have HV1 : Hid (Sv W7 (w3.heap.size) (.int .i64 F.ep) (.slice ai3 F.items.length ci3) (.int .i64 F.base) (.slice ah3 F.handed.length ch3) (.slice aw3 F.way.length cw3) (.slice aa3 F.acks.length ca3)) := HV1.out.below hbW7
  have HV5 : Hid (Sv W7 (w4.heap.size) (.int .i64 s.ep) (.slice ai4 s.items.length ci4) (.int .i64 s.base) (.slice ah4 s.handed.length ch4) (.slice aw4 s.way.length cw4) (.slice aa4 s.acks.length ca4)) := HV5.out.below hbW7
  have HRU : Hid (SesRow W7 (w2.heap.size) F (.slice ai3 F.items.length ci3) (.slice ah3 F.handed.length ch3) (.slice aw3 F.way.length cw3) (.slice aa3 F.acks.length ca3)) := HRU.out.below hbW7
  have HRX : Hid (SesRow W7 (W3.heap.size) s (.slice ai4 s.items.length ci4) (.slice ah4 s.handed.length ch4) (.slice aw4 s.way.length cw4) (.slice aa4 s.acks.length ca4)) := HRX.out.below hbW7
  have HRG : Hid (SesRow W7 (W5.heap.size) F (.slice ai6 F.items.length ci6) (.slice ah6 F.handed.length ch6) (.slice aw6 F.way.length cw6) (.slice aa6 F.acks.length ca6)) := HRG.out.below hbW7
  clear HBw6
  have HV2 : Hid (Sv W7 (w6.heap.size) (.int .i64 F.ep) (.slice ai6 F.items.length ci6) (.int .i64 F.base) (.slice ah6 F.handed.length ch6) (.slice aw6 F.way.length cw6) (.slice aa6 F.acks.length ca6)) := by show Sv _ _ _ _ _ _ _ _; rw [hW7]; exact Sv.fresh w6 _ _ _ _ _ _ _
  clear hbW7
  go_upto_region 8 with fail
  rw [← hW7]
  clear hW7
  have y20 := HV2.out.c0
  have y21 := HV2.out.c1
  have y22 := HV2.out.c2
  have y23 := HV2.out.c3
  have y24 := HV2.out.c4
  have y25 := HV2.out.c5
  have y10 := HV1.out.c0
  have y11 := HV1.out.c1
  have y12 := HV1.out.c2
  have y13 := HV1.out.c3
  have y14 := HV1.out.c4
  have y15 := HV1.out.c5
  go_wp2_with fail
  go_at_call 13
  refine (EF.out _ _ _ _ _ _ _ _ _ HRG.out.at HRU.out.at).mono ?_
  rintro e w8 ⟨rfl, hbw8⟩
  clear y20 y21 y22 y23 y24 y25 y10 y11 y12 y13 y14 y15
  have hsw8 := hbw8.size
  have HBw8 : Hid (Below w.heap.size w w8) := HBW7.out.trans (hbw8.mono HBW7.out.size)
  have HV0 : Hid (Sv w8 (w.heap.size) (.int .i64 s.ep) (.slice ai0 s.items.length ci0) (.int .i64 s.base) (.slice ah0 s.handed.length ch0) (.slice aw0 s.way.length cw0) (.slice aa0 s.acks.length ca0)) := HV0.out.below hbw8
  have HV1 : Hid (Sv w8 (w3.heap.size) (.int .i64 F.ep) (.slice ai3 F.items.length ci3) (.int .i64 F.base) (.slice ah3 F.handed.length ch3) (.slice aw3 F.way.length cw3) (.slice aa3 F.acks.length ca3)) := HV1.out.below hbw8
  have HV5 : Hid (Sv w8 (w4.heap.size) (.int .i64 s.ep) (.slice ai4 s.items.length ci4) (.int .i64 s.base) (.slice ah4 s.handed.length ch4) (.slice aw4 s.way.length cw4) (.slice aa4 s.acks.length ca4)) := HV5.out.below hbw8
  have HV2 : Hid (Sv w8 (w6.heap.size) (.int .i64 F.ep) (.slice ai6 F.items.length ci6) (.int .i64 F.base) (.slice ah6 F.handed.length ch6) (.slice aw6 F.way.length cw6) (.slice aa6 F.acks.length ca6)) := HV2.out.below hbw8
  have HRU : Hid (SesRow w8 (w2.heap.size) F (.slice ai3 F.items.length ci3) (.slice ah3 F.handed.length ch3) (.slice aw3 F.way.length cw3) (.slice aa3 F.acks.length ca3)) := HRU.out.below hbw8
  have HRX : Hid (SesRow w8 (W3.heap.size) s (.slice ai4 s.items.length ci4) (.slice ah4 s.handed.length ch4) (.slice aw4 s.way.length cw4) (.slice aa4 s.acks.length ca4)) := HRX.out.below hbw8
  have HRG : Hid (SesRow w8 (W5.heap.size) F (.slice ai6 F.items.length ci6) (.slice ah6 F.handed.length ch6) (.slice aw6 F.way.length cw6) (.slice aa6 F.acks.length ca6)) := HRG.out.below hbw8
  clear HBW7
  clear hbw8
  go_upto_region 10 with fail
  have HBw8d : Hid (Below w.heap.size w w8.drew) := HBw8.out.drew
  have KD : Hid (∀ W, Below w8.heap.size w8 W → W.cell? ⟨w4.heap.size, 0, none⟩ = some (.int .i64 s.ep) ∧ W.cell? ⟨w4.heap.size, 1, none⟩ = some (.slice ai4 s.items.length ci4) ∧ W.cell? ⟨w4.heap.size, 2, none⟩ = some (.int .i64 s.base) ∧ W.cell? ⟨w4.heap.size, 3, none⟩ = some (.slice ah4 s.handed.length ch4) ∧ W.cell? ⟨w4.heap.size, 4, none⟩ = some (.slice aw4 s.way.length cw4) ∧ W.cell? ⟨w4.heap.size, 5, none⟩ = some (.slice aa4 s.acks.length ca4) ∧ W.cell? ⟨w.heap.size, 0, none⟩ = some (.int .i64 s.ep) ∧ W.cell? ⟨w.heap.size, 1, none⟩ = some (.slice ai0 s.items.length ci0) ∧ W.cell? ⟨w.heap.size, 2, none⟩ = some (.int .i64 s.base) ∧ W.cell? ⟨w.heap.size, 3, none⟩ = some (.slice ah0 s.handed.length ch0) ∧ W.cell? ⟨w.heap.size, 4, none⟩ = some (.slice aw0 s.way.length cw0) ∧ W.cell? ⟨w.heap.size, 5, none⟩ = some (.slice aa0 s.acks.length ca0)) := fun W hW => ⟨(HV5.out.below hW).c0, (HV5.out.below hW).c1, (HV5.out.below hW).c2, (HV5.out.below hW).c3, (HV5.out.below hW).c4, (HV5.out.below hW).c5, (HV0.out.below hW).c0, (HV0.out.below hW).c1, (HV0.out.below hW).c2, (HV0.out.below hW).c3, (HV0.out.below hW).c4, (HV0.out.below hW).c5⟩
  go_region_held3 (fun W => W.cell? ⟨w4.heap.size, 0, none⟩ = some (.int .i64 s.ep) ∧ W.cell? ⟨w4.heap.size, 1, none⟩ = some (.slice ai4 s.items.length ci4) ∧ W.cell? ⟨w4.heap.size, 2, none⟩ = some (.int .i64 s.base) ∧ W.cell? ⟨w4.heap.size, 3, none⟩ = some (.slice ah4 s.handed.length ch4) ∧ W.cell? ⟨w4.heap.size, 4, none⟩ = some (.slice aw4 s.way.length cw4) ∧ W.cell? ⟨w4.heap.size, 5, none⟩ = some (.slice aa4 s.acks.length ca4) ∧ W.cell? ⟨w.heap.size, 0, none⟩ = some (.int .i64 s.ep) ∧ W.cell? ⟨w.heap.size, 1, none⟩ = some (.slice ai0 s.items.length ci0) ∧ W.cell? ⟨w.heap.size, 2, none⟩ = some (.int .i64 s.base) ∧ W.cell? ⟨w.heap.size, 3, none⟩ = some (.slice ah0 s.handed.length ch0) ∧ W.cell? ⟨w.heap.size, 4, none⟩ = some (.slice aw0 s.way.length cw0) ∧ W.cell? ⟨w.heap.size, 5, none⟩ = some (.slice aa0 s.acks.length ca0)) (first | with_reducible exact KD.out _ (Below.refl _ w8).drew | with_reducible exact KD.out _ hbD | with_reducible exact KD.out _ hbE)
    (first | ((go_at_call 13; (with_reducible refine (HES.out _ _ _ _ _ _ _ _ _ HRXd.out.at HRD.out.at).mono ?_); rintro e w10 ⟨rfl, hbE0⟩; have hbE : Below w8.heap.size w8 w10 := hbD.trans (hbE0.mono hbD.size))) | ((go_at_call 18; (with_reducible refine (HC1.out _ HBw8d.out).mono ?_); rintro e w9 ⟨ai9, ci9, ah9, ch9, aw9, cw9, aa9, ca9, rfl, hrD, hbD0⟩; have hbD : Below w8.heap.size w8 w9 := (Below.refl _ w8).drew.trans (hbD0.mono (Nat.le_refl _)); have HRXd : Hid (SesRow w9 (W3.heap.size) s (.slice ai4 s.items.length ci4) (.slice ah4 s.handed.length ch4) (.slice aw4 s.way.length cw4) (.slice aa4 s.acks.length ca4)) := HRX.out.below hbD; have HRD : Hid (SesRow w9 w8.drew.heap.size s (.slice ai9 s.items.length ci9) (.slice ah9 s.handed.length ch9) (.slice aw9 s.way.length cw9) (.slice aa9 s.acks.length ca9)) := hrD)))
  clear KD HRXd HRD hbD hbD0 hrD hbE0
  have hsw10 := hbE.size
  have HBw10 : Hid (Below w.heap.size w w10) := HBw8.out.trans (hbE.mono HBw8.out.size)
  have HV0 : Hid (Sv w10 (w.heap.size) (.int .i64 s.ep) (.slice ai0 s.items.length ci0) (.int .i64 s.base) (.slice ah0 s.handed.length ch0) (.slice aw0 s.way.length cw0) (.slice aa0 s.acks.length ca0)) := HV0.out.below hbE
  have HV1 : Hid (Sv w10 (w3.heap.size) (.int .i64 F.ep) (.slice ai3 F.items.length ci3) (.int .i64 F.base) (.slice ah3 F.handed.length ch3) (.slice aw3 F.way.length cw3) (.slice aa3 F.acks.length ca3)) := HV1.out.below hbE
  have HV5 : Hid (Sv w10 (w4.heap.size) (.int .i64 s.ep) (.slice ai4 s.items.length ci4) (.int .i64 s.base) (.slice ah4 s.handed.length ch4) (.slice aw4 s.way.length cw4) (.slice aa4 s.acks.length ca4)) := HV5.out.below hbE
  have HV2 : Hid (Sv w10 (w6.heap.size) (.int .i64 F.ep) (.slice ai6 F.items.length ci6) (.int .i64 F.base) (.slice ah6 F.handed.length ch6) (.slice aw6 F.way.length cw6) (.slice aa6 F.acks.length ca6)) := HV2.out.below hbE
  have HRU : Hid (SesRow w10 (w2.heap.size) F (.slice ai3 F.items.length ci3) (.slice ah3 F.handed.length ch3) (.slice aw3 F.way.length cw3) (.slice aa3 F.acks.length ca3)) := HRU.out.below hbE
  have HRX : Hid (SesRow w10 (W3.heap.size) s (.slice ai4 s.items.length ci4) (.slice ah4 s.handed.length ch4) (.slice aw4 s.way.length cw4) (.slice aa4 s.acks.length ca4)) := HRX.out.below hbE
  have HRG : Hid (SesRow w10 (W5.heap.size) F (.slice ai6 F.items.length ci6) (.slice ah6 F.handed.length ch6) (.slice aw6 F.way.length cw6) (.slice aa6 F.acks.length ca6)) := HRG.out.below hbE
  clear HBw8
  clear hbE
  have y50 := HV5.out.c0
  have y51 := HV5.out.c1
  have y52 := HV5.out.c2
  have y53 := HV5.out.c3
  have y54 := HV5.out.c4
  have y55 := HV5.out.c5
  go_wp2_with fail
  go_at_call 14
  refine (HMX.out (W3.heap.size) (w4.heap.size) _ _ _ _ _ HRX.out HLX.out).mono ?_
  rintro e w11 ⟨rfl, hkw11, hmw11⟩
  clear y50 y51 y52 y53 y54 y55
  have hsw11 := hmw11.size
  have HBw11 : Hid (Below w.heap.size w w11) := HBw10.out.trans ((hmw11.below (by omega)).mono (by omega))
  have HV0 : Hid (Sv w11 (w.heap.size) (.int .i64 s.ep) (.slice ai0 s.items.length ci0) (.int .i64 s.base) (.slice ah0 s.handed.length ch0) (.slice aw0 s.way.length cw0) (.slice aa0 s.acks.length ca0)) := HV0.out.mid hmw11 (by omega)
  have HV1 : Hid (Sv w11 (w3.heap.size) (.int .i64 F.ep) (.slice ai3 F.items.length ci3) (.int .i64 F.base) (.slice ah3 F.handed.length ch3) (.slice aw3 F.way.length cw3) (.slice aa3 F.acks.length ca3)) := HV1.out.mid hmw11 (by omega)
  have HV5 : Hid (Sv w11 (w4.heap.size) (.int .i64 s.ep) (.slice ai4 s.items.length ci4) (.int .i64 s.base) (.slice ah4 s.handed.length ch4) (.slice aw4 s.way.length cw4) (.slice aa4 s.acks.length ca4)) := HV5.out.mid hmw11 (by omega)
  have HV2 : Hid (Sv w11 (w6.heap.size) (.int .i64 F.ep) (.slice ai6 F.items.length ci6) (.int .i64 F.base) (.slice ah6 F.handed.length ch6) (.slice aw6 F.way.length cw6) (.slice aa6 F.acks.length ca6)) := HV2.out.mid hmw11 (by omega)
  have HRU : Hid (SesRow w11 (w2.heap.size) F (.slice ai3 F.items.length ci3) (.slice ah3 F.handed.length ch3) (.slice aw3 F.way.length cw3) (.slice aa3 F.acks.length ca3)) := HRU.out.mid HLU.out hmw11 (by omega)
  have HRG : Hid (SesRow w11 (W5.heap.size) F (.slice ai6 F.items.length ci6) (.slice ah6 F.handed.length ch6) (.slice aw6 F.way.length cw6) (.slice aa6 F.acks.length ca6)) := HRG.out.mid HLG.out hmw11 (by omega)
  clear HBw10
  clear hmw11 HRX HLX
  have HMX : Hid (SesMk w11 w11.heap.size 1 s.items.length s.handed.length s.way.length s.acks.length (.slice ai4 s.items.length ci4) (.slice ah4 s.handed.length ch4) (.slice aw4 s.way.length cw4) (.slice aa4 s.acks.length ca4)) := hkw11
  clear hkw11
  clear HMX
  clear HV5
  have hk11 : ¬ (((1 + s.items.length + s.handed.length + s.way.length * 3 + s.acks.length * 2 : Nat) : Int) < 0) := by omega
  have y20 := HV2.out.c0
  have y21 := HV2.out.c1
  have y22 := HV2.out.c2
  have y23 := HV2.out.c3
  have y24 := HV2.out.c4
  have y25 := HV2.out.c5
  have y10 := HV1.out.c0
  have y11 := HV1.out.c1
  have y12 := HV1.out.c2
  have y13 := HV1.out.c3
  have y14 := HV1.out.c4
  have y15 := HV1.out.c5
  go_wp2_with fail
  go_at_call 13
  refine (EF.out _ _ _ _ _ _ _ _ _ HRG.out.at HRU.out.at).mono ?_
  rintro e w12 ⟨rfl, hbw12⟩
  clear y20 y21 y22 y23 y24 y25 y10 y11 y12 y13 y14 y15
  have hsw12 := hbw12.size
  have HBw12 : Hid (Below w.heap.size w w12) := HBw11.out.trans (hbw12.mono HBw11.out.size)
  have HV0 : Hid (Sv w12 (w.heap.size) (.int .i64 s.ep) (.slice ai0 s.items.length ci0) (.int .i64 s.base) (.slice ah0 s.handed.length ch0) (.slice aw0 s.way.length cw0) (.slice aa0 s.acks.length ca0)) := HV0.out.below hbw12
  have HV1 : Hid (Sv w12 (w3.heap.size) (.int .i64 F.ep) (.slice ai3 F.items.length ci3) (.int .i64 F.base) (.slice ah3 F.handed.length ch3) (.slice aw3 F.way.length cw3) (.slice aa3 F.acks.length ca3)) := HV1.out.below hbw12
  have HV2 : Hid (Sv w12 (w6.heap.size) (.int .i64 F.ep) (.slice ai6 F.items.length ci6) (.int .i64 F.base) (.slice ah6 F.handed.length ch6) (.slice aw6 F.way.length cw6) (.slice aa6 F.acks.length ca6)) := HV2.out.below hbw12
  have HRU : Hid (SesRow w12 (w2.heap.size) F (.slice ai3 F.items.length ci3) (.slice ah3 F.handed.length ch3) (.slice aw3 F.way.length cw3) (.slice aa3 F.acks.length ca3)) := HRU.out.below hbw12
  have HRG : Hid (SesRow w12 (W5.heap.size) F (.slice ai6 F.items.length ci6) (.slice ah6 F.handed.length ch6) (.slice aw6 F.way.length cw6) (.slice aa6 F.acks.length ca6)) := HRG.out.below hbw12
  clear HBw11
  clear hbw12
  have y20 := HV2.out.c0
  have y21 := HV2.out.c1
  have y22 := HV2.out.c2
  have y23 := HV2.out.c3
  have y24 := HV2.out.c4
  have y25 := HV2.out.c5
  go_wp2_with fail
  go_at_call 14
  refine (MG.out (W5.heap.size) (w6.heap.size) _ _ _ _ _ HRG.out HLG.out).mono ?_
  rintro e w13 ⟨rfl, hkw13, hmw13⟩
  clear y20 y21 y22 y23 y24 y25
  have hsw13 := hmw13.size
  have HBw13 : Hid (Below w.heap.size w w13) := HBw12.out.trans ((hmw13.below (by omega)).mono (by omega))
  have HV0 : Hid (Sv w13 (w.heap.size) (.int .i64 s.ep) (.slice ai0 s.items.length ci0) (.int .i64 s.base) (.slice ah0 s.handed.length ch0) (.slice aw0 s.way.length cw0) (.slice aa0 s.acks.length ca0)) := HV0.out.mid hmw13 (by omega)
  have HV1 : Hid (Sv w13 (w3.heap.size) (.int .i64 F.ep) (.slice ai3 F.items.length ci3) (.int .i64 F.base) (.slice ah3 F.handed.length ch3) (.slice aw3 F.way.length cw3) (.slice aa3 F.acks.length ca3)) := HV1.out.mid hmw13 (by omega)
  have HV2 : Hid (Sv w13 (w6.heap.size) (.int .i64 F.ep) (.slice ai6 F.items.length ci6) (.int .i64 F.base) (.slice ah6 F.handed.length ch6) (.slice aw6 F.way.length cw6) (.slice aa6 F.acks.length ca6)) := HV2.out.mid hmw13 (by omega)
  have HRU : Hid (SesRow w13 (w2.heap.size) F (.slice ai3 F.items.length ci3) (.slice ah3 F.handed.length ch3) (.slice aw3 F.way.length cw3) (.slice aa3 F.acks.length ca3)) := HRU.out.mid HLU.out hmw13 (by omega)
  clear HBw12
  clear hmw13 HRG HLG
  have HMG : Hid (SesMk w13 w13.heap.size 1 F.items.length F.handed.length F.way.length F.acks.length (.slice ai6 F.items.length ci6) (.slice ah6 F.handed.length ch6) (.slice aw6 F.way.length cw6) (.slice aa6 F.acks.length ca6)) := hkw13
  clear hkw13
  have y20 := HV2.out.c0
  have y21 := HV2.out.c1
  have y22 := HV2.out.c2
  have y23 := HV2.out.c3
  have y24 := HV2.out.c4
  have y25 := HV2.out.c5
  go_wp2_with fail
  go_at_call 15
  refine (HG.out _ _ _ _ _ HMG.out).mono ?_
  rintro e w14 ⟨rfl, hbw14⟩
  clear y20 y21 y22 y23 y24 y25
  have hsw14 := hbw14.size
  have HBw14 : Hid (Below w.heap.size w w14) := HBw13.out.trans (hbw14.mono HBw13.out.size)
  have HV0 : Hid (Sv w14 (w.heap.size) (.int .i64 s.ep) (.slice ai0 s.items.length ci0) (.int .i64 s.base) (.slice ah0 s.handed.length ch0) (.slice aw0 s.way.length cw0) (.slice aa0 s.acks.length ca0)) := HV0.out.below hbw14
  have HV1 : Hid (Sv w14 (w3.heap.size) (.int .i64 F.ep) (.slice ai3 F.items.length ci3) (.int .i64 F.base) (.slice ah3 F.handed.length ch3) (.slice aw3 F.way.length cw3) (.slice aa3 F.acks.length ca3)) := HV1.out.below hbw14
  have HV2 : Hid (Sv w14 (w6.heap.size) (.int .i64 F.ep) (.slice ai6 F.items.length ci6) (.int .i64 F.base) (.slice ah6 F.handed.length ch6) (.slice aw6 F.way.length cw6) (.slice aa6 F.acks.length ca6)) := HV2.out.below hbw14
  have HRU : Hid (SesRow w14 (w2.heap.size) F (.slice ai3 F.items.length ci3) (.slice ah3 F.handed.length ch3) (.slice aw3 F.way.length cw3) (.slice aa3 F.acks.length ca3)) := HRU.out.below hbw14
  have HMG : Hid (SesMk w14 w14.heap.size 1 F.items.length F.handed.length F.way.length F.acks.length (.slice ai6 F.items.length ci6) (.slice ah6 F.handed.length ch6) (.slice aw6 F.way.length cw6) (.slice aa6 F.acks.length ca6)) := HMG.out.below hbw14
  clear HBw13
  clear hbw14
  have y00 := HV0.out.c0
  have y01 := HV0.out.c1
  have y02 := HV0.out.c2
  have y03 := HV0.out.c3
  have y04 := HV0.out.c4
  have y05 := HV0.out.c5
  go_wp2_with fail
  go_at_call 18
  refine (HC1.out _ HBw14.out).mono ?_
  rintro e w15 ⟨ai15, ci15, ah15, ch15, aw15, cw15, aa15, ca15, rfl, hr15, hb15⟩
  clear y00 y01 y02 y03 y04 y05
  have hsw15 := hb15.size
  have HBw15 : Hid (Below w.heap.size w w15) := HBw14.out.trans (hb15.mono HBw14.out.size)
  have HV0 : Hid (Sv w15 (w.heap.size) (.int .i64 s.ep) (.slice ai0 s.items.length ci0) (.int .i64 s.base) (.slice ah0 s.handed.length ch0) (.slice aw0 s.way.length cw0) (.slice aa0 s.acks.length ca0)) := HV0.out.below hb15
  have HV1 : Hid (Sv w15 (w3.heap.size) (.int .i64 F.ep) (.slice ai3 F.items.length ci3) (.int .i64 F.base) (.slice ah3 F.handed.length ch3) (.slice aw3 F.way.length cw3) (.slice aa3 F.acks.length ca3)) := HV1.out.below hb15
  have HV2 : Hid (Sv w15 (w6.heap.size) (.int .i64 F.ep) (.slice ai6 F.items.length ci6) (.int .i64 F.base) (.slice ah6 F.handed.length ch6) (.slice aw6 F.way.length cw6) (.slice aa6 F.acks.length ca6)) := HV2.out.below hb15
  have HRU : Hid (SesRow w15 (w2.heap.size) F (.slice ai3 F.items.length ci3) (.slice ah3 F.handed.length ch3) (.slice aw3 F.way.length cw3) (.slice aa3 F.acks.length ca3)) := HRU.out.below hb15
  have HMG : Hid (SesMk w15 w15.heap.size 1 F.items.length F.handed.length F.way.length F.acks.length (.slice ai6 F.items.length ci6) (.slice ah6 F.handed.length ch6) (.slice aw6 F.way.length cw6) (.slice aa6 F.acks.length ca6)) := HMG.out.below hb15
  clear HBw14
  clear hb15
  go_wp2_with fail
  go_at_call 39
  refine (CI.out _ _ _ _ _ hr15.at).mono ?_
  rintro e w16 ⟨ai16, ci16, ah16, ch16, aw16, cw16, aa16, ca16, rfl, hr16, hb16⟩
  clear hr15
  have hsw16 := hb16.size
  have HBw16 : Hid (Below w.heap.size w w16) := HBw15.out.trans (hb16.mono HBw15.out.size)
  have HV0 : Hid (Sv w16 (w.heap.size) (.int .i64 s.ep) (.slice ai0 s.items.length ci0) (.int .i64 s.base) (.slice ah0 s.handed.length ch0) (.slice aw0 s.way.length cw0) (.slice aa0 s.acks.length ca0)) := HV0.out.below hb16
  have HV1 : Hid (Sv w16 (w3.heap.size) (.int .i64 F.ep) (.slice ai3 F.items.length ci3) (.int .i64 F.base) (.slice ah3 F.handed.length ch3) (.slice aw3 F.way.length cw3) (.slice aa3 F.acks.length ca3)) := HV1.out.below hb16
  have HV2 : Hid (Sv w16 (w6.heap.size) (.int .i64 F.ep) (.slice ai6 F.items.length ci6) (.int .i64 F.base) (.slice ah6 F.handed.length ch6) (.slice aw6 F.way.length cw6) (.slice aa6 F.acks.length ca6)) := HV2.out.below hb16
  have HRU : Hid (SesRow w16 (w2.heap.size) F (.slice ai3 F.items.length ci3) (.slice ah3 F.handed.length ch3) (.slice aw3 F.way.length cw3) (.slice aa3 F.acks.length ca3)) := HRU.out.below hb16
  have HMG : Hid (SesMk w16 w16.heap.size 1 F.items.length F.handed.length F.way.length F.acks.length (.slice ai6 F.items.length ci6) (.slice ah6 F.handed.length ch6) (.slice aw6 F.way.length cw6) (.slice aa6 F.acks.length ca6)) := HMG.out.below hb16
  clear HBw15
  clear hb16
  have HRZ : Hid (SesRow w16 (w15.heap.size) F (.slice ai16 F.items.length ci16) (.slice ah16 F.handed.length ch16) (.slice aw16 F.way.length cw16) (.slice aa16 F.acks.length ca16)) := hr16
  have HLZ : Hid (OwnIn (w15.heap.size) w16.heap.size (.slice ai16 F.items.length ci16) (.slice ah16 F.handed.length ch16) (.slice aw16 F.way.length cw16) (.slice aa16 F.acks.length ca16)) := SesRow.ownIn hr16
  clear hr16
  obtain ⟨W17, hW17⟩ : ∃ X, X = w16.alloc (.cells #[.int .i64 F.ep, .slice ai16 F.items.length ci16, .int .i64 F.base, .slice ah16 F.handed.length ch16, .slice aw16 F.way.length cw16, .slice aa16 F.acks.length ca16] 26) := ⟨_, rfl⟩
  have hbW17 : Below w16.heap.size w16 W17 := by rw [hW17]; exact (Below.refl _ _).alloc (Nat.le_refl _) _
  have hlW17 : w16.heap.size < W17.heap.size := by rw [hW17]; simp
  have hsW17 := hbW17.size
  have HBW17 : Hid (Below w.heap.size w W17) := HBw16.out.trans (hbW17.mono HBw16.out.size)
  have HV0 : Hid (Sv W17 (w.heap.size) (.int .i64 s.ep) (.slice ai0 s.items.length ci0) (.int .i64 s.base) (.slice ah0 s.handed.length ch0) (.slice aw0 s.way.length cw0) (.slice aa0 s.acks.length ca0)) := HV0.out.below hbW17
  have HV1 : Hid (Sv W17 (w3.heap.size) (.int .i64 F.ep) (.slice ai3 F.items.length ci3) (.int .i64 F.base) (.slice ah3 F.handed.length ch3) (.slice aw3 F.way.length cw3) (.slice aa3 F.acks.length ca3)) := HV1.out.below hbW17
  have HV2 : Hid (Sv W17 (w6.heap.size) (.int .i64 F.ep) (.slice ai6 F.items.length ci6) (.int .i64 F.base) (.slice ah6 F.handed.length ch6) (.slice aw6 F.way.length cw6) (.slice aa6 F.acks.length ca6)) := HV2.out.below hbW17
  have HRU : Hid (SesRow W17 (w2.heap.size) F (.slice ai3 F.items.length ci3) (.slice ah3 F.handed.length ch3) (.slice aw3 F.way.length cw3) (.slice aa3 F.acks.length ca3)) := HRU.out.below hbW17
  have HRZ : Hid (SesRow W17 (w15.heap.size) F (.slice ai16 F.items.length ci16) (.slice ah16 F.handed.length ch16) (.slice aw16 F.way.length cw16) (.slice aa16 F.acks.length ca16)) := HRZ.out.below hbW17
  have HMG : Hid (SesMk W17 W17.heap.size 1 F.items.length F.handed.length F.way.length F.acks.length (.slice ai6 F.items.length ci6) (.slice ah6 F.handed.length ch6) (.slice aw6 F.way.length cw6) (.slice aa6 F.acks.length ca6)) := HMG.out.below hbW17
  clear HBw16
  have HV14 : Hid (Sv W17 (w16.heap.size) (.int .i64 F.ep) (.slice ai16 F.items.length ci16) (.int .i64 F.base) (.slice ah16 F.handed.length ch16) (.slice aw16 F.way.length cw16) (.slice aa16 F.acks.length ca16)) := by show Sv _ _ _ _ _ _ _ _; rw [hW17]; exact Sv.fresh w16 _ _ _ _ _ _ _
  clear hbW17
  go_upto_region 25 with fail
  rw [← hW17]
  clear hW17
  have y140 := HV14.out.c0
  have y141 := HV14.out.c1
  have y142 := HV14.out.c2
  have y143 := HV14.out.c3
  have y144 := HV14.out.c4
  have y145 := HV14.out.c5
  have y10 := HV1.out.c0
  have y11 := HV1.out.c1
  have y12 := HV1.out.c2
  have y13 := HV1.out.c3
  have y14 := HV1.out.c4
  have y15 := HV1.out.c5
  go_wp2_with fail
  go_at_call 13
  refine (EF.out _ _ _ _ _ _ _ _ _ HRZ.out.at HRU.out.at).mono ?_
  rintro e w18 ⟨rfl, hbw18⟩
  clear y140 y141 y142 y143 y144 y145 y10 y11 y12 y13 y14 y15
  have hsw18 := hbw18.size
  have HBw18 : Hid (Below w.heap.size w w18) := HBW17.out.trans (hbw18.mono HBW17.out.size)
  have HV0 : Hid (Sv w18 (w.heap.size) (.int .i64 s.ep) (.slice ai0 s.items.length ci0) (.int .i64 s.base) (.slice ah0 s.handed.length ch0) (.slice aw0 s.way.length cw0) (.slice aa0 s.acks.length ca0)) := HV0.out.below hbw18
  have HV1 : Hid (Sv w18 (w3.heap.size) (.int .i64 F.ep) (.slice ai3 F.items.length ci3) (.int .i64 F.base) (.slice ah3 F.handed.length ch3) (.slice aw3 F.way.length cw3) (.slice aa3 F.acks.length ca3)) := HV1.out.below hbw18
  have HV2 : Hid (Sv w18 (w6.heap.size) (.int .i64 F.ep) (.slice ai6 F.items.length ci6) (.int .i64 F.base) (.slice ah6 F.handed.length ch6) (.slice aw6 F.way.length cw6) (.slice aa6 F.acks.length ca6)) := HV2.out.below hbw18
  have HV14 : Hid (Sv w18 (w16.heap.size) (.int .i64 F.ep) (.slice ai16 F.items.length ci16) (.int .i64 F.base) (.slice ah16 F.handed.length ch16) (.slice aw16 F.way.length cw16) (.slice aa16 F.acks.length ca16)) := HV14.out.below hbw18
  have HRU : Hid (SesRow w18 (w2.heap.size) F (.slice ai3 F.items.length ci3) (.slice ah3 F.handed.length ch3) (.slice aw3 F.way.length cw3) (.slice aa3 F.acks.length ca3)) := HRU.out.below hbw18
  have HRZ : Hid (SesRow w18 (w15.heap.size) F (.slice ai16 F.items.length ci16) (.slice ah16 F.handed.length ch16) (.slice aw16 F.way.length cw16) (.slice aa16 F.acks.length ca16)) := HRZ.out.below hbw18
  have HMG : Hid (SesMk w18 w18.heap.size 1 F.items.length F.handed.length F.way.length F.acks.length (.slice ai6 F.items.length ci6) (.slice ah6 F.handed.length ch6) (.slice aw6 F.way.length cw6) (.slice aa6 F.acks.length ca6)) := HMG.out.below hbw18
  clear HBW17
  clear hbw18
  have y20 := HV2.out.c0
  have y21 := HV2.out.c1
  have y22 := HV2.out.c2
  have y23 := HV2.out.c3
  have y24 := HV2.out.c4
  have y25 := HV2.out.c5
  go_wp2_with fail
  go_at_call 15
  refine (HG.out _ _ _ _ _ HMG.out).mono ?_
  rintro e w19 ⟨rfl, hbw19⟩
  clear y20 y21 y22 y23 y24 y25
  have hsw19 := hbw19.size
  have HBw19 : Hid (Below w.heap.size w w19) := HBw18.out.trans (hbw19.mono HBw18.out.size)
  have HV0 : Hid (Sv w19 (w.heap.size) (.int .i64 s.ep) (.slice ai0 s.items.length ci0) (.int .i64 s.base) (.slice ah0 s.handed.length ch0) (.slice aw0 s.way.length cw0) (.slice aa0 s.acks.length ca0)) := HV0.out.below hbw19
  have HV1 : Hid (Sv w19 (w3.heap.size) (.int .i64 F.ep) (.slice ai3 F.items.length ci3) (.int .i64 F.base) (.slice ah3 F.handed.length ch3) (.slice aw3 F.way.length cw3) (.slice aa3 F.acks.length ca3)) := HV1.out.below hbw19
  have HV2 : Hid (Sv w19 (w6.heap.size) (.int .i64 F.ep) (.slice ai6 F.items.length ci6) (.int .i64 F.base) (.slice ah6 F.handed.length ch6) (.slice aw6 F.way.length cw6) (.slice aa6 F.acks.length ca6)) := HV2.out.below hbw19
  have HV14 : Hid (Sv w19 (w16.heap.size) (.int .i64 F.ep) (.slice ai16 F.items.length ci16) (.int .i64 F.base) (.slice ah16 F.handed.length ch16) (.slice aw16 F.way.length cw16) (.slice aa16 F.acks.length ca16)) := HV14.out.below hbw19
  have HRU : Hid (SesRow w19 (w2.heap.size) F (.slice ai3 F.items.length ci3) (.slice ah3 F.handed.length ch3) (.slice aw3 F.way.length cw3) (.slice aa3 F.acks.length ca3)) := HRU.out.below hbw19
  have HRZ : Hid (SesRow w19 (w15.heap.size) F (.slice ai16 F.items.length ci16) (.slice ah16 F.handed.length ch16) (.slice aw16 F.way.length cw16) (.slice aa16 F.acks.length ca16)) := HRZ.out.below hbw19
  have HMG : Hid (SesMk w19 w19.heap.size 1 F.items.length F.handed.length F.way.length F.acks.length (.slice ai6 F.items.length ci6) (.slice ah6 F.handed.length ch6) (.slice aw6 F.way.length cw6) (.slice aa6 F.acks.length ca6)) := HMG.out.below hbw19
  clear HBw18
  clear hbw19
  go_wp2_with fail
  go_ret
  exact ⟨rfl, HBw19.out⟩

namespace fnExactCalmSession
open Go.ChangeShapes Go.WideShapes Go.ChangeAt

theorem own : ownKnob Try.prog.godebug = none := by kernel_rfl
theorem laidOut : laidOutB Try.prog = true := by kernel_rfl

set_option maxRecDepth 100000 in
theorem lifted (os : Os) (started : os.Started) (H : Type) (enc : TypeId × Value → H) :
    ReturnsInHanded {} Try.checked os 8 .any (Rows.fnExactCalmSessionSpec.pre6 enc Try.prog Try.f8 Rows.fnExactCalmSessionRow.domain false) (Rows.fnExactCalmSessionSpec.post enc Try.prog Try.f8 false true false false) := by
  refine returnsInHanded_of_change (C := Try.checked) own started (by kernel_rfl) Try.func8
    (ChangeSpec.witness6 (enc := enc) (C := Try.checked) false ⟨#[], #[.agg #[.int .i64 0, .slice none 0 0, .int .i64 0, .slice none 0 0, .slice none 0 0, .slice none 0 0]], []⟩ 8 (by kernel_rfl) (by kernel_rfl) (by kernel_rfl) (by kernel_rfl)) ?_
  intro W base args ds gs before hval0 hW hcnd _
  have hval : ∀ (j : Nat) t v, Try.f8.params[j]? = some t → args[j]? = some v → Value.okWide Try.prog W .any base t v := hval0
  have hW' := hW
  obtain ⟨p, q, hA0, hV, rfl, hfz, hnd⟩ := hW
  have hA : DataW.TrodAll enc Try.prog W 0 (fun _ => true) true Try.f8.params.toList args.toList ds p := hA0
  rw [Try.params8] at hA hval
  obtain ⟨v0, vs0, d0, ds0, p0, q0, hargs, rfl, rfl, h0, r0⟩ := trodAll_cons hA
  obtain ⟨rfl, rfl, rfl⟩ := trodAll_nil r0
  obtain rfl : args = #[v0] := by cases args; simp_all
  obtain ⟨rfl, rfl⟩ := trodVars_none hV
  have h0k := h0
  obtain ⟨R0, vi0, vh0, vw0, va0, rfl, hT0, hN0⟩ := open_session (hval 0 35 v0 rfl rfl) h0
  clear hA0 hval0
  have hlt0 : ∀ x ∈ p0, x.block < W.heap.size := fun x hx => by
    have := hW'.lt x (by simp_all)
    simpa using this
  refine (walkFnExactCalmSession R0 vi0 vh0 vw0 va0 W hT0 hN0).mono fun e W' ⟨he, hg⟩ => ?_
  subst he
  exact ⟨_, rfl, _, _, _, [], _, [], hW', trodAll_mk1 (shut_bool Try.underlying4 _), (trodAll_cons_mk (Below.trod laidOut (by kernel_rfl) (of_decide_eq_true (by kernel_rfl)) h0k hg (fun x hx => hlt0 x hx)) trodAll_mk0), rfl, hg.frame _, fun h => by cases h⟩

theorem over : Rows.fnExactCalmSessionRow.holds Try.pinned (OpenSpec.ofChange Rows.fnExactCalmSessionSpec) :=
  OpenClaim.holds_of_wide 8 Try.f8 rfl rfl rfl rfl rfl rfl rfl ⟨rfl, rfl, rfl, rfl, rfl⟩ rfl rfl rfl rfl rfl (by kernel_rfl) Try.func8 (by kernel_rfl)
    (of_decide_eq_true (by kernel_rfl)) (by unfold Func.isWrapper; first | (rw [if_pos (by decide +kernel)]; kernel_rfl) | (rw [if_neg (by decide +kernel)]; exact ⟨rfl, rfl⟩))
    (fun os started H enc _ => lifted os started H enc)

end fnExactCalmSession

theorem fnExactCalmSession_holds : Rows.FnExactCalmSessionSaid := fnExactCalmSession.over
#print axioms fnExactCalmSession_holds
end Go.Proofs.Ytnlppeieccbhgaa
