/- The model's l15Calm. -/
import Derived.Test.YtnlppeieccbhgaaSnCe
import Derived.Test.YtnlppeieccbhgaaXq
import Derived.Test.YtnlppeieccbhgaaSnI
import Derived.Deep.LoopGhost
namespace Go.Proofs.Ytnlppeieccbhgaa
open Go.RowKit Plain Tpc Ssn

theorem stepAck {t : Ses} (h : 0 < t.acks.length) : stK t ⟨6, 0, ⟨#[]⟩⟩ = true ∧ stS t ⟨6, 0, ⟨#[]⟩⟩ = ackS t 0 := by
  have hk : stK t ⟨6, 0, ⟨#[]⟩⟩ = true := by
    show inA t 0 = true
    unfold inA
    exact decide_eq_true ⟨by omega, by omega⟩
  refine ⟨hk, ?_⟩
  unfold stS
  rw [if_neg (by rw [hk]; decide)]
  rfl
theorem stepTake {t : Ses} (h : 0 < t.way.length) : stK t ⟨3, 0, ⟨#[]⟩⟩ = true ∧ stS t ⟨3, 0, ⟨#[]⟩⟩ = takeS t 0 := by
  have hk : stK t ⟨3, 0, ⟨#[]⟩⟩ = true := by
    show inW t 0 = true
    unfold inW
    exact decide_eq_true ⟨by omega, by omega⟩
  refine ⟨hk, ?_⟩
  unfold stS
  rw [if_neg (by rw [hk]; decide)]
  rfl
theorem Gd.ack0 {t : Ses} (hg : Gd t) (h : 0 < t.acks.length) : Gd (ackS t 0) := hg.ack (by unfold inA; exact decide_eq_true ⟨by omega, by omega⟩)
theorem Gd.take0 {t : Ses} (hg : Gd t) (h : 0 < t.way.length) : Gd (takeS t 0) := hg.take (by unfold inW; exact decide_eq_true ⟨by omega, by omega⟩)
theorem ackS_len {t : Ses} {n : Nat} (h : t.acks.length = n + 1) : (ackS t 0).acks.length = n := by
  show (outA t.acks (Int.toNat 0)).length = n
  rw [show Int.toNat 0 = 0 from rfl, outA_len]; omega

theorem ackC (t : Ses) (B : Nat) (vi vh vw va : Value) (w : World) (hR : SesRow w B t vi vh vw va) (hB : B ≤ w.heap.size) (hg : Gd t) (h : 0 < t.acks.length) :
    Calls Try.prog 71 #[.agg #[.int .i64 t.ep, vi, .int .i64 t.base, vh, vw, va], .agg #[.int .i64 6, .int .i64 0, .string ⟨#[]⟩]] w fun e w' => StO w w' B vi vh vw va (ackS t 0) (fun v => e = .returned (.tuple #[v, .bool true])) := by
  have h1 := l15Step_any t ⟨6, 0, ⟨#[]⟩⟩ B vi vh vw va w hR hB hg (by decide)
  obtain ⟨e1, e2⟩ := stepAck h
  rw [e1, e2] at h1
  exact h1
theorem takeC (t : Ses) (B : Nat) (vi vh vw va : Value) (w : World) (hR : SesRow w B t vi vh vw va) (hB : B ≤ w.heap.size) (hg : Gd t) (h : 0 < t.way.length) :
    Calls Try.prog 71 #[.agg #[.int .i64 t.ep, vi, .int .i64 t.base, vh, vw, va], .agg #[.int .i64 3, .int .i64 0, .string ⟨#[]⟩]] w fun e w' => StO w w' B vi vh vw va (takeS t 0) (fun v => e = .returned (.tuple #[v, .bool true])) := by
  have h1 := l15Step_any t ⟨3, 0, ⟨#[]⟩⟩ B vi vh vw va w hR hB hg (by decide)
  obtain ⟨e1, e2⟩ := stepTake h
  rw [e1, e2] at h1
  exact h1

set_option maxRecDepth 100000 in
set_option maxHeartbeats 8000000 in
theorem l15Calm_any (s : Ses) (B : Nat) (vi vh vw va : Value) (w : World) (hR : SesRow w B s vi vh vw va) (hBw : B ≤ w.heap.size) (hg : Gd s) :
    Calls Try.prog 77 #[s.val vi vh vw va] w fun e w' => StO w w' B vi vh vw va (calm s) (fun v => e = .returned v) := by
  have rc := fun (tmps : Array Value) (P : Program) (w : World) => results_cellS (fn := Try.f77) (p := 2) (ty := 26) rfl tmps P w
  obtain ⟨ai, ci, ah, ch, aw, cw, aa, ca, rfl, rfl, rfl, rfl⟩ := hR.form
  unfold Ses.val
  obtain ⟨W0, hW0⟩ : ∃ X, X = (w.alloc (.cells #[.int .i64 s.ep, .slice ai s.items.length ci, .int .i64 s.base, .slice ah s.handed.length ch, .slice aw s.way.length cw, .slice aa s.acks.length ca] 26)).alloc (.cells #[.int .i64 0, .slice none 0 0, .int .i64 0, .slice none 0 0, .slice none 0 0, .slice none 0 0] 26) := ⟨_, rfl⟩
  have hB0 : Below w.heap.size w W0 := by rw [hW0]; exact ((Below.refl _ w).alloc (Nat.le_refl _) _).alloc (by simp) _
  have HV : Hid (Sv W0 w.heap.size (.int .i64 s.ep) (.slice ai s.items.length ci) (.int .i64 s.base) (.slice ah s.handed.length ch) (.slice aw s.way.length cw) (.slice aa s.acks.length ca)) := by
    show Sv _ _ _ _ _ _ _ _
    rw [hW0]
    exact (Sv.fresh w _ _ _ _ _ _ _).below ((Below.refl _ _).alloc (Nat.le_refl _) _)
  have HZ : Hid (Sv W0 (w.heap.size + 1) (.int .i64 0) (.slice none 0 0) (.int .i64 0) (.slice none 0 0) (.slice none 0 0) (.slice none 0 0)) := by
    show Sv _ _ _ _ _ _ _ _
    have h := Sv.fresh (w.alloc (.cells #[.int .i64 s.ep, .slice ai s.items.length ci, .int .i64 s.base, .slice ah s.handed.length ch, .slice aw s.way.length cw, .slice aa s.acks.length ca] 26)) (.int .i64 0) (.slice none 0 0) (.int .i64 0) (.slice none 0 0) (.slice none 0 0) (.slice none 0 0) 26
    rw [hW0]
    simpa using h
  have HR : Hid (SesRow W0 B s (.slice ai s.items.length ci) (.slice ah s.handed.length ch) (.slice aw s.way.length cw) (.slice aa s.acks.length ca)) := hR.below hB0
  have HN : Hid (¬ P4 (.slice ai s.items.length ci) (.slice ah s.handed.length ch) (.slice aw s.way.length cw) (.slice aa s.acks.length ca) w.heap.size) := fun q => by have := (hR.lt4 _ q).2; omega
  have HM : Hid (¬ P4 (.slice ai s.items.length ci) (.slice ah s.handed.length ch) (.slice aw s.way.length cw) (.slice aa s.acks.length ca) (w.heap.size + 1)) := fun q => by have := (hR.lt4 _ q).2; omega
  have HT : Hid (Tch w W0 (P4 (.slice ai s.items.length ci) (.slice ah s.handed.length ch) (.slice aw s.way.length cw) (.slice aa s.acks.length ca)) (P4 (.slice ai s.items.length ci) (.slice ah s.handed.length ch) (.slice aw s.way.length cw) (.slice aa s.acks.length ca))) := .of_below hB0
  have HG : Hid (Gd s) := hg
  have HBw : Hid (B ≤ w.heap.size) := hBw
  clear hR hg hBw hB0
  go_enter Try.func77, Try.ntmps77
  go_wp2_with fail
  rw [← hW0]
  clear hW0
  go_loopg [] (s.acks.length) (fun k wr => ∃ (t : Ses) (ai1 : Option Addr) (ci1 : Nat) (ah1 : Option Addr) (ch1 : Nat) (aw1 : Option Addr) (cw1 : Nat) (aa1 : Option Addr) (ca1 : Nat), t.acks.length = k ∧ Hid (Sv wr w.heap.size (.int .i64 t.ep) (.slice ai1 t.items.length ci1) (.int .i64 t.base) (.slice ah1 t.handed.length ch1) (.slice aw1 t.way.length cw1) (.slice aa1 t.acks.length ca1)) ∧ Hid (SesRow wr B t (.slice ai1 t.items.length ci1) (.slice ah1 t.handed.length ch1) (.slice aw1 t.way.length cw1) (.slice aa1 t.acks.length ca1)) ∧ Hid (¬ P4 (.slice ai1 t.items.length ci1) (.slice ah1 t.handed.length ch1) (.slice aw1 t.way.length cw1) (.slice aa1 t.acks.length ca1) w.heap.size) ∧ Hid (Sv wr (w.heap.size + 1) (.int .i64 0) (.slice none 0 0) (.int .i64 0) (.slice none 0 0) (.slice none 0 0) (.slice none 0 0)) ∧ Hid (¬ P4 (.slice ai1 t.items.length ci1) (.slice ah1 t.handed.length ch1) (.slice aw1 t.way.length cw1) (.slice aa1 t.acks.length ca1) (w.heap.size + 1)) ∧ Hid (Tch w wr (P4 (.slice ai s.items.length ci) (.slice ah s.handed.length ch) (.slice aw s.way.length cw) (.slice aa s.acks.length ca)) (P4 (.slice ai1 t.items.length ci1) (.slice ah1 t.handed.length ch1) (.slice aw1 t.way.length cw1) (.slice aa1 t.acks.length ca1))) ∧ Hid (Gd t) ∧ Hid (ackAll t = ackAll s))
  case atStart => exact ⟨s, ai, ci, ah, ch, aw, cw, aa, ca, rfl, HV.out, HR.out, HN.out, HZ.out, HM.out, HT.out, HG.out, rfl⟩
  case round =>
    clear HV HR HN HZ HM HT HG
    obtain ⟨t, ai1, ci1, ah1, ch1, aw1, cw1, aa1, ca1, hk, HV, HR, HN, HZ, HM, HT, HG, HA⟩ := hrel
    have hsw : B ≤ wr.heap.size := Nat.le_trans HBw.out HT.out.size
    cases gk with
    | zero =>
      have HNl : Hid (ackAll t = t) := ackAll_nil hk
      have HC0 : Hid (calmB t = calm s) := by show _ = _; unfold calm; rw [← HA.out, HNl.out]
      have hk0 : ((t.acks.length : Nat) : Int) = 0 := by omega
      have y0 := HV.out.c0
      have y1 := HV.out.c1
      have y2 := HV.out.c2
      have y3 := HV.out.c3
      have y4 := HV.out.c4
      have y5 := HV.out.c5
      have hd0 : decide (0 < t.acks.length) = false := decide_eq_false (by omega)
      clear hk hk0
      go_wp2_with fail
      clear y0 y1 y2 y3 y4 y5 hd0 hsw
      obtain ⟨wo, rfl⟩ : ∃ W, W = wr := ⟨_, rfl⟩
      go_loopg [] (t.way.length) (fun k wr => ∃ (t : Ses) (ai2 : Option Addr) (ci2 : Nat) (ah2 : Option Addr) (ch2 : Nat) (aw2 : Option Addr) (cw2 : Nat) (aa2 : Option Addr) (ca2 : Nat), t.way.length = k ∧ Hid (Sv wr w.heap.size (.int .i64 t.ep) (.slice ai2 t.items.length ci2) (.int .i64 t.base) (.slice ah2 t.handed.length ch2) (.slice aw2 t.way.length cw2) (.slice aa2 t.acks.length ca2)) ∧ Hid (SesRow wr B t (.slice ai2 t.items.length ci2) (.slice ah2 t.handed.length ch2) (.slice aw2 t.way.length cw2) (.slice aa2 t.acks.length ca2)) ∧ Hid (¬ P4 (.slice ai2 t.items.length ci2) (.slice ah2 t.handed.length ch2) (.slice aw2 t.way.length cw2) (.slice aa2 t.acks.length ca2) w.heap.size) ∧ Hid (Sv wr (w.heap.size + 1) (.int .i64 0) (.slice none 0 0) (.int .i64 0) (.slice none 0 0) (.slice none 0 0) (.slice none 0 0)) ∧ Hid (¬ P4 (.slice ai2 t.items.length ci2) (.slice ah2 t.handed.length ch2) (.slice aw2 t.way.length cw2) (.slice aa2 t.acks.length ca2) (w.heap.size + 1)) ∧ Hid (Tch w wr (P4 (.slice ai s.items.length ci) (.slice ah s.handed.length ch) (.slice aw s.way.length cw) (.slice aa s.acks.length ca)) (P4 (.slice ai2 t.items.length ci2) (.slice ah2 t.handed.length ch2) (.slice aw2 t.way.length cw2) (.slice aa2 t.acks.length ca2))) ∧ Hid (Gd t) ∧ Hid (calmB t = calm s))
      case atStart => exact ⟨t, ai1, ci1, ah1, ch1, aw1, cw1, aa1, ca1, rfl, HV.out, HR.out, HN.out, HZ.out, HM.out, HT.out, HG.out, HC0.out⟩
      case round =>
        clear HV HR HN HZ HM HT HG HA HNl HC0
        obtain ⟨t, ai2, ci2, ah2, ch2, aw2, cw2, aa2, ca2, hk, HV, HR, HN, HZ, HM, HT, HG, HA⟩ := hrel
        have hsw : B ≤ wr.heap.size := Nat.le_trans HBw.out HT.out.size
        cases gk with
        | zero =>
          have HNl : Hid (calm s = t) := HA.out.symm.trans (calmB_nil hk)
          have hk0 : ((t.way.length : Nat) : Int) = 0 := by omega
          have hd0 : decide (0 < t.way.length) = false := decide_eq_false (by omega)
          have y0 := HV.out.c0
          have y1 := HV.out.c1
          have y2 := HV.out.c2
          have y3 := HV.out.c3
          have y4 := HV.out.c4
          have y5 := HV.out.c5
          have z0 := HZ.out.c0
          have q0 := HZ.out.f0
          have z1 := HZ.out.c1
          have q1 := HZ.out.f1
          have z2 := HZ.out.c2
          have q2 := HZ.out.f2
          have z3 := HZ.out.c3
          have q3 := HZ.out.f3
          have z4 := HZ.out.c4
          have q4 := HZ.out.f4
          have z5 := HZ.out.c5
          have q5 := HZ.out.f5
          clear hk hk0
          go_wp2_with fail
          (try simp only [Exit.inBlock, Exit.then])
          refine bodyPost_ret (v := .agg #[.int .i64 t.ep, .slice ai2 t.items.length ci2, .int .i64 t.base, .slice ah2 t.handed.length ch2, .slice aw2 t.way.length cw2, .slice aa2 t.acks.length ca2]) ?_ rfl (StO.ret (.slice ai2 t.items.length ci2) (.slice ah2 t.handed.length ch2) (.slice aw2 t.way.length cw2) (.slice aa2 t.acks.length ca2) ?_ ?_ ?_)
          · rw [rc]
            go_simp
          · rw [HNl.out]
            rfl
          · rw [HNl.out]
            exact HR.out.set6 HM.out
          · exact HT.out.set6 (by omega)
        | succ n =>
          have CT := takeC t B (.slice ai2 t.items.length ci2) (.slice ah2 t.handed.length ch2) (.slice aw2 t.way.length cw2) (.slice aa2 t.acks.length ca2) wr HR.out hsw HG.out (by omega)
          have HG2 : Hid (Gd (takeS t 0)) := HG.out.take0 (by omega)
          have HL2 : Hid ((takeS t 0).way.length = n) := by show _ = _; rw [takeS_way, outP_len]; omega
          have HA2 : Hid (calmB (ackAll (takeS t 0)) = calm s) := (calmB_step (by omega)).trans HA.out
          have hd0 : decide (0 < t.way.length) = true := decide_eq_true (by omega)
          clear hk
          generalize takeS t 0 = t2 at CT HG2 HL2 HA2
          have y0 := HV.out.c0
          have y1 := HV.out.c1
          have y2 := HV.out.c2
          have y3 := HV.out.c3
          have y4 := HV.out.c4
          have y5 := HV.out.c5
          go_wp2_with fail
          go_at_call 71
          refine CT.mono ?_
          rintro e w9 ⟨ui, uh, uw, ua, rfl, hr, ht⟩
          obtain ⟨ai3, ci3, ah3, ch3, aw3, cw3, aa3, ca3, rfl, rfl, rfl, rfl⟩ := hr.form
          have HV9 : Hid (Sv w9 w.heap.size (.int .i64 t.ep) (.slice ai2 t.items.length ci2) (.int .i64 t.base) (.slice ah2 t.handed.length ch2) (.slice aw2 t.way.length cw2) (.slice aa2 t.acks.length ca2)) := HV.out.step ht HN.out
          have HZ9 : Hid (Sv w9 (w.heap.size + 1) (.int .i64 0) (.slice none 0 0) (.int .i64 0) (.slice none 0 0) (.slice none 0 0) (.slice none 0 0)) := HZ.out.step ht HM.out
          have HN9 : Hid (¬ P4 (.slice ai3 t2.items.length ci3) (.slice ah3 t2.handed.length ch3) (.slice aw3 t2.way.length cw3) (.slice aa3 t2.acks.length ca3) w.heap.size) := ht.avoid HV.out.low HN.out
          have HM9 : Hid (¬ P4 (.slice ai3 t2.items.length ci3) (.slice ah3 t2.handed.length ch3) (.slice aw3 t2.way.length cw3) (.slice aa3 t2.acks.length ca3) (w.heap.size + 1)) := ht.avoid HZ.out.low HM.out
          have HR9 : Hid (SesRow w9 B t2 (.slice ai3 t2.items.length ci3) (.slice ah3 t2.handed.length ch3) (.slice aw3 t2.way.length cw3) (.slice aa3 t2.acks.length ca3)) := hr
          have HT9 : Hid (Tch w w9 (P4 (.slice ai s.items.length ci) (.slice ah s.handed.length ch) (.slice aw s.way.length cw) (.slice aa s.acks.length ca)) (P4 (.slice ai3 t2.items.length ci3) (.slice ah3 t2.handed.length ch3) (.slice aw3 t2.way.length cw3) (.slice aa3 t2.acks.length ca3))) := HT.out.trans ht
          clear hr ht y0 y1 y2 y3 y4 y5 HV HR HN HZ HM HT
          unfold Ses.val
          have y0 := HV9.out.c0
          have z0 := HV9.out.f0
          have y1 := HV9.out.c1
          have z1 := HV9.out.f1
          have y2 := HV9.out.c2
          have z2 := HV9.out.f2
          have y3 := HV9.out.c3
          have z3 := HV9.out.f3
          have y4 := HV9.out.c4
          have z4 := HV9.out.f4
          have y5 := HV9.out.c5
          have z5 := HV9.out.f5
          clear hd0 CT
          go_wp2_with fail
          obtain ⟨wq, hwq⟩ : ∃ X, X = ((((((((((((w9).setCell ⟨w.heap.size, 0, none⟩ (.int .i64 t2.ep))).setCell ⟨w.heap.size, 1, none⟩ (.slice ai3 t2.items.length ci3))).setCell ⟨w.heap.size, 2, none⟩ (.int .i64 t2.base))).setCell ⟨w.heap.size, 3, none⟩ (.slice ah3 t2.handed.length ch3))).setCell ⟨w.heap.size, 4, none⟩ (.slice aw3 t2.way.length cw3))).setCell ⟨w.heap.size, 5, none⟩ (.slice aa3 t2.acks.length ca3)) := ⟨_, rfl⟩
          have HV : Hid (Sv wq w.heap.size (.int .i64 t2.ep) (.slice ai3 t2.items.length ci3) (.int .i64 t2.base) (.slice ah3 t2.handed.length ch3) (.slice aw3 t2.way.length cw3) (.slice aa3 t2.acks.length ca3)) := by show _; rw [hwq]; exact (by have v := HV9.out.set0 (.int .i64 t2.ep); exact ((((v.set1 _).set2 _).set3 _).set4 _).set5 _)
          have HR : Hid (SesRow wq B t2 (.slice ai3 t2.items.length ci3) (.slice ah3 t2.handed.length ch3) (.slice aw3 t2.way.length cw3) (.slice aa3 t2.acks.length ca3)) := by show _; rw [hwq]; exact HR9.out.set6 HN9.out
          have HN : Hid (¬ P4 (.slice ai3 t2.items.length ci3) (.slice ah3 t2.handed.length ch3) (.slice aw3 t2.way.length cw3) (.slice aa3 t2.acks.length ca3) w.heap.size) := HN9.out
          have HZ : Hid (Sv wq (w.heap.size + 1) (.int .i64 0) (.slice none 0 0) (.int .i64 0) (.slice none 0 0) (.slice none 0 0) (.slice none 0 0)) := by show _; rw [hwq]; exact (HZ9.out.apart6 (by omega))
          have HM : Hid (¬ P4 (.slice ai3 t2.items.length ci3) (.slice ah3 t2.handed.length ch3) (.slice aw3 t2.way.length cw3) (.slice aa3 t2.acks.length ca3) (w.heap.size + 1)) := HM9.out
          have HT : Hid (Tch w wq (P4 (.slice ai s.items.length ci) (.slice ah s.handed.length ch) (.slice aw s.way.length cw) (.slice aa s.acks.length ca)) (P4 (.slice ai3 t2.items.length ci3) (.slice ah3 t2.handed.length ch3) (.slice aw3 t2.way.length cw3) (.slice aa3 t2.acks.length ca3))) := by show _; rw [hwq]; exact HT9.out.set6 (Nat.le_refl _)
          clear HV9 HZ9 HR9 HT9 HN9 HM9 y0 y1 y2 y3 y4 y5 z0 z1 z2 z3 z4 z5
          rw [← hwq]
          clear hwq hsw HG HA
          obtain ⟨wo2, rfl⟩ : ∃ W, W = wr := ⟨_, rfl⟩
          go_loopg [] (t2.acks.length) (fun k wr => ∃ (t : Ses) (ai4 : Option Addr) (ci4 : Nat) (ah4 : Option Addr) (ch4 : Nat) (aw4 : Option Addr) (cw4 : Nat) (aa4 : Option Addr) (ca4 : Nat), t.acks.length = k ∧ Hid (Sv wr w.heap.size (.int .i64 t.ep) (.slice ai4 t.items.length ci4) (.int .i64 t.base) (.slice ah4 t.handed.length ch4) (.slice aw4 t.way.length cw4) (.slice aa4 t.acks.length ca4)) ∧ Hid (SesRow wr B t (.slice ai4 t.items.length ci4) (.slice ah4 t.handed.length ch4) (.slice aw4 t.way.length cw4) (.slice aa4 t.acks.length ca4)) ∧ Hid (¬ P4 (.slice ai4 t.items.length ci4) (.slice ah4 t.handed.length ch4) (.slice aw4 t.way.length cw4) (.slice aa4 t.acks.length ca4) w.heap.size) ∧ Hid (Sv wr (w.heap.size + 1) (.int .i64 0) (.slice none 0 0) (.int .i64 0) (.slice none 0 0) (.slice none 0 0) (.slice none 0 0)) ∧ Hid (¬ P4 (.slice ai4 t.items.length ci4) (.slice ah4 t.handed.length ch4) (.slice aw4 t.way.length cw4) (.slice aa4 t.acks.length ca4) (w.heap.size + 1)) ∧ Hid (Tch w wr (P4 (.slice ai s.items.length ci) (.slice ah s.handed.length ch) (.slice aw s.way.length cw) (.slice aa s.acks.length ca)) (P4 (.slice ai4 t.items.length ci4) (.slice ah4 t.handed.length ch4) (.slice aw4 t.way.length cw4) (.slice aa4 t.acks.length ca4))) ∧ Hid (Gd t) ∧ Hid (ackAll t = ackAll t2))
          case atStart => exact ⟨t2, ai3, ci3, ah3, ch3, aw3, cw3, aa3, ca3, rfl, HV.out, HR.out, HN.out, HZ.out, HM.out, HT.out, HG2.out, rfl⟩
          case round =>
            clear HV HR HN HZ HM HT
            obtain ⟨t9, ai4, ci4, ah4, ch4, aw4, cw4, aa4, ca4, hk, HV, HR, HN, HZ, HM, HT, HG, HA⟩ := hrel
            have hsw : B ≤ wr.heap.size := Nat.le_trans HBw.out HT.out.size
            cases gk with
            | zero =>
              have HNl : Hid (ackAll t2 = t9) := HA.out.symm.trans (ackAll_nil hk)
              have hd0 : decide (0 < t9.acks.length) = false := decide_eq_false (by omega)
              have HL9 : Hid (t9.way.length = n) := by show _ = _; rw [← HNl.out, ackAll_way]; exact HL2.out
              have HC9 : Hid (calmB t9 = calm s) := by show _ = _; rw [← HNl.out]; exact HA2.out
              have y0 := HV.out.c0
              have y1 := HV.out.c1
              have y2 := HV.out.c2
              have y3 := HV.out.c3
              have y4 := HV.out.c4
              have y5 := HV.out.c5
              clear hk
              go_wp2_with fail
              go_roundg n
              case measure => omega
              case rel => exact ⟨t9, ai4, ci4, ah4, ch4, aw4, cw4, aa4, ca4, HL9.out, HV.out, HR.out, HN.out, HZ.out, HM.out, HT.out, HG.out, HC9.out⟩
            | succ m =>
              have CT := ackC t9 B (.slice ai4 t9.items.length ci4) (.slice ah4 t9.handed.length ch4) (.slice aw4 t9.way.length cw4) (.slice aa4 t9.acks.length ca4) wr HR.out hsw HG.out (by omega)
              have HG3 : Hid (Gd (ackS t9 0)) := HG.out.ack0 (by omega)
              have HL3 : Hid ((ackS t9 0).acks.length = m) := ackS_len hk
              have HA3 : Hid (ackAll (ackS t9 0) = ackAll t2) := (ackAll_step (by omega)).trans HA.out
              have hd0 : decide (0 < t9.acks.length) = true := decide_eq_true (by omega)
              clear hk
              generalize ackS t9 0 = t3 at CT HG3 HL3 HA3
              have y0 := HV.out.c0
              have y1 := HV.out.c1
              have y2 := HV.out.c2
              have y3 := HV.out.c3
              have y4 := HV.out.c4
              have y5 := HV.out.c5
              go_wp2_with fail
              go_at_call 71
              refine CT.mono ?_
              rintro e w9 ⟨ui, uh, uw, ua, rfl, hr, ht⟩
              obtain ⟨ai5, ci5, ah5, ch5, aw5, cw5, aa5, ca5, rfl, rfl, rfl, rfl⟩ := hr.form
              have HV9 : Hid (Sv w9 w.heap.size (.int .i64 t9.ep) (.slice ai4 t9.items.length ci4) (.int .i64 t9.base) (.slice ah4 t9.handed.length ch4) (.slice aw4 t9.way.length cw4) (.slice aa4 t9.acks.length ca4)) := HV.out.step ht HN.out
              have HZ9 : Hid (Sv w9 (w.heap.size + 1) (.int .i64 0) (.slice none 0 0) (.int .i64 0) (.slice none 0 0) (.slice none 0 0) (.slice none 0 0)) := HZ.out.step ht HM.out
              have HN9 : Hid (¬ P4 (.slice ai5 t3.items.length ci5) (.slice ah5 t3.handed.length ch5) (.slice aw5 t3.way.length cw5) (.slice aa5 t3.acks.length ca5) w.heap.size) := ht.avoid HV.out.low HN.out
              have HM9 : Hid (¬ P4 (.slice ai5 t3.items.length ci5) (.slice ah5 t3.handed.length ch5) (.slice aw5 t3.way.length cw5) (.slice aa5 t3.acks.length ca5) (w.heap.size + 1)) := ht.avoid HZ.out.low HM.out
              have HR9 : Hid (SesRow w9 B t3 (.slice ai5 t3.items.length ci5) (.slice ah5 t3.handed.length ch5) (.slice aw5 t3.way.length cw5) (.slice aa5 t3.acks.length ca5)) := hr
              have HT9 : Hid (Tch w w9 (P4 (.slice ai s.items.length ci) (.slice ah s.handed.length ch) (.slice aw s.way.length cw) (.slice aa s.acks.length ca)) (P4 (.slice ai5 t3.items.length ci5) (.slice ah5 t3.handed.length ch5) (.slice aw5 t3.way.length cw5) (.slice aa5 t3.acks.length ca5))) := HT.out.trans ht
              clear hr ht y0 y1 y2 y3 y4 y5 HV HR HN HZ HM HT
              unfold Ses.val
              have y0 := HV9.out.c0
              have z0 := HV9.out.f0
              have y1 := HV9.out.c1
              have z1 := HV9.out.f1
              have y2 := HV9.out.c2
              have z2 := HV9.out.f2
              have y3 := HV9.out.c3
              have z3 := HV9.out.f3
              have y4 := HV9.out.c4
              have z4 := HV9.out.f4
              have y5 := HV9.out.c5
              have z5 := HV9.out.f5
              clear hd0 CT
              go_wp2_with fail
              go_roundg m
              case measure => omega
              case rel => exact ⟨t3, ai5, ci5, ah5, ch5, aw5, cw5, aa5, ca5, HL3.out, (by have v := HV9.out.set0 (.int .i64 t3.ep); exact ((((v.set1 _).set2 _).set3 _).set4 _).set5 _), HR9.out.set6 HN9.out, HN9.out, (HZ9.out.apart6 (by omega)), HM9.out, HT9.out.set6 (Nat.le_refl _), HG3.out, HA3.out⟩
    | succ n =>
      have CT := ackC t B (.slice ai1 t.items.length ci1) (.slice ah1 t.handed.length ch1) (.slice aw1 t.way.length cw1) (.slice aa1 t.acks.length ca1) wr HR.out hsw HG.out (by omega)
      have HG2 : Hid (Gd (ackS t 0)) := HG.out.ack0 (by omega)
      have HL2 : Hid ((ackS t 0).acks.length = n) := ackS_len hk
      have HA2 : Hid (ackAll (ackS t 0) = ackAll s) := (ackAll_step (by omega)).trans HA.out
      have hd0 : decide (0 < t.acks.length) = true := decide_eq_true (by omega)
      clear hk
      generalize ackS t 0 = t2 at CT HG2 HL2 HA2
      have y0 := HV.out.c0
      have y1 := HV.out.c1
      have y2 := HV.out.c2
      have y3 := HV.out.c3
      have y4 := HV.out.c4
      have y5 := HV.out.c5
      go_wp2_with fail
      go_at_call 71
      refine CT.mono ?_
      rintro e w9 ⟨ui, uh, uw, ua, rfl, hr, ht⟩
      obtain ⟨ai3, ci3, ah3, ch3, aw3, cw3, aa3, ca3, rfl, rfl, rfl, rfl⟩ := hr.form
      have HV9 : Hid (Sv w9 w.heap.size (.int .i64 t.ep) (.slice ai1 t.items.length ci1) (.int .i64 t.base) (.slice ah1 t.handed.length ch1) (.slice aw1 t.way.length cw1) (.slice aa1 t.acks.length ca1)) := HV.out.step ht HN.out
      have HZ9 : Hid (Sv w9 (w.heap.size + 1) (.int .i64 0) (.slice none 0 0) (.int .i64 0) (.slice none 0 0) (.slice none 0 0) (.slice none 0 0)) := HZ.out.step ht HM.out
      have HN9 : Hid (¬ P4 (.slice ai3 t2.items.length ci3) (.slice ah3 t2.handed.length ch3) (.slice aw3 t2.way.length cw3) (.slice aa3 t2.acks.length ca3) w.heap.size) := ht.avoid HV.out.low HN.out
      have HM9 : Hid (¬ P4 (.slice ai3 t2.items.length ci3) (.slice ah3 t2.handed.length ch3) (.slice aw3 t2.way.length cw3) (.slice aa3 t2.acks.length ca3) (w.heap.size + 1)) := ht.avoid HZ.out.low HM.out
      have HR9 : Hid (SesRow w9 B t2 (.slice ai3 t2.items.length ci3) (.slice ah3 t2.handed.length ch3) (.slice aw3 t2.way.length cw3) (.slice aa3 t2.acks.length ca3)) := hr
      have HT9 : Hid (Tch w w9 (P4 (.slice ai s.items.length ci) (.slice ah s.handed.length ch) (.slice aw s.way.length cw) (.slice aa s.acks.length ca)) (P4 (.slice ai3 t2.items.length ci3) (.slice ah3 t2.handed.length ch3) (.slice aw3 t2.way.length cw3) (.slice aa3 t2.acks.length ca3))) := HT.out.trans ht
      clear hr ht y0 y1 y2 y3 y4 y5 HV HR HN HZ HM HT
      unfold Ses.val
      have y0 := HV9.out.c0
      have z0 := HV9.out.f0
      have y1 := HV9.out.c1
      have z1 := HV9.out.f1
      have y2 := HV9.out.c2
      have z2 := HV9.out.f2
      have y3 := HV9.out.c3
      have z3 := HV9.out.f3
      have y4 := HV9.out.c4
      have z4 := HV9.out.f4
      have y5 := HV9.out.c5
      have z5 := HV9.out.f5
      clear hd0 CT
      go_wp2_with fail
      go_roundg n
      case measure => omega
      case rel => exact ⟨t2, ai3, ci3, ah3, ch3, aw3, cw3, aa3, ca3, HL2.out, (by have v := HV9.out.set0 (.int .i64 t2.ep); exact ((((v.set1 _).set2 _).set3 _).set4 _).set5 _), HR9.out.set6 HN9.out, HN9.out, (HZ9.out.apart6 (by omega)), HM9.out, HT9.out.set6 (Nat.le_refl _), HG2.out, HA2.out⟩

end Go.Proofs.Ytnlppeieccbhgaa
