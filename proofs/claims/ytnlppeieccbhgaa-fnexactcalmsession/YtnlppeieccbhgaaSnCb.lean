/- The program's: all acks are taken; all packets, each followed by all acks. -/
import Derived.Test.YtnlppeieccbhgaaSnCa
import Derived.Test.YtnlppeieccbhgaaXs
import Derived.Test.YtnlppeieccbhgaaSnTp
import Derived.Deep.LoopGhost
namespace Go.Proofs.Ytnlppeieccbhgaa
open Go.RowKit Plain Tpc Ssn

set_option maxRecDepth 100000 in
set_option maxHeartbeats 4000000 in
theorem takeAcks_any (s : Ses) (e B : Nat) (vi vw va : Value) (w : World) (h : Ex w e B s vi vw va) (hg : Gd s) :
    Calls Try.prog 106 #[.pointer (some ⟨e, 0, none⟩)] w fun r w' => r = .returned (.tuple #[]) ∧ ∃ v9, Ex w' e B (ackAll s) vi vw v9 ∧ Tch w w' (PX e vi vw va) (PX e vi vw v9) := by
  have HE0 : Hid (Ex w e B s vi vw va) := h
  have HG0 : Hid (Gd s) := hg
  clear h hg
  go_enter Try.func106, Try.ntmps106
  go_wp2
  go_loopg [] (s.acks.length) (fun k wr => ∃ (t : Ses) (v : Value), t.acks.length = k ∧ Hid (Ex wr e B t vi vw v) ∧ Hid (Gd t) ∧ Hid (ackAll t = ackAll s) ∧ Hid (Tch w wr (PX e vi vw va) (PX e vi vw v)))
  case atStart => exact ⟨s, va, rfl, HE0.out, HG0.out, rfl, Tch.refl _ _⟩
  case round =>
    obtain ⟨t, v, hk, HE, HG, HA, HT⟩ := hrel
    have CT := takeAckE_any t e B vi vw v 0 wr HE.out HG.out
    have hin : inA t 0 = decide (0 < gk) := by
      unfold inA
      rw [hk]
      by_cases h : 0 < gk
      · rw [decide_eq_true h]; exact decide_eq_true ⟨by omega, by omega⟩
      · rw [decide_eq_false h]; exact decide_eq_false (fun q => h (by omega))
    rw [hin] at CT
    cases gk with
    | zero =>
      rw [decide_eq_false (by omega), if_neg (by decide)] at CT
      have HN : Hid (ackAll t = t) := ackAll_nil hk
      clear hin hk
      go_wp2_with fail
      go_at_call 104
      refine CT.mono ?_
      rintro r w2 ⟨rfl, v9, hE, hT⟩
      go_wp2_with fail
      go_end0
      refine ⟨rfl, v9, ?_, HT.out.trans hT⟩
      rw [← HA.out, HN.out]
      exact hE
    | succ n =>
      rw [decide_eq_true (by omega), if_pos rfl] at CT
      have HN : Hid (ackAll (ackS t 0) = ackAll s) := (ackAll_step (by omega)).trans HA.out
      have HL : Hid ((ackS t 0).acks.length = n) := by
        show (outA t.acks (Int.toNat 0)).length = n
        rw [show Int.toNat 0 = 0 from rfl, outA_len]; omega
      have HG2 : Hid (Gd (ackS t 0)) := HG.out.ack (by rw [hin]; exact decide_eq_true (by omega))
      clear hin hk
      generalize ackS t 0 = t2 at CT HN HL HG2
      go_wp2_with fail
      go_at_call 104
      refine CT.mono ?_
      rintro r w2 ⟨rfl, v9, hE, hT⟩
      have HE2 : Hid (Ex w2 e B t2 vi vw v9) := hE
      have HT2 : Hid (Tch w w2 (PX e vi vw va) (PX e vi vw v9)) := HT.out.trans hT
      clear hE hT CT
      go_wp2_with fail
      go_roundg n
      case measure => omega
      case rel => exact ⟨t2, v9, HL.out, HE2.out, HG2.out, HN.out, HT2.out⟩

set_option maxRecDepth 100000 in
set_option maxHeartbeats 4000000 in
theorem takeAll_any (s : Ses) (e B : Nat) (vi vw va : Value) (w : World) (h : Ex w e B s vi vw va) (hg : Gd s) :
    Calls Try.prog 78 #[.pointer (some ⟨e, 0, none⟩)] w fun r w' => r = .returned (.tuple #[]) ∧ ∃ v8 v9, Ex w' e B (calm s) vi v8 v9 ∧ Tch w w' (PX e vi vw va) (PX e vi v8 v9) := by
  have CA := takeAcks_any s e B vi vw va w h hg
  have HG0 : Hid (Gd (ackAll s)) := ackAll_good hg
  clear h hg
  go_enter Try.func78, Try.ntmps78
  go_wp2_with fail
  go_at_call 106
  refine CA.mono ?_
  rintro r w1 ⟨rfl, va1, hE1, hT1⟩
  have HE1 : Hid (Ex w1 e B (ackAll s) vi vw va1) := hE1
  have HT1 : Hid (Tch w w1 (PX e vi vw va) (PX e vi vw va1)) := hT1
  clear hE1 hT1 CA
  go_wp2_with fail
  go_loopg [] ((ackAll s).way.length) (fun k wr => ∃ (t : Ses) (v8 v9 : Value), t.way.length = k ∧ Hid (Ex wr e B t vi v8 v9) ∧ Hid (Gd t) ∧ Hid (calmB t = calm s) ∧ Hid (Tch w wr (PX e vi vw va) (PX e vi v8 v9)))
  case atStart => exact ⟨ackAll s, vw, va1, rfl, HE1.out, HG0.out, rfl, HT1.out⟩
  case round =>
    obtain ⟨t, v8, v9, hk, HE, HG, HA, HT⟩ := hrel
    have CT := takePacketE_any t e B vi v8 v9 0 wr HE.out HG.out
    have hin : inW t 0 = decide (0 < gk) := by
      unfold inW
      rw [hk]
      by_cases h : 0 < gk
      · rw [decide_eq_true h]; exact decide_eq_true ⟨by omega, by omega⟩
      · rw [decide_eq_false h]; exact decide_eq_false (fun q => h (by omega))
    rw [hin] at CT
    cases gk with
    | zero =>
      rw [decide_eq_false (by omega), if_neg (by decide)] at CT
      have HN : Hid (calmB t = t) := calmB_nil hk
      clear hin hk
      go_wp2_with fail
      go_at_call 100
      refine CT.mono ?_
      rintro r w2 ⟨rfl, u8, u9, hE, hT⟩
      go_wp2_with fail
      go_end0
      refine ⟨rfl, u8, u9, ?_, HT.out.trans hT⟩
      rw [← HA.out, HN.out]
      exact hE
    | succ n =>
      rw [decide_eq_true (by omega), if_pos rfl] at CT
      have HN : Hid (calmB (ackAll (takeS t 0)) = calm s) := (calmB_step (by omega)).trans HA.out
      have HL : Hid ((ackAll (takeS t 0)).way.length = n) := by
        show _ = _
        rw [ackAll_way, takeS_way, outP_len]; omega
      have hG2 := HG.out.take (k := 0) (by rw [hin]; exact decide_eq_true (by omega))
      have HG2 : Hid (Gd (takeS t 0)) := hG2
      have HG3 : Hid (Gd (ackAll (takeS t 0))) := ackAll_good hG2
      clear hin hk hG2
      generalize takeS t 0 = t2 at CT HN HL HG2 HG3
      go_wp2_with fail
      go_at_call 100
      refine CT.mono ?_
      rintro r w2 ⟨rfl, u8, u9, hE, hT⟩
      have HT2 : Hid (Tch w w2 (PX e vi vw va) (PX e vi u8 u9)) := HT.out.trans hT
      have CK := takeAcks_any t2 e B vi u8 u9 w2 hE HG2.out
      clear hE hT CT
      go_wp2_with fail
      go_at_call 106
      refine CK.mono ?_
      rintro r w3 ⟨rfl, x9, hE3, hT3⟩
      have HE3 : Hid (Ex w3 e B (ackAll t2) vi u8 x9) := hE3
      have HT3 : Hid (Tch w w3 (PX e vi vw va) (PX e vi u8 x9)) := HT2.out.trans hT3
      clear hE3 hT3 CK
      go_wp2_with fail
      go_roundg n
      case measure => omega
      case rel => exact ⟨ackAll t2, u8, x9, HL.out, HE3.out, HG3.out, HN.out, HT3.out⟩

end Go.Proofs.Ytnlppeieccbhgaa
