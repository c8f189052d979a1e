/- The program's: all acks are taken; all packets, each followed by all acks. The program's CalmSession. -/
import Derived.Test.YtnlppeieccbhgaaXy
import Derived.Test.YtnlppeieccbhgaaXs
import Derived.Test.YtnlppeieccbhgaaSnTp
import Derived.Deep.LoopGhost
import Derived.Test.YtnlppeieccbhgaaSnSd
import Derived.Test.YtnlppeieccbhgaaSnTo
namespace Go.Proofs.Ytnlppeieccbhgaa
open Go.RowKit Plain Tpc Ssn

set_option maxRecDepth 100000 in
set_option maxHeartbeats 4000000 in
theorem takeAcks_any (s : Ses) (e B : Nat) (vi vw va : Value) (w : World) (h : Ex w e B s vi vw va) (hg : Gd s) :
    Calls Try.prog 106 #[.pointer (some ⟨e, 0, none⟩)] w fun r w' => r = .returned (.tuple #[]) ∧ ∃ v9, Ex w' e B (ackAll s) vi vw v9 ∧ Tch w w' (PX e vi vw va) (PX e vi vw v9) := by
  have HE0 : Hid (Ex w e B s vi vw va) := h
  have HG0 : Hid (Gd s) := hg
  clear h hg
  go_enter Try.func106, Try.ntmps106
  go_wp2
  go_loopg [] (s.acks.length) (fun k wr => ∃ (t : Ses) (v : Value), t.acks.length = k ∧ Hid (Ex wr e B t vi vw v) ∧ Hid (Gd t) ∧ Hid (ackAll t = ackAll s) ∧ Hid (Tch w wr (PX e vi vw va) (PX e vi vw v)))
  case atStart => exact ⟨s, va, rfl, HE0.out, HG0.out, rfl, Tch.refl _ _⟩
  case round =>
    obtain ⟨t, v, hk, HE, HG, HA, HT⟩ := hrel
    have CT := takeAckE_any t e B vi vw v 0 wr HE.out HG.out
    have hin : inA t 0 = decide (0 < gk) := by
      unfold inA
      rw [hk]
      by_cases h : 0 < gk
      · rw [decide_eq_true h]; exact decide_eq_true ⟨by omega, by omega⟩
      · rw [decide_eq_false h]; exact decide_eq_false (fun q => h (by omega))
    rw [hin] at CT
    cases gk with
    | zero =>
      rw [decide_eq_false (by omega), if_neg (by decide)] at CT
      have HN : Hid (ackAll t = t) := ackAll_nil hk
      clear hin hk
      go_wp2_with fail
      go_at_call 104
      refine CT.mono ?_
      rintro r w2 ⟨rfl, v9, hE, hT⟩
      go_wp2_with fail
      go_end0
      refine ⟨rfl, v9, ?_, HT.out.trans hT⟩
      rw [← HA.out, HN.out]
      exact hE
    | succ n =>
      rw [decide_eq_true (by omega), if_pos rfl] at CT
      have HN : Hid (ackAll (ackS t 0) = ackAll s) := (ackAll_step (by omega)).trans HA.out
      have HL : Hid ((ackS t 0).acks.length = n) := by
        show (outA t.acks (Int.toNat 0)).length = n
        rw [show Int.toNat 0 = 0 from rfl, outA_len]; omega
      have HG2 : Hid (Gd (ackS t 0)) := HG.out.ack (by rw [hin]; exact decide_eq_true (by omega))
      clear hin hk
      generalize ackS t 0 = t2 at CT HN HL HG2
      go_wp2_with fail
      go_at_call 104
      refine CT.mono ?_
      rintro r w2 ⟨rfl, v9, hE, hT⟩
      have HE2 : Hid (Ex w2 e B t2 vi vw v9) := hE
      have HT2 : Hid (Tch w w2 (PX e vi vw va) (PX e vi vw v9)) := HT.out.trans hT
      clear hE hT CT
      go_wp2_with fail
      go_roundg n
      case measure => omega
      case rel => exact ⟨t2, v9, HL.out, HE2.out, HG2.out, HN.out, HT2.out⟩

set_option maxRecDepth 100000 in
set_option maxHeartbeats 4000000 in
theorem takeAll_any (s : Ses) (e B : Nat) (vi vw va : Value) (w : World) (h : Ex w e B s vi vw va) (hg : Gd s) :
    Calls Try.prog 78 #[.pointer (some ⟨e, 0, none⟩)] w fun r w' => r = .returned (.tuple #[]) ∧ ∃ v8 v9, Ex w' e B (calm s) vi v8 v9 ∧ Tch w w' (PX e vi vw va) (PX e vi v8 v9) := by
  have CA := takeAcks_any s e B vi vw va w h hg
  have HG0 : Hid (Gd (ackAll s)) := ackAll_good hg
  clear h hg
  go_enter Try.func78, Try.ntmps78
  go_wp2_with fail
  go_at_call 106
  refine CA.mono ?_
  rintro r w1 ⟨rfl, va1, hE1, hT1⟩
  have HE1 : Hid (Ex w1 e B (ackAll s) vi vw va1) := hE1
  have HT1 : Hid (Tch w w1 (PX e vi vw va) (PX e vi vw va1)) := hT1
  clear hE1 hT1 CA
  go_wp2_with fail
  go_loopg [] ((ackAll s).way.length) (fun k wr => ∃ (t : Ses) (v8 v9 : Value), t.way.length = k ∧ Hid (Ex wr e B t vi v8 v9) ∧ Hid (Gd t) ∧ Hid (calmB t = calm s) ∧ Hid (Tch w wr (PX e vi vw va) (PX e vi v8 v9)))
  case atStart => exact ⟨ackAll s, vw, va1, rfl, HE1.out, HG0.out, rfl, HT1.out⟩
  case round =>
    obtain ⟨t, v8, v9, hk, HE, HG, HA, HT⟩ := hrel
    have CT := takePacketE_any t e B vi v8 v9 0 wr HE.out HG.out
    have hin : inW t 0 = decide (0 < gk) := by
      unfold inW
      rw [hk]
      by_cases h : 0 < gk
      · rw [decide_eq_true h]; exact decide_eq_true ⟨by omega, by omega⟩
      · rw [decide_eq_false h]; exact decide_eq_false (fun q => h (by omega))
    rw [hin] at CT
    cases gk with
    | zero =>
      rw [decide_eq_false (by omega), if_neg (by decide)] at CT
      have HN : Hid (calmB t = t) := calmB_nil hk
      clear hin hk
      go_wp2_with fail
      go_at_call 100
      refine CT.mono ?_
      rintro r w2 ⟨rfl, u8, u9, hE, hT⟩
      go_wp2_with fail
      go_end0
      refine ⟨rfl, u8, u9, ?_, HT.out.trans hT⟩
      rw [← HA.out, HN.out]
      exact hE
    | succ n =>
      rw [decide_eq_true (by omega), if_pos rfl] at CT
      have HN : Hid (calmB (ackAll (takeS t 0)) = calm s) := (calmB_step (by omega)).trans HA.out
      have HL : Hid ((ackAll (takeS t 0)).way.length = n) := by
        show _ = _
        rw [ackAll_way, takeS_way, outP_len]; omega
      have hG2 := HG.out.take (k := 0) (by rw [hin]; exact decide_eq_true (by omega))
      have HG2 : Hid (Gd (takeS t 0)) := hG2
      have HG3 : Hid (Gd (ackAll (takeS t 0))) := ackAll_good hG2
      clear hin hk hG2
      generalize takeS t 0 = t2 at CT HN HL HG2 HG3
      go_wp2_with fail
      go_at_call 100
      refine CT.mono ?_
      rintro r w2 ⟨rfl, u8, u9, hE, hT⟩
      have HT2 : Hid (Tch w w2 (PX e vi vw va) (PX e vi u8 u9)) := HT.out.trans hT
      have CK := takeAcks_any t2 e B vi u8 u9 w2 hE HG2.out
      clear hE hT CT
      go_wp2_with fail
      go_at_call 106
      refine CK.mono ?_
      rintro r w3 ⟨rfl, x9, hE3, hT3⟩
      have HE3 : Hid (Ex w3 e B (ackAll t2) vi u8 x9) := hE3
      have HT3 : Hid (Tch w w3 (PX e vi vw va) (PX e vi u8 x9)) := HT2.out.trans hT3
      clear hE3 hT3 CK
      go_wp2_with fail
      go_roundg n
      case measure => omega
      case rel => exact ⟨ackAll t2, u8, x9, HL.out, HE3.out, HG3.out, HN.out, HT3.out⟩

end Go.Proofs.Ytnlppeieccbhgaa

namespace Go.Proofs.Ytnlppeieccbhgaa
open Go.RowKit Plain Tpc Ssn

theorem Ex.bel {w w2 : World} {e B N : Nat} {s : Ses} {vi vw va : Value} {P' : Nat → Prop} (h : Ex w e B s vi vw va) (t : Tch w w2 (PX e vi vw va) P') (hN : N ≤ B) (hs : N ≤ w.heap.size) : Below N w w2 :=
  t.below hs (fun g hg => by
    rcases hg with rfl | hg
    · exact Nat.le_trans hN h.b
    · exact Nat.le_trans hN (h.r.lt4 g hg).1)

set_option maxRecDepth 100000 in
set_option maxHeartbeats 8000000 in
theorem implCalmS (s : Ses) (vi vh vw va : Value) (w : World) (h : SesAt w w.heap.size s vi vh vw va) (hS : Shr s 9223372036854775807) :
    Calls Try.prog 39 #[s.val vi vh vw va] w fun e w' => CmO w w' e s := by
  have rc := fun (tmps : Array Value) (P : Program) (w : World) => results_cell2S (fn := Try.f39) (p := 2) (u := 3) (v := 4) (ty := 26) rfl tmps P w
  have HA : Hid (SesAt w w.heap.size s vi vh vw va) := h
  obtain ⟨ai, ci, ah, ch, aw, cw, aa, ca, rfl, rfl, rfl, rfl⟩ := h.form
  unfold Ses.val
  obtain ⟨W0, hW0⟩ : ∃ X, X = (w.alloc (.cells #[.int .i64 s.ep, .slice ai s.items.length ci, .int .i64 s.base, .slice ah s.handed.length ch, .slice aw s.way.length cw, .slice aa s.acks.length ca] 26)).alloc (.cells #[.int .i64 0, .slice none 0 0, .int .i64 0, .slice none 0 0, .slice none 0 0, .slice none 0 0] 26) := ⟨_, rfl⟩
  have hB0 : Below w.heap.size w W0 := by rw [hW0]; exact ((Below.refl _ w).alloc (Nat.le_refl _) _).alloc (by simp) _
  have hs0 : W0.heap.size = w.heap.size + 2 := by rw [hW0]; simp
  have HV0 : Hid (Sv W0 w.heap.size (.int .i64 s.ep) (.slice ai s.items.length ci) (.int .i64 s.base) (.slice ah s.handed.length ch) (.slice aw s.way.length cw) (.slice aa s.acks.length ca)) := by
    show Sv _ _ _ _ _ _ _ _
    rw [hW0]
    exact (Sv.fresh w _ _ _ _ _ _ _).below ((Below.refl _ _).alloc (Nat.le_refl _) _)
  have HZ0 : Hid (Sv W0 (w.heap.size + 1) (.int .i64 0) (.slice none 0 0) (.int .i64 0) (.slice none 0 0) (.slice none 0 0) (.slice none 0 0)) := by
    show Sv _ _ _ _ _ _ _ _
    have h := Sv.fresh (w.alloc (.cells #[.int .i64 s.ep, .slice ai s.items.length ci, .int .i64 s.base, .slice ah s.handed.length ch, .slice aw s.way.length cw, .slice aa s.acks.length ca] 26)) (.int .i64 0) (.slice none 0 0) (.int .i64 0) (.slice none 0 0) (.slice none 0 0) (.slice none 0 0) 26
    rw [hW0]
    simpa using h
  have HB0 : Hid (type_of% hB0) := hB0
  have CG := implGoodS s _ _ _ _ W0 (h.below hB0) hS
  unfold Ses.val at CG
  have HNO : Hid (gs s = false → ∀ w', Below w.heap.size w w' → CmO w w' (.returned (.tuple #[.agg #[.int .i64 0, .slice none 0 0, .int .i64 0, .slice none 0 0, .slice none 0 0, .slice none 0 0], .int .i64 0, .bool false])) s) := fun h w' hb => CmO.no h hb
  have HGD : Hid (gs s = true → Gd s) := (gs_iff s).1
  have HYES : Hid (gs s = true → ∀ w' t c ui uh uw ua, clm s = (t, c) → SesRow w' w.heap.size t ui uh uw ua → Below w.heap.size w w' → CmO w w' (.returned (.tuple #[t.val ui uh uw ua, .int .i64 ((c : Nat) : Int), .bool true])) s) := fun h w' t c ui uh uw ua hc hr hb => CmO.yes h hc hr hb
  clear h hS hB0
  generalize hG : gs s = G at CG
  cases G with
  | false =>
    have hF := HNO.out hG
    have HF : Hid (type_of% hF) := hF
    have y00 := (HV0.out).c0
    have y01 := (HV0.out).c1
    have y02 := (HV0.out).c2
    have y03 := (HV0.out).c3
    have y04 := (HV0.out).c4
    have y05 := (HV0.out).c5
    clear hF HNO hG HYES
    go_enter Try.func39, Try.ntmps39
    go_upto_region 1 with fail
    rw [← hW0]
    clear hW0
    go_wp2_with fail
    go_at_call 19
    refine CG.mono ?_
    rintro e w1 ⟨rfl, hb1⟩
    have HB1 : Hid (Below w.heap.size w w1) := HB0.out.trans (hb1.mono HB0.out.size)
    have hz := HZ0.out.below hb1
    have z0 := hz.c0
    have q0 := hz.f0
    have z1 := hz.c1
    have q1 := hz.f1
    have z2 := hz.c2
    have q2 := hz.f2
    have z3 := hz.c3
    have q3 := hz.f3
    have z4 := hz.c4
    have q4 := hz.f4
    have z5 := hz.c5
    have q5 := hz.f5
    clear hz
    clear hb1 y00 y01 y02 y03 y04 y05
    go_wp2_with fail
    (try simp only [Exit.inBlock, Exit.then])
    refine bodyPost_ret (v := .tuple #[.agg #[.int .i64 0, .slice none 0 0, .int .i64 0, .slice none 0 0, .slice none 0 0, .slice none 0 0], .int .i64 0, .bool false]) ?_ rfl (HF.out _ ?_)
    · rw [rc]
      go_simp
    · exact Below.sets6 HB1.out (by omega)
  | true =>
    have HGd : Hid (Gd s) := HGD.out hG
    have hY := HYES.out hG
    have HY : Hid (type_of% hY) := hY
    have y00 := (HV0.out).c0
    have y01 := (HV0.out).c1
    have y02 := (HV0.out).c2
    have y03 := (HV0.out).c3
    have y04 := (HV0.out).c4
    have y05 := (HV0.out).c5
    clear hG HGD HNO HYES hY
    go_enter Try.func39, Try.ntmps39
    go_upto_region 1 with fail
    rw [← hW0]
    clear hW0
    go_wp2_with fail
    go_at_call 19
    refine CG.mono ?_
    rintro e w1 ⟨rfl, hb1⟩
    have HB1 : Hid (Below W0.heap.size W0 w1) := hb1
    clear y00 y01 y02 y03 y04 y05
    have y00 := (HV0.out.below hb1).c0
    have y01 := (HV0.out.below hb1).c1
    have y02 := (HV0.out.below hb1).c2
    have y03 := (HV0.out.below hb1).c3
    have y04 := (HV0.out.below hb1).c4
    have y05 := (HV0.out.below hb1).c5
    have CE := exchangeOf_any s _ _ _ _ w1 (HA.out.below (HB0.out.trans (hb1.mono HB0.out.size))) (HGd.out.sml.up (by decide)) HGd.out
    unfold Ses.val at CE
    clear hb1
    go_wp2_with fail
    go_at_call 73
    refine CE.mono ?_
    rintro e w2 ⟨b, ui, uw, ua, rfl, hE, hb2⟩
    have HE : Hid (Ex w2 b w1.heap.size s ui uw ua) := hE
    have HB2 : Hid (Below W0.heap.size W0 w2) := HB1.out.trans (hb2.mono HB1.out.size)
    have HN : Hid (W0.heap.size ≤ w1.heap.size) := HB1.out.size
    have CT := takeAll_any s b w1.heap.size ui uw ua w2 hE HGd.out
    have HCK : Hid (type_of% (calm_keep HGd.out)) := calm_keep HGd.out
    have HCL : Hid (clmA 31 (calm s) 0 = clm s) := rfl
    have HBS : Hid ((0 : Int) ≤ (calm s).base) := Int.le_trans HGd.out.b0 HCK.out.2.2.2.1
    clear y00 y01 y02 y03 y04 y05 hE hb2
    go_wp2_with fail
    go_at_call 78
    refine CT.mono ?_
    rintro e w3 ⟨rfl, v8, v9, hE3, hT3⟩
    have HE3 : Hid (Ex w3 b w1.heap.size (calm s) ui v8 v9) := hE3
    have HB3 : Hid (Below W0.heap.size W0 w3) := HB2.out.trans (HE.out.bel hT3 HN.out HB2.out.size)
    clear hE3 hT3
    generalize calm s = t0 at HCK HCL HBS HE3
    go_wp2_with fail
    go_loopg [6] 31 (fun k vc wr => ∃ (t : Ses) (v7 v8 v9 : Value) (c : Nat), k + c = 31 ∧ vc = .int .i64 (c : Int) ∧ Hid (Ex wr b w1.heap.size t v7 v8 v9) ∧ Hid (Gd t) ∧ Hid (clmA k t c = clm s) ∧ Hid ((c : Int) ≤ t.base) ∧ Hid (t.way = []) ∧ Hid (t.acks = []) ∧ Hid (Below W0.heap.size W0 wr))
    case atStart => exact ⟨t0, ui, v8, v9, 0, rfl, rfl, HE3.out, HCK.out.2.2.2.2, HCL.out, HBS.out, HCK.out.1, HCK.out.2.1, HB3.out⟩
    case round =>
      obtain ⟨t, v7, x8, x9, c, hk, rfl, HEt, HGt, HCt, HBt, HWt, HAt, HBW⟩ := hrel
      have CN := now_any b 1 t.base wr HEt.out.v.c1
      have CS := send_any t t.base b w1.heap.size v7 x8 x9 wr HEt.out HGt.out
      have hsk := calm_send (s := t) HWt.out
      rw [hsk] at CS
      by_cases hlt : t.base < (t.items.length : Int)
      · rw [decide_eq_true hlt, if_pos rfl] at CS
        have hil := HGt.out.il
        have hbt := HBt.out
        obtain ⟨n, rfl⟩ : ∃ n, gk = n + 1 := ⟨gk - 1, by omega⟩
        have hGs := HGt.out.send (k := t.base) (by rw [hsk]; exact decide_eq_true hlt)
        have HCK2 : Hid (type_of% (calm_keep hGs)) := calm_keep hGs
        have HRI : Hid (t.base + 1 ≤ (calm (sendS t t.base)).base) := calm_rise HWt.out HAt.out HGt.out
        have HC2 : Hid (clmA n (calm (sendS t t.base)) (c + 1) = clm s) := (clmA_step hlt).symm.trans HCt.out
        have HGs : Hid (Gd (sendS t t.base)) := hGs
        have HLB : Hid ((c : Int) + 1 ≤ (calm (sendS t t.base)).base) := Int.le_trans (by omega) HRI.out
        have hc30 : (c : Int) ≤ 30 := by omega
        have hcw : IntKind.i64.wrap ((c : Int) + 1) = (c : Int) + 1 := by rw [IntKind.wrap_i64]; omega
        clear hsk hGs hlt hil HRI
        generalize sendS t t.base = t2 at CS HCK2 HC2 HGs HLB
        go_wp2_with fail
        go_at_call 80
        refine CN.mono ?_
        rintro e w4 ⟨rfl, hw4⟩
        have hw4 := hw4.symm
        subst hw4
        go_wp2_with fail
        go_at_call 79
        refine CS.mono ?_
        rintro e w5 ⟨rfl, y9, hE5, hT5⟩
        have HE5 : Hid (Ex w5 b w1.heap.size t2 v7 y9 x9) := hE5
        have HB5 : Hid (Below W0.heap.size W0 w5) := HBW.out.trans (HEt.out.bel hT5 HN.out HBW.out.size)
        have CT2 := takeAll_any t2 b w1.heap.size v7 y9 x9 w5 hE5 HGs.out
        clear hE5 hT5 CS
        go_wp2_with fail
        go_at_call 78
        refine CT2.mono ?_
        rintro e w6 ⟨rfl, a8, a9, hE6, hT6⟩
        have HE6 : Hid (Ex w6 b w1.heap.size (calm t2) v7 a8 a9) := hE6
        have HB6 : Hid (Below W0.heap.size W0 w6) := HB5.out.trans (HE5.out.bel hT6 HN.out HB5.out.size)
        clear hE6 hT6 CT2
        generalize calm t2 = t3 at HCK2 HC2 HLB HE6
        go_wp2_with fail
        go_roundg n
        case measure => omega
        case rel => exact ⟨t3, v7, a8, a9, c + 1, by omega, by go_num, HE6.out, HCK2.out.2.2.2.2, HC2.out, HLB.out, HCK2.out.1, HCK2.out.2.1, HB6.out⟩
      · rw [decide_eq_false hlt, if_neg (by decide)] at CS
        have HCE : Hid (clm s = (t, c)) := HCt.out.symm.trans (clmA_end hlt)
        clear hsk hlt
        go_wp2_with fail
        go_at_call 80
        refine CN.mono ?_
        rintro e w4 ⟨rfl, hw4⟩
        have hw4 := hw4.symm
        subst hw4
        go_wp2_with fail
        go_at_call 79
        refine CS.mono ?_
        rintro e w5 ⟨rfl, y9, hE5, hT5⟩
        have HB5 : Hid (Below W0.heap.size W0 w5) := HBW.out.trans (HEt.out.bel hT5 HN.out HBW.out.size)
        have CO := told_any t b w1.heap.size v7 y9 x9 w5 hE5 HGt.out
        unfold Ses.val at CO
        clear hE5 hT5 CS
        go_wp2_with fail
        go_at_call 75
        refine CO.mono ?_
        rintro e w6 ⟨ui4, uh4, uw4, ua4, rfl, hr4, hb4⟩
        have HB4 : Hid (Below W0.heap.size W0 w6) := HB5.out.trans (hb4.mono HB5.out.size)
        have HBW4 : Hid (Below w.heap.size w w6) := HB0.out.trans (HB4.out.mono HB0.out.size)
        have HR4 : Hid (SesRow w6 w5.heap.size t ui4 uh4 uw4 ua4) := hr4
        have hs3 : w.heap.size + 1 < w5.heap.size := by have := HB5.out.size; omega
        obtain ⟨ai4, ci4, ah4, ch4, aw4, cw4, aa4, ca4, rfl, rfl, rfl, rfl⟩ := hr4.form
        have hz := HZ0.out.below HB4.out
        have z0 := hz.c0
        have q0 := hz.f0
        have z1 := hz.c1
        have q1 := hz.f1
        have z2 := hz.c2
        have q2 := hz.f2
        have z3 := hz.c3
        have q3 := hz.f3
        have z4 := hz.c4
        have q4 := hz.f4
        have z5 := hz.c5
        have q5 := hz.f5
        clear hz
        clear hr4 hb4
        go_wp2_with fail
        (try simp only [Exit.inBlock, Exit.then])
        refine bodyPost_ret (v := .tuple #[.agg #[.int .i64 t.ep, .slice ai4 t.items.length ci4, .int .i64 t.base, .slice ah4 t.handed.length ch4, .slice aw4 t.way.length cw4, .slice aa4 t.acks.length ca4], .int .i64 (c : Int), .bool true]) ?_ rfl (HY.out _ _ _ _ _ _ _ HCE.out ?_ ?_)
        · rw [rc]
          go_simp
        · exact SesRow.set6 (HR4.out.lower (by omega)) (fun q => by have := (HR4.out.lt4 _ q).1; omega)
        · exact Below.sets6 HBW4.out (by omega)

end Go.Proofs.Ytnlppeieccbhgaa
