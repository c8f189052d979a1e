/- The model's CalmSession. -/
import Derived.Test.YtnlppeieccbhgaaSnCd
namespace Go.Proofs.Ytnlppeieccbhgaa
open Go.RowKit Plain Tpc Ssn

theorem sendM (t : Ses) (B : Nat) (vi vh vw va : Value) (w : World) (hR : SesRow w B t vi vh vw va) (hB : B ≤ w.heap.size) (hg : Gd t) (h : sendK t t.base = true) :
    Calls Try.prog 71 #[.agg #[.int .i64 t.ep, vi, .int .i64 t.base, vh, vw, va], .agg #[.int .i64 2, .int .i64 t.base, .string ⟨#[]⟩]] w fun e w' => StO w w' B vi vh vw va (sendS t t.base) (fun v => e = .returned (.tuple #[v, .bool true])) := by
  have h1 := l15Step_any t ⟨2, t.base, ⟨#[]⟩⟩ B vi vh vw va w hR hB hg (by show (⟨#[]⟩ : ByteArray).size ≤ _; decide)
  have hk : stK t ⟨2, t.base, ⟨#[]⟩⟩ = true := h
  have hs : stS t ⟨2, t.base, ⟨#[]⟩⟩ = sendS t t.base := by
    unfold stS
    rw [if_neg (by rw [hk]; decide)]
    rfl
  rw [hk, hs] at h1
  exact h1

set_option maxRecDepth 100000 in
set_option maxHeartbeats 8000000 in
theorem specCalmS (s : Ses) (vi vh vw va : Value) (w : World) (h : SesAt w w.heap.size s vi vh vw va) (hS : Shr s 9223372036854775807) :
    Calls Try.prog 38 #[s.val vi vh vw va] w fun e w' => CmO w w' e s := by
  have rc := fun (tmps : Array Value) (P : Program) (w : World) => results_cell2S (fn := Try.f38) (p := 2) (u := 3) (v := 4) (ty := 26) rfl tmps P w
  have HA : Hid (SesAt w w.heap.size s vi vh vw va) := h
  obtain ⟨ai, ci, ah, ch, aw, cw, aa, ca, rfl, rfl, rfl, rfl⟩ := h.form
  unfold Ses.val
  obtain ⟨W0, hW0⟩ : ∃ X, X = (w.alloc (.cells #[.int .i64 s.ep, .slice ai s.items.length ci, .int .i64 s.base, .slice ah s.handed.length ch, .slice aw s.way.length cw, .slice aa s.acks.length ca] 26)).alloc (.cells #[.int .i64 0, .slice none 0 0, .int .i64 0, .slice none 0 0, .slice none 0 0, .slice none 0 0] 26) := ⟨_, rfl⟩
  have hB0 : Below w.heap.size w W0 := by rw [hW0]; exact ((Below.refl _ w).alloc (Nat.le_refl _) _).alloc (by simp) _
  have hs0 : W0.heap.size = w.heap.size + 2 := by rw [hW0]; simp
  have HV0 : Hid (Sv W0 w.heap.size (.int .i64 s.ep) (.slice ai s.items.length ci) (.int .i64 s.base) (.slice ah s.handed.length ch) (.slice aw s.way.length cw) (.slice aa s.acks.length ca)) := by
    show Sv _ _ _ _ _ _ _ _
    rw [hW0]
    exact (Sv.fresh w _ _ _ _ _ _ _).below ((Below.refl _ _).alloc (Nat.le_refl _) _)
  have HZ0 : Hid (Sv W0 (w.heap.size + 1) (.int .i64 0) (.slice none 0 0) (.int .i64 0) (.slice none 0 0) (.slice none 0 0) (.slice none 0 0)) := by
    show Sv _ _ _ _ _ _ _ _
    have h := Sv.fresh (w.alloc (.cells #[.int .i64 s.ep, .slice ai s.items.length ci, .int .i64 s.base, .slice ah s.handed.length ch, .slice aw s.way.length cw, .slice aa s.acks.length ca] 26)) (.int .i64 0) (.slice none 0 0) (.int .i64 0) (.slice none 0 0) (.slice none 0 0) (.slice none 0 0) 26
    rw [hW0]
    simpa using h
  have HB0 : Hid (type_of% hB0) := hB0
  have CG := specGoodS s _ _ _ _ W0 (h.below hB0) hS
  unfold Ses.val at CG
  have HNO : Hid (gs s = false → ∀ w', Below w.heap.size w w' → CmO w w' (.returned (.tuple #[.agg #[.int .i64 0, .slice none 0 0, .int .i64 0, .slice none 0 0, .slice none 0 0, .slice none 0 0], .int .i64 0, .bool false])) s) := fun h w' hb => CmO.no h hb
  have HGD : Hid (gs s = true → Gd s) := (gs_iff s).1
  have HYES : Hid (gs s = true → ∀ w' t c ui uh uw ua, clm s = (t, c) → SesRow w' w.heap.size t ui uh uw ua → Below w.heap.size w w' → CmO w w' (.returned (.tuple #[t.val ui uh uw ua, .int .i64 ((c : Nat) : Int), .bool true])) s) := fun h w' t c ui uh uw ua hc hr hb => CmO.yes h hc hr hb
  clear h hS hB0
  generalize hG : gs s = G at CG
  cases G with
  | false =>
    have hF := HNO.out hG
    have HF : Hid (type_of% hF) := hF
    have y00 := (HV0.out).c0
    have y01 := (HV0.out).c1
    have y02 := (HV0.out).c2
    have y03 := (HV0.out).c3
    have y04 := (HV0.out).c4
    have y05 := (HV0.out).c5
    clear hF HNO hG HYES
    go_enter Try.func38, Try.ntmps38
    go_upto_region 1 with fail
    rw [← hW0]
    clear hW0
    go_wp2_with fail
    go_at_call 17
    refine CG.mono ?_
    rintro e w1 ⟨rfl, hb1⟩
    have HB1 : Hid (Below w.heap.size w w1) := HB0.out.trans (hb1.mono HB0.out.size)
    have hz := HZ0.out.below hb1
    have z0 := hz.c0
    have q0 := hz.f0
    have z1 := hz.c1
    have q1 := hz.f1
    have z2 := hz.c2
    have q2 := hz.f2
    have z3 := hz.c3
    have q3 := hz.f3
    have z4 := hz.c4
    have q4 := hz.f4
    have z5 := hz.c5
    have q5 := hz.f5
    clear hz
    clear hb1 y00 y01 y02 y03 y04 y05
    go_wp2_with fail
    (try simp only [Exit.inBlock, Exit.then])
    refine bodyPost_ret (v := .tuple #[.agg #[.int .i64 0, .slice none 0 0, .int .i64 0, .slice none 0 0, .slice none 0 0, .slice none 0 0], .int .i64 0, .bool false]) ?_ rfl (HF.out _ ?_)
    · rw [rc]
      go_simp
    · exact Below.sets6 HB1.out (by omega)
  | true =>
    have HGd : Hid (Gd s) := HGD.out hG
    have hY := HYES.out hG
    have HY : Hid (type_of% hY) := hY
    have y00 := (HV0.out).c0
    have y01 := (HV0.out).c1
    have y02 := (HV0.out).c2
    have y03 := (HV0.out).c3
    have y04 := (HV0.out).c4
    have y05 := (HV0.out).c5
    clear hG HGD HNO HYES hY
    go_enter Try.func38, Try.ntmps38
    go_upto_region 1 with fail
    rw [← hW0]
    clear hW0
    go_wp2_with fail
    go_at_call 17
    refine CG.mono ?_
    rintro e w1 ⟨rfl, hb1⟩
    have HB1 : Hid (Below W0.heap.size W0 w1) := hb1
    have hw1 : w.heap.size + 2 ≤ w1.heap.size := by have := hb1.size; omega
    clear y00 y01 y02 y03 y04 y05
    have y00 := (HV0.out.below hb1).c0
    have y01 := (HV0.out.below hb1).c1
    have y02 := (HV0.out.below hb1).c2
    have y03 := (HV0.out.below hb1).c3
    have y04 := (HV0.out.below hb1).c4
    have y05 := (HV0.out.below hb1).c5
    have CO := l15Own_any s _ _ _ _ w1 (HA.out.below (HB0.out.trans (hb1.mono HB0.out.size))) (HGd.out.sml.up (by decide))
    unfold Ses.val at CO
    have HCK : Hid (type_of% (calm_keep HGd.out)) := calm_keep HGd.out
    have HCL : Hid (clmA 31 (calm s) 0 = clm s) := rfl
    have HBS : Hid ((0 : Int) ≤ (calm s).base) := Int.le_trans HGd.out.b0 HCK.out.2.2.2.1
    clear hb1
    go_wp2_with fail
    go_at_call 72
    refine CO.mono ?_
    rintro e w2 ⟨ui, uh, uw, ua, rfl, hr2, hb2⟩
    have HV : Hid (Sv w2 w.heap.size (.int .i64 s.ep) (.slice ai s.items.length ci) (.int .i64 s.base) (.slice ah s.handed.length ch) (.slice aw s.way.length cw) (.slice aa s.acks.length ca)) := (HV0.out.below HB1.out).below hb2
    have HZ : Hid (Sv w2 (w.heap.size + 1) (.int .i64 0) (.slice none 0 0) (.int .i64 0) (.slice none 0 0) (.slice none 0 0) (.slice none 0 0)) := (HZ0.out.below HB1.out).below hb2
    have HR : Hid (SesRow w2 w1.heap.size s ui uh uw ua) := hr2
    have HBW : Hid (Below w.heap.size w w2) := (HB0.out.trans (HB1.out.mono HB0.out.size)).trans (hb2.mono (by omega))
    have CC := l15Calm_any s w1.heap.size ui uh uw ua w2 hr2 hb2.size HGd.out
    unfold Ses.val at CC
    have hsz2 : w1.heap.size ≤ w2.heap.size := hb2.size
    clear hr2 hb2 y00 y01 y02 y03 y04 y05
    have y0 := HV.out.c0
    have y1 := HV.out.c1
    have y2 := HV.out.c2
    have y3 := HV.out.c3
    have y4 := HV.out.c4
    have y5 := HV.out.c5
    go_wp2_with fail
    go_at_call 77
    refine CC.mono ?_
    rintro e w9 ⟨ui, uh, uw, ua, rfl, hr, ht⟩
    obtain ⟨ai1, ci1, ah1, ch1, aw1, cw1, aa1, ca1, rfl, rfl, rfl, rfl⟩ := hr.form
    have HV9 : Hid (Sv w9 w.heap.size (.int .i64 s.ep) (.slice ai s.items.length ci) (.int .i64 s.base) (.slice ah s.handed.length ch) (.slice aw s.way.length cw) (.slice aa s.acks.length ca)) := HV.out.step ht (fun q => by have := (HR.out.lt4 _ q).1; omega)
    have HZ9 : Hid (Sv w9 (w.heap.size + 1) (.int .i64 0) (.slice none 0 0) (.int .i64 0) (.slice none 0 0) (.slice none 0 0) (.slice none 0 0)) := HZ.out.step ht (fun q => by have := (HR.out.lt4 _ q).1; omega)
    have HR9 : Hid (SesRow w9 w1.heap.size (calm s) (.slice ai1 (calm s).items.length ci1) (.slice ah1 (calm s).handed.length ch1) (.slice aw1 (calm s).way.length cw1) (.slice aa1 (calm s).acks.length ca1)) := hr
    have HB9 : Hid (Below w.heap.size w w9) := HBW.out.trans (ht.below HBW.out.size (fun g q => by have := (HR.out.lt4 g q).1; omega))
    have hsz9 : w1.heap.size ≤ w9.heap.size := Nat.le_trans hsz2 ht.size
    clear hr ht y0 y1 y2 y3 y4 y5 HV HR HZ HBW
    unfold Ses.val
    have y0 := HV9.out.c0
    have y1 := HV9.out.c1
    have y2 := HV9.out.c2
    have y3 := HV9.out.c3
    have y4 := HV9.out.c4
    have y5 := HV9.out.c5
    have z0 := HV9.out.f0
    have z1 := HV9.out.f1
    have z2 := HV9.out.f2
    have z3 := HV9.out.f3
    have z4 := HV9.out.f4
    have z5 := HV9.out.f5
    have hw9s := hsz9
    go_wp2_with fail
    obtain ⟨wq, hwq⟩ : ∃ X, X = ((((((((((((w9).setCell ⟨w.heap.size, 0, none⟩ (.int .i64 (calm s).ep))).setCell ⟨w.heap.size, 1, none⟩ (.slice ai1 (calm s).items.length ci1))).setCell ⟨w.heap.size, 2, none⟩ (.int .i64 (calm s).base))).setCell ⟨w.heap.size, 3, none⟩ (.slice ah1 (calm s).handed.length ch1))).setCell ⟨w.heap.size, 4, none⟩ (.slice aw1 (calm s).way.length cw1))).setCell ⟨w.heap.size, 5, none⟩ (.slice aa1 (calm s).acks.length ca1)) := ⟨_, rfl⟩
    have HV : Hid (Sv wq w.heap.size (.int .i64 (calm s).ep) (.slice ai1 (calm s).items.length ci1) (.int .i64 (calm s).base) (.slice ah1 (calm s).handed.length ch1) (.slice aw1 (calm s).way.length cw1) (.slice aa1 (calm s).acks.length ca1)) := by show _; rw [hwq]; exact (by have v := HV9.out.set0 (.int .i64 (calm s).ep); exact ((((v.set1 _).set2 _).set3 _).set4 _).set5 _)
    have HR : Hid (SesRow wq w1.heap.size (calm s) (.slice ai1 (calm s).items.length ci1) (.slice ah1 (calm s).handed.length ch1) (.slice aw1 (calm s).way.length cw1) (.slice aa1 (calm s).acks.length ca1)) := by show _; rw [hwq]; exact HR9.out.set6 (fun q => by have := (HR9.out.lt4 _ q).1; omega)
    have HZ : Hid (Sv wq (w.heap.size + 1) (.int .i64 0) (.slice none 0 0) (.int .i64 0) (.slice none 0 0) (.slice none 0 0) (.slice none 0 0)) := by show _; rw [hwq]; exact (HZ9.out.apart6 (by omega))
    have HBW : Hid (Below w.heap.size w wq) := by show _; rw [hwq]; exact Below.sets6 HB9.out (Nat.le_refl _)
    have hswq : w1.heap.size ≤ wq.heap.size := by have := HB9.out.size; have h9 := hw9s; rw [hwq]; simp; omega
    clear HV9 HZ9 HR9 HB9 y0 y1 y2 y3 y4 y5 z0 z1 z2 z3 z4 z5 hw9s
    rw [← hwq]
    clear hwq hsz2
    go_loopg [5] 31 (fun k vc wr => ∃ (t : Ses) (ai2 : Option Addr) (ci2 : Nat) (ah2 : Option Addr) (ch2 : Nat) (aw2 : Option Addr) (cw2 : Nat) (aa2 : Option Addr) (ca2 : Nat) (c : Nat), k + c = 31 ∧ vc = .int .i64 (c : Int) ∧ Hid (Sv wr w.heap.size (.int .i64 t.ep) (.slice ai2 t.items.length ci2) (.int .i64 t.base) (.slice ah2 t.handed.length ch2) (.slice aw2 t.way.length cw2) (.slice aa2 t.acks.length ca2)) ∧ Hid (SesRow wr w1.heap.size t (.slice ai2 t.items.length ci2) (.slice ah2 t.handed.length ch2) (.slice aw2 t.way.length cw2) (.slice aa2 t.acks.length ca2)) ∧ Hid (Sv wr (w.heap.size + 1) (.int .i64 0) (.slice none 0 0) (.int .i64 0) (.slice none 0 0) (.slice none 0 0) (.slice none 0 0)) ∧ Hid (Below w.heap.size w wr) ∧ w1.heap.size ≤ wr.heap.size ∧ Hid (Gd t) ∧ Hid (clmA k t c = clm s) ∧ Hid ((c : Int) ≤ t.base) ∧ Hid (t.way = []) ∧ Hid (t.acks = []))
    case atStart => exact ⟨calm s, ai1, ci1, ah1, ch1, aw1, cw1, aa1, ca1, 0, rfl, rfl, HV.out, HR.out, HZ.out, HBW.out, hswq, HCK.out.2.2.2.2, HCL.out, HBS.out, HCK.out.1, HCK.out.2.1⟩
    case round =>
      clear HV HR HZ HBW hswq hsz9
      obtain ⟨t, ai2, ci2, ah2, ch2, aw2, cw2, aa2, ca2, c, hk, rfl, HV, HR, HZ, HBW, hsw, HGt, HCt, HBt, HWt, HAt⟩ := hrel
      have hsk := calm_send (s := t) HWt.out
      by_cases hlt : t.base < (t.items.length : Int)
      · have hd0 : decide (t.base < (t.items.length : Int)) = true := decide_eq_true hlt
        have hil := HGt.out.il
        have hbt := HBt.out
        obtain ⟨n, rfl⟩ : ∃ n, gk = n + 1 := ⟨gk - 1, by omega⟩
        have hsk2 : sendK t t.base = true := by rw [hsk]; exact hd0
        have hGs := HGt.out.send (k := t.base) hsk2
        have HCK2 : Hid (type_of% (calm_keep hGs)) := calm_keep hGs
        have HRI : Hid (t.base + 1 ≤ (calm (sendS t t.base)).base) := calm_rise HWt.out HAt.out HGt.out
        have HC2 : Hid (clmA n (calm (sendS t t.base)) (c + 1) = clm s) := (clmA_step hlt).symm.trans HCt.out
        have HGs : Hid (Gd (sendS t t.base)) := hGs
        have HLB : Hid ((c : Int) + 1 ≤ (calm (sendS t t.base)).base) := Int.le_trans (by omega) HRI.out
        have hc30 : (c : Int) ≤ 30 := by omega
        have hcw : IntKind.i64.wrap ((c : Int) + 1) = (c : Int) + 1 := by rw [IntKind.wrap_i64]; omega
        have CS := sendM t w1.heap.size (.slice ai2 t.items.length ci2) (.slice ah2 t.handed.length ch2) (.slice aw2 t.way.length cw2) (.slice aa2 t.acks.length ca2) wr HR.out hsw HGt.out hsk2
        clear hsk hsk2 hGs hlt hil HRI hbt
        generalize sendS t t.base = t2 at CS HCK2 HC2 HGs HLB
        have y0 := HV.out.c0
        have y1 := HV.out.c1
        have y2 := HV.out.c2
        have y3 := HV.out.c3
        have y4 := HV.out.c4
        have y5 := HV.out.c5
        go_wp2_with fail
        go_at_call 71
        refine CS.mono ?_
        rintro e w9 ⟨ui, uh, uw, ua, rfl, hr, ht⟩
        obtain ⟨ai3, ci3, ah3, ch3, aw3, cw3, aa3, ca3, rfl, rfl, rfl, rfl⟩ := hr.form
        have HV9 : Hid (Sv w9 w.heap.size (.int .i64 t.ep) (.slice ai2 t.items.length ci2) (.int .i64 t.base) (.slice ah2 t.handed.length ch2) (.slice aw2 t.way.length cw2) (.slice aa2 t.acks.length ca2)) := HV.out.step ht (fun q => by have := (HR.out.lt4 _ q).1; omega)
        have HZ9 : Hid (Sv w9 (w.heap.size + 1) (.int .i64 0) (.slice none 0 0) (.int .i64 0) (.slice none 0 0) (.slice none 0 0) (.slice none 0 0)) := HZ.out.step ht (fun q => by have := (HR.out.lt4 _ q).1; omega)
        have HR9 : Hid (SesRow w9 w1.heap.size t2 (.slice ai3 t2.items.length ci3) (.slice ah3 t2.handed.length ch3) (.slice aw3 t2.way.length cw3) (.slice aa3 t2.acks.length ca3)) := hr
        have HB9 : Hid (Below w.heap.size w w9) := HBW.out.trans (ht.below HBW.out.size (fun g q => by have := (HR.out.lt4 g q).1; omega))
        have hw9s : w1.heap.size ≤ w9.heap.size := Nat.le_trans hsw ht.size
        clear hr ht y0 y1 y2 y3 y4 y5 HV HR HZ HBW
        unfold Ses.val
        have y0 := HV9.out.c0
        have y1 := HV9.out.c1
        have y2 := HV9.out.c2
        have y3 := HV9.out.c3
        have y4 := HV9.out.c4
        have y5 := HV9.out.c5
        have z0 := HV9.out.f0
        have z1 := HV9.out.f1
        have z2 := HV9.out.f2
        have z3 := HV9.out.f3
        have z4 := HV9.out.f4
        have z5 := HV9.out.f5
        go_wp2_with fail
        obtain ⟨wq2, hwq2⟩ : ∃ X, X = ((((((((((((w9).setCell ⟨w.heap.size, 0, none⟩ (.int .i64 t2.ep))).setCell ⟨w.heap.size, 1, none⟩ (.slice ai3 t2.items.length ci3))).setCell ⟨w.heap.size, 2, none⟩ (.int .i64 t2.base))).setCell ⟨w.heap.size, 3, none⟩ (.slice ah3 t2.handed.length ch3))).setCell ⟨w.heap.size, 4, none⟩ (.slice aw3 t2.way.length cw3))).setCell ⟨w.heap.size, 5, none⟩ (.slice aa3 t2.acks.length ca3)) := ⟨_, rfl⟩
        have HV : Hid (Sv wq2 w.heap.size (.int .i64 t2.ep) (.slice ai3 t2.items.length ci3) (.int .i64 t2.base) (.slice ah3 t2.handed.length ch3) (.slice aw3 t2.way.length cw3) (.slice aa3 t2.acks.length ca3)) := by show _; rw [hwq2]; exact (by have v := HV9.out.set0 (.int .i64 t2.ep); exact ((((v.set1 _).set2 _).set3 _).set4 _).set5 _)
        have HR : Hid (SesRow wq2 w1.heap.size t2 (.slice ai3 t2.items.length ci3) (.slice ah3 t2.handed.length ch3) (.slice aw3 t2.way.length cw3) (.slice aa3 t2.acks.length ca3)) := by show _; rw [hwq2]; exact HR9.out.set6 (fun q => by have := (HR9.out.lt4 _ q).1; omega)
        have HZ : Hid (Sv wq2 (w.heap.size + 1) (.int .i64 0) (.slice none 0 0) (.int .i64 0) (.slice none 0 0) (.slice none 0 0) (.slice none 0 0)) := by show _; rw [hwq2]; exact (HZ9.out.apart6 (by omega))
        have HBW : Hid (Below w.heap.size w wq2) := by show _; rw [hwq2]; exact Below.sets6 HB9.out (Nat.le_refl _)
        have hswq2 : w1.heap.size ≤ wq2.heap.size := by have := HB9.out.size; have h9 := hw9s; rw [hwq2]; simp; omega
        clear HV9 HZ9 HR9 HB9 y0 y1 y2 y3 y4 y5 z0 z1 z2 z3 z4 z5 hw9s
        rw [← hwq2]
        clear hwq2 hd0 CS
        have CC2 := l15Calm_any t2 w1.heap.size (.slice ai3 t2.items.length ci3) (.slice ah3 t2.handed.length ch3) (.slice aw3 t2.way.length cw3) (.slice aa3 t2.acks.length ca3) wq2 HR.out hswq2 HGs.out
        unfold Ses.val at CC2
        have y0 := HV.out.c0
        have y1 := HV.out.c1
        have y2 := HV.out.c2
        have y3 := HV.out.c3
        have y4 := HV.out.c4
        have y5 := HV.out.c5
        go_wp2_with fail
        go_at_call 77
        refine CC2.mono ?_
        rintro e w9 ⟨ui, uh, uw, ua, rfl, hr, ht⟩
        obtain ⟨ai4, ci4, ah4, ch4, aw4, cw4, aa4, ca4, rfl, rfl, rfl, rfl⟩ := hr.form
        have HV9 : Hid (Sv w9 w.heap.size (.int .i64 t2.ep) (.slice ai3 t2.items.length ci3) (.int .i64 t2.base) (.slice ah3 t2.handed.length ch3) (.slice aw3 t2.way.length cw3) (.slice aa3 t2.acks.length ca3)) := HV.out.step ht (fun q => by have := (HR.out.lt4 _ q).1; omega)
        have HZ9 : Hid (Sv w9 (w.heap.size + 1) (.int .i64 0) (.slice none 0 0) (.int .i64 0) (.slice none 0 0) (.slice none 0 0) (.slice none 0 0)) := HZ.out.step ht (fun q => by have := (HR.out.lt4 _ q).1; omega)
        have HR9 : Hid (SesRow w9 w1.heap.size (calm t2) (.slice ai4 (calm t2).items.length ci4) (.slice ah4 (calm t2).handed.length ch4) (.slice aw4 (calm t2).way.length cw4) (.slice aa4 (calm t2).acks.length ca4)) := hr
        have HB9 : Hid (Below w.heap.size w w9) := HBW.out.trans (ht.below HBW.out.size (fun g q => by have := (HR.out.lt4 g q).1; omega))
        have hw9s : w1.heap.size ≤ w9.heap.size := Nat.le_trans hswq2 ht.size
        clear hr ht y0 y1 y2 y3 y4 y5 HV HR HZ HBW
        unfold Ses.val
        have y0 := HV9.out.c0
        have y1 := HV9.out.c1
        have y2 := HV9.out.c2
        have y3 := HV9.out.c3
        have y4 := HV9.out.c4
        have y5 := HV9.out.c5
        have z0 := HV9.out.f0
        have z1 := HV9.out.f1
        have z2 := HV9.out.f2
        have z3 := HV9.out.f3
        have z4 := HV9.out.f4
        have z5 := HV9.out.f5
        clear CC2
        go_wp2_with fail
        go_roundg n
        case measure => omega
        case rel => exact ⟨calm t2, ai4, ci4, ah4, ch4, aw4, cw4, aa4, ca4, c + 1, by omega, by go_num, (by have v := HV9.out.set0 (.int .i64 (calm t2).ep); exact ((((v.set1 _).set2 _).set3 _).set4 _).set5 _), HR9.out.set6 (fun q => by have := (HR9.out.lt4 _ q).1; omega), (HZ9.out.apart6 (by omega)), Below.sets6 HB9.out (Nat.le_refl _), by simpa using hw9s, HCK2.out.2.2.2.2, HC2.out, HLB.out, HCK2.out.1, HCK2.out.2.1⟩
      · have hd0 : decide (t.base < (t.items.length : Int)) = false := decide_eq_false hlt
        have HCE : Hid (clm s = (t, c)) := HCt.out.symm.trans (clmA_end hlt)
        have CO2 := l15Own_any t (.slice ai2 t.items.length ci2) (.slice ah2 t.handed.length ch2) (.slice aw2 t.way.length cw2) (.slice aa2 t.acks.length ca2) wr HR.out.at (HGt.out.sml.up (by decide))
        unfold Ses.val at CO2
        clear hsk hlt
        have y0 := HV.out.c0
        have y1 := HV.out.c1
        have y2 := HV.out.c2
        have y3 := HV.out.c3
        have y4 := HV.out.c4
        have y5 := HV.out.c5
        go_wp2_with fail
        go_at_call 72
        refine CO2.mono ?_
        rintro e w6 ⟨ui4, uh4, uw4, ua4, rfl, hr4, hb4⟩
        have HBW4 : Hid (Below w.heap.size w w6) := HBW.out.trans (hb4.mono HBW.out.size)
        have HR4 : Hid (SesRow w6 wr.heap.size t ui4 uh4 uw4 ua4) := hr4
        have hs3 : w.heap.size + 1 < wr.heap.size := by omega
        obtain ⟨ai4, ci4, ah4, ch4, aw4, cw4, aa4, ca4, rfl, rfl, rfl, rfl⟩ := hr4.form
        have hz := HZ.out.below hb4
        have x0 := hz.c0
        have x1 := hz.c1
        have x2 := hz.c2
        have x3 := hz.c3
        have x4 := hz.c4
        have x5 := hz.c5
        have q0 := hz.f0
        have q1 := hz.f1
        have q2 := hz.f2
        have q3 := hz.f3
        have q4 := hz.f4
        have q5 := hz.f5
        clear hz hr4 hb4 y0 y1 y2 y3 y4 y5
        go_wp2_with fail
        (try simp only [Exit.inBlock, Exit.then])
        refine bodyPost_ret (v := .tuple #[.agg #[.int .i64 t.ep, .slice ai4 t.items.length ci4, .int .i64 t.base, .slice ah4 t.handed.length ch4, .slice aw4 t.way.length cw4, .slice aa4 t.acks.length ca4], .int .i64 (c : Int), .bool true]) ?_ rfl (HY.out _ _ _ _ _ _ _ HCE.out ?_ ?_)
        · rw [rc]
          go_simp
        · exact SesRow.set6 (HR4.out.lower (by omega)) (fun q => by have := (HR4.out.lt4 _ q).1; omega)
        · exact Below.sets6 HBW4.out (by omega)

end Go.Proofs.Ytnlppeieccbhgaa
