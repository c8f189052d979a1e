/- The model's WhereIs and GapsIn. -/
import Derived.Test.YtfkhbbmnjndmcaaQsH
namespace Go.Proofs.Ytfkhbbmnjndmcaa
open Go.RowKit Plain Qus

set_option maxRecDepth 100000 in
set_option maxHeartbeats 4000000 in
theorem specWhere (q : Qu) (no : Int) (v1 v2 v3 : Value) (w : World) (h : QuAt w w.heap.size q v1 v2 v3) (hl : SmlQ q 1048576) :
    Calls Try.prog 33 #[q.val v1 v2 v3, .int .i64 no] w fun e w' => e = .returned (.tuple #[.int .i64 (whQ q no).1, .bool (whQ q no).2]) ∧ Below w.heap.size w w' := by
  have l1 := hl.a
  have l2 := hl.b
  obtain ⟨W0, hW0⟩ : ∃ W, W = w.alloc (.cells #[.int .i64 q.cap, .int .i64 q.rule, .int .i64 q.next, v1, v2, v3] 24) := ⟨_, rfl⟩
  have hB0 : Below w.heap.size w W0 := by rw [hW0]; exact (Below.refl _ w).alloc (Nat.le_refl _) _
  have V1 : Sv W0 w.heap.size (.int .i64 q.cap) (.int .i64 q.rule) (.int .i64 q.next) v1 v2 v3 := by rw [hW0]; exact Sv.fresh w _ _ _ _ _ _ _
  have CL := specGoodQ q v1 v2 v3 W0 (h.below hB0) hl
  have HA : Hid (QuAt W0 W0.heap.size q v1 v2 v3) := h.below hB0
  obtain ⟨a1, c1, a2, c2, a3, c3, rfl, rfl, rfl⟩ := h.form
  unfold Qu.val at CL ⊢
  have HB : Hid (type_of% hB0) := hB0
  have HX0 : Hid (type_of% V1) := V1
  have y0 := V1.c0
  have y1 := V1.c1
  have y2 := V1.c2
  have y3 := V1.c3
  have y4 := V1.c4
  have y5 := V1.c5
  clear h V1 hB0
  clear hl
  cases hK : gq q with
  | false =>
    have HQ : Hid (whQ q no = (0, false)) := by show _ = _; unfold whQ; rw [if_neg (by rw [hK]; simp)]
    rw [hK] at CL
    clear hK
    go_enter Try.func33, Try.ntmps33
    go_upto_region 1 with fail
    rw [← hW0]
    clear hW0
    go_wp2_with fail
    go_at_call 18
    refine CL.mono ?_
    rintro e w1 ⟨rfl, hb1⟩
    have X1 := HX0.out.below hb1
    have HA1 : Hid (type_of% (HA.out.below hb1)) := HA.out.below hb1
    have HE : Hid (Below w.heap.size w w1) := HB.out.trans (hb1.mono HB.out.size)
    clear hb1 CL y0 y1 y2 y3 y4 y5
    have y2 := X1.c2
    have y3 := X1.c3
    have y4 := X1.c4
    clear X1
    go_wp2_with fail
    go_ret2
    exact ⟨by rw [HQ.out]; rfl, HE.out⟩
  | true =>
    have HN : Hid (¬ (0 ≤ no ∧ no < q.next) → whQ q no = (0, false)) := fun h => by
      unfold whQ
      rw [if_neg (fun g => h g.2)]
    have HW : Hid (0 ≤ no ∧ no < q.next → whQ q no = (if no ∈ q.wt then 1 else if no ∈ q.hd then 2 else 3, true)) := fun h => by
      unfold whQ
      rw [if_pos ⟨hK, h⟩]
    rw [hK] at CL
    clear hK
    by_cases n0 : no < 0
    · have d0 : decide (no < 0) = true := by simpa using n0
      have HQ : Hid (whQ q no = (0, false)) := HN.out (by omega)
      clear n0 HW HN
      go_enter Try.func33, Try.ntmps33
      go_upto_region 1 with fail
      rw [← hW0]
      clear hW0
      go_wp2_with fail
      go_at_call 18
      refine CL.mono ?_
      rintro e w1 ⟨rfl, hb1⟩
      have X1 := HX0.out.below hb1
      have HA1 : Hid (type_of% (HA.out.below hb1)) := HA.out.below hb1
      have HE : Hid (Below w.heap.size w w1) := HB.out.trans (hb1.mono HB.out.size)
      clear hb1 CL y0 y1 y2 y3 y4 y5
      have y2 := X1.c2
      have y3 := X1.c3
      have y4 := X1.c4
      clear X1
      go_wp2_with fail
      go_ret2
      exact ⟨by rw [HQ.out]; rfl, HE.out⟩
    · have d0 : decide (no < 0) = false := by simpa using n0
      by_cases n1 : q.next ≤ no
      · have d1 : decide (q.next ≤ no) = true := by simpa using n1
        have HQ : Hid (whQ q no = (0, false)) := HN.out (by omega)
        clear n0 n1 HW HN
        go_enter Try.func33, Try.ntmps33
        go_upto_region 1 with fail
        rw [← hW0]
        clear hW0
        go_wp2_with fail
        go_at_call 18
        refine CL.mono ?_
        rintro e w1 ⟨rfl, hb1⟩
        have X1 := HX0.out.below hb1
        have HA1 : Hid (type_of% (HA.out.below hb1)) := HA.out.below hb1
        have HE : Hid (Below w.heap.size w w1) := HB.out.trans (hb1.mono HB.out.size)
        clear hb1 CL y0 y1 y2 y3 y4 y5
        have y2 := X1.c2
        have y3 := X1.c3
        have y4 := X1.c4
        clear X1
        go_wp2_with fail
        go_ret2
        exact ⟨by rw [HQ.out]; rfl, HE.out⟩
      · have d1 : decide (q.next ≤ no) = false := by simpa using n1
        have HW2 := HW.out (by omega)
        clear n0 n1 HW HN
        by_cases m1 : no ∈ q.wt
        · have HQ : Hid (whQ q no = (1, true)) := by show _ = _; rw [HW2, if_pos m1]
          go_enter Try.func33, Try.ntmps33
          go_upto_region 1 with fail
          rw [← hW0]
          clear hW0
          go_wp2_with fail
          go_at_call 18
          refine CL.mono ?_
          rintro e w1 ⟨rfl, hb1⟩
          have X1 := HX0.out.below hb1
          have HA1 : Hid (type_of% (HA.out.below hb1)) := HA.out.below hb1
          have HE : Hid (Below w.heap.size w w1) := HB.out.trans (hb1.mono HB.out.size)
          clear hb1 CL y0 y1 y2 y3 y4 y5
          have y2 := X1.c2
          have y3 := X1.c3
          have y4 := X1.c4
          clear X1
          have CH := l1Has_any q.wt no _ w1 HA1.out.a (by omega)
          rw [decide_eq_true m1] at CH
          clear m1 HW2
          go_wp2_with fail
          go_at_call 56
          refine CH.mono ?_
          rintro e w2 ⟨rfl, hw⟩
          have hw := hw.symm
          subst hw
          go_wp2_with fail
          go_ret2
          exact ⟨by rw [HQ.out]; rfl, HE.out⟩
        · by_cases m2 : no ∈ q.hd
          · have HQ : Hid (whQ q no = (2, true)) := by show _ = _; rw [HW2, if_neg m1, if_pos m2]
            go_enter Try.func33, Try.ntmps33
            go_upto_region 1 with fail
            rw [← hW0]
            clear hW0
            go_wp2_with fail
            go_at_call 18
            refine CL.mono ?_
            rintro e w1 ⟨rfl, hb1⟩
            have X1 := HX0.out.below hb1
            have HA1 : Hid (type_of% (HA.out.below hb1)) := HA.out.below hb1
            have HE : Hid (Below w.heap.size w w1) := HB.out.trans (hb1.mono HB.out.size)
            clear hb1 CL y0 y1 y2 y3 y4 y5
            have y2 := X1.c2
            have y3 := X1.c3
            have y4 := X1.c4
            clear X1
            have CH := l1Has_any q.wt no _ w1 HA1.out.a (by omega)
            have CH2 := l1Has_any q.hd no _ w1 HA1.out.b (by omega)
            rw [decide_eq_false m1] at CH
            rw [decide_eq_true m2] at CH2
            clear m1 m2 HW2
            go_wp2_with fail
            go_at_call 56
            refine CH.mono ?_
            rintro e w2 ⟨rfl, hw⟩
            have hw := hw.symm
            subst hw
            go_wp2_with fail
            go_at_call 56
            refine CH2.mono ?_
            rintro e w2 ⟨rfl, hw⟩
            have hw := hw.symm
            subst hw
            go_wp2_with fail
            go_ret2
            exact ⟨by rw [HQ.out]; rfl, HE.out⟩
          · have HQ : Hid (whQ q no = (3, true)) := by show _ = _; rw [HW2, if_neg m1, if_neg m2]
            go_enter Try.func33, Try.ntmps33
            go_upto_region 1 with fail
            rw [← hW0]
            clear hW0
            go_wp2_with fail
            go_at_call 18
            refine CL.mono ?_
            rintro e w1 ⟨rfl, hb1⟩
            have X1 := HX0.out.below hb1
            have HA1 : Hid (type_of% (HA.out.below hb1)) := HA.out.below hb1
            have HE : Hid (Below w.heap.size w w1) := HB.out.trans (hb1.mono HB.out.size)
            clear hb1 CL y0 y1 y2 y3 y4 y5
            have y2 := X1.c2
            have y3 := X1.c3
            have y4 := X1.c4
            clear X1
            have CH := l1Has_any q.wt no _ w1 HA1.out.a (by omega)
            have CH2 := l1Has_any q.hd no _ w1 HA1.out.b (by omega)
            rw [decide_eq_false m1] at CH
            rw [decide_eq_false m2] at CH2
            clear m1 m2 HW2
            go_wp2_with fail
            go_at_call 56
            refine CH.mono ?_
            rintro e w2 ⟨rfl, hw⟩
            have hw := hw.symm
            subst hw
            go_wp2_with fail
            go_at_call 56
            refine CH2.mono ?_
            rintro e w2 ⟨rfl, hw⟩
            have hw := hw.symm
            subst hw
            go_wp2_with fail
            go_ret2
            exact ⟨by rw [HQ.out]; rfl, HE.out⟩

set_option maxRecDepth 100000 in
set_option maxHeartbeats 4000000 in
theorem specGaps (q : Qu) (v1 v2 v3 : Value) (w : World) (h : QuAt w w.heap.size q v1 v2 v3) (hl : SmlQ q 1048576) :
    Calls Try.prog 35 #[q.val v1 v2 v3] w fun e w' => e = .returned (.tuple #[.int .i64 (gpQ q).1, .bool (gpQ q).2]) ∧ Below w.heap.size w w' := by
  obtain ⟨W0, hW0⟩ : ∃ W, W = w.alloc (.cells #[.int .i64 q.cap, .int .i64 q.rule, .int .i64 q.next, v1, v2, v3] 24) := ⟨_, rfl⟩
  have hB0 : Below w.heap.size w W0 := by rw [hW0]; exact (Below.refl _ w).alloc (Nat.le_refl _) _
  have V1 : Sv W0 w.heap.size (.int .i64 q.cap) (.int .i64 q.rule) (.int .i64 q.next) v1 v2 v3 := by rw [hW0]; exact Sv.fresh w _ _ _ _ _ _ _
  have CL := specGoodQ q v1 v2 v3 W0 (h.below hB0) hl
  have HA : Hid (QuAt W0 W0.heap.size q v1 v2 v3) := h.below hB0
  obtain ⟨a1, c1, a2, c2, a3, c3, rfl, rfl, rfl⟩ := h.form
  unfold Qu.val at CL ⊢
  have HB : Hid (type_of% hB0) := hB0
  have HX0 : Hid (type_of% V1) := V1
  have y0 := V1.c0
  have y1 := V1.c1
  have y2 := V1.c2
  have y3 := V1.c3
  have y4 := V1.c4
  have y5 := V1.c5
  clear h V1 hB0
  clear hl
  cases hK : gq q with
  | false =>
    have HQ : Hid (gpQ q = (0, false)) := by show _ = _; unfold gpQ; rw [if_neg (by rw [hK]; simp)]
    rw [hK] at CL
    clear hK
    go_enter Try.func35, Try.ntmps35
    go_upto_region 1 with fail
    rw [← hW0]
    clear hW0
    go_wp2_with fail
    go_at_call 18
    refine CL.mono ?_
    rintro e w1 ⟨rfl, hb1⟩
    have X1 := HX0.out.below hb1
    have HA1 : Hid (type_of% (HA.out.below hb1)) := HA.out.below hb1
    have HE : Hid (Below w.heap.size w w1) := HB.out.trans (hb1.mono HB.out.size)
    clear hb1 CL y0 y1 y2 y3 y4 y5
    have y2 := X1.c2
    have y3 := X1.c3
    have y4 := X1.c4
    clear X1
    go_wp2_with fail
    go_ret2
    exact ⟨by rw [HQ.out]; rfl, HE.out⟩
  | true =>
    have hp := gq_parts hK
    have hgd := (gq_gd hK).1
    have hls := tq_lens hgd (r := q.rule)
    have hw2 : q.hd = al (mq q) 2 := congrArg Qu.hd hp.2.2.1
    have hhl : q.hd.length ≤ 100 := by
      have : (tq q.cap q.rule (mq q)).hd = al (mq q) 2 := rfl
      rw [hw2]
      rw [this] at hls
      omega
    have hmem : ∀ n ∈ q.hd, 0 ≤ n ∧ n < 100 := fun n hn => by
      rw [hw2] at hn
      have := al_lt hn
      have := hgd.len
      omega
    have HG : Hid (gpQ q = (if q.hd.length = 0 then 0 else q.hd.getD (q.hd.length - 1) 0 + 1 - (q.hd.length : Int), true)) := by show _ = _; unfold gpQ; rw [if_pos hK]
    rw [hK] at CL
    clear hK hp hgd hls hw2
    by_cases h0 : q.hd.length = 0
    · have HQ : Hid (gpQ q = (0, true)) := by show _ = _; rw [HG.out, if_pos h0]
      have d0 : ((q.hd.length : Int) == 0) = true := beq_iff_eq.2 (by omega)
      have d0n : (q.hd.length == 0) = true := beq_iff_eq.2 h0
      have d0e : (q.hd.length : Int) = 0 := by omega
      clear hmem h0 HG
      go_enter Try.func35, Try.ntmps35
      go_upto_region 1 with fail
      rw [← hW0]
      clear hW0
      go_wp2_with fail
      go_at_call 18
      refine CL.mono ?_
      rintro e w1 ⟨rfl, hb1⟩
      have X1 := HX0.out.below hb1
      have HA1 : Hid (type_of% (HA.out.below hb1)) := HA.out.below hb1
      have HE : Hid (Below w.heap.size w w1) := HB.out.trans (hb1.mono HB.out.size)
      clear hb1 CL y0 y1 y2 y3 y4 y5
      have y2 := X1.c2
      have y3 := X1.c3
      have y4 := X1.c4
      clear X1
      go_wp2_with fail
      go_ret2
      exact ⟨by rw [HQ.out]; rfl, HE.out⟩
    · have hpos : q.hd.length - 1 < q.hd.length := by omega
      obtain ⟨x, hx⟩ : ∃ x, x = q.hd.getD (q.hd.length - 1) 0 := ⟨_, rfl⟩
      have HQ : Hid (gpQ q = (x + 1 - (q.hd.length : Int), true)) := by show _ = _; rw [HG.out, if_neg h0, ← hx]
      have hxb := hmem x (by rw [hx]; exact getD_mem hpos)
      have d0 : ((q.hd.length : Int) == 0) = false := by rw [beq_eq_false_iff_ne]; omega
      have d0n : (q.hd.length == 0) = false := by rw [beq_eq_false_iff_ne]; omega
      have hn1 : (0 : Int) < (q.hd.length : Int) := by omega
      have hxb1 := hxb.1
      have hxb2 := hxb.2
      clear hmem HG
      go_enter Try.func35, Try.ntmps35
      go_upto_region 1 with fail
      rw [← hW0]
      clear hW0
      go_wp2_with fail
      go_at_call 18
      refine CL.mono ?_
      rintro e w1 ⟨rfl, hb1⟩
      have X1 := HX0.out.below hb1
      have HA1 : Hid (type_of% (HA.out.below hb1)) := HA.out.below hb1
      have HE : Hid (Below w.heap.size w w1) := HB.out.trans (hb1.mono HB.out.size)
      clear hb1 CL y0 y1 y2 y3 y4 y5
      have y2 := X1.c2
      have y3 := X1.c3
      have y4 := X1.c4
      clear X1
      obtain ⟨g, o, hao, _, hc⟩ := head_cell HA1.out.b (i := q.hd.length - 1) hpos
      obtain ⟨k1, k2⟩ := zat_caps HA1.out.b
      rw [← hx] at hc
      have HD0 : Hid (¬ q.hd.length = 0) := h0
      clear hx hxb h0
      subst hao
      obtain ⟨i, hi⟩ : ∃ i, q.hd.length = i + 1 := ⟨q.hd.length - 1, by omega⟩
      have hidx : ((q.hd.length : Int) - 1).toNat = q.hd.length - 1 := by omega
      have HI : Hid (type_of% hi) := hi
      clear hi
      go_wp2_with fail
      go_ret2
      exact ⟨by rw [HQ.out]; rfl, HE.out⟩

end Go.Proofs.Ytfkhbbmnjndmcaa
