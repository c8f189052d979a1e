/- The model's functions over queues: GoodQueue, Offer, Hand, WhereIs, GapsIn. -/
import Derived.Test.YtfkhbbmnjndmcaaQsG
namespace Go.Proofs.Ytfkhbbmnjndmcaa
open Go.RowKit Plain Qus

theorem al_ne {M : List Int} {a b n : Int} (hab : a ≠ b) (h : n ∈ al M a) : n ∉ al M b := fun h2 => by
  have e1 := (al_lt h).2.2
  have e2 := (al_lt h2).2.2
  exact hab (e1.symm.trans e2)
theorem getD_mem {l : List Int} {i : Nat} (hi : i < l.length) : l.getD i 0 ∈ l := by
  rw [List.getD_eq_getElem?_getD, List.getElem?_eq_getElem hi]
  exact List.getElem_mem hi

theorem l16Offer_any {c r : Int} {M : List Int} (hg : GdM c M) (hc : 1 ≤ c) (q : Qu) (hq : q = tq c r M) (B : Nat) (v1 v2 v3 : Value) (w : World) (h : QuRow w B q v1 v2 v3) (hB : B ≤ w.heap.size) :
    Calls Try.prog 50 #[q.val v1 v2 v3] w fun e w' => QuOutB w w' B (ofL q).1 (fun v => e = .returned (.tuple #[v, .int .i64 (ofL q).2.1, .bool (ofL q).2.2])) := by
  subst hq
  have hlen := hg.len
  have hls := tq_lens hg (r := r)
  have hl : SmlQ (tq c r M) 1000 := ⟨by omega, by omega, by omega⟩
  have hn : 0 ≤ (tq c r M).next ∧ (tq c r M).next ≤ 1000 := by show 0 ≤ (M.length : Int) ∧ (M.length : Int) ≤ 1000; omega
  by_cases h1 : (tq c r M).next = 100
  · exact l16Offer_end _ B v1 v2 v3 w h hB hl h1
  · by_cases h2 : ((tq c r M).wt.length : Int) < (tq c r M).cap
    · exact l16Offer_room _ B v1 v2 v3 w h hB hl hn h1 h2
    · have hpos : 0 < (tq c r M).wt.length := by
        have : (tq c r M).cap = c := rfl
        omega
      by_cases r1 : r = 1
      · exact l16Offer_old _ B v1 v2 v3 w h hB hl hn h1 h2 hc r1 (al_ne (by decide) (getD_mem (l := (tq c r M).wt) hpos))
      · by_cases r2 : r = 2
        · exact l16Offer_new _ B v1 v2 v3 w h hB hl hn h1 h2 hc r2 (al_ne (by decide) (getD_mem (l := (tq c r M).wt) (by omega)))
        · exact l16Offer_none _ B v1 v2 v3 w h hB hl hn h1 h2 r1 r2 (fun hm => by have := (al_lt hm).2.1; have e : (tq c r M).next = (M.length : Int) := rfl; omega)

theorem l16Hand_tq {c r : Int} {M : List Int} (hg : GdM c M) (q : Qu) (hq : q = tq c r M) (B : Nat) (v1 v2 v3 : Value) (w : World) (h : QuRow w B q v1 v2 v3) (hB : B ≤ w.heap.size) :
    Calls Try.prog 54 #[q.val v1 v2 v3] w fun e w' => QuOutB w w' B (hnL q).1 (fun v => e = .returned (.tuple #[v, .int .i64 (hnL q).2.1, .bool (hnL q).2.2])) := by
  subst hq
  have hls := tq_lens hg (r := r)
  exact l16Hand_any _ B v1 v2 v3 w h hB ⟨by omega, by omega, by omega⟩ (fun h0 => al_ne (by decide) (getD_mem (l := (tq c r M).wt) (by omega)))

set_option maxRecDepth 100000 in
set_option maxHeartbeats 8000000 in
theorem specGoodQ (q : Qu) (v1 v2 v3 : Value) (w : World) (h : QuAt w w.heap.size q v1 v2 v3) (hl : SmlQ q 1048576) :
    Calls Try.prog 18 #[q.val v1 v2 v3] w fun e w' => e = .returned (.bool (gq q)) ∧ Below w.heap.size w w' := by
  by_cases hall : g1 q = true ∧ ((q.wt.length + q.hd.length + q.dr.length : Nat) : Int) = q.next
  · have hx : 0 ≤ q.next := by
      have := hall.1
      unfold g1 at this
      simp only [Bool.and_eq_true, decide_eq_true_eq] at this
      omega
    exact specGoodQ_core q q.next.toNat (by omega) v1 v2 v3 w h hall.1 hall.2
  obtain ⟨W0, hW0⟩ : ∃ W, W = w.alloc (.cells #[.int .i64 q.cap, .int .i64 q.rule, .int .i64 q.next, v1, v2, v3] 24) := ⟨_, rfl⟩
  have hB0 : Below w.heap.size w W0 := by rw [hW0]; exact (Below.refl _ w).alloc (Nat.le_refl _) _
  have V1 : Sv W0 w.heap.size (.int .i64 q.cap) (.int .i64 q.rule) (.int .i64 q.next) v1 v2 v3 := by rw [hW0]; exact Sv.fresh w _ _ _ _ _ _ _
  have C1 := l1In_any q.cap 1 10 W0
  have C2 := l1In_any q.rule 1 3 W0
  have C3 := l1In_any q.next 0 100 W0
  obtain ⟨m1, m2, m3⟩ := hl
  obtain ⟨a1, k1, a2, k2, a3, k3, rfl, rfl, rfl⟩ := h.form
  have HB : Hid (type_of% hB0) := hB0
  unfold Qu.val
  have y0 := V1.c0
  have y1 := V1.c1
  have y2 := V1.c2
  have y3 := V1.c3
  have y4 := V1.c4
  have y5 := V1.c5
  clear h V1 hB0
  by_cases b1 : 1 ≤ q.cap ∧ q.cap ≤ 10
  · rw [decide_eq_true b1] at C1
    by_cases b2 : 1 ≤ q.rule ∧ q.rule ≤ 3
    · rw [decide_eq_true b2] at C2
      by_cases b3 : 0 ≤ q.next ∧ q.next ≤ 100
      · rw [decide_eq_true b3] at C3
        by_cases b4 : (q.wt.length : Int) ≤ q.cap
        · have hg : g1 q = true := by
            unfold g1 okR
            rw [decide_eq_true b1, decide_eq_true b2, decide_eq_true b3, decide_eq_true b4]
            rfl
          have hs : ((q.wt.length + q.hd.length + q.dr.length : Nat) : Int) ≠ q.next := fun e => hall ⟨hg, e⟩
          have HF : Hid (gq q = false) := gq_sum_no hs b3.1
          have d4 : decide (q.cap < (q.wt.length : Int)) = false := by simp; omega
          have hsumI : ((q.wt.length : Int) + (q.hd.length : Int) + (q.dr.length : Int) != q.next) = true := by rw [bne_iff_ne]; omega
          clear hall b1 b2 b3 b4 hg hs
          go_enter Try.func18, Try.ntmps18
          go_upto_region 1 with fail
          rw [← hW0]
          clear hW0
          go_wp2_with fail
          go_at_call 44
          refine C1.mono ?_
          rintro e w1 ⟨rfl, hw⟩
          have hw := hw.symm
          subst hw
          go_wp2_with fail
          go_at_call 44
          refine C2.mono ?_
          rintro e w1 ⟨rfl, hw⟩
          have hw := hw.symm
          subst hw
          go_wp2_with fail
          go_at_call 44
          refine C3.mono ?_
          rintro e w1 ⟨rfl, hw⟩
          have hw := hw.symm
          subst hw
          go_wp2_with fail
          go_ret
          exact ⟨by rw [HF.out]; rfl, HB.out⟩
        · have HF : Hid (gq q = false) := g1_no (by unfold g1; rw [decide_eq_false b4]; simp)
          have d4 : decide (q.cap < (q.wt.length : Int)) = true := by simp; omega
          clear hall b1 b2 b3 b4
          go_enter Try.func18, Try.ntmps18
          go_upto_region 1 with fail
          rw [← hW0]
          clear hW0
          go_wp2_with fail
          go_at_call 44
          refine C1.mono ?_
          rintro e w1 ⟨rfl, hw⟩
          have hw := hw.symm
          subst hw
          go_wp2_with fail
          go_at_call 44
          refine C2.mono ?_
          rintro e w1 ⟨rfl, hw⟩
          have hw := hw.symm
          subst hw
          go_wp2_with fail
          go_at_call 44
          refine C3.mono ?_
          rintro e w1 ⟨rfl, hw⟩
          have hw := hw.symm
          subst hw
          go_wp2_with fail
          go_ret
          exact ⟨by rw [HF.out]; rfl, HB.out⟩
      · rw [decide_eq_false b3] at C3
        have HF : Hid (gq q = false) := g1_no (by unfold g1; rw [decide_eq_false b3]; simp)
        clear hall b1 b2 b3
        go_enter Try.func18, Try.ntmps18
        go_upto_region 1 with fail
        rw [← hW0]
        clear hW0
        go_wp2_with fail
        go_at_call 44
        refine C1.mono ?_
        rintro e w1 ⟨rfl, hw⟩
        have hw := hw.symm
        subst hw
        go_wp2_with fail
        go_at_call 44
        refine C2.mono ?_
        rintro e w1 ⟨rfl, hw⟩
        have hw := hw.symm
        subst hw
        go_wp2_with fail
        go_at_call 44
        refine C3.mono ?_
        rintro e w1 ⟨rfl, hw⟩
        have hw := hw.symm
        subst hw
        go_wp2_with fail
        go_ret
        exact ⟨by rw [HF.out]; rfl, HB.out⟩
    · rw [decide_eq_false b2] at C2
      have HF : Hid (gq q = false) := g1_no (by unfold g1; rw [okR_r b2]; rfl)
      clear hall b1 b2 C3
      go_enter Try.func18, Try.ntmps18
      go_upto_region 1 with fail
      rw [← hW0]
      clear hW0
      go_wp2_with fail
      go_at_call 44
      refine C1.mono ?_
      rintro e w1 ⟨rfl, hw⟩
      have hw := hw.symm
      subst hw
      go_wp2_with fail
      go_at_call 44
      refine C2.mono ?_
      rintro e w1 ⟨rfl, hw⟩
      have hw := hw.symm
      subst hw
      go_wp2_with fail
      go_ret
      exact ⟨by rw [HF.out]; rfl, HB.out⟩
  · rw [decide_eq_false b1] at C1
    have HF : Hid (gq q = false) := g1_no (by unfold g1; rw [okR_c b1]; rfl)
    clear hall b1 C2 C3
    go_enter Try.func18, Try.ntmps18
    go_upto_region 1 with fail
    rw [← hW0]
    clear hW0
    go_wp2_with fail
    go_at_call 44
    refine C1.mono ?_
    rintro e w1 ⟨rfl, hw⟩
    have hw := hw.symm
    subst hw
    go_wp2_with fail
    go_ret
    exact ⟨by rw [HF.out]; rfl, HB.out⟩

set_option maxRecDepth 100000 in
set_option maxHeartbeats 4000000 in
theorem specOfferQ (q : Qu) (v1 v2 v3 : Value) (w : World) (h : QuAt w w.heap.size q v1 v2 v3) (hl : SmlQ q 1048576) :
    Calls Try.prog 21 #[q.val v1 v2 v3] w fun e w' => QuOut w w' (ofQ q).1 (fun v => e = .returned (.tuple #[v, .int .i64 (ofQ q).2.1, .bool (ofQ q).2.2])) := by
  have rc := fun (tmps : Array Value) (P : Program) (w : World) => results_cell_tmp2Q (fn := Try.f21) (p := 2) (u := 3) (v := 4) (ty := 24) rfl tmps P w
  obtain ⟨W0, hW0⟩ : ∃ W, W = (w.alloc (.cells #[.int .i64 q.cap, .int .i64 q.rule, .int .i64 q.next, v1, v2, v3] 24)).alloc (.cells #[.int .i64 0, .int .i64 0, .int .i64 0, .slice none 0 0, .slice none 0 0, .slice none 0 0] 24) := ⟨_, rfl⟩
  have hB0 : Below w.heap.size w W0 := by rw [hW0]; exact ((Below.refl _ w).alloc (Nat.le_refl _) _).alloc (by simp) _
  have V1 : Sv W0 w.heap.size (.int .i64 q.cap) (.int .i64 q.rule) (.int .i64 q.next) v1 v2 v3 := by rw [hW0]; exact (Sv.fresh w _ _ _ _ _ _ _).below ((Below.refl _ _).alloc (Nat.le_refl _) _)
  have V2 : Sv W0 (w.heap.size + 1) (.int .i64 0) (.int .i64 0) (.int .i64 0) (.slice none 0 0) (.slice none 0 0) (.slice none 0 0) := by
    have h := Sv.fresh (w.alloc (.cells #[.int .i64 q.cap, .int .i64 q.rule, .int .i64 q.next, v1, v2, v3] 24)) (.int .i64 0) (.int .i64 0) (.int .i64 0) (.slice none 0 0) (.slice none 0 0) (.slice none 0 0) 24
    rw [hW0]
    simpa using h
  have CG := specGoodQ q v1 v2 v3 W0 (h.below hB0) hl
  have HA : Hid (QuAt W0 W0.heap.size q v1 v2 v3) := h.below hB0
  obtain ⟨a1, c1, a2, c2, a3, c3, rfl, rfl, rfl⟩ := h.form
  unfold Qu.val at CG ⊢
  have HB : Hid (type_of% hB0) := hB0
  have HV0 : Hid (type_of% V2) := V2
  have HX0 : Hid (type_of% V1) := V1
  have hsz : w.heap.size + 1 < W0.heap.size := V2.low
  have x0 := V1.c0
  have x1 := V1.c1
  have x2 := V1.c2
  have x3 := V1.c3
  have x4 := V1.c4
  have x5 := V1.c5
  clear h hl V1 V2 hB0
  cases hK : gq q with
  | false =>
    have HQ : Hid (ofQ q = (qz, 0, false)) := by show _ = _; unfold ofQ; rw [hK]; rfl
    rw [hK] at CG
    clear hK
    go_enter Try.func21, Try.ntmps21
    go_upto_region 1 with fail
    rw [← hW0]
    clear hW0
    go_wp2_with fail
    go_at_call 18
    refine CG.mono ?_
    rintro e w1 ⟨rfl, hb1⟩
    have HV : Hid (type_of% (HV0.out.below hb1)) := HV0.out.below hb1
    have HE : Hid (Below w.heap.size w w1) := HB.out.trans (hb1.mono HB.out.size)
    clear hb1 CG x0 x1 x2 x3 x4 x5
    have y0 := HV.out.c0
    have z0 := HV.out.f0
    have y1 := HV.out.c1
    have z1 := HV.out.f1
    have y2 := HV.out.c2
    have z2 := HV.out.f2
    have y3 := HV.out.c3
    have z3 := HV.out.f3
    have y4 := HV.out.c4
    have z4 := HV.out.f4
    have y5 := HV.out.c5
    have z5 := HV.out.f5
    go_wp2_with fail
    (try simp only [Exit.inBlock, Exit.then])
    refine bodyPost_ret (v := .tuple #[.agg #[.int .i64 0, .int .i64 0, .int .i64 0, .slice none 0 0, .slice none 0 0, .slice none 0 0], .int .i64 0, .bool false]) ?_ rfl ?_
    · rw [rc]
      go_simp
    · rw [HQ.out]; exact QuOut.zero rfl (Below.set6Q HE.out (Nat.le_succ _))
  | true =>
    have hp := gq_parts hK
    have hgd := gq_gd hK
    have hls := tq_lens hgd.1 (r := q.rule)
    have HEQ : Hid (q = tq q.cap q.rule (mq q)) := hp.2.2.1
    have hl2 : SmlQ q 1000 := by
      have e1 : q.wt = (tq q.cap q.rule (mq q)).wt := congrArg Qu.wt HEQ.out
      have e2 : q.hd = (tq q.cap q.rule (mq q)).hd := congrArg Qu.hd HEQ.out
      have e3 : q.dr = (tq q.cap q.rule (mq q)).dr := congrArg Qu.dr HEQ.out
      exact ⟨by rw [e1]; omega, by rw [e2]; omega, by rw [e3]; omega⟩
    have HQ : Hid (ofQ q = ofL q) := by show _ = _; unfold ofQ; rw [hK]; rfl
    have COW : Hid (∀ W, Below W0.heap.size W0 W → Calls Try.prog 51 #[.agg #[.int .i64 q.cap, .int .i64 q.rule, .int .i64 q.next, .slice a1 q.wt.length c1, .slice a2 q.hd.length c2, .slice a3 q.dr.length c3]] W fun e w' => QuOut W w' q (fun v => e = .returned v)) := fun W hW => l16Own_any q _ _ _ W (HA.out.below hW) hl2
    have COF : Hid (∀ W B v1 v2 v3, QuRow W B q v1 v2 v3 → B ≤ W.heap.size → Calls Try.prog 50 #[.agg #[.int .i64 q.cap, .int .i64 q.rule, .int .i64 q.next, v1, v2, v3]] W fun e w' => QuOutB W w' B (ofL q).1 (fun v => e = .returned (.tuple #[v, .int .i64 (ofL q).2.1, .bool (ofL q).2.2]))) := fun W B v1 v2 v3 hr hB => l16Offer_any hgd.1 hgd.2.1 q hp.2.2.1 B v1 v2 v3 W hr hB
    rw [hK] at CG
    clear hK hp hgd hls hl2
    generalize ofL q = S at COF HQ
    obtain ⟨F, no, K⟩ := S
    dsimp only at COF
    go_enter Try.func21, Try.ntmps21
    go_upto_region 1 with fail
    rw [← hW0]
    clear hW0
    go_wp2_with fail
    go_at_call 18
    refine CG.mono ?_
    rintro e w1 ⟨rfl, hb1⟩
    have HV1 : Hid (type_of% (HV0.out.below hb1)) := HV0.out.below hb1
    have HB1 : Hid (type_of% hb1) := hb1
    have HE1 : Hid (Below w.heap.size w w1) := HB.out.trans (hb1.mono HB.out.size)
    have X1 := HX0.out.below hb1
    have hs1 := hb1.size
    clear hb1 CG x0 x1 x2 x3 x4 x5
    have x0 := X1.c0
    have x1 := X1.c1
    have x2 := X1.c2
    have x3 := X1.c3
    have x4 := X1.c4
    have x5 := X1.c5
    clear X1
    go_wp2_with fail
    go_at_call 51
    refine (COW.out _ HB1.out).mono ?_
    rintro e w2 ⟨b1, d1, b2, d2, b3, d3, rfl, hr2, hb2⟩
    have HV2 : Hid (type_of% (HV1.out.below hb2)) := HV1.out.below hb2
    have HE2 : Hid (Below w.heap.size w w2) := HE1.out.trans (hb2.mono HE1.out.size)
    have CF := COF.out w2 w1.heap.size _ _ _ hr2 hb2.size
    have hs2 := hb2.size
    clear hb2 hr2 COW COF x0 x1 x2 x3 x4 x5
    go_wp2_with fail
    go_at_call 50
    refine CF.mono ?_
    rintro e w3 ⟨a4, c4, a5, c5, a6, c6, rfl, hr, hb3⟩
    have HV : Hid (type_of% (HV2.out.kept (hb3.block _ (show w.heap.size + 1 < w1.heap.size by omega)) hb3.size)) := HV2.out.kept (hb3.block _ (show w.heap.size + 1 < w1.heap.size by omega)) hb3.size
    have HE : Hid (Below w.heap.size w w3) := HE2.out.trans (hb3.mono (by omega))
    have HR : Hid (type_of% hr) := hr
    clear hr hb3 CF
    have y0 := HV.out.c0
    have z0 := HV.out.f0
    have y1 := HV.out.c1
    have z1 := HV.out.f1
    have y2 := HV.out.c2
    have z2 := HV.out.f2
    have y3 := HV.out.c3
    have z3 := HV.out.f3
    have y4 := HV.out.c4
    have z4 := HV.out.f4
    have y5 := HV.out.c5
    have z5 := HV.out.f5
    go_wp2_with fail
    (try simp only [Exit.inBlock, Exit.then])
    refine bodyPost_ret (v := .tuple #[.agg #[.int .i64 F.cap, .int .i64 F.rule, .int .i64 F.next, .slice a4 F.wt.length c4, .slice a5 F.hd.length c5, .slice a6 F.dr.length c6], .int .i64 no, .bool K]) ?_ rfl ?_
    · rw [rc]
      go_simp
    · rw [HQ.out]
      exact ⟨a4, c4, a5, c5, a6, c6, rfl, (HR.out.set6 (show w.heap.size + 1 < w1.heap.size by omega)).lower (by omega), Below.set6Q HE.out (Nat.le_succ _)⟩

set_option maxRecDepth 100000 in
set_option maxHeartbeats 4000000 in
theorem specHandQ (q : Qu) (v1 v2 v3 : Value) (w : World) (h : QuAt w w.heap.size q v1 v2 v3) (hl : SmlQ q 1048576) :
    Calls Try.prog 23 #[q.val v1 v2 v3] w fun e w' => QuOut w w' (hnQ q).1 (fun v => e = .returned (.tuple #[v, .int .i64 (hnQ q).2.1, .bool (hnQ q).2.2])) := by
  have rc := fun (tmps : Array Value) (P : Program) (w : World) => results_cell_tmp2Q (fn := Try.f23) (p := 2) (u := 3) (v := 4) (ty := 24) rfl tmps P w
  obtain ⟨W0, hW0⟩ : ∃ W, W = (w.alloc (.cells #[.int .i64 q.cap, .int .i64 q.rule, .int .i64 q.next, v1, v2, v3] 24)).alloc (.cells #[.int .i64 0, .int .i64 0, .int .i64 0, .slice none 0 0, .slice none 0 0, .slice none 0 0] 24) := ⟨_, rfl⟩
  have hB0 : Below w.heap.size w W0 := by rw [hW0]; exact ((Below.refl _ w).alloc (Nat.le_refl _) _).alloc (by simp) _
  have V1 : Sv W0 w.heap.size (.int .i64 q.cap) (.int .i64 q.rule) (.int .i64 q.next) v1 v2 v3 := by rw [hW0]; exact (Sv.fresh w _ _ _ _ _ _ _).below ((Below.refl _ _).alloc (Nat.le_refl _) _)
  have V2 : Sv W0 (w.heap.size + 1) (.int .i64 0) (.int .i64 0) (.int .i64 0) (.slice none 0 0) (.slice none 0 0) (.slice none 0 0) := by
    have h := Sv.fresh (w.alloc (.cells #[.int .i64 q.cap, .int .i64 q.rule, .int .i64 q.next, v1, v2, v3] 24)) (.int .i64 0) (.int .i64 0) (.int .i64 0) (.slice none 0 0) (.slice none 0 0) (.slice none 0 0) 24
    rw [hW0]
    simpa using h
  have CG := specGoodQ q v1 v2 v3 W0 (h.below hB0) hl
  have HA : Hid (QuAt W0 W0.heap.size q v1 v2 v3) := h.below hB0
  obtain ⟨a1, c1, a2, c2, a3, c3, rfl, rfl, rfl⟩ := h.form
  unfold Qu.val at CG ⊢
  have HB : Hid (type_of% hB0) := hB0
  have HV0 : Hid (type_of% V2) := V2
  have HX0 : Hid (type_of% V1) := V1
  have hsz : w.heap.size + 1 < W0.heap.size := V2.low
  have x0 := V1.c0
  have x1 := V1.c1
  have x2 := V1.c2
  have x3 := V1.c3
  have x4 := V1.c4
  have x5 := V1.c5
  clear h hl V1 V2 hB0
  cases hK : gq q with
  | false =>
    have HQ : Hid (hnQ q = (qz, 0, false)) := by show _ = _; unfold hnQ; rw [hK]; rfl
    rw [hK] at CG
    clear hK
    go_enter Try.func23, Try.ntmps23
    go_upto_region 1 with fail
    rw [← hW0]
    clear hW0
    go_wp2_with fail
    go_at_call 18
    refine CG.mono ?_
    rintro e w1 ⟨rfl, hb1⟩
    have HV : Hid (type_of% (HV0.out.below hb1)) := HV0.out.below hb1
    have HE : Hid (Below w.heap.size w w1) := HB.out.trans (hb1.mono HB.out.size)
    clear hb1 CG x0 x1 x2 x3 x4 x5
    have y0 := HV.out.c0
    have z0 := HV.out.f0
    have y1 := HV.out.c1
    have z1 := HV.out.f1
    have y2 := HV.out.c2
    have z2 := HV.out.f2
    have y3 := HV.out.c3
    have z3 := HV.out.f3
    have y4 := HV.out.c4
    have z4 := HV.out.f4
    have y5 := HV.out.c5
    have z5 := HV.out.f5
    go_wp2_with fail
    (try simp only [Exit.inBlock, Exit.then])
    refine bodyPost_ret (v := .tuple #[.agg #[.int .i64 0, .int .i64 0, .int .i64 0, .slice none 0 0, .slice none 0 0, .slice none 0 0], .int .i64 0, .bool false]) ?_ rfl ?_
    · rw [rc]
      go_simp
    · rw [HQ.out]; exact QuOut.zero rfl (Below.set6Q HE.out (Nat.le_succ _))
  | true =>
    have hp := gq_parts hK
    have hgd := gq_gd hK
    have hls := tq_lens hgd.1 (r := q.rule)
    have HEQ : Hid (q = tq q.cap q.rule (mq q)) := hp.2.2.1
    have hl2 : SmlQ q 1000 := by
      have e1 : q.wt = (tq q.cap q.rule (mq q)).wt := congrArg Qu.wt HEQ.out
      have e2 : q.hd = (tq q.cap q.rule (mq q)).hd := congrArg Qu.hd HEQ.out
      have e3 : q.dr = (tq q.cap q.rule (mq q)).dr := congrArg Qu.dr HEQ.out
      exact ⟨by rw [e1]; omega, by rw [e2]; omega, by rw [e3]; omega⟩
    have HQ : Hid (hnQ q = hnL q) := by show _ = _; unfold hnQ; rw [hK]; rfl
    have COW : Hid (∀ W, Below W0.heap.size W0 W → Calls Try.prog 51 #[.agg #[.int .i64 q.cap, .int .i64 q.rule, .int .i64 q.next, .slice a1 q.wt.length c1, .slice a2 q.hd.length c2, .slice a3 q.dr.length c3]] W fun e w' => QuOut W w' q (fun v => e = .returned v)) := fun W hW => l16Own_any q _ _ _ W (HA.out.below hW) hl2
    have COF : Hid (∀ W B v1 v2 v3, QuRow W B q v1 v2 v3 → B ≤ W.heap.size → Calls Try.prog 54 #[.agg #[.int .i64 q.cap, .int .i64 q.rule, .int .i64 q.next, v1, v2, v3]] W fun e w' => QuOutB W w' B (hnL q).1 (fun v => e = .returned (.tuple #[v, .int .i64 (hnL q).2.1, .bool (hnL q).2.2]))) := fun W B v1 v2 v3 hr hB => l16Hand_tq hgd.1 q hp.2.2.1 B v1 v2 v3 W hr hB
    rw [hK] at CG
    clear hK hp hgd hls hl2
    generalize hnL q = S at COF HQ
    obtain ⟨F, no, K⟩ := S
    dsimp only at COF
    go_enter Try.func23, Try.ntmps23
    go_upto_region 1 with fail
    rw [← hW0]
    clear hW0
    go_wp2_with fail
    go_at_call 18
    refine CG.mono ?_
    rintro e w1 ⟨rfl, hb1⟩
    have HV1 : Hid (type_of% (HV0.out.below hb1)) := HV0.out.below hb1
    have HB1 : Hid (type_of% hb1) := hb1
    have HE1 : Hid (Below w.heap.size w w1) := HB.out.trans (hb1.mono HB.out.size)
    have X1 := HX0.out.below hb1
    have hs1 := hb1.size
    clear hb1 CG x0 x1 x2 x3 x4 x5
    have x0 := X1.c0
    have x1 := X1.c1
    have x2 := X1.c2
    have x3 := X1.c3
    have x4 := X1.c4
    have x5 := X1.c5
    clear X1
    go_wp2_with fail
    go_at_call 51
    refine (COW.out _ HB1.out).mono ?_
    rintro e w2 ⟨b1, d1, b2, d2, b3, d3, rfl, hr2, hb2⟩
    have HV2 : Hid (type_of% (HV1.out.below hb2)) := HV1.out.below hb2
    have HE2 : Hid (Below w.heap.size w w2) := HE1.out.trans (hb2.mono HE1.out.size)
    have CF := COF.out w2 w1.heap.size _ _ _ hr2 hb2.size
    have hs2 := hb2.size
    clear hb2 hr2 COW COF x0 x1 x2 x3 x4 x5
    go_wp2_with fail
    go_at_call 54
    refine CF.mono ?_
    rintro e w3 ⟨a4, c4, a5, c5, a6, c6, rfl, hr, hb3⟩
    have HV : Hid (type_of% (HV2.out.kept (hb3.block _ (show w.heap.size + 1 < w1.heap.size by omega)) hb3.size)) := HV2.out.kept (hb3.block _ (show w.heap.size + 1 < w1.heap.size by omega)) hb3.size
    have HE : Hid (Below w.heap.size w w3) := HE2.out.trans (hb3.mono (by omega))
    have HR : Hid (type_of% hr) := hr
    clear hr hb3 CF
    have y0 := HV.out.c0
    have z0 := HV.out.f0
    have y1 := HV.out.c1
    have z1 := HV.out.f1
    have y2 := HV.out.c2
    have z2 := HV.out.f2
    have y3 := HV.out.c3
    have z3 := HV.out.f3
    have y4 := HV.out.c4
    have z4 := HV.out.f4
    have y5 := HV.out.c5
    have z5 := HV.out.f5
    go_wp2_with fail
    (try simp only [Exit.inBlock, Exit.then])
    refine bodyPost_ret (v := .tuple #[.agg #[.int .i64 F.cap, .int .i64 F.rule, .int .i64 F.next, .slice a4 F.wt.length c4, .slice a5 F.hd.length c5, .slice a6 F.dr.length c6], .int .i64 no, .bool K]) ?_ rfl ?_
    · rw [rc]
      go_simp
    · rw [HQ.out]
      exact ⟨a4, c4, a5, c5, a6, c6, rfl, (HR.out.set6 (show w.heap.size + 1 < w1.heap.size by omega)).lower (by omega), Below.set6Q HE.out (Nat.le_succ _)⟩

theorem qz_small : SmlQ qz 1000 := ⟨Nat.zero_le _, Nat.zero_le _, Nat.zero_le _⟩
theorem tq_small {c r : Int} {M : List Int} (h : GdM c M) : SmlQ (tq c r M) 1000 := by
  have := tq_lens h (r := r)
  exact ⟨by omega, by omega, by omega⟩
theorem ofQ_small (q : Qu) : SmlQ (ofQ q).1 1000 := by
  by_cases h : gq q = true
  · rw [ofQ_marks h]
    split
    · exact tq_small ((gq_gd h).1.ofM (gq_gd h).2.1)
    · exact qz_small
  · unfold ofQ
    rw [if_neg h]
    exact qz_small
theorem hnQ_small (q : Qu) : SmlQ (hnQ q).1 1000 := by
  by_cases h : gq q = true
  · rw [hnQ_marks h]
    split
    · exact tq_small (gq_gd h).1.hnM
    · exact qz_small
  · unfold hnQ
    rw [if_neg h]
    exact qz_small

end Go.Proofs.Ytfkhbbmnjndmcaa
