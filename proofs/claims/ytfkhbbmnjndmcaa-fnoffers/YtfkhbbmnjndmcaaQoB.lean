/- A drawn queue. -/
import Derived.Test.YtfkhbbmnjndmcaaQoA
namespace Go.Proofs.Ytfkhbbmnjndmcaa
open Go.RowKit Plain Qus
open Mch (en)

theorem EAt.take200 {W : World} {B : Nat} {l : List Bool} {ao : Option Addr} {cv : Nat} (h : EAt W B (.slice ao l.length cv) l) (h2 : 200 < l.length) : EAt W B (.slice ao (l.take 200).length cv) (l.take 200) := by
  obtain ⟨ao', cap', hv, q1, q2, hrow⟩ := h
  simp only [Value.slice.injEq] at hv
  obtain ⟨rfl, _, rfl⟩ := hv
  refine ⟨_, _, rfl, by rw [List.length_take]; omega, q2, fun i hi => ?_⟩
  rw [List.length_take] at hi
  obtain ⟨g', o', e, hg', hc'⟩ := hrow i (by omega)
  refine ⟨g', o', e, hg', ?_⟩
  rw [hc', show en (l.take 200) i = en l i by unfold en; rw [List.getD_eq_getElem?_getD, List.getD_eq_getElem?_getD, List.getElem?_take_of_lt (by omega)]]

set_option maxRecDepth 100000 in
set_option maxHeartbeats 16000000 in
theorem queue_any (b m : Nat) (w : World) (hc : Cur w b m) (hm : m ≤ 600000000) :
    Calls Try.prog 64 #[.pointer (some ⟨b, 0, none⟩)] w fun e w' => DqO b (m + 600) w w' e := by
  obtain ⟨i0, hi0, hz0, hz1', hz2⟩ := info_parts infoIntR
  have hbl := hc.lt
  obtain ⟨W0, hW0⟩ : ∃ W, W = w.alloc (.cells #[.int .i64 0, .int .i64 0, .int .i64 0, .slice none 0 0, .slice none 0 0, .slice none 0 0] 24) := ⟨_, rfl⟩
  have hC0 : Cur W0 b m := by rw [hW0]; exact hc.alloc _
  have hG0 : w.grownBy W0 (some b) := by rw [hW0]; exact World.grownBy_alloc w _ _
  have hV0 : Sv W0 w.heap.size (.int .i64 0) (.int .i64 0) (.int .i64 0) (.slice none 0 0) (.slice none 0 0) (.slice none 0 0) := by rw [hW0]; exact Sv.fresh w _ _ _ _ _ _ _
  have HS0 : Hid (W0.heap.size = w.heap.size + 1) := by show _ = _; rw [hW0]; simp
  have HG0 : Hid (type_of% hG0) := hG0
  have HV0 : Hid (type_of% hV0) := hV0
  have HC0 : Hid (type_of% hC0) := hC0
  clear hG0 hV0 hC0 hc
  go_enter Try.func64, Try.ntmps64
  go_upto_region 1 with fail
  rw [← hW0]
  clear hW0
  go_wp2_with fail
  refine (offers_any b m W0 HC0.out (by omega)).mono ?_
  rintro e w1 ⟨l, v, rfl, hR, hl, hc1, hg1⟩
  have HE1 : Hid (∀ W, w1.grownBy W (some b) → EAt W W.heap.size v l) := fun W hW => EAt.own (own_asideQ hR hW (fun g hg e => by have := (World.ownsRow.lt hR g hg).1; have := HS0.out; simp at e; omega))
  have HE0 : Hid (EAt w1 w1.heap.size v l) := EAt.own hR
  have HC1 : Hid (Cur w1 b (m + 500)) := hc1
  have HG1 : Hid (w.grownBy w1 (some b)) := Lib.grownBy_trans HG0.out hg1
  have HV1 : Hid (type_of% (HV0.out.kept (hg1.block _ HV0.out.low (by simp; omega)) hg1.size)) := HV0.out.kept (hg1.block _ HV0.out.low (by simp; omega)) hg1.size
  have hs1 : w.heap.size < w1.heap.size := HV1.out.low
  obtain ⟨av, cv, hv⟩ := hR.slice
  subst hv
  have hcap : l.length ≤ cv ∧ cv ≤ 9223372036854775807 := by
    obtain ⟨_, _, h1, h2, h3, _⟩ := HE0.out
    simp only [Value.slice.injEq] at h1
    unfold maxLen at h3
    obtain ⟨_, _, rfl⟩ := h1
    exact ⟨h2, by omega⟩
  clear hR hc1 hg1 HG0 HV0 HC0
  go_upto_if 11 with fail
  go_cut [3] (fun s3 wx => (∃ (L : List Bool) (a : Option Addr) (c : Nat), s3 = .slice a L.length c ∧ Hid (∀ W, w1.grownBy W (some b) → EAt W W.heap.size (.slice a L.length c) L)) ∧ wx = w1)
  case first =>
    by_cases h2 : 200 < l.length
    · have h2i : (200 : Int) < (l.length : Int) := by omega
      obtain ⟨g, o, rfl⟩ : ∃ g o, av = some ⟨g, o, none⟩ := by
        obtain ⟨ao', cap', hv, _, _, hrow⟩ := HE0.out
        simp only [Value.slice.injEq] at hv
        obtain ⟨rfl, _, _⟩ := hv
        obtain ⟨g, o, e, _⟩ := hrow 0 (by omega)
        exact ⟨g, o, e⟩
      have HT : Hid (∀ W, w1.grownBy W (some b) → EAt W W.heap.size (.slice (some ⟨g, o, none⟩) (l.take 200).length cv) (l.take 200)) := fun W hW => (HE1.out W hW).take200 h2
      have HTL : Hid ((l.take 200).length = 200) := by show _ = _; rw [List.length_take]; omega
      go_wp2_with fail
      go_meet
      exact ⟨⟨l.take 200, _, _, by rw [HTL.out], HT⟩, rfl⟩
    · have h2i : ¬ (200 : Int) < (l.length : Int) := by omega
      go_wp2_with fail
      go_meet
      exact ⟨⟨l, _, _, rfl, HE1⟩, rfl⟩
  case rest =>
    obtain ⟨⟨L, aL, cL, rfl, HL⟩, hwx⟩ := hcut
    have hwx := hwx.symm
    subst hwx
    clear hcap HE1 HE0
    go_wp2_with fail
    refine (pick_any b _ 5 _ HC1.out (by omega)).mono ?_
    rintro e w2 ⟨x1, rfl, hx1, hc2, hg2⟩
    have hx1i : (x1 : Int) ≤ 10 := by omega
    clear hx1
    go_wp2_with fail
    refine (pick_any b _ 3 _ hc2 (by omega)).mono ?_
    rintro e w3 ⟨x2, rfl, hx2, hc3, hg3⟩
    have hx2i : (x2 : Int) ≤ 10 := by omega
    have hg3' := Lib.grownBy_trans hg2 hg3
    have HG3 : Hid (w.grownBy w3 (some b)) := Lib.grownBy_trans HG1.out hg3'
    have HV3 : Hid (type_of% (HV1.out.kept (hg3'.block _ HV1.out.low (by simp; omega)) hg3'.size)) := HV1.out.kept (hg3'.block _ HV1.out.low (by simp; omega)) hg3'.size
    have HC3 : Hid (Cur w3 b (m + 504)) := hc3.le (by omega)
    have CP : Hid (Calls Try.prog 25 #[.int .i64 (1 + (x1 : Int)), .int .i64 (1 + (x2 : Int)), .slice aL L.length cL] w3 fun e w' => PlO w3 w' e (plQ (1 + (x1 : Int)) (1 + (x2 : Int)) L) (plT (1 + (x1 : Int)) (1 + (x2 : Int)) L) (okP (1 + (x1 : Int)) (1 + (x2 : Int)) L)) := specPlayQ _ _ L _ w3 (HL.out w3 hg3')
    have HQ := plQ_small (1 + (x1 : Int)) (1 + (x2 : Int)) L
    generalize plQ (1 + (x1 : Int)) (1 + (x2 : Int)) L = q at CP HQ
    generalize plT (1 + (x1 : Int)) (1 + (x2 : Int)) L = T at CP
    generalize okP (1 + (x1 : Int)) (1 + (x2 : Int)) L = K at CP
    clear hc2 hg2 hc3 hg3 hg3' hx2 HG1 HV1 HC1 HL
    go_wp2_with fail
    go_at_call 25
    refine CP.out.mono ?_
    rintro e w4 ⟨a1, c1, a2, c2, a3, c3, a4, c4, rfl, hq4, -, -, hb4⟩
    obtain ⟨W5, hW5⟩ : ∃ W, W = w4.alloc (.cells #[.int .i64 q.cap, .int .i64 q.rule, .int .i64 q.next, .slice a1 q.wt.length c1, .slice a2 q.hd.length c2, .slice a3 q.dr.length c3] 24) := ⟨_, rfl⟩
    have hB5 : Below w4.heap.size w4 W5 := by rw [hW5]; exact (Below.refl _ w4).alloc (Nat.le_refl _) _
    have hX5 : Sv W5 w4.heap.size (.int .i64 q.cap) (.int .i64 q.rule) (.int .i64 q.next) (.slice a1 q.wt.length c1) (.slice a2 q.hd.length c2) (.slice a3 q.dr.length c3) := by rw [hW5]; exact Sv.fresh w4 _ _ _ _ _ _ _
    have HD5 : Hid (DqI w W5 b (m + 504) w4.heap.size q (.slice a1 q.wt.length c1) (.slice a2 q.hd.length c2) (.slice a3 q.dr.length c3)) := by
      have hb35 : Below w3.heap.size w3 W5 := hb4.trans (hB5.mono hb4.size)
      have hlow := HV3.out.low
      have hl3 := HC3.out.lt
      have hb4s := hb4.size
      have hin := hq4.ownIn
      exact ⟨HC3.out.below (hb35.mono (by omega)), Lib.grownBy_trans HG3.out ⟨hb35.os, hb35.tape, hb35.output, hb35.size, fun i hi _ => hb35.block i hi⟩, (hq4.below hB5).lower (by omega), fun g hg => by have := hin g hg; omega, hX5, HV3.out.below hb35, by omega, hbl⟩
    obtain ⟨N, hN⟩ : ∃ N, N = w4.heap.size := ⟨_, rfl⟩
    clear hq4 hb4 hB5 hX5 CP HG3 HV3 HC3
    go_upto_region 5 with fail
    rw [← hW5]
    clear hW5
    rw [← hN] at HD5 ⊢
    clear hN
    go_wp2_with fail
    refine (pick_any b _ 30 _ HD5.out.c (by omega)).mono ?_
    rintro e w6 ⟨x3, rfl, hx3, hc6, hg6⟩
    have HD6 : Hid (type_of% (HD5.out.pick hc6 hg6)) := HD5.out.pick hc6 hg6
    clear hc6 hg6 HD5 hx3
    obtain ⟨q1, q2, q3, q4, q5⟩ := HQ
    have y0 := HD6.out.x.c0
    have y1 := HD6.out.x.c1
    have y2 := HD6.out.x.c2
    have y3 := HD6.out.x.c3
    have y4 := HD6.out.x.c4
    have y5 := HD6.out.x.c5
    have f0 := HD6.out.x.f0
    have f2 := HD6.out.x.f2
    have f3 := HD6.out.x.f3
    have z0 := HD6.out.v.f0
    have z1 := HD6.out.v.f1
    have z2 := HD6.out.v.f2
    have z3 := HD6.out.v.f3
    have z4 := HD6.out.v.f4
    have z5 := HD6.out.v.f5
    have u0 := HD6.out.v.c0
    have u1 := HD6.out.v.c1
    have u2 := HD6.out.v.c2
    have u3 := HD6.out.v.c3
    have u4 := HD6.out.v.c4
    have u5 := HD6.out.v.c5
    have hNw : N ≠ w.heap.size := by have := HD6.out.s; omega
    have hwN : w.heap.size ≠ N := fun e => hNw e.symm
    by_cases h0 : x3 = 0
    · have k0 : ((x3 : Int) == 0) = true := by simp; omega
      have HSM : Hid (q.wt.length ≤ 1000 ∧ q.hd.length ≤ 1000 ∧ q.dr.length ≤ 1000 ∧ 0 ≤ q.next + 1 ∧ q.next + 1 ≤ 1000) := ⟨by omega, by omega, by omega, by omega, by omega⟩
      obtain ⟨W7, hW7⟩ : ∃ W, W = w6.setCell ⟨N, 2, none⟩ (.int .i64 (q.next + 1)) := ⟨_, rfl⟩
      have HD7 : Hid (DqI w W7 b (m + 504 + 2) N ⟨q.cap, q.rule, q.next + 1, q.wt, q.hd, q.dr⟩ (.slice a1 q.wt.length c1) (.slice a2 q.hd.length c2) (.slice a3 q.dr.length c3)) := by
        rw [hW7]
        exact HD6.out.put (.int .i64 (q.next + 1)) ⟨q.cap, q.rule, q.next + 1, q.wt, q.hd, q.dr⟩ ⟨rfl, rfl, rfl⟩ (HD6.out.x.set2 _)
      go_upto_region 12 with fail
      rw [← hW7]
      clear hW7 HD6 y0 y1 y2 y3 y4 y5 f0 f2 f3 z0 z1 z2 z3 z4 z5 u0 u1 u2 u3 u4 u5
      have y0 := HD7.out.x.c0
      have y1 := HD7.out.x.c1
      have y2 := HD7.out.x.c2
      have y3 := HD7.out.x.c3
      have y4 := HD7.out.x.c4
      have y5 := HD7.out.x.c5
      have z0 := HD7.out.v.f0
      have z1 := HD7.out.v.f1
      have z2 := HD7.out.v.f2
      have z3 := HD7.out.v.f3
      have z4 := HD7.out.v.f4
      have z5 := HD7.out.v.f5
      have u0 := HD7.out.v.c0
      have u1 := HD7.out.v.c1
      have u2 := HD7.out.v.c2
      have u3 := HD7.out.v.c3
      have u4 := HD7.out.v.c4
      have u5 := HD7.out.v.c5
      go_wp2_with fail
      (try simp only [Exit.inBlock, Exit.then])
      refine bodyPost_ret (v := .agg #[.int .i64 q.cap, .int .i64 q.rule, .int .i64 (q.next + 1), .slice a1 q.wt.length c1, .slice a2 q.hd.length c2, .slice a3 q.dr.length c3]) ?_ rfl ?_
      · rw [results_cell1 rfl]
        go_simp
      · exact HD7.out.fin (by omega) HSM.out
    have k0 : ((x3 : Int) == 0) = false := by simp; omega
    by_cases h1 : x3 = 1
    · have k1 : ((x3 : Int) == 1) = true := by simp; omega
      have HD6d : Hid (DqI w w6.drew b (m + 504 + 2) N q (.slice a1 q.wt.length c1) (.slice a2 q.hd.length c2) (.slice a3 q.dr.length c3)) := HD6.out.below (Below.refl _ _).drew
      have hcd := HD6d.out.c
      have y3d := HD6d.out.x.c3
      go_upto_region 9 with fail
      go_region_law
        (first
          | (go_simp; go_at_call 61; refine (pick_any b _ 9 _ hcd (by omega)).mono ?_; rintro e w7 ⟨x7, rfl, hx7, hc7, hg7⟩; have HD7 : Hid (type_of% (HD6d.out.pick hc7 hg7)) := HD6d.out.pick hc7 hg7; have hx7i : (x7 : Int) ≤ 40 := (by omega); have y37 := HD7.out.x.c3; have y3a : ∀ o, (w7.alloc o).cell? ⟨N, 3, none⟩ = some (.slice a1 q.wt.length c1) := (fun o => (HD7.out.below ((Below.refl _ w7).alloc (Nat.le_refl _) o)).x.c3))
          | (refine step_append_lies _ rfl _ _ _ rfl (w.heap.size + 1) 3 i0 (.int .i64 0) 1 8 Try.underlying22 hi0 hz0 hz1' hz2 rfl (by decide) _ q.wt.length _ rfl (World.ownsRow.alloc HD7.out.r.a _) ⟨w7.heap.size, 0, none⟩ 1 1 [.int .i64 (x7 : Int)] rfl rfl (World.news_of_block (heap_alloc_new w7 _)) (one1Q (x7 : Int)) (by omega) (by unfold maxLen; omega) (by omega) (by simp; have := HD7.out.v.low; omega) (w7.heap.size + 1) (by simp) ?_; intro g9 cap9 w9 hown9 hgrow9 hat9 hlt9; have HTE := HD7.out.tell hown9 hgrow9 hat9; have y39 := HTE.2.1; have f39 := HTE.2.2.1))
      all_goals
        have HD9 : Hid (type_of% HTE.2.2.2) := HTE.2.2.2
        have HSM : Hid ((q.wt ++ [(x7 : Int)]).length ≤ 1000 ∧ q.hd.length ≤ 1000 ∧ q.dr.length ≤ 1000 ∧ 0 ≤ q.next ∧ q.next ≤ 1000) := ⟨by rw [List.length_append, List.length_singleton]; omega, by omega, by omega, by omega, by omega⟩
        obtain ⟨W9, hW9⟩ : ∃ W, W = w9.setCell ⟨N, 3, none⟩ (.slice (some ⟨g9, 0, none⟩) (q.wt.length + 1) cap9) := ⟨_, rfl⟩
        rw [← hW9] at HD9 ⊢
        clear hW9 HTE y39 f39 y37 y3a y3d hcd HD6 HD6d HD7 hown9 hgrow9 hat9 hc7 hg7 y0 y1 y2 y3 y4 y5 f0 f2 f3 z0 z1 z2 z3 z4 z5 u0 u1 u2 u3 u4 u5
        have y0 := HD9.out.x.c0
        have y1 := HD9.out.x.c1
        have y2 := HD9.out.x.c2
        have y3 := HD9.out.x.c3
        have y4 := HD9.out.x.c4
        have y5 := HD9.out.x.c5
        have z0 := HD9.out.v.f0
        have z1 := HD9.out.v.f1
        have z2 := HD9.out.v.f2
        have z3 := HD9.out.v.f3
        have z4 := HD9.out.v.f4
        have z5 := HD9.out.v.f5
        have u0 := HD9.out.v.c0
        have u1 := HD9.out.v.c1
        have u2 := HD9.out.v.c2
        have u3 := HD9.out.v.c3
        have u4 := HD9.out.v.c4
        have u5 := HD9.out.v.c5
        go_wp2_with fail
        (try simp only [Exit.inBlock, Exit.then])
        refine bodyPost_ret (v := .agg #[.int .i64 q.cap, .int .i64 q.rule, .int .i64 q.next, .slice (some ⟨g9, 0, none⟩) (q.wt.length + 1) cap9, .slice a2 q.hd.length c2, .slice a3 q.dr.length c3]) ?_ rfl ?_
        · rw [results_cell1 rfl]
          go_simp
        · exact HD9.out.fin (by omega) HSM.out
    have k1 : ((x3 : Int) == 1) = false := by simp; omega
    by_cases h2 : x3 = 2
    · have k2 : ((x3 : Int) == 2) = true := by simp; omega
      have CA : Hid (Calls Try.prog 60 #[.pointer (some ⟨b, 0, none⟩), .slice (some ⟨w6.heap.size, 0, none⟩) 3 3] (w6.alloc (.cells #[.int .i64 0, .int .i64 10, .int .i64 11] 3)) fun e w' => ∃ i, i < 3 ∧ e = .returned (.int .i64 ([0, 10, 11].getD i 0)) ∧ Cur w' b (m + 504 + 2 + 2) ∧ (w6.alloc (.cells #[.int .i64 0, .int .i64 10, .int .i64 11] 3)).grownBy w' (some b)) := by
        refine among_any b _ w6.heap.size 3 3 (fun i => [0, 10, 11].getD i 0) _ (HD6.out.c.alloc _) (by omega) (by omega) (by omega) (by have := HD6.out.c.lt; omega) (fun i hi => ?_)
        rw [World.cell?_alloc_at _ _ _ _ rfl]
        match i, hi with
        | 0, _ => rfl
        | 1, _ => rfl
        | 2, _ => rfl
      have HD6a : Hid (type_of% (HD6.out.below ((Below.refl _ w6).alloc (Nat.le_refl _) (.cells #[.int .i64 0, .int .i64 10, .int .i64 11] 3)))) := HD6.out.below ((Below.refl _ w6).alloc (Nat.le_refl _) (.cells #[.int .i64 0, .int .i64 10, .int .i64 11] 3))
      go_wp2_with fail
      go_at_call 60
      refine CA.out.mono ?_
      rintro e w7 ⟨i7, _, rfl, hc7, hg7⟩
      generalize ([0, 10, 11] : List Int).getD i7 0 = z7
      have HD7 : Hid (type_of% (HD6a.out.pick hc7 hg7)) := HD6a.out.pick hc7 hg7
      have HSM : Hid (q.wt.length ≤ 1000 ∧ q.hd.length ≤ 1000 ∧ q.dr.length ≤ 1000 ∧ 0 ≤ q.next ∧ q.next ≤ 1000) := ⟨by omega, by omega, by omega, by omega, by omega⟩
      obtain ⟨W7, hW7⟩ : ∃ W, W = w7.setCell ⟨N, 0, none⟩ (.int .i64 z7) := ⟨_, rfl⟩
      have HD8 : Hid (DqI w W7 b (m + 504 + 2 + 2) N ⟨z7, q.rule, q.next, q.wt, q.hd, q.dr⟩ (.slice a1 q.wt.length c1) (.slice a2 q.hd.length c2) (.slice a3 q.dr.length c3)) := by
        rw [hW7]
        exact HD7.out.put (.int .i64 z7) ⟨z7, q.rule, q.next, q.wt, q.hd, q.dr⟩ ⟨rfl, rfl, rfl⟩ (HD7.out.x.set0 _)
      clear HD6 HD6a hc7 hg7 CA y0 y1 y2 y3 y4 y5 f0 f2 f3 z0 z1 z2 z3 z4 z5 u0 u1 u2 u3 u4 u5
      have y0 := HD7.out.x.c0
      have f0 := HD7.out.x.f0
      go_upto_region 12 with fail
      rw [← hW7]
      clear hW7 HD7 y0 f0
      have y0 := HD8.out.x.c0
      have y1 := HD8.out.x.c1
      have y2 := HD8.out.x.c2
      have y3 := HD8.out.x.c3
      have y4 := HD8.out.x.c4
      have y5 := HD8.out.x.c5
      have z0 := HD8.out.v.f0
      have z1 := HD8.out.v.f1
      have z2 := HD8.out.v.f2
      have z3 := HD8.out.v.f3
      have z4 := HD8.out.v.f4
      have z5 := HD8.out.v.f5
      have u0 := HD8.out.v.c0
      have u1 := HD8.out.v.c1
      have u2 := HD8.out.v.c2
      have u3 := HD8.out.v.c3
      have u4 := HD8.out.v.c4
      have u5 := HD8.out.v.c5
      go_wp2_with fail
      (try simp only [Exit.inBlock, Exit.then])
      refine bodyPost_ret (v := .agg #[.int .i64 z7, .int .i64 q.rule, .int .i64 q.next, .slice a1 q.wt.length c1, .slice a2 q.hd.length c2, .slice a3 q.dr.length c3]) ?_ rfl ?_
      · rw [results_cell1 rfl]
        go_simp
      · exact HD8.out.fin (by omega) HSM.out
    have k2 : ((x3 : Int) == 2) = false := by simp; omega
    go_wp2_with fail
    (try simp only [Exit.inBlock, Exit.then])
    refine bodyPost_ret (v := .agg #[.int .i64 q.cap, .int .i64 q.rule, .int .i64 q.next, .slice a1 q.wt.length c1, .slice a2 q.hd.length c2, .slice a3 q.dr.length c3]) ?_ rfl ?_
    · rw [results_cell1 rfl]
      go_simp
    · exact HD6.out.fin (by omega) ⟨by omega, by omega, by omega, by omega, by omega⟩

end Go.Proofs.Ytfkhbbmnjndmcaa
