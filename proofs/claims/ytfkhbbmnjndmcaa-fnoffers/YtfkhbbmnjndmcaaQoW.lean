/- The law FnOffers, walked: for what is drawn from the bytes it answers true. -/
import Derived.Test.YtfkhbbmnjndmcaaQoP
import Derived.Test.YtfkhbbmnjndmcaaQoC
import Derived.Test.YtfkhbbmnjndmcaaQtB
import Derived.Test.YtfkhbbmnjndmcaaQsI
import Derived.Test.YtfkhbbmnjndmcaaQuG
namespace Go.Proofs.Ytfkhbbmnjndmcaa
open Go.RowKit Plain Qus

theorem CodeAt.keepQ {w w' : World} {ao : Option Addr} {len B : Nat} (h : CodeAt w ao len) (hb : Below B w w') (hB : B = w.heap.size) : CodeAt w' ao len := by
  subst hB
  exact h.below hb

/-- a queue in a variable -/
structure QvS (W : World) (N : Nat) (q : Qu) (v1 v2 v3 : Value) : Prop where
  qa : QuAt W W.heap.size q v1 v2 v3
  x : Sv W N (.int .i64 q.cap) (.int .i64 q.rule) (.int .i64 q.next) v1 v2 v3

theorem QvS.below {W W' : World} {N : Nat} {q : Qu} {v1 v2 v3 : Value} (h : QvS W N q v1 v2 v3) (hb : Below W.heap.size W W') : QvS W' N q v1 v2 v3 := ⟨h.qa.below hb, h.x.below hb⟩

theorem QvS.made {W : World} {B : Nat} {q : Qu} {v1 v2 v3 : Value} (h : QuRow W B q v1 v2 v3) (t : TypeId) : QvS (W.alloc (.cells #[.int .i64 q.cap, .int .i64 q.rule, .int .i64 q.next, v1, v2, v3] t)) W.heap.size q v1 v2 v3 :=
  ⟨h.at.below ((Below.refl _ W).alloc (Nat.le_refl _) _), Sv.fresh W _ _ _ _ _ _ _⟩

set_option maxRecDepth 100000 in
set_option maxHeartbeats 16000000 in
theorem walkFnOffers (p0 : Option Addr) (len0 cap0 : Nat) (p1 : Option Addr) (len1 cap1 : Nat) (w : World) (h0 : len0 ≤ 1048576 → CodeAt w p0 len0) (h1 : len1 ≤ 1048576 → CodeAt w p1 len1) (y0 : len0 ≤ 140737488351232) (y1 : len1 ≤ 140737488351232) :
    Calls Try.prog 11 #[.slice p0 len0 cap0, .slice p1 len1 cap1] w fun e w' => e = .returned (.bool true) ∧ Below w.heap.size w w' := by
  by_cases hbig : 1048576 < len0 + len1
  · have hbig' : (1048576 : Int) < (len0 : Int) + (len1 : Int) := by omega
    clear h0 h1
    go_enter Try.func11, Try.ntmps11
    go_wp2
    go_ret
    exact ⟨rfl, Below.refl _ _⟩
  have hbig' : ¬ (1048576 : Int) < (len0 : Int) + (len1 : Int) := by omega
  have H0 : Hid (CodeAt w p0 len0) := h0 (by omega)
  have H1 : Hid (∀ W, Below w.heap.size w W → CodeAt W p1 len1) := fun W hW => (h1 (by omega)).keepQ hW rfl
  clear h0 h1 hbig
  go_enter Try.func11, Try.ntmps11
  go_wp2_with fail
  go_at_call 41
  refine (drawOffer_any p0 len0 cap0 w H0.out).mono ?_
  rintro e w1 ⟨q, a1, c1, a2, c2, a3, c3, rfl, hr1, hsm, hb1⟩
  obtain ⟨W2, hW2⟩ : ∃ W, W = w1.alloc (.cells #[.int .i64 q.cap, .int .i64 q.rule, .int .i64 q.next, .slice a1 q.wt.length c1, .slice a2 q.hd.length c2, .slice a3 q.dr.length c3] 24) := ⟨_, rfl⟩
  have HQ2 : Hid (QvS W2 w1.heap.size q (.slice a1 q.wt.length c1) (.slice a2 q.hd.length c2) (.slice a3 q.dr.length c3)) := by rw [hW2]; exact QvS.made hr1 _
  have HB2 : Hid (Below w.heap.size w W2) := by rw [hW2]; exact hb1.alloc hb1.size _
  have HSM : Hid (SmlQ q 1048576) := ⟨by omega, by omega, by omega⟩
  have CI : Hid (Calls Try.prog 22 #[.agg #[.int .i64 q.cap, .int .i64 q.rule, .int .i64 q.next, .slice a1 q.wt.length c1, .slice a2 q.hd.length c2, .slice a3 q.dr.length c3]] W2 fun e w' => QuOut W2 w' (ofQ q).1 (fun v => e = .returned (.tuple #[v, .int .i64 (ofQ q).2.1, .bool (ofQ q).2.2]))) := implOfferQ q _ _ _ W2 HQ2.out.qa
  have CS : Hid (∀ W, Below W2.heap.size W2 W → Calls Try.prog 21 #[.agg #[.int .i64 q.cap, .int .i64 q.rule, .int .i64 q.next, .slice a1 q.wt.length c1, .slice a2 q.hd.length c2, .slice a3 q.dr.length c3]] W fun e w' => QuOut W w' (ofQ q).1 (fun v => e = .returned (.tuple #[v, .int .i64 (ofQ q).2.1, .bool (ofQ q).2.2]))) := fun W hW => specOfferQ q _ _ _ W (HQ2.out.qa.below hW) HSM.out
  have HL : Hid ((ofQ q).2.2 = true → OffQ q (ofQ q).1 (ofQ q).2.1) := offer_law
  have HSX : Hid (SmlQ (ofQ q).1 2097152) := ofQ_smallO q
  generalize (ofQ q).1 = x at CI CS HL HSX
  generalize (ofQ q).2.1 = n at CI CS HL
  generalize (ofQ q).2.2 = K at CI CS HL
  obtain ⟨N1, hN1⟩ : ∃ N, N = w1.heap.size := ⟨_, rfl⟩
  obtain ⟨hm1, hm2, hm3, hm4, hm5⟩ := hsm
  clear hr1 hb1 H0
  go_upto_region 4 with fail
  rw [← hW2]
  clear hW2
  rw [← hN1] at HQ2 ⊢
  clear hN1
  have y0 := HQ2.out.x.c0
  have y1 := HQ2.out.x.c1
  have y2 := HQ2.out.x.c2
  have y3 := HQ2.out.x.c3
  have y4 := HQ2.out.x.c4
  have y5 := HQ2.out.x.c5
  go_wp2_with fail
  go_at_call 22
  refine CI.out.mono ?_
  rintro e w3 ⟨d1, e1, d2, e2, d3, e3, rfl, hr3, hb3⟩
  obtain ⟨W4, hW4⟩ : ∃ W, W = w3.alloc (.cells #[.int .i64 x.cap, .int .i64 x.rule, .int .i64 x.next, .slice d1 x.wt.length e1, .slice d2 x.hd.length e2, .slice d3 x.dr.length e3] 24) := ⟨_, rfl⟩
  have HX4 : Hid (QvS W4 w3.heap.size x (.slice d1 x.wt.length e1) (.slice d2 x.hd.length e2) (.slice d3 x.dr.length e3)) := by rw [hW4]; exact QvS.made hr3 _
  have hb24 : Below W2.heap.size W2 W4 := by rw [hW4]; exact hb3.alloc hb3.size _
  have HQ4 : Hid (type_of% (HQ2.out.below hb24)) := HQ2.out.below hb24
  have HB4 : Hid (Below w.heap.size w W4) := HB2.out.trans (hb24.mono HB2.out.size)
  have CS4 := CS.out W4 hb24
  have HCS : Hid (type_of% CS4) := CS4
  obtain ⟨N3, hN3⟩ : ∃ N, N = w3.heap.size := ⟨_, rfl⟩
  clear hr3 hb3 hb24 CS CS4 CI y0 y1 y2 y3 y4 y5 HQ2 HB2
  go_upto_region 5 with fail
  rw [← hW4]
  clear hW4
  rw [← hN3] at HX4 ⊢
  clear hN3
  have y0 := HQ4.out.x.c0
  have y1 := HQ4.out.x.c1
  have y2 := HQ4.out.x.c2
  have y3 := HQ4.out.x.c3
  have y4 := HQ4.out.x.c4
  have y5 := HQ4.out.x.c5
  go_wp2_with fail
  go_at_call 21
  refine HCS.out.mono ?_
  rintro e w5 ⟨g1, k1, g2, k2, g3, k3, rfl, hr5, hb5⟩
  obtain ⟨W6, hW6⟩ : ∃ W, W = w5.alloc (.cells #[.int .i64 x.cap, .int .i64 x.rule, .int .i64 x.next, .slice g1 x.wt.length k1, .slice g2 x.hd.length k2, .slice g3 x.dr.length k3] 24) := ⟨_, rfl⟩
  have HY6 : Hid (QvS W6 w5.heap.size x (.slice g1 x.wt.length k1) (.slice g2 x.hd.length k2) (.slice g3 x.dr.length k3)) := by rw [hW6]; exact QvS.made hr5 _
  have hb46 : Below W4.heap.size W4 W6 := by rw [hW6]; exact hb5.alloc hb5.size _
  have HQ6 : Hid (type_of% (HQ4.out.below hb46)) := HQ4.out.below hb46
  have HX6 : Hid (type_of% (HX4.out.below hb46)) := HX4.out.below hb46
  have HB6 : Hid (Below w.heap.size w W6) := HB4.out.trans (hb46.mono HB4.out.size)
  obtain ⟨N5, hN5⟩ : ∃ N, N = w5.heap.size := ⟨_, rfl⟩
  have nok : (K != K) = false := bne_self_eq_false K
  have nnn : (n != n) = false := bne_self_eq_false n
  clear hr5 hb5 hb46 HCS y0 y1 y2 y3 y4 y5 HQ4 HX4 HB4
  go_upto_region 6 with fail
  rw [← hW6]
  clear hW6
  rw [← hN5] at HY6 ⊢
  clear hN5
  go_cut [70] (fun s wx => s = .bool false ∧ Below W6.heap.size W6 wx)
  case first =>
    have hbd : Below W6.heap.size W6 W6.drew := (Below.refl _ W6).drew
    have CM : Hid (Calls Try.prog 39 #[.agg #[.int .i64 x.cap, .int .i64 x.rule, .int .i64 x.next, .slice d1 x.wt.length e1, .slice d2 x.hd.length e2, .slice d3 x.dr.length e3], .agg #[.int .i64 x.cap, .int .i64 x.rule, .int .i64 x.next, .slice g1 x.wt.length k1, .slice g2 x.hd.length k2, .slice g3 x.dr.length k3]] W6.drew fun e w' => e = .returned (.bool true) ∧ Below W6.drew.heap.size W6.drew w') := sameQueues_same x _ _ _ _ _ _ W6.drew (HX6.out.qa.below hbd) (HY6.out.qa.below hbd) HSX.out
    obtain ⟨G, hG⟩ : ∃ G, G = gq q := ⟨_, rfl⟩
    have CGI : Hid (∀ W, Below W6.heap.size W6 W → Calls Try.prog 20 #[.agg #[.int .i64 q.cap, .int .i64 q.rule, .int .i64 q.next, .slice a1 q.wt.length c1, .slice a2 q.hd.length c2, .slice a3 q.dr.length c3]] W fun e w' => e = .returned (.bool G) ∧ Below W.heap.size W w') := fun W hW => by rw [hG]; exact implGoodQ q _ _ _ W (HQ6.out.qa.below hW)
    have CGS : Hid (∀ W, Below W6.heap.size W6 W → Calls Try.prog 18 #[.agg #[.int .i64 q.cap, .int .i64 q.rule, .int .i64 q.next, .slice a1 q.wt.length c1, .slice a2 q.hd.length c2, .slice a3 q.dr.length c3]] W fun e w' => e = .returned (.bool G) ∧ Below W.heap.size W w') := fun W hW => by rw [hG]; exact specGoodQ q _ _ _ W (HQ6.out.qa.below hW) HSM.out
    have nG : (G != G) = false := bne_self_eq_false G
    have HCW : Hid (∀ W, Below W6.heap.size W6 W → (∀ k v, k < 6 → W6.cell? ⟨N1, k, none⟩ = some v → W.cell? ⟨N1, k, none⟩ = some v)) := fun W hW k v _ hk => (hW.cell (p := ⟨N1, k, none⟩) HQ6.out.x.low).trans hk
    clear hG
    have y0 := HQ6.out.x.c0
    have y1 := HQ6.out.x.c1
    have y2 := HQ6.out.x.c2
    have y3 := HQ6.out.x.c3
    have y4 := HQ6.out.x.c4
    have y5 := HQ6.out.x.c5
    have z0 := HX6.out.x.c0
    have z1 := HX6.out.x.c1
    have z2 := HX6.out.x.c2
    have z3 := HX6.out.x.c3
    have z4 := HX6.out.x.c4
    have z5 := HX6.out.x.c5
    have u0 := HY6.out.x.c0
    have u1 := HY6.out.x.c1
    have u2 := HY6.out.x.c2
    have u3 := HY6.out.x.c3
    have u4 := HY6.out.x.c4
    have u5 := HY6.out.x.c5
    have q6d : Hid (QvS W6.drew N1 q (.slice a1 q.wt.length c1) (.slice a2 q.hd.length c2) (.slice a3 q.dr.length c3)) := HQ6.out.below hbd
    have x6d : Hid (QvS W6.drew N3 x (.slice d1 x.wt.length e1) (.slice d2 x.hd.length e2) (.slice d3 x.dr.length e3)) := HX6.out.below hbd
    have t6d : Hid (QvS W6.drew N5 x (.slice g1 x.wt.length k1) (.slice g2 x.hd.length k2) (.slice g3 x.dr.length k3)) := HY6.out.below hbd
    have yd0 := q6d.out.x.c0
    have yd1 := q6d.out.x.c1
    have yd2 := q6d.out.x.c2
    have yd3 := q6d.out.x.c3
    have yd4 := q6d.out.x.c4
    have yd5 := q6d.out.x.c5
    have zd0 := x6d.out.x.c0
    have zd1 := x6d.out.x.c1
    have zd2 := x6d.out.x.c2
    have zd3 := x6d.out.x.c3
    have zd4 := x6d.out.x.c4
    have zd5 := x6d.out.x.c5
    have ud0 := t6d.out.x.c0
    have ud1 := t6d.out.x.c1
    have ud2 := t6d.out.x.c2
    have ud3 := t6d.out.x.c3
    have ud4 := t6d.out.x.c4
    have ud5 := t6d.out.x.c5
    go_region_law
      (first
        | (go_simp; go_at_call 39; refine CM.out.mono ?_; rintro e w7 ⟨rfl, hb7⟩; have hc7 : Below W6.heap.size W6 w7 := hbd.trans (hb7.mono hbd.size); have q7 : Hid (QvS w7 N1 q (.slice a1 q.wt.length c1) (.slice a2 q.hd.length c2) (.slice a3 q.dr.length c3)) := HQ6.out.below hc7; have yc0 := q7.out.x.c0; have yc1 := q7.out.x.c1; have yc2 := q7.out.x.c2; have yc3 := q7.out.x.c3; have yc4 := q7.out.x.c4; have yc5 := q7.out.x.c5)
        | (go_simp; go_at_call 20; refine (CGI.out _ hc7).mono ?_; rintro e w8 ⟨rfl, hb8⟩; have hc8 : Below W6.heap.size W6 w8 := hc7.trans (hb8.mono hc7.size); have q8 : Hid (QvS w8 N1 q (.slice a1 q.wt.length c1) (.slice a2 q.hd.length c2) (.slice a3 q.dr.length c3)) := HQ6.out.below hc8; have ye0 := q8.out.x.c0; have ye1 := q8.out.x.c1; have ye2 := q8.out.x.c2; have ye3 := q8.out.x.c3; have ye4 := q8.out.x.c4; have ye5 := q8.out.x.c5)
        | (go_simp; go_at_call 18; refine (CGS.out _ hc8).mono ?_; rintro e w9 ⟨rfl, hb9⟩; have hc9 : Below W6.heap.size W6 w9 := hc8.trans (hb9.mono hc8.size)))
    all_goals
      go_wp2_with fail
      go_meet
      exact ⟨rfl, hc9⟩
  case rest =>
    obtain ⟨rfl, hcw⟩ := hcut
    have HQ7 : Hid (type_of% (HQ6.out.below hcw)) := HQ6.out.below hcw
    have HX7 : Hid (type_of% (HX6.out.below hcw)) := HX6.out.below hcw
    have HB7 : Hid (Below w.heap.size w wc) := HB6.out.trans (hcw.mono HB6.out.size)
    clear hcw HY6 HX6 HQ6 HB6 nok nnn HSX
    have HH : Hid (∀ W, Below w.heap.size w W → CodeAt W p1 len1) := H1
    go_upto_if 71 with fail
    go_cut [4] (fun s wx => s = .bool false ∧ Hid (Below w.heap.size w wx))
    case first =>
      cases K with
      | false =>
        go_wp2_with fail
        go_meet
        exact ⟨rfl, HB7⟩
      | true =>
        have P := HL.out rfl
        have HG := P.good
        have CG : Hid (Calls Try.prog 20 #[.agg #[.int .i64 x.cap, .int .i64 x.rule, .int .i64 x.next, .slice d1 x.wt.length e1, .slice d2 x.hd.length e2, .slice d3 x.dr.length e3]] wc fun e w' => e = .returned (.bool true) ∧ Below wc.heap.size wc w') := by
          have h := implGoodQ x _ _ _ wc HX7.out.qa
          rw [HG] at h
          exact h
        have nnx : (x.next != q.next + 1) = false := by rw [P.next]; exact bne_self_eq_false _
        have y0 := HQ7.out.x.c0
        have y1 := HQ7.out.x.c1
        have y2 := HQ7.out.x.c2
        have y3 := HQ7.out.x.c3
        have y4 := HQ7.out.x.c4
        have y5 := HQ7.out.x.c5
        have z0 := HX7.out.x.c0
        have z1 := HX7.out.x.c1
        have z2 := HX7.out.x.c2
        have z3 := HX7.out.x.c3
        have z4 := HX7.out.x.c4
        have z5 := HX7.out.x.c5
        by_cases h0 : 0 ≤ n
        · have h0' : decide (0 ≤ n) = true := by simpa using h0
          have hfull : ((q.wt.length : Int) == q.cap) = true := by rw [← P.full, h0']
          have hpos := P.some' h0
          have hposI : (0 : Int) < (q.wt.length : Int) := by omega
          have hlm : (0 : Int) ≤ (q.wt.length : Int) - 1 ∧ (q.wt.length : Int) - 1 < (q.wt.length : Int) := by omega
          have hP : Hid (OffQ q x n) := P
          have hnl : ((x.dr.length : Int) != (q.dr.length : Int) + 1) = false := by
            have e := P.drop h0
            have e2 : (x.dr.length : Int) = (q.dr.length : Int) + 1 := by omega
            rw [e2]
            exact bne_self_eq_false _
          have nn2 : (n != n) = false := bne_self_eq_false n
          have HROW : Hid (∀ i (t : Int), q.wt[i]? = some t → ∃ g o, a1 = some ⟨g, o, none⟩ ∧ g < wc.heap.size ∧ wc.cell? ⟨g, o + i, none⟩ = some (.int .i64 t)) := by
            obtain ⟨ao', cap', hv, _, _, hrow⟩ := HQ7.out.qa.a
            simp only [Value.slice.injEq] at hv
            obtain ⟨rfl, _, _⟩ := hv
            exact hrow
          clear P HG HL
          go_wp2_with fail
          go_at_call 20
          refine CG.out.mono ?_
          rintro e w8 ⟨rfl, hb8⟩
          have HQ8 : Hid (type_of% (HQ7.out.below hb8)) := HQ7.out.below hb8
          have HX8 : Hid (type_of% (HX7.out.below hb8)) := HX7.out.below hb8
          have HB8 : Hid (Below w.heap.size w w8) := HB7.out.trans (hb8.mono HB7.out.size)
          have HC8 : Hid (∀ g o, g < wc.heap.size → w8.cell? ⟨g, o, none⟩ = wc.cell? ⟨g, o, none⟩) := fun g o hg => hb8.cell (p := ⟨g, o, none⟩) hg
          clear hb8 CG y0 y1 y2 y3 y4 y5 z0 z1 z2 z3 z4 z5 HQ7 HX7 HB7
          have y0 := HQ8.out.x.c0
          have y1 := HQ8.out.x.c1
          have y2 := HQ8.out.x.c2
          have y3 := HQ8.out.x.c3
          have y4 := HQ8.out.x.c4
          have y5 := HQ8.out.x.c5
          have z0 := HX8.out.x.c0
          have z1 := HX8.out.x.c1
          have z2 := HX8.out.x.c2
          have z3 := HX8.out.x.c3
          have z4 := HX8.out.x.c4
          have z5 := HX8.out.x.c5
          by_cases r1 : q.rule = 1
          · obtain ⟨g, o, hao, hg, hc⟩ := HROW.out 0 n (hP.out.old h0 r1)
            subst hao
            have hc9 := (HC8.out g (o + 0) hg).trans hc
            rw [Nat.add_zero] at hc9
            have hr1 : (q.rule == 1) = true := by rw [r1]; rfl
            clear hc r1
            go_wp2_with fail
            go_meet
            exact ⟨rfl, HB8⟩
          have hr1 : (q.rule == 1) = false := by simpa using r1
          by_cases r2 : q.rule = 2
          · obtain ⟨g, o, hao, hg, hc⟩ := HROW.out (q.wt.length - 1) n (hP.out.new h0 r2)
            subst hao
            obtain ⟨p, hp⟩ : ∃ p, q.wt.length = p + 1 := ⟨q.wt.length - 1, by omega⟩
            have hc9 := (HC8.out g (o + (q.wt.length - 1)) hg).trans hc
            have hr2 : (q.rule == 2) = true := by rw [r2]; rfl
            have hpl : (q.wt.length : Int) - 1 = (p : Int) := by omega
            rw [hp, Nat.add_sub_cancel] at hc9
            have hpI : (p : Int) < (q.wt.length : Int) := by omega
            have hp0 : (0 : Int) ≤ (p : Int) := by omega
            have HPL : Hid (type_of% hp) := hp
            clear hc r2 hp
            go_wp2_with fail
            go_meet
            exact ⟨rfl, HB8⟩
          · have hr2 : (q.rule == 2) = false := by simpa using r2
            have ht : n = q.next := hP.out.that h0 r1 r2
            have nn3 : (q.next != q.next) = false := bne_self_eq_false _
            subst ht
            go_wp2_with fail
            go_meet
            exact ⟨rfl, HB8⟩
        · have h0' : decide (0 ≤ n) = false := by simpa using h0
          have hfull : ((q.wt.length : Int) == q.cap) = false := by rw [← P.full, h0']
          clear P HG HL
          go_wp2_with fail
          go_at_call 20
          refine CG.out.mono ?_
          rintro e w8 ⟨rfl, hb8⟩
          have HB8 : Hid (Below w.heap.size w w8) := HB7.out.trans (hb8.mono HB7.out.size)
          clear hb8 CG
          go_wp2_with fail
          go_meet
          exact ⟨rfl, HB8⟩
    case rest =>
      obtain ⟨rfl, HBX⟩ := hcut
      clear HQ7 HX7 HB7 HL HSM hm1 hm2 hm3 hm4 hm5
      go_wp2_with fail
      go_at_call 42
      refine (drawHand_any p1 len1 cap1 wc (HH.out wc HBX.out)).mono ?_
      rintro e w10 ⟨s, i1, j1, i2, j2, i3, j3, rfl, hr1, hsm, hb1⟩
      obtain ⟨W11, hW11⟩ : ∃ W, W = w10.alloc (.cells #[.int .i64 s.cap, .int .i64 s.rule, .int .i64 s.next, .slice i1 s.wt.length j1, .slice i2 s.hd.length j2, .slice i3 s.dr.length j3] 24) := ⟨_, rfl⟩
      have HS11 : Hid (QvS W11 w10.heap.size s (.slice i1 s.wt.length j1) (.slice i2 s.hd.length j2) (.slice i3 s.dr.length j3)) := by rw [hW11]; exact QvS.made hr1 _
      have HB11 : Hid (Below w.heap.size w W11) := by rw [hW11]; exact HBX.out.trans ((hb1.alloc hb1.size _).mono HBX.out.size)
      have HSM : Hid (SmlQ s 1048576) := ⟨by omega, by omega, by omega⟩
      have CI : Hid (Calls Try.prog 24 #[.agg #[.int .i64 s.cap, .int .i64 s.rule, .int .i64 s.next, .slice i1 s.wt.length j1, .slice i2 s.hd.length j2, .slice i3 s.dr.length j3]] W11 fun e w' => QuOut W11 w' (hnQ s).1 (fun v => e = .returned (.tuple #[v, .int .i64 (hnQ s).2.1, .bool (hnQ s).2.2]))) := implHandQ s _ _ _ W11 HS11.out.qa
      have CS : Hid (∀ W, Below W11.heap.size W11 W → Calls Try.prog 23 #[.agg #[.int .i64 s.cap, .int .i64 s.rule, .int .i64 s.next, .slice i1 s.wt.length j1, .slice i2 s.hd.length j2, .slice i3 s.dr.length j3]] W fun e w' => QuOut W w' (hnQ s).1 (fun v => e = .returned (.tuple #[v, .int .i64 (hnQ s).2.1, .bool (hnQ s).2.2]))) := fun W hW => specHandQ s _ _ _ W (HS11.out.qa.below hW) HSM.out
      have CGI : Hid (∀ W, Below W11.heap.size W11 W → Calls Try.prog 36 #[.agg #[.int .i64 s.cap, .int .i64 s.rule, .int .i64 s.next, .slice i1 s.wt.length j1, .slice i2 s.hd.length j2, .slice i3 s.dr.length j3]] W fun e w' => e = .returned (.tuple #[.int .i64 (gpQ s).1, .bool (gpQ s).2]) ∧ Below W.heap.size W w') := fun W hW => implGaps s _ _ _ W (HS11.out.qa.below hW)
      have CGS : Hid (∀ W, Below W11.heap.size W11 W → Calls Try.prog 35 #[.agg #[.int .i64 s.cap, .int .i64 s.rule, .int .i64 s.next, .slice i1 s.wt.length j1, .slice i2 s.hd.length j2, .slice i3 s.dr.length j3]] W fun e w' => e = .returned (.tuple #[.int .i64 (gpQ s).1, .bool (gpQ s).2]) ∧ Below W.heap.size W w') := fun W hW => specGaps s _ _ _ W (HS11.out.qa.below hW) HSM.out
      have HL : Hid ((hnQ s).2.2 = true → HandQ s (hnQ s).1 (hnQ s).2.1) := hand_law
      have HSX : Hid (SmlQ (hnQ s).1 2097152) := hnQ_smallO s
      generalize (hnQ s).1 = uq at CI CS HL HSX
      generalize (hnQ s).2.1 = kk at CI CS HL
      generalize (hnQ s).2.2 = KK at CI CS HL
      generalize (gpQ s).1 = gg at CGI CGS
      generalize (gpQ s).2 = GG at CGI CGS
      obtain ⟨N10, hN10⟩ : ∃ N, N = w10.heap.size := ⟨_, rfl⟩
      clear hr1 hb1 hsm HSM HBX
      go_upto_region 21 with fail
      rw [← hW11]
      clear hW11
      rw [← hN10] at HS11 ⊢
      clear hN10
      have y0 := HS11.out.x.c0
      have y1 := HS11.out.x.c1
      have y2 := HS11.out.x.c2
      have y3 := HS11.out.x.c3
      have y4 := HS11.out.x.c4
      have y5 := HS11.out.x.c5
      go_wp2_with fail
      go_at_call 24
      refine CI.out.mono ?_
      rintro e w12 ⟨m1, o1, m2, o2, m3, o3, rfl, hr3, hb3⟩
      obtain ⟨W13, hW13⟩ : ∃ W, W = w12.alloc (.cells #[.int .i64 uq.cap, .int .i64 uq.rule, .int .i64 uq.next, .slice m1 uq.wt.length o1, .slice m2 uq.hd.length o2, .slice m3 uq.dr.length o3] 24) := ⟨_, rfl⟩
      have HU13 : Hid (QvS W13 w12.heap.size uq (.slice m1 uq.wt.length o1) (.slice m2 uq.hd.length o2) (.slice m3 uq.dr.length o3)) := by rw [hW13]; exact QvS.made hr3 _
      have HB13 : Hid (Below W11.heap.size W11 W13) := by rw [hW13]; exact hb3.alloc hb3.size _
      have HS13 : Hid (type_of% (HS11.out.below HB13.out)) := HS11.out.below HB13.out
      have CS13 := CS.out W13 HB13.out
      have HCS : Hid (type_of% CS13) := CS13
      obtain ⟨N12, hN12⟩ : ∃ N, N = w12.heap.size := ⟨_, rfl⟩
      clear hr3 hb3 CS CS13 CI y0 y1 y2 y3 y4 y5 HS11
      go_upto_region 22 with fail
      rw [← hW13]
      clear hW13
      rw [← hN12] at HU13 ⊢
      clear hN12
      have y0 := HS13.out.x.c0
      have y1 := HS13.out.x.c1
      have y2 := HS13.out.x.c2
      have y3 := HS13.out.x.c3
      have y4 := HS13.out.x.c4
      have y5 := HS13.out.x.c5
      go_wp2_with fail
      go_at_call 23
      refine HCS.out.mono ?_
      rintro e w14 ⟨v1, t1, v2, t2, v3, t3, rfl, hr5, hb5⟩
      obtain ⟨W15, hW15⟩ : ∃ W, W = w14.alloc (.cells #[.int .i64 uq.cap, .int .i64 uq.rule, .int .i64 uq.next, .slice v1 uq.wt.length t1, .slice v2 uq.hd.length t2, .slice v3 uq.dr.length t3] 24) := ⟨_, rfl⟩
      have HV15 : Hid (QvS W15 w14.heap.size uq (.slice v1 uq.wt.length t1) (.slice v2 uq.hd.length t2) (.slice v3 uq.dr.length t3)) := by rw [hW15]; exact QvS.made hr5 _
      have hb1315 : Below W13.heap.size W13 W15 := by rw [hW15]; exact hb5.alloc hb5.size _
      have HB15 : Hid (Below W11.heap.size W11 W15) := HB13.out.trans (hb1315.mono HB13.out.size)
      have HS15 : Hid (type_of% (HS13.out.below hb1315)) := HS13.out.below hb1315
      have HU15 : Hid (type_of% (HU13.out.below hb1315)) := HU13.out.below hb1315
      obtain ⟨N14, hN14⟩ : ∃ N, N = w14.heap.size := ⟨_, rfl⟩
      clear hr5 hb5 hb1315 HCS y0 y1 y2 y3 y4 y5 HS13 HU13 HB13
      go_upto_region 23 with fail
      rw [← hW15]
      clear hW15
      rw [← hN14] at HV15 ⊢
      clear hN14
      have y0 := HS15.out.x.c0
      have y1 := HS15.out.x.c1
      have y2 := HS15.out.x.c2
      have y3 := HS15.out.x.c3
      have y4 := HS15.out.x.c4
      have y5 := HS15.out.x.c5
      go_wp2_with fail
      go_at_call 36
      refine (CGI.out W15 HB15.out).mono ?_
      rintro e w16 ⟨rfl, hb16⟩
      have HB16 : Hid (Below W11.heap.size W11 w16) := HB15.out.trans (hb16.mono HB15.out.size)
      have HS16 : Hid (type_of% (HS15.out.below hb16)) := HS15.out.below hb16
      have HU16 : Hid (type_of% (HU15.out.below hb16)) := HU15.out.below hb16
      have HV16 : Hid (type_of% (HV15.out.below hb16)) := HV15.out.below hb16
      clear hb16 CGI y0 y1 y2 y3 y4 y5 HS15 HU15 HV15 HB15
      have y0 := HS16.out.x.c0
      have y1 := HS16.out.x.c1
      have y2 := HS16.out.x.c2
      have y3 := HS16.out.x.c3
      have y4 := HS16.out.x.c4
      have y5 := HS16.out.x.c5
      go_wp2_with fail
      go_at_call 35
      refine (CGS.out w16 HB16.out).mono ?_
      rintro e w17 ⟨rfl, hb17⟩
      have HB17 : Hid (Below W11.heap.size W11 w17) := HB16.out.trans (hb17.mono HB16.out.size)
      have HS17 : Hid (type_of% (HS16.out.below hb17)) := HS16.out.below hb17
      have HU17 : Hid (type_of% (HU16.out.below hb17)) := HU16.out.below hb17
      have HV17 : Hid (type_of% (HV16.out.below hb17)) := HV16.out.below hb17
      have HW17 : Hid (Below w.heap.size w w17) := HB11.out.trans (HB17.out.mono HB11.out.size)
      clear hb17 CGS y0 y1 y2 y3 y4 y5 HS16 HU16 HV16 HB16 HB17 HB11
      go_wp2_with fail
      go_at_call 43
      refine (drawWhere_any p1 len1 cap1 w17 (HH.out w17 HW17.out)).mono ?_
      rintro e w18 ⟨no, zq, f1, l1, f2, l2, f3, l3, rfl, hr8, hsm, hb8⟩
      obtain ⟨W19, hW19⟩ : ∃ W, W = w18.alloc (.cells #[.int .i64 zq.cap, .int .i64 zq.rule, .int .i64 zq.next, .slice f1 zq.wt.length l1, .slice f2 zq.hd.length l2, .slice f3 zq.dr.length l3] 24) := ⟨_, rfl⟩
      have HZ19 : Hid (QvS W19 w18.heap.size zq (.slice f1 zq.wt.length l1) (.slice f2 zq.hd.length l2) (.slice f3 zq.dr.length l3)) := by rw [hW19]; exact QvS.made hr8 _
      have hb1719 : Below w17.heap.size w17 W19 := by rw [hW19]; exact hb8.alloc hb8.size _
      have HS19 : Hid (type_of% (HS17.out.below hb1719)) := HS17.out.below hb1719
      have HU19 : Hid (type_of% (HU17.out.below hb1719)) := HU17.out.below hb1719
      have HV19 : Hid (type_of% (HV17.out.below hb1719)) := HV17.out.below hb1719
      have HW19 : Hid (Below w.heap.size w W19) := HW17.out.trans (hb1719.mono HW17.out.size)
      have CWI : Hid (Calls Try.prog 34 #[.agg #[.int .i64 zq.cap, .int .i64 zq.rule, .int .i64 zq.next, .slice f1 zq.wt.length l1, .slice f2 zq.hd.length l2, .slice f3 zq.dr.length l3], .int .i64 no] W19 fun e w' => e = .returned (.tuple #[.int .i64 (whQ zq no).1, .bool (whQ zq no).2]) ∧ Below W19.heap.size W19 w') := implWhere zq no _ _ _ W19 HZ19.out.qa
      have CWS : Hid (∀ W, Below W19.heap.size W19 W → Calls Try.prog 33 #[.agg #[.int .i64 zq.cap, .int .i64 zq.rule, .int .i64 zq.next, .slice f1 zq.wt.length l1, .slice f2 zq.hd.length l2, .slice f3 zq.dr.length l3], .int .i64 no] W fun e w' => e = .returned (.tuple #[.int .i64 (whQ zq no).1, .bool (whQ zq no).2]) ∧ Below W.heap.size W w') := fun W hW => specWhere zq no _ _ _ W (HZ19.out.qa.below hW) ⟨by omega, by omega, by omega⟩
      generalize (whQ zq no).1 = wk at CWI CWS
      generalize (whQ zq no).2 = WK at CWI CWS
      obtain ⟨N18, hN18⟩ : ∃ N, N = w18.heap.size := ⟨_, rfl⟩
      clear hr8 hb8 hsm hb1719 HS17 HU17 HV17 HW17
      go_upto_region 26 with fail
      rw [← hW19]
      clear hW19
      rw [← hN18] at HZ19 ⊢
      clear hN18
      have y0 := HZ19.out.x.c0
      have y1 := HZ19.out.x.c1
      have y2 := HZ19.out.x.c2
      have y3 := HZ19.out.x.c3
      have y4 := HZ19.out.x.c4
      have y5 := HZ19.out.x.c5
      go_wp2_with fail
      go_at_call 34
      refine CWI.out.mono ?_
      rintro e w20 ⟨rfl, hb20⟩
      have HZ20 : Hid (type_of% (HZ19.out.below hb20)) := HZ19.out.below hb20
      have HS20 : Hid (type_of% (HS19.out.below hb20)) := HS19.out.below hb20
      have HU20 : Hid (type_of% (HU19.out.below hb20)) := HU19.out.below hb20
      have HV20 : Hid (type_of% (HV19.out.below hb20)) := HV19.out.below hb20
      have HW20 : Hid (Below w.heap.size w w20) := HW19.out.trans (hb20.mono HW19.out.size)
      have CW20 := CWS.out w20 hb20
      have HC20 : Hid (type_of% CW20) := CW20
      clear hb20 CWI CWS CW20 y0 y1 y2 y3 y4 y5 HZ19 HS19 HU19 HV19 HW19
      have y0 := HZ20.out.x.c0
      have y1 := HZ20.out.x.c1
      have y2 := HZ20.out.x.c2
      have y3 := HZ20.out.x.c3
      have y4 := HZ20.out.x.c4
      have y5 := HZ20.out.x.c5
      go_wp2_with fail
      go_at_call 33
      refine HC20.out.mono ?_
      rintro e w21 ⟨rfl, hb21⟩
      have HS21 : Hid (type_of% (HS20.out.below hb21)) := HS20.out.below hb21
      have HU21 : Hid (type_of% (HU20.out.below hb21)) := HU20.out.below hb21
      have HV21 : Hid (type_of% (HV20.out.below hb21)) := HV20.out.below hb21
      have HW21 : Hid (Below w.heap.size w w21) := HW20.out.trans (hb21.mono HW20.out.size)
      have CM : Hid (Calls Try.prog 39 #[.agg #[.int .i64 uq.cap, .int .i64 uq.rule, .int .i64 uq.next, .slice m1 uq.wt.length o1, .slice m2 uq.hd.length o2, .slice m3 uq.dr.length o3], .agg #[.int .i64 uq.cap, .int .i64 uq.rule, .int .i64 uq.next, .slice v1 uq.wt.length t1, .slice v2 uq.hd.length t2, .slice v3 uq.dr.length t3]] w21 fun e w' => e = .returned (.bool true) ∧ Below w21.heap.size w21 w') := sameQueues_same uq _ _ _ _ _ _ w21 HU21.out.qa HV21.out.qa HSX.out
      have n1 : (KK != KK) = false := bne_self_eq_false _
      have n2 : (kk != kk) = false := bne_self_eq_false _
      have n3 : (GG != GG) = false := bne_self_eq_false _
      have n4 : (gg != gg) = false := bne_self_eq_false _
      have n5 : (WK != WK) = false := bne_self_eq_false _
      have n6 : (wk != wk) = false := bne_self_eq_false _
      clear hb21 HC20 y0 y1 y2 y3 y4 y5 HZ20 HS20 HU20 HV20 HW20
      have z0 := HU21.out.x.c0
      have z1 := HU21.out.x.c1
      have z2 := HU21.out.x.c2
      have z3 := HU21.out.x.c3
      have z4 := HU21.out.x.c4
      have z5 := HU21.out.x.c5
      have u0 := HV21.out.x.c0
      have u1 := HV21.out.x.c1
      have u2 := HV21.out.x.c2
      have u3 := HV21.out.x.c3
      have u4 := HV21.out.x.c4
      have u5 := HV21.out.x.c5
      go_wp2_with fail
      go_at_call 39
      refine CM.out.mono ?_
      rintro e w22 ⟨rfl, hb22⟩
      have HS22 : Hid (type_of% (HS21.out.below hb22)) := HS21.out.below hb22
      have HU22 : Hid (type_of% (HU21.out.below hb22)) := HU21.out.below hb22
      have HW22 : Hid (Below w.heap.size w w22) := HW21.out.trans (hb22.mono HW21.out.size)
      clear hb22 CM z0 z1 z2 z3 z4 z5 u0 u1 u2 u3 u4 u5 HS21 HU21 HV21 HW21
      cases KK with
      | false =>
        go_wp2_with fail
        go_ret
        exact ⟨rfl, HW22.out⟩
      | true =>
        have P := HL.out rfl
        have HG := P.good
        have CG : Hid (Calls Try.prog 20 #[.agg #[.int .i64 uq.cap, .int .i64 uq.rule, .int .i64 uq.next, .slice m1 uq.wt.length o1, .slice m2 uq.hd.length o2, .slice m3 uq.dr.length o3]] w22 fun e w' => e = .returned (.bool true) ∧ Below w22.heap.size w22 w') := by
          have h := implGoodQ uq _ _ _ w22 HU22.out.qa
          rw [HG] at h
          exact h
        have hpos : 0 < s.wt.length := (List.getElem?_eq_some_iff.1 P.first).1
        have hposI : (0 : Int) < (s.wt.length : Int) := by omega
        obtain ⟨g, o, hao, hg, hc⟩ : ∃ g o, i1 = some ⟨g, o, none⟩ ∧ g < w22.heap.size ∧ w22.cell? ⟨g, o + 0, none⟩ = some (.int .i64 kk) := by
          obtain ⟨ao', cap', hv, _, _, hrow⟩ := HS22.out.qa.a
          simp only [Value.slice.injEq] at hv
          obtain ⟨rfl, _, _⟩ := hv
          exact hrow 0 kk P.first
        subst hao
        rw [Nat.add_zero] at hc
        have nk : (kk == kk) = true := beq_self_eq_true kk
        clear P HG HL
        have y0 := HS22.out.x.c0
        have y1 := HS22.out.x.c1
        have y2 := HS22.out.x.c2
        have y3 := HS22.out.x.c3
        have y4 := HS22.out.x.c4
        have y5 := HS22.out.x.c5
        have z0 := HU22.out.x.c0
        have z1 := HU22.out.x.c1
        have z2 := HU22.out.x.c2
        have z3 := HU22.out.x.c3
        have z4 := HU22.out.x.c4
        have z5 := HU22.out.x.c5
        go_wp2_with fail
        go_at_call 20
        refine CG.out.mono ?_
        rintro e w23 ⟨rfl, hb23⟩
        have HW23 : Hid (Below w.heap.size w w23) := HW22.out.trans (hb23.mono HW22.out.size)
        clear hb23 CG
        go_wp2_with fail
        go_ret
        exact ⟨rfl, HW23.out⟩

end Go.Proofs.Ytfkhbbmnjndmcaa
