/- The law FnQueue, walked: for what is drawn from the bytes it answers true. -/
import Derived.Test.YtfkhbbmnjndmcaaQtP
import Derived.Test.YtfkhbbmnjndmcaaQtB
import Derived.Test.YtfkhbbmnjndmcaaQtC
import Derived.Test.YtfkhbbmnjndmcaaQpB
namespace Go.Proofs.Ytfkhbbmnjndmcaa
open Go.RowKit Plain Qus
open Mch (en)

/-- what stays in memory: the queue that was played, what was told, the offers -/
structure QvI (w W : World) (N : Nat) (q : Qu) (T : List Int) (l : List Bool) (v1 v2 v3 vt vl : Value) : Prop where
  qa : QuAt W W.heap.size q v1 v2 v3
  x : Sv W N (.int .i64 q.cap) (.int .i64 q.rule) (.int .i64 q.next) v1 v2 v3
  ta : ZAt W W.heap.size vt T
  la : EAt W W.heap.size vl l
  b : Below w.heap.size w W

theorem QvI.below {w W W' : World} {N : Nat} {q : Qu} {T : List Int} {l : List Bool} {v1 v2 v3 vt vl : Value} (h : QvI w W N q T l v1 v2 v3 vt vl) (hb : Below W.heap.size W W') : QvI w W' N q T l v1 v2 v3 vt vl :=
  ⟨h.qa.below hb, h.x.below hb, h.ta.below hb, h.la.below hb, h.b.trans (hb.mono h.b.size)⟩

set_option maxRecDepth 100000 in
set_option maxHeartbeats 16000000 in
theorem walkFnQueue (a0 : Option Addr) (len0 cap0 : Nat) (w : World) (h0 : len0 ≤ 1048576 → CodeAt w a0 len0) (y0 : len0 ≤ 140737488351232) :
    Calls Try.prog 10 #[.slice a0 len0 cap0] w fun e w' => e = .returned (.bool true) ∧ Below w.heap.size w w' := by
  by_cases hbig : 1048576 < len0
  · have hbig' : (1048576 : Int) < (len0 : Int) := by omega
    clear h0
    go_enter Try.func10, Try.ntmps10
    go_wp2
    go_ret
    exact ⟨rfl, Below.refl _ _⟩
  have hbig' : ¬ (1048576 : Int) < (len0 : Int) := by omega
  have H0 : Hid (CodeAt w a0 len0) := h0 (by omega)
  clear h0 hbig
  go_enter Try.func10, Try.ntmps10
  go_wp2_with fail
  go_at_call 37
  refine (drawPlay_any a0 len0 cap0 w H0.out).mono ?_
  rintro e w1 ⟨⟨c, r, l, v, rfl, hR1, hl201⟩, hB1⟩
  have HB1 : Hid (Below w.heap.size w w1) := hB1
  have HA1 : Hid (EAt w1 w1.heap.size v l) := EAt.own hR1
  have CI : Hid (Calls Try.prog 27 #[.int .i64 c, .int .i64 r, v] w1 fun e w' => PlO w1 w' e (plQ c r l) (plT c r l) (okP c r l)) := implPlayQ c r l v w1 HA1.out
  have CS : Hid (∀ W, Below w1.heap.size w1 W → Calls Try.prog 25 #[.int .i64 c, .int .i64 r, v] W fun e w' => PlO W w' e (plQ c r l) (plT c r l) (okP c r l)) := fun W hW => specPlayQ c r l v W (HA1.out.below hW)
  have HL : Hid (okP c r l = true → PlayQ c r l (plQ c r l) (plT c r l)) := play_law
  have HN : Hid (okP c r l = false → plQ c r l = qz ∧ plT c r l = []) := okP_no
  obtain ⟨av, cv, hv⟩ := hR1.slice
  subst hv
  have hcap : l.length ≤ cv ∧ cv ≤ 9223372036854775807 := by
    obtain ⟨_, _, h1, h2, h3, _⟩ := HA1.out
    simp only [Value.slice.injEq] at h1
    unfold maxLen at h3
    obtain ⟨_, _, rfl⟩ := h1
    exact ⟨h2, by omega⟩
  generalize plQ c r l = q at CI CS HL HN
  generalize plT c r l = T at CI CS HL HN
  generalize okP c r l = K at CI CS HL HN
  clear hR1 H0 hB1
  go_wp2_with fail
  go_at_call 27
  refine CI.out.mono ?_
  rintro e w2 ⟨a1, c1, a2, c2, a3, c3, a4, c4, rfl, hq2, ht2, -, hb2⟩
  obtain ⟨W3, hW3⟩ : ∃ W, W = w2.alloc (.cells #[.int .i64 q.cap, .int .i64 q.rule, .int .i64 q.next, .slice a1 q.wt.length c1, .slice a2 q.hd.length c2, .slice a3 q.dr.length c3] 24) := ⟨_, rfl⟩
  have hB3 : Below w2.heap.size w2 W3 := by rw [hW3]; exact (Below.refl _ w2).alloc (Nat.le_refl _) _
  have hX3 : Sv W3 w2.heap.size (.int .i64 q.cap) (.int .i64 q.rule) (.int .i64 q.next) (.slice a1 q.wt.length c1) (.slice a2 q.hd.length c2) (.slice a3 q.dr.length c3) := by rw [hW3]; exact Sv.fresh w2 _ _ _ _ _ _ _
  have hb13 : Below w1.heap.size w1 W3 := hb2.trans (hB3.mono hb2.size)
  have HV3 : Hid (QvI w W3 w2.heap.size q T l (.slice a1 q.wt.length c1) (.slice a2 q.hd.length c2) (.slice a3 q.dr.length c3) (.slice a4 T.length c4) (.slice av l.length cv)) :=
    ⟨hq2.at.below hB3, hX3, (ZAt.own ht2).below hB3, HA1.out.below hb13, HB1.out.trans (hb13.mono HB1.out.size)⟩
  have CS3 : Hid (Calls Try.prog 25 #[.int .i64 c, .int .i64 r, .slice av l.length cv] W3 fun e w' => PlO W3 w' e q T K) := CS.out W3 hb13
  obtain ⟨N, hN⟩ : ∃ N, N = w2.heap.size := ⟨_, rfl⟩
  clear hq2 ht2 hb2 CI CS hB3 hX3 hb13 HA1 HB1
  go_upto_region 5 with fail
  rw [← hW3]
  clear hW3
  rw [← hN] at HV3 ⊢
  clear hN
  go_wp2_with fail
  go_at_call 25
  refine CS3.out.mono ?_
  rintro e w4 ⟨d1, e1, d2, e2, d3, e3, d4, e4, rfl, hq4, ht4, -, hb4⟩
  obtain ⟨W5, hW5⟩ : ∃ W, W = w4.alloc (.cells #[.int .i64 q.cap, .int .i64 q.rule, .int .i64 q.next, .slice d1 q.wt.length e1, .slice d2 q.hd.length e2, .slice d3 q.dr.length e3] 24) := ⟨_, rfl⟩
  have hB5 : Below w4.heap.size w4 W5 := by rw [hW5]; exact (Below.refl _ w4).alloc (Nat.le_refl _) _
  have hX5 : Sv W5 w4.heap.size (.int .i64 q.cap) (.int .i64 q.rule) (.int .i64 q.next) (.slice d1 q.wt.length e1) (.slice d2 q.hd.length e2) (.slice d3 q.dr.length e3) := by rw [hW5]; exact Sv.fresh w4 _ _ _ _ _ _ _
  have HV5 : Hid (type_of% (HV3.out.below (hb4.trans (hB5.mono hb4.size)))) := HV3.out.below (hb4.trans (hB5.mono hb4.size))
  have HU5 : Hid (QvI W5 W5 w4.heap.size q T l (.slice d1 q.wt.length e1) (.slice d2 q.hd.length e2) (.slice d3 q.dr.length e3) (.slice d4 T.length e4) (.slice av l.length cv)) :=
    ⟨hq4.at.below hB5, hX5, (ZAt.own ht4).below hB5, HV5.out.la, Below.refl _ _⟩
  have HSZ : Hid (T.length ≤ 2097152 ∧ SmlQ q 2097152) := by
    cases K with
    | false =>
      obtain ⟨e1, e2⟩ := HN.out rfl
      rw [e1, e2]
      exact ⟨by decide, ⟨by decide, by decide, by decide⟩⟩
    | true =>
      have P := HL.out rfl
      have h1 := P.small
      exact ⟨by rw [P.len]; omega, ⟨by omega, by omega, by omega⟩⟩
  obtain ⟨N4, hN4⟩ : ∃ N, N = w4.heap.size := ⟨_, rfl⟩
  have nok : (K != K) = false := bne_self_eq_false K
  have CM : Hid (Calls Try.prog 38 #[.slice a4 T.length c4, .slice d4 T.length e4] W5 fun e w' => e = .returned (.bool true) ∧ Below W5.heap.size W5 w') := sameIntsQ T _ _ W5 HV5.out.ta HU5.out.ta HSZ.out.1
  clear hq4 ht4 hb4 hB5 hX5 CS3 HV3
  go_upto_region 6 with fail
  rw [← hW5]
  clear hW5
  rw [← hN4] at HU5 ⊢
  clear hN4
  go_wp2_with fail
  go_at_call 38
  refine CM.out.mono ?_
  rintro e w6 ⟨rfl, hb6⟩
  have HV6 : Hid (type_of% (HV5.out.below hb6)) := HV5.out.below hb6
  have HU6 : Hid (type_of% (HU5.out.below hb6)) := HU5.out.below hb6
  have CQ : Hid (Calls Try.prog 39 #[.agg #[.int .i64 q.cap, .int .i64 q.rule, .int .i64 q.next, .slice a1 q.wt.length c1, .slice a2 q.hd.length c2, .slice a3 q.dr.length c3], .agg #[.int .i64 q.cap, .int .i64 q.rule, .int .i64 q.next, .slice d1 q.wt.length e1, .slice d2 q.hd.length e2, .slice d3 q.dr.length e3]] w6 fun e w' => e = .returned (.bool true) ∧ Below w6.heap.size w6 w') := sameQueues_same q _ _ _ _ _ _ w6 HV6.out.qa HU6.out.qa HSZ.out.2
  have y0 := HV6.out.x.c0
  have y1 := HV6.out.x.c1
  have y2 := HV6.out.x.c2
  have y3 := HV6.out.x.c3
  have y4 := HV6.out.x.c4
  have y5 := HV6.out.x.c5
  have z0 := HU6.out.x.c0
  have z1 := HU6.out.x.c1
  have z2 := HU6.out.x.c2
  have z3 := HU6.out.x.c3
  have z4 := HU6.out.x.c4
  have z5 := HU6.out.x.c5
  clear hb6 CM HV5 HU5 HSZ
  go_wp2_with fail
  go_at_call 39
  refine CQ.out.mono ?_
  rintro e w7 ⟨rfl, hb7⟩
  have HV7 : Hid (type_of% (HV6.out.below hb7)) := HV6.out.below hb7
  clear hb7 CQ HV6 HU6 y0 y1 y2 y3 y4 y5 z0 z1 z2 z3 z4 z5 nok
  cases K with
  | false =>
    obtain ⟨eq0, eT0⟩ := HN.out rfl
    subst eT0
    have HB7 : Hid (Below w.heap.size w w7) := HV7.out.b
    clear HN HL HV7 eq0
    go_wp2_with fail
    go_ret
    exact ⟨rfl, HB7.out⟩
  | true =>
    have P := HL.out rfl
    obtain ⟨hs1, hs2, hs3⟩ := P.small
    have hsum : ((q.wt.length : Int) + (q.hd.length : Int) + (q.dr.length : Int) != q.next) = false := by
      have h1 := P.sum
      have h2 := P.next
      have e : (q.wt.length : Int) + (q.hd.length : Int) + (q.dr.length : Int) = q.next := by omega
      rw [e]
      exact bne_self_eq_false _
    have CG : Hid (Calls Try.prog 20 #[.agg #[.int .i64 q.cap, .int .i64 q.rule, .int .i64 q.next, .slice a1 q.wt.length c1, .slice a2 q.hd.length c2, .slice a3 q.dr.length c3]] w7 fun e w' => e = .returned (.bool true) ∧ Below w7.heap.size w7 w') := by
      have h := implGoodQ q _ _ _ w7 HV7.out.qa
      rw [P.good] at h
      exact h
    have HP : Hid (PlayQ c r l q T) := P
    have y0 := HV7.out.x.c0
    have y1 := HV7.out.x.c1
    have y2 := HV7.out.x.c2
    have y3 := HV7.out.x.c3
    have y4 := HV7.out.x.c4
    have y5 := HV7.out.x.c5
    clear HN HL P
    go_wp2_with fail
    go_at_call 20
    refine CG.out.mono ?_
    rintro e w8 ⟨rfl, hb8⟩
    have HV8 : Hid (type_of% (HV7.out.below hb8)) := HV7.out.below hb8
    have y3 := HV8.out.x.c3
    have y4 := HV8.out.x.c4
    have y5 := HV8.out.x.c5
    have y2 := HV8.out.x.c2
    clear hb8 CG HV7
    go_wp2_with fail
    go_loopw [12, 13, 86] (fun vd vh vi wr => ∃ (k D : Nat) (h : Int), k ≤ l.length ∧ D ≤ 100 ∧ -1 ≤ h ∧ h ≤ 100 ∧ vi = .int .i64 (k : Int) ∧ vd = .int .i64 (D : Int) ∧ vh = .int .i64 h ∧ Hid (HIn h (plP c r (l.take k)).1) ∧ Hid (D = (al (plP c r (l.take k)).1 3).length) ∧ Hid (QvI w wr N q T l (.slice a1 q.wt.length c1) (.slice a2 q.hd.length c2) (.slice a3 q.dr.length c3) (.slice a4 T.length c4) (.slice av l.length cv)))
      (fun _ _ vi _ => l.length - (intOf vi).toNat)
    case atStart => exact ⟨0, 0, -1, by omega, by omega, by omega, by omega, rfl, rfl, rfl, HIn.nil, rfl, HV8⟩
    case round =>
      obtain ⟨k, D, h, hk, hD, hh1, hh2, rfl, rfl, rfl, HH, HD, HV⟩ := hrel
      clear HV8 y2 y3 y4 y5
      have y2 := HV.out.x.c2
      have y5 := HV.out.x.c5
      have y4 := HV.out.x.c4
      have y3 := HV.out.x.c3
      have y0 := HV.out.x.c0
      have y1 := HV.out.x.c1
      by_cases hlt : k < l.length
      · have hltI : (k : Int) < (l.length : Int) := by omega
        obtain ⟨t, hT0, lo, hi, ST1, ST0⟩ := HP.out.step k (en l k) (en_at hlt) h HH.out
        have HF1 := HP.out.few (k + 1)
        have HBND : Hid (∀ x : Int, HIn x (plP c r (l.take (k + 1))).1 → -1 ≤ x ∧ x ≤ 100) := fun x hx => ⟨hx.lo, by have := hx.hi; omega⟩
        have hTl : T.length = l.length := HP.out.len
        have hkT : (k : Int) < (T.length : Int) := by omega
        obtain ⟨g, o, hao, hg, e1⟩ : ∃ g o, av = some ⟨g, o, none⟩ ∧ g < wr.heap.size ∧ wr.cell? ⟨g, o + k, none⟩ = some (.bool (en l k)) := by
          obtain ⟨ao', cap', hv, _, _, hrow⟩ := HV.out.la
          simp only [Value.slice.injEq] at hv
          obtain ⟨rfl, _, _⟩ := hv
          exact hrow k hlt
        obtain ⟨g', o', hao', hg', e2⟩ : ∃ g o, a4 = some ⟨g, o, none⟩ ∧ g < wr.heap.size ∧ wr.cell? ⟨g, o + k, none⟩ = some (.int .i64 t) := by
          obtain ⟨ao', cap', hv, _, _, hrow⟩ := HV.out.ta
          simp only [Value.slice.injEq] at hv
          obtain ⟨rfl, _, _⟩ := hv
          exact hrow k t hT0
        subst hao
        subst hao'
        have HST1 : Hid (type_of% ST1) := ST1
        have HST0 : Hid (type_of% ST0) := ST0
        have HFF : Hid (type_of% HF1) := HF1
        have HTT : Hid (T.length = l.length) := hTl
        clear ST1 ST0 HF1 hT0 HH hTl
        by_cases h0 : 0 ≤ t
        · have h0' : decide (0 ≤ t) = true := by simpa using h0
          generalize en l k = b at e1 HST1 HST0
          cases b with
          | true =>
            obtain ⟨s1, -, s3⟩ := HST1.out rfl
            obtain ⟨s1, s2⟩ := s1 h0
            have HD2 : Hid (D + 1 = (al (plP c r (l.take (k + 1))).1 3).length) := by show _ = _; rw [s2, HD.out]
            have hD1 : D + 1 ≤ 100 := by rw [HD2.out]; exact HFF.out.1
            have HH2 : Hid (type_of% s3) := s3
            have CH : Hid (Calls Try.prog 40 #[.slice a3 q.dr.length c3, .int .i64 t] wr fun e w' => e = .returned (.bool true) ∧ w' = wr) := by
              have h := hasZ_any q.dr t _ wr HV.out.qa.c (by omega)
              rw [s1] at h
              exact h
            clear s1 s2 s3 HST1 HST0
            go_wp2_with fail
            go_at_call 40
            refine CH.out.mono ?_
            rintro e w9 ⟨rfl, hw⟩
            have hw := hw.symm
            subst hw
            clear CH
            go_wp2_with fail
            go_roundw
            case rel => exact ⟨k + 1, D + 1, h, by omega, hD1, hh1, hh2, by go_num, by go_num, rfl, HH2, HD2, HV⟩
            case measure => simp [intOf]; omega
          | false =>
            obtain ⟨s1, s2, -⟩ := HST0.out rfl
            obtain ⟨s2, s3, s4⟩ := s2 h0
            have HD2 : Hid (D = (al (plP c r (l.take (k + 1))).1 3).length) := by show _ = _; rw [s1, HD.out]
            have HH2 : Hid (type_of% s4) := s4
            have hth : decide (t ≤ h) = false := by simpa using s2
            have CH : Hid (Calls Try.prog 40 #[.slice a2 q.hd.length c2, .int .i64 t] wr fun e w' => e = .returned (.bool true) ∧ w' = wr) := by
              have h := hasZ_any q.hd t _ wr HV.out.qa.b (by omega)
              rw [s3] at h
              exact h
            clear s1 s2 s3 s4 HST1 HST0
            go_wp2_with fail
            go_at_call 40
            refine CH.out.mono ?_
            rintro e w9 ⟨rfl, hw⟩
            have hw := hw.symm
            subst hw
            clear CH
            go_wp2_with fail
            go_roundw
            case rel => exact ⟨k + 1, D, t, by omega, hD, (HBND.out _ HH2.out).1, (HBND.out _ HH2.out).2, by go_num, rfl, rfl, HH2, HD2, HV⟩
            case measure => simp [intOf]; omega
        · have h0' : decide (0 ≤ t) = false := by simpa using h0
          generalize en l k = b at e1 HST1 HST0
          cases b with
          | true =>
            obtain ⟨-, s2, s3⟩ := HST1.out rfl
            have s2 := s2 h0
            have HD2 : Hid (D = (al (plP c r (l.take (k + 1))).1 3).length) := by show _ = _; rw [s2, HD.out]
            have HH2 : Hid (type_of% s3) := s3
            clear s2 s3 HST1 HST0
            go_wp2_with fail
            go_roundw
            case rel => exact ⟨k + 1, D, h, by omega, hD, hh1, hh2, by go_num, rfl, rfl, HH2, HD2, HV⟩
            case measure => simp [intOf]; omega
          | false =>
            obtain ⟨s1, -, s3⟩ := HST0.out rfl
            have s3 := s3 h0
            have HD2 : Hid (D = (al (plP c r (l.take (k + 1))).1 3).length) := by show _ = _; rw [s1, HD.out]
            have HH2 : Hid (type_of% s3) := s3
            clear s1 s3 HST1 HST0
            go_wp2_with fail
            go_roundw
            case rel => exact ⟨k + 1, D, h, by omega, hD, hh1, hh2, by go_num, rfl, rfl, HH2, HD2, HV⟩
            case measure => simp [intOf]; omega
      · have hke : k = l.length := by omega
        have hge : ¬ ((k : Int) < (l.length : Int)) := by omega
        have hDq : D = q.dr.length := by rw [HD.out, hke]; exact HP.out.all
        have hnD : ((q.dr.length : Int) != (q.dr.length : Int)) = false := bne_self_eq_false _
        subst hDq
        have hnx0 : 0 ≤ q.next := HP.out.next.1
        have hnx1 : q.next ≤ 100 := HP.out.next.2
        clear HD HH hke
        obtain ⟨wo, hwo⟩ : ∃ W, W = wr := ⟨_, rfl⟩
        subst hwo
        go_wp2_with fail
        go_loopw [17] (fun vi wr => ∃ i : Nat, (i : Int) ≤ q.next ∧ vi = .int .i64 (i : Int) ∧ Hid (QvI w wr N q T l (.slice a1 q.wt.length c1) (.slice a2 q.hd.length c2) (.slice a3 q.dr.length c3) (.slice a4 T.length c4) (.slice av l.length cv)))
          (fun vi _ => q.next.toNat - (intOf vi).toNat)
        case atStart => exact ⟨0, by omega, rfl, HV⟩
        case round =>
          obtain ⟨i, hi, rfl, HV⟩ := hrel
          clear y0 y1 y2 y3 y4 y5
          have y0 := HV.out.x.c0
          have y1 := HV.out.x.c1
          have y2 := HV.out.x.c2
          have y3 := HV.out.x.c3
          have y4 := HV.out.x.c4
          have y5 := HV.out.x.c5
          by_cases hlt : (i : Int) < q.next
          · obtain ⟨t, ht, lo, hi3, n1, n2, n3⟩ := HP.out.where' i hlt
            have CW : Hid (Calls Try.prog 34 #[.agg #[.int .i64 q.cap, .int .i64 q.rule, .int .i64 q.next, .slice a1 q.wt.length c1, .slice a2 q.hd.length c2, .slice a3 q.dr.length c3], .int .i64 (i : Int)] wr fun e w' => e = .returned (.tuple #[.int .i64 t, .bool true]) ∧ Below wr.heap.size wr w') := by
              have h := implWhere q (i : Int) _ _ _ wr HV.out.qa
              rw [ht] at h
              exact h
            generalize hb1 : decide ((i : Int) ∈ q.wt) = b1 at n1
            generalize hb2 : decide ((i : Int) ∈ q.hd) = b2 at n2
            generalize hb3 : decide ((i : Int) ∈ q.dr) = b3 at n3
            have HB1 : Hid (type_of% hb1) := hb1
            have HB2 : Hid (type_of% hb2) := hb2
            have HB3 : Hid (type_of% hb3) := hb3
            have m1 : ((t == 1) != b1) = false := by rw [n1]; exact bne_self_eq_false _
            have m2 : ((t == 2) != b2) = false := by rw [n2]; exact bne_self_eq_false _
            have m3 : ((t == 3) != b3) = false := by rw [n3]; exact bne_self_eq_false _
            clear ht m1 m2 m3 hb1 hb2 hb3
            go_wp2_with fail
            go_at_call 34
            refine CW.out.mono ?_
            rintro e w9 ⟨rfl, hb9⟩
            have HV9 : Hid (type_of% (HV.out.below hb9)) := HV.out.below hb9
            have C1 : Hid (Calls Try.prog 40 #[.slice a1 q.wt.length c1, .int .i64 (i : Int)] w9 fun e w' => e = .returned (.bool b1) ∧ w' = w9) := by
              have h := hasZ_any q.wt (i : Int) _ w9 HV9.out.qa.a (by omega)
              rw [HB1.out] at h
              exact h
            have C2 : Hid (Calls Try.prog 40 #[.slice a2 q.hd.length c2, .int .i64 (i : Int)] w9 fun e w' => e = .returned (.bool b2) ∧ w' = w9) := by
              have h := hasZ_any q.hd (i : Int) _ w9 HV9.out.qa.b (by omega)
              rw [HB2.out] at h
              exact h
            have C3 : Hid (Calls Try.prog 40 #[.slice a3 q.dr.length c3, .int .i64 (i : Int)] w9 fun e w' => e = .returned (.bool b3) ∧ w' = w9) := by
              have h := hasZ_any q.dr (i : Int) _ w9 HV9.out.qa.c (by omega)
              rw [HB3.out] at h
              exact h
            clear hb9 CW HV y0 y1 y2 y3 y4 y5
            have y3 := HV9.out.x.c3
            have y4 := HV9.out.x.c4
            have y5 := HV9.out.x.c5
            go_wp2_with fail
            go_at_call 40
            refine C1.out.mono ?_
            rintro e w10 ⟨rfl, hw⟩
            have hw := hw.symm
            subst hw
            go_wp2_with fail
            go_at_call 40
            refine C2.out.mono ?_
            rintro e w10 ⟨rfl, hw⟩
            have hw := hw.symm
            subst hw
            go_wp2_with fail
            go_at_call 40
            refine C3.out.mono ?_
            rintro e w10 ⟨rfl, hw⟩
            have hw := hw.symm
            subst hw
            clear C1 C2 C3
            go_wp2_with fail
            go_roundw
            case rel => exact ⟨i + 1, by omega, by go_num, HV9⟩
            case measure => simp [intOf]; omega
          · have HB7 : Hid (Below w.heap.size w wr) := HV.out.b
            go_wp2_with fail
            go_ret
            exact ⟨rfl, HB7.out⟩

end Go.Proofs.Ytfkhbbmnjndmcaa
