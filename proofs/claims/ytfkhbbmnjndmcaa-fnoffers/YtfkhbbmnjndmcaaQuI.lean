/- The program's functions over queues: NewQueue, GoodQueue, WhereIs, Offer, Hand. -/
import Derived.Test.YtfkhbbmnjndmcaaQuV
import Derived.Test.YtfkhbbmnjndmcaaQuW
namespace Go.Proofs.Ytfkhbbmnjndmcaa
open Go.RowKit Plain Qus

theorem results_cell_tmpQ {fn : Func} {p u : Tmp} {ty : TypeId} (h : fn.results = #[.cell p ty, .tmp u]) (tmps : Array Value) (P : Program) (w : World) :
    (results fn tmps).run P w =
      ((asAddr (tmps.getD p undef)).run P w).andThen fun a w₁ => ((loadVar ty a).run P w₁).andThen fun x w₂ => .ok (.tuple #[x, tmps.getD u undef]) w₂ := by
  simp only [results, h]
  simp [Sem.run_bind, Result.andThen]
theorem results_cell_tmp2Q {fn : Func} {p u v : Tmp} {ty : TypeId} (h : fn.results = #[.cell p ty, .tmp u, .tmp v]) (tmps : Array Value) (P : Program) (w : World) :
    (results fn tmps).run P w =
      ((asAddr (tmps.getD p undef)).run P w).andThen fun a w₁ => ((loadVar ty a).run P w₁).andThen fun x w₂ => .ok (.tuple #[x, tmps.getD u undef, tmps.getD v undef]) w₂ := by
  simp only [results, h]
  simp [Sem.run_bind, Result.andThen]

theorem Below.set6Q {w w' : World} {B b : Nat} {x0 x1 x2 x3 x4 x5 : Value} (h : Below B w w') (hb : B ≤ b) : Below B w ((((((w'.setCell ⟨b, 0, none⟩ x0).setCell ⟨b, 1, none⟩ x1).setCell ⟨b, 2, none⟩ x2).setCell ⟨b, 3, none⟩ x3).setCell ⟨b, 4, none⟩ x4).setCell ⟨b, 5, none⟩ x5) :=
  (((((h.setCell (p := ⟨b, 0, none⟩) hb _).setCell (p := ⟨b, 1, none⟩) hb _).setCell (p := ⟨b, 2, none⟩) hb _).setCell (p := ⟨b, 3, none⟩) hb _).setCell (p := ⟨b, 4, none⟩) hb _).setCell (p := ⟨b, 5, none⟩) hb _
theorem QuRow.set6 {w : World} {B b : Nat} {q : Qu} {v1 v2 v3 x0 x1 x2 x3 x4 x5 : Value} (h : QuRow w B q v1 v2 v3) (hb : b < B) : QuRow ((((((w.setCell ⟨b, 0, none⟩ x0).setCell ⟨b, 1, none⟩ x1).setCell ⟨b, 2, none⟩ x2).setCell ⟨b, 3, none⟩ x3).setCell ⟨b, 4, none⟩ x4).setCell ⟨b, 5, none⟩ x5) B q v1 v2 v3 :=
  (((((h.setCell b 0 _ hb).setCell b 1 _ hb).setCell b 2 _ hb).setCell b 3 _ hb).setCell b 4 _ hb).setCell b 5 _ hb

/-- a new queue -/
def nqQ (c r : Int) : Qu := if okR c r then ⟨c, r, 0, [], [], []⟩ else qz

theorem QuOut.zero {w w' : World} {P : Value → Prop} (hp : P (.agg #[.int .i64 0, .int .i64 0, .int .i64 0, .slice none 0 0, .slice none 0 0, .slice none 0 0])) (hb : Below w.heap.size w w') : QuOut w w' qz P :=
  ⟨none, 0, none, 0, none, 0, hp, QuRow.nil _ _ 0 0 0, hb⟩

set_option maxRecDepth 100000 in
set_option maxHeartbeats 4000000 in
theorem implNewQ (c r : Int) (w : World) : Calls Try.prog 13 #[.int .i64 c, .int .i64 r] w fun e w' => QuOut w w' (nqQ c r) (fun v => e = .returned (.tuple #[v, .bool (okR c r)])) := by
  have rc := fun (tmps : Array Value) (P : Program) (w : World) => results_cell_tmpQ (fn := Try.f13) (p := 4) (u := 5) (ty := 24) rfl tmps P w
  obtain ⟨W0, hW0⟩ : ∃ W, W = w.alloc (.cells #[.int .i64 0, .int .i64 0, .int .i64 0, .slice none 0 0, .slice none 0 0, .slice none 0 0] 24) := ⟨_, rfl⟩
  have hB0 : Below w.heap.size w W0 := by rw [hW0]; exact (Below.refl _ w).alloc (Nat.le_refl _) _
  have V1 : Sv W0 w.heap.size (.int .i64 0) (.int .i64 0) (.int .i64 0) (.slice none 0 0) (.slice none 0 0) (.slice none 0 0) := by rw [hW0]; exact Sv.fresh w _ _ _ _ _ _ _
  have CN := newLineup_any c r W0
  have HB : Hid (type_of% hB0) := hB0
  have HV0 : Hid (type_of% V1) := V1
  have hsz : w.heap.size < W0.heap.size := V1.low
  clear hB0 V1
  cases hK : okR c r with
  | false =>
    rw [hK] at CN
    have HQ : Hid (nqQ c r = qz) := by show _ = _; unfold nqQ; rw [hK]; rfl
    clear hK
    go_enter Try.func13, Try.ntmps13
    go_upto_region 1 with fail
    rw [← hW0]
    clear hW0
    go_wp2_with fail
    go_at_call 45
    refine CN.mono ?_
    rintro e w1 ⟨rfl, hb1, -⟩
    have HV : Hid (type_of% (HV0.out.below hb1)) := HV0.out.below hb1
    have HE : Hid (Below w.heap.size w w1) := HB.out.trans (hb1.mono HB.out.size)
    clear hb1 CN
    have y0 := HV.out.c0
    have z0 := HV.out.f0
    have y1 := HV.out.c1
    have z1 := HV.out.f1
    have y2 := HV.out.c2
    have z2 := HV.out.f2
    have y3 := HV.out.c3
    have z3 := HV.out.f3
    have y4 := HV.out.c4
    have z4 := HV.out.f4
    have y5 := HV.out.c5
    have z5 := HV.out.f5
    go_wp2_with fail
    (try simp only [Exit.inBlock, Exit.then])
    refine bodyPost_ret (v := .tuple #[.agg #[.int .i64 0, .int .i64 0, .int .i64 0, .slice none 0 0, .slice none 0 0, .slice none 0 0], .bool false]) ?_ rfl ?_
    · rw [rc]
      go_simp
    · rw [HQ.out]; exact QuOut.zero rfl (Below.set6Q HE.out (Nat.le_refl _))
  | true =>
    rw [hK] at CN
    have HQ : Hid (nqQ c r = tq c r []) := by show _ = _; unfold nqQ; rw [hK]; rfl
    clear hK
    go_enter Try.func13, Try.ntmps13
    go_upto_region 1 with fail
    rw [← hW0]
    clear hW0
    go_wp2_with fail
    go_at_call 45
    refine CN.mono ?_
    rintro e w1 ⟨rfl, hb1, hL⟩
    have hL := hL (by trivial)
    have HE : Hid (Below w.heap.size w w1) := HB.out.trans (hb1.mono HB.out.size)
    have CT := toldU W0.heap.size W0.heap.size c r [] _ w1 hL (by simp)
    have HV1 : Hid (type_of% (HV0.out.below hb1)) := HV0.out.below hb1
    have hsz1 : w.heap.size < w1.heap.size := HV1.out.low
    clear hb1 CN hL
    go_wp2_with fail
    go_at_call 46
    refine CT.mono ?_
    rintro e w2 ⟨a1, c1, a2, c2, a3, c3, rfl, hr, hb2⟩
    have HV : Hid (type_of% (HV1.out.below hb2)) := HV1.out.below hb2
    have HE2 : Hid (Below w.heap.size w w2) := HE.out.trans (hb2.mono HE.out.size)
    have HR : Hid (type_of% hr) := hr
    clear hr hb2 CT
    have y0 := HV.out.c0
    have z0 := HV.out.f0
    have y1 := HV.out.c1
    have z1 := HV.out.f1
    have y2 := HV.out.c2
    have z2 := HV.out.f2
    have y3 := HV.out.c3
    have z3 := HV.out.f3
    have y4 := HV.out.c4
    have z4 := HV.out.f4
    have y5 := HV.out.c5
    have z5 := HV.out.f5
    go_wp2_with fail
    (try simp only [Exit.inBlock, Exit.then])
    refine bodyPost_ret (v := .tuple #[.agg #[.int .i64 (tq c r []).cap, .int .i64 (tq c r []).rule, .int .i64 (tq c r []).next, .slice a1 (tq c r []).wt.length c1, .slice a2 (tq c r []).hd.length c2, .slice a3 (tq c r []).dr.length c3], .bool true]) ?_ rfl ?_
    · rw [rc]
      go_simp
    · rw [HQ.out]
      exact ⟨a1, c1, a2, c2, a3, c3, rfl, (HR.out.set6 hsz1).lower (by omega), Below.set6Q HE2.out (Nat.le_refl _)⟩

set_option maxRecDepth 100000 in
set_option maxHeartbeats 4000000 in
theorem implGoodQ (q : Qu) (v1 v2 v3 : Value) (w : World) (h : QuAt w w.heap.size q v1 v2 v3) :
    Calls Try.prog 20 #[q.val v1 v2 v3] w fun e w' => e = .returned (.bool (gq q)) ∧ Below w.heap.size w w' := by
  obtain ⟨W0, hW0⟩ : ∃ W, W = w.alloc (.cells #[.int .i64 q.cap, .int .i64 q.rule, .int .i64 q.next, v1, v2, v3] 24) := ⟨_, rfl⟩
  have hB0 : Below w.heap.size w W0 := by rw [hW0]; exact (Below.refl _ w).alloc (Nat.le_refl _) _
  have V1 : Sv W0 w.heap.size (.int .i64 q.cap) (.int .i64 q.rule) (.int .i64 q.next) v1 v2 v3 := by rw [hW0]; exact Sv.fresh w _ _ _ _ _ _ _
  have CL := lineupOf_any q v1 v2 v3 W0 (h.below hB0)
  obtain ⟨a1, c1, a2, c2, a3, c3, rfl, rfl, rfl⟩ := h.form
  unfold Qu.val at CL ⊢
  have HB : Hid (type_of% hB0) := hB0
  generalize gq q = K at CL
  have y0 := V1.c0
  have y1 := V1.c1
  have y2 := V1.c2
  have y3 := V1.c3
  have y4 := V1.c4
  have y5 := V1.c5
  clear h V1 hB0
  go_enter Try.func20, Try.ntmps20
  go_upto_region 1 with fail
  rw [← hW0]
  clear hW0
  go_wp2_with fail
  go_at_call 49
  refine CL.mono ?_
  rintro e w1 ⟨u, rfl, hb1, -⟩
  have HE : Hid (Below w.heap.size w w1) := HB.out.trans (hb1.mono HB.out.size)
  clear hb1 CL
  go_wp2_with fail
  go_ret
  exact ⟨rfl, HE.out⟩

set_option maxRecDepth 100000 in
set_option maxHeartbeats 4000000 in
theorem implWhere (q : Qu) (no : Int) (v1 v2 v3 : Value) (w : World) (h : QuAt w w.heap.size q v1 v2 v3) :
    Calls Try.prog 34 #[q.val v1 v2 v3, .int .i64 no] w fun e w' => e = .returned (.tuple #[.int .i64 (whQ q no).1, .bool (whQ q no).2]) ∧ Below w.heap.size w w' := by
  obtain ⟨W0, hW0⟩ : ∃ W, W = w.alloc (.cells #[.int .i64 q.cap, .int .i64 q.rule, .int .i64 q.next, v1, v2, v3] 24) := ⟨_, rfl⟩
  have hB0 : Below w.heap.size w W0 := by rw [hW0]; exact (Below.refl _ w).alloc (Nat.le_refl _) _
  have V1 : Sv W0 w.heap.size (.int .i64 q.cap) (.int .i64 q.rule) (.int .i64 q.next) v1 v2 v3 := by rw [hW0]; exact Sv.fresh w _ _ _ _ _ _ _
  have CL := lineupOf_any q v1 v2 v3 W0 (h.below hB0)
  obtain ⟨a1, c1, a2, c2, a3, c3, rfl, rfl, rfl⟩ := h.form
  unfold Qu.val at CL ⊢
  have HB : Hid (type_of% hB0) := hB0
  have y0 := V1.c0
  have y1 := V1.c1
  have y2 := V1.c2
  have y3 := V1.c3
  have y4 := V1.c4
  have y5 := V1.c5
  clear h V1 hB0
  cases hK : gq q with
  | false =>
    have HQ : Hid (whQ q no = (0, false)) := by show _ = _; unfold whQ; rw [if_neg (by rw [hK]; simp)]
    rw [hK] at CL
    clear hK
    go_enter Try.func34, Try.ntmps34
    go_upto_region 1 with fail
    rw [← hW0]
    clear hW0
    go_wp2_with fail
    go_at_call 49
    refine CL.mono ?_
    rintro e w1 ⟨u, rfl, hb1, -⟩
    have HE : Hid (Below w.heap.size w w1) := HB.out.trans (hb1.mono HB.out.size)
    clear hb1 CL
    go_wp2_with fail
    go_ret2
    exact ⟨by rw [HQ.out]; rfl, HE.out⟩
  | true =>
    have HP := gq_parts hK
    have hlen := HP.2.2.2.2
    have hgd := (gq_gd hK).1.len
    have HW : Hid (∀ i : Nat, (i : Int) < q.next → whQ q i = ((mq q).getD i 0, true)) := fun i hi => by
      unfold whQ
      rw [if_pos ⟨hK, by omega, hi⟩, wh_mark hK hi]
    have HN : Hid (¬ (0 ≤ no ∧ no < q.next) → whQ q no = (0, false)) := fun h => by
      unfold whQ
      rw [if_neg (fun g => h g.2)]
    rw [hK] at CL
    clear hK HP
    have HLN : Hid (((mq q).length : Int) = q.next) := hlen
    have hl1 : ((mq q).length : Int) ≤ q.next := by omega
    have hl2 : q.next ≤ ((mq q).length : Int) := by omega
    generalize mq q = M at *
    clear hlen
    by_cases n0 : no < 0
    · have d0 : decide (no < 0) = true := by simpa using n0
      have HQ : Hid (whQ q no = (0, false)) := HN.out (by omega)
      clear n0 HW HN
      go_enter Try.func34, Try.ntmps34
      go_upto_region 1 with fail
      rw [← hW0]
      clear hW0
      go_wp2_with fail
      go_at_call 49
      refine CL.mono ?_
      rintro e w1 ⟨u, rfl, hb1, -⟩
      have HE : Hid (Below w.heap.size w w1) := HB.out.trans (hb1.mono HB.out.size)
      clear hb1 CL
      go_wp2_with fail
      go_ret2
      exact ⟨by rw [HQ.out]; rfl, HE.out⟩
    · obtain ⟨n, rfl⟩ : ∃ n : Nat, no = (n : Int) := ⟨no.toNat, by omega⟩
      have d0 : ¬ ((n : Int) < 0) := by omega
      by_cases n1 : n < M.length
      · have HQ : Hid (whQ q n = (M.getD n 0, true)) := HW.out n (by omega)
        have d1 : decide (M.length ≤ n) = false := by simp; omega
        have n1' : (n : Int) < (M.length : Int) := by omega
        clear n0 HW HN
        go_enter Try.func34, Try.ntmps34
        go_upto_region 1 with fail
        rw [← hW0]
        clear hW0
        go_wp2_with fail
        go_at_call 49
        refine CL.mono ?_
        rintro e w1 ⟨u, rfl, hb1, hL⟩
        obtain ⟨b, vm, hu, hL2⟩ := hL (by trivial)
        clear hL
        subst hu
        have hL := hL2
        clear hL2
        have CN := nextU _ b _ _ M vm w1 hL
        obtain ⟨g, cap, hvm, _, _, hcc, _, hlc, hcm⟩ := hL.cell n1
        have c3 := hL.c3
        unfold maxLen at hcm
        subst hvm
        generalize M.getD n 0 = y at hcc HQ
        have HE : Hid (Below w.heap.size w w1) := HB.out.trans (hb1.mono HB.out.size)
        clear hb1 CL hL
        go_wp2_with fail
        go_at_call 57
        refine CN.mono ?_
        rintro e w2 ⟨rfl, hw⟩
        have hw := hw.symm
        subst hw
        go_wp2_with fail
        go_ret2
        exact ⟨by rw [HQ.out]; rfl, HE.out⟩
      · have HQ : Hid (whQ q n = (0, false)) := HN.out (by omega)
        have d1 : decide (M.length ≤ n) = true := by simp; omega
        clear n0 HW HN n1
        go_enter Try.func34, Try.ntmps34
        go_upto_region 1 with fail
        rw [← hW0]
        clear hW0
        go_wp2_with fail
        go_at_call 49
        refine CL.mono ?_
        rintro e w1 ⟨u, rfl, hb1, hL⟩
        obtain ⟨b, vm, hu, hL2⟩ := hL (by trivial)
        clear hL
        subst hu
        have hL := hL2
        clear hL2
        have CN := nextU _ b _ _ M vm w1 hL
        have HE : Hid (Below w.heap.size w w1) := HB.out.trans (hb1.mono HB.out.size)
        clear hb1 CL hL
        go_wp2_with fail
        go_at_call 57
        refine CN.mono ?_
        rintro e w2 ⟨rfl, hw⟩
        have hw := hw.symm
        subst hw
        go_wp2_with fail
        go_ret2
        exact ⟨by rw [HQ.out]; rfl, HE.out⟩

set_option maxRecDepth 100000 in
set_option maxHeartbeats 4000000 in
theorem afterOffer (q : Qu) (v1 v2 v3 : Value) (w : World) (h : QuAt w w.heap.size q v1 v2 v3) :
    Calls Try.prog 52 #[q.val v1 v2 v3, .func (.func 53) #[] #[]] w fun e w' => QuOut w w' (ofQ q).1 (fun v => e = .returned (.tuple #[v, .int .i64 (ofQ q).2.1, .bool (ofQ q).2.2])) := by
  have rc := fun (tmps : Array Value) (P : Program) (w : World) => results_cell_tmp2Q (fn := Try.f52) (p := 4) (u := 5) (v := 6) (ty := 24) rfl tmps P w
  obtain ⟨W0, hW0⟩ : ∃ W, W = (w.alloc (.cells #[.int .i64 q.cap, .int .i64 q.rule, .int .i64 q.next, v1, v2, v3] 24)).alloc (.cells #[.int .i64 0, .int .i64 0, .int .i64 0, .slice none 0 0, .slice none 0 0, .slice none 0 0] 24) := ⟨_, rfl⟩
  have hB0 : Below w.heap.size w W0 := by rw [hW0]; exact ((Below.refl _ w).alloc (Nat.le_refl _) _).alloc (by simp) _
  have V1 : Sv W0 w.heap.size (.int .i64 q.cap) (.int .i64 q.rule) (.int .i64 q.next) v1 v2 v3 := by rw [hW0]; exact (Sv.fresh w _ _ _ _ _ _ _).below ((Below.refl _ _).alloc (Nat.le_refl _) _)
  have V2 : Sv W0 (w.heap.size + 1) (.int .i64 0) (.int .i64 0) (.int .i64 0) (.slice none 0 0) (.slice none 0 0) (.slice none 0 0) := by
    have h := Sv.fresh (w.alloc (.cells #[.int .i64 q.cap, .int .i64 q.rule, .int .i64 q.next, v1, v2, v3] 24)) (.int .i64 0) (.int .i64 0) (.int .i64 0) (.slice none 0 0) (.slice none 0 0) (.slice none 0 0) 24
    rw [hW0]
    simpa using h
  have CL := lineupOf_any q v1 v2 v3 W0 (h.below hB0)
  obtain ⟨a1, c1, a2, c2, a3, c3, rfl, rfl, rfl⟩ := h.form
  unfold Qu.val at CL ⊢
  have HB : Hid (type_of% hB0) := hB0
  have HV0 : Hid (type_of% V2) := V2
  have hsz : w.heap.size + 1 < W0.heap.size := V2.low
  have x0 := V1.c0
  have x1 := V1.c1
  have x2 := V1.c2
  have x3 := V1.c3
  have x4 := V1.c4
  have x5 := V1.c5
  clear h V1 V2 hB0
  cases hK : gq q with
  | false =>
    have HQ : Hid (ofQ q = (qz, 0, false)) := by show _ = _; unfold ofQ; rw [hK]; rfl
    rw [hK] at CL
    clear hK
    go_enter Try.func52, Try.ntmps52
    go_upto_region 1 with fail
    rw [← hW0]
    clear hW0
    go_wp2_with fail
    go_at_call 49
    refine CL.mono ?_
    rintro e w1 ⟨u, rfl, hb1, -⟩
    have HV : Hid (type_of% (HV0.out.below hb1)) := HV0.out.below hb1
    have HE : Hid (Below w.heap.size w w1) := HB.out.trans (hb1.mono HB.out.size)
    clear hb1 CL x0 x1 x2 x3 x4 x5
    have y0 := HV.out.c0
    have z0 := HV.out.f0
    have y1 := HV.out.c1
    have z1 := HV.out.f1
    have y2 := HV.out.c2
    have z2 := HV.out.f2
    have y3 := HV.out.c3
    have z3 := HV.out.f3
    have y4 := HV.out.c4
    have z4 := HV.out.f4
    have y5 := HV.out.c5
    have z5 := HV.out.f5
    go_wp2_with fail
    (try simp only [Exit.inBlock, Exit.then])
    refine bodyPost_ret (v := .tuple #[.agg #[.int .i64 0, .int .i64 0, .int .i64 0, .slice none 0 0, .slice none 0 0, .slice none 0 0], .int .i64 0, .bool false]) ?_ rfl ?_
    · rw [rc]
      go_simp
    · rw [HQ.out]; exact QuOut.zero rfl (Below.set6Q HE.out (Nat.le_succ _))
  | true =>
    have hM := ofQ_marks hK
    have hgd := (gq_gd hK).1
    have hc1 := (gq_gd hK).2.1
    have hrr := (gq_gd hK).2.2.2
    have hgl := hgd.len
    rw [hK] at CL
    clear hK
    have HM : Hid (type_of% hM) := hM
    have HGD : Hid (type_of% hgd) := hgd
    have HRR : Hid (type_of% hrr) := hrr
    clear hM hgd hrr
    generalize mq q = M at *
    go_enter Try.func52, Try.ntmps52
    go_upto_region 1 with fail
    rw [← hW0]
    clear hW0
    go_wp2_with fail
    go_at_call 49
    refine CL.mono ?_
    rintro e w1 ⟨u, rfl, hb1, hL⟩
    obtain ⟨b, vm, hu, hL2⟩ := hL (by trivial)
    clear hL
    subst hu
    have hL := hL2
    clear hL2
    have HV1 : Hid (type_of% (HV0.out.below hb1)) := HV0.out.below hb1
    have HE1 : Hid (Below w.heap.size w w1) := HB.out.trans (hb1.mono HB.out.size)
    have hs1 : W0.heap.size ≤ w1.heap.size := hb1.size
    have CF := offerU _ b q.cap q.rule M vm w1 hL HGD.out hc1 HRR.out hs1
    have HGD2 : Hid (GdM q.cap (ofM q.cap q.rule M).1) := HGD.out.ofM hc1
    clear hb1 CL hL x0 x1 x2 x3 x4 x5
    cases hF : (ofM q.cap q.rule M).2.2 with
    | false =>
      have HQ : Hid (ofQ q = (qz, 0, false)) := by show _ = _; rw [HM.out, hF]; rfl
      rw [hF] at CF
      clear hF
      go_wp2_with fail
      go_at_call 53
      refine CF.mono ?_
      rintro e w2 ⟨rfl, -, hb2⟩
      have HV : Hid (type_of% (HV1.out.kept (hb2.block _ hsz) hb2.size)) := HV1.out.kept (hb2.block _ hsz) hb2.size
      have HE : Hid (Below w.heap.size w w2) := HE1.out.trans (hb2.mono (by omega))
      clear hb2 CF
      have y0 := HV.out.c0
      have z0 := HV.out.f0
      have y1 := HV.out.c1
      have z1 := HV.out.f1
      have y2 := HV.out.c2
      have z2 := HV.out.f2
      have y3 := HV.out.c3
      have z3 := HV.out.f3
      have y4 := HV.out.c4
      have z4 := HV.out.f4
      have y5 := HV.out.c5
      have z5 := HV.out.f5
      go_wp2_with fail
      (try simp only [Exit.inBlock, Exit.then])
      refine bodyPost_ret (v := .tuple #[.agg #[.int .i64 0, .int .i64 0, .int .i64 0, .slice none 0 0, .slice none 0 0, .slice none 0 0], .int .i64 0, .bool false]) ?_ rfl ?_
      · rw [rc]
        go_simp
      · rw [HQ.out]; exact QuOut.zero rfl (Below.set6Q HE.out (Nat.le_succ _))
    | true =>
      have HQ : Hid (ofQ q = (tq q.cap q.rule (ofM q.cap q.rule M).1, (ofM q.cap q.rule M).2.1, true)) := by show _ = _; rw [HM.out, hF]; rfl
      rw [hF] at CF
      clear hF HM
      generalize (ofM q.cap q.rule M).1 = M2 at *
      generalize (ofM q.cap q.rule M).2.1 = no at *
      go_wp2_with fail
      go_at_call 53
      refine CF.mono ?_
      rintro e w2 ⟨rfl, ⟨v9, hL2⟩, hb2⟩
      have HV2 : Hid (type_of% (HV1.out.kept (hb2.block _ hsz) hb2.size)) := HV1.out.kept (hb2.block _ hsz) hb2.size
      have HE2 : Hid (Below w.heap.size w w2) := HE1.out.trans (hb2.mono (by omega))
      have CT := toldU _ b q.cap q.rule M2 v9 w2 hL2 (by have := HGD2.out.len; omega)
      have hs2 : w1.heap.size ≤ w2.heap.size := hb2.size
      clear hb2 CF hL2
      go_wp2_with fail
      go_at_call 46
      refine CT.mono ?_
      rintro e w3 ⟨a4, c4, a5, c5, a6, c6, rfl, hr, hb3⟩
      have HV : Hid (type_of% (HV2.out.below hb3)) := HV2.out.below hb3
      have HE3 : Hid (Below w.heap.size w w3) := HE2.out.trans (hb3.mono HE2.out.size)
      have HR : Hid (type_of% hr) := hr
      clear hr hb3 CT
      have y0 := HV.out.c0
      have z0 := HV.out.f0
      have y1 := HV.out.c1
      have z1 := HV.out.f1
      have y2 := HV.out.c2
      have z2 := HV.out.f2
      have y3 := HV.out.c3
      have z3 := HV.out.f3
      have y4 := HV.out.c4
      have z4 := HV.out.f4
      have y5 := HV.out.c5
      have z5 := HV.out.f5
      go_wp2_with fail
      (try simp only [Exit.inBlock, Exit.then])
      refine bodyPost_ret (v := .tuple #[.agg #[.int .i64 (tq q.cap q.rule M2).cap, .int .i64 (tq q.cap q.rule M2).rule, .int .i64 (tq q.cap q.rule M2).next, .slice a4 (tq q.cap q.rule M2).wt.length c4, .slice a5 (tq q.cap q.rule M2).hd.length c5, .slice a6 (tq q.cap q.rule M2).dr.length c6], .int .i64 no, .bool true]) ?_ rfl ?_
      · rw [rc]
        go_simp
      · rw [HQ.out]
        exact ⟨a4, c4, a5, c5, a6, c6, rfl, (HR.out.set6 (by omega)).lower (by omega), Below.set6Q HE3.out (Nat.le_succ _)⟩

set_option maxRecDepth 100000 in
set_option maxHeartbeats 4000000 in
theorem implOfferQ (q : Qu) (v1 v2 v3 : Value) (w : World) (h : QuAt w w.heap.size q v1 v2 v3) :
    Calls Try.prog 22 #[q.val v1 v2 v3] w fun e w' => QuOut w w' (ofQ q).1 (fun v => e = .returned (.tuple #[v, .int .i64 (ofQ q).2.1, .bool (ofQ q).2.2])) := by
  have rc := fun (tmps : Array Value) (P : Program) (w : World) => results_cell_tmp2Q (fn := Try.f22) (p := 2) (u := 3) (v := 4) (ty := 24) rfl tmps P w
  obtain ⟨W0, hW0⟩ : ∃ W, W = (w.alloc (.cells #[.int .i64 q.cap, .int .i64 q.rule, .int .i64 q.next, v1, v2, v3] 24)).alloc (.cells #[.int .i64 0, .int .i64 0, .int .i64 0, .slice none 0 0, .slice none 0 0, .slice none 0 0] 24) := ⟨_, rfl⟩
  have hB0 : Below w.heap.size w W0 := by rw [hW0]; exact ((Below.refl _ w).alloc (Nat.le_refl _) _).alloc (by simp) _
  have V1 : Sv W0 w.heap.size (.int .i64 q.cap) (.int .i64 q.rule) (.int .i64 q.next) v1 v2 v3 := by rw [hW0]; exact (Sv.fresh w _ _ _ _ _ _ _).below ((Below.refl _ _).alloc (Nat.le_refl _) _)
  have V2 : Sv W0 (w.heap.size + 1) (.int .i64 0) (.int .i64 0) (.int .i64 0) (.slice none 0 0) (.slice none 0 0) (.slice none 0 0) := by
    have h := Sv.fresh (w.alloc (.cells #[.int .i64 q.cap, .int .i64 q.rule, .int .i64 q.next, v1, v2, v3] 24)) (.int .i64 0) (.int .i64 0) (.int .i64 0) (.slice none 0 0) (.slice none 0 0) (.slice none 0 0) 24
    rw [hW0]
    simpa using h
  have CA := afterOffer q v1 v2 v3 W0 (h.below hB0)
  obtain ⟨a1, c1, a2, c2, a3, c3, rfl, rfl, rfl⟩ := h.form
  unfold Qu.val at CA ⊢
  have HB : Hid (type_of% hB0) := hB0
  have HV0 : Hid (type_of% V2) := V2
  have hsz : w.heap.size + 1 < W0.heap.size := V2.low
  have x0 := V1.c0
  have x1 := V1.c1
  have x2 := V1.c2
  have x3 := V1.c3
  have x4 := V1.c4
  have x5 := V1.c5
  clear h V1 V2 hB0
  generalize ofQ q = S at CA
  obtain ⟨F, no, K⟩ := S
  dsimp only at CA
  go_enter Try.func22, Try.ntmps22
  go_upto_region 1 with fail
  rw [← hW0]
  clear hW0
  go_wp2_with fail
  go_at_call 52
  refine CA.mono ?_
  rintro e w1 ⟨a4, c4, a5, c5, a6, c6, rfl, hr, hb1⟩
  have HV : Hid (type_of% (HV0.out.below hb1)) := HV0.out.below hb1
  have HE : Hid (Below w.heap.size w w1) := HB.out.trans (hb1.mono HB.out.size)
  have HR : Hid (type_of% hr) := hr
  clear hr hb1 CA x0 x1 x2 x3 x4 x5
  have y0 := HV.out.c0
  have z0 := HV.out.f0
  have y1 := HV.out.c1
  have z1 := HV.out.f1
  have y2 := HV.out.c2
  have z2 := HV.out.f2
  have y3 := HV.out.c3
  have z3 := HV.out.f3
  have y4 := HV.out.c4
  have z4 := HV.out.f4
  have y5 := HV.out.c5
  have z5 := HV.out.f5
  go_wp2_with fail
  (try simp only [Exit.inBlock, Exit.then])
  refine bodyPost_ret (v := .tuple #[.agg #[.int .i64 F.cap, .int .i64 F.rule, .int .i64 F.next, .slice a4 F.wt.length c4, .slice a5 F.hd.length c5, .slice a6 F.dr.length c6], .int .i64 no, .bool K]) ?_ rfl ?_
  · rw [rc]
    go_simp
  · exact ⟨a4, c4, a5, c5, a6, c6, rfl, (HR.out.set6 hsz).lower (by omega), Below.set6Q HE.out (Nat.le_succ _)⟩

set_option maxRecDepth 100000 in
set_option maxHeartbeats 4000000 in
theorem afterHand (q : Qu) (v1 v2 v3 : Value) (w : World) (h : QuAt w w.heap.size q v1 v2 v3) :
    Calls Try.prog 52 #[q.val v1 v2 v3, .func (.func 55) #[] #[]] w fun e w' => QuOut w w' (hnQ q).1 (fun v => e = .returned (.tuple #[v, .int .i64 (hnQ q).2.1, .bool (hnQ q).2.2])) := by
  have rc := fun (tmps : Array Value) (P : Program) (w : World) => results_cell_tmp2Q (fn := Try.f52) (p := 4) (u := 5) (v := 6) (ty := 24) rfl tmps P w
  obtain ⟨W0, hW0⟩ : ∃ W, W = (w.alloc (.cells #[.int .i64 q.cap, .int .i64 q.rule, .int .i64 q.next, v1, v2, v3] 24)).alloc (.cells #[.int .i64 0, .int .i64 0, .int .i64 0, .slice none 0 0, .slice none 0 0, .slice none 0 0] 24) := ⟨_, rfl⟩
  have hB0 : Below w.heap.size w W0 := by rw [hW0]; exact ((Below.refl _ w).alloc (Nat.le_refl _) _).alloc (by simp) _
  have V1 : Sv W0 w.heap.size (.int .i64 q.cap) (.int .i64 q.rule) (.int .i64 q.next) v1 v2 v3 := by rw [hW0]; exact (Sv.fresh w _ _ _ _ _ _ _).below ((Below.refl _ _).alloc (Nat.le_refl _) _)
  have V2 : Sv W0 (w.heap.size + 1) (.int .i64 0) (.int .i64 0) (.int .i64 0) (.slice none 0 0) (.slice none 0 0) (.slice none 0 0) := by
    have h := Sv.fresh (w.alloc (.cells #[.int .i64 q.cap, .int .i64 q.rule, .int .i64 q.next, v1, v2, v3] 24)) (.int .i64 0) (.int .i64 0) (.int .i64 0) (.slice none 0 0) (.slice none 0 0) (.slice none 0 0) 24
    rw [hW0]
    simpa using h
  have CL := lineupOf_any q v1 v2 v3 W0 (h.below hB0)
  obtain ⟨a1, c1, a2, c2, a3, c3, rfl, rfl, rfl⟩ := h.form
  unfold Qu.val at CL ⊢
  have HB : Hid (type_of% hB0) := hB0
  have HV0 : Hid (type_of% V2) := V2
  have hsz : w.heap.size + 1 < W0.heap.size := V2.low
  have x0 := V1.c0
  have x1 := V1.c1
  have x2 := V1.c2
  have x3 := V1.c3
  have x4 := V1.c4
  have x5 := V1.c5
  clear h V1 V2 hB0
  cases hK : gq q with
  | false =>
    have HQ : Hid (hnQ q = (qz, 0, false)) := by show _ = _; unfold hnQ; rw [hK]; rfl
    rw [hK] at CL
    clear hK
    go_enter Try.func52, Try.ntmps52
    go_upto_region 1 with fail
    rw [← hW0]
    clear hW0
    go_wp2_with fail
    go_at_call 49
    refine CL.mono ?_
    rintro e w1 ⟨u, rfl, hb1, -⟩
    have HV : Hid (type_of% (HV0.out.below hb1)) := HV0.out.below hb1
    have HE : Hid (Below w.heap.size w w1) := HB.out.trans (hb1.mono HB.out.size)
    clear hb1 CL x0 x1 x2 x3 x4 x5
    have y0 := HV.out.c0
    have z0 := HV.out.f0
    have y1 := HV.out.c1
    have z1 := HV.out.f1
    have y2 := HV.out.c2
    have z2 := HV.out.f2
    have y3 := HV.out.c3
    have z3 := HV.out.f3
    have y4 := HV.out.c4
    have z4 := HV.out.f4
    have y5 := HV.out.c5
    have z5 := HV.out.f5
    go_wp2_with fail
    (try simp only [Exit.inBlock, Exit.then])
    refine bodyPost_ret (v := .tuple #[.agg #[.int .i64 0, .int .i64 0, .int .i64 0, .slice none 0 0, .slice none 0 0, .slice none 0 0], .int .i64 0, .bool false]) ?_ rfl ?_
    · rw [rc]
      go_simp
    · rw [HQ.out]; exact QuOut.zero rfl (Below.set6Q HE.out (Nat.le_succ _))
  | true =>
    have hM := hnQ_marks hK
    have hgd := (gq_gd hK).1
    have hc1 := (gq_gd hK).2.1
    have hrr := (gq_gd hK).2.2.2
    have hgl := hgd.len
    rw [hK] at CL
    clear hK
    have HM : Hid (type_of% hM) := hM
    have HGD : Hid (type_of% hgd) := hgd
    have HRR : Hid (type_of% hrr) := hrr
    clear hM hgd hrr
    generalize mq q = M at *
    go_enter Try.func52, Try.ntmps52
    go_upto_region 1 with fail
    rw [← hW0]
    clear hW0
    go_wp2_with fail
    go_at_call 49
    refine CL.mono ?_
    rintro e w1 ⟨u, rfl, hb1, hL⟩
    obtain ⟨b, vm, hu, hL2⟩ := hL (by trivial)
    clear hL
    subst hu
    have hL := hL2
    clear hL2
    have HV1 : Hid (type_of% (HV0.out.below hb1)) := HV0.out.below hb1
    have HE1 : Hid (Below w.heap.size w w1) := HB.out.trans (hb1.mono HB.out.size)
    have hs1 : W0.heap.size ≤ w1.heap.size := hb1.size
    have CF := handU _ b q.cap q.rule M vm w1 hL (by omega)
    have HGD2 : Hid (GdM q.cap (hnM M).1) := HGD.out.hnM
    clear hb1 CL hL x0 x1 x2 x3 x4 x5
    cases hF : (hnM M).2.2 with
    | false =>
      have HQ : Hid (hnQ q = (qz, 0, false)) := by show _ = _; rw [HM.out, hF]; rfl
      rw [hF] at CF
      clear hF
      go_wp2_with fail
      go_at_call 55
      refine CF.mono ?_
      rintro e w2 ⟨rfl, -, hb2⟩
      have HV : Hid (type_of% (HV1.out.kept (hb2.block _ hsz) hb2.size)) := HV1.out.kept (hb2.block _ hsz) hb2.size
      have HE : Hid (Below w.heap.size w w2) := HE1.out.trans (hb2.mono (by omega))
      clear hb2 CF
      have y0 := HV.out.c0
      have z0 := HV.out.f0
      have y1 := HV.out.c1
      have z1 := HV.out.f1
      have y2 := HV.out.c2
      have z2 := HV.out.f2
      have y3 := HV.out.c3
      have z3 := HV.out.f3
      have y4 := HV.out.c4
      have z4 := HV.out.f4
      have y5 := HV.out.c5
      have z5 := HV.out.f5
      go_wp2_with fail
      (try simp only [Exit.inBlock, Exit.then])
      refine bodyPost_ret (v := .tuple #[.agg #[.int .i64 0, .int .i64 0, .int .i64 0, .slice none 0 0, .slice none 0 0, .slice none 0 0], .int .i64 0, .bool false]) ?_ rfl ?_
      · rw [rc]
        go_simp
      · rw [HQ.out]; exact QuOut.zero rfl (Below.set6Q HE.out (Nat.le_succ _))
    | true =>
      have HQ : Hid (hnQ q = (tq q.cap q.rule (hnM M).1, (hnM M).2.1, true)) := by show _ = _; rw [HM.out, hF]; rfl
      rw [hF] at CF
      clear hF HM
      generalize (hnM M).1 = M2 at *
      generalize (hnM M).2.1 = no at *
      go_wp2_with fail
      go_at_call 55
      refine CF.mono ?_
      rintro e w2 ⟨rfl, ⟨v9, hL2⟩, hb2⟩
      have HV2 : Hid (type_of% (HV1.out.kept (hb2.block _ hsz) hb2.size)) := HV1.out.kept (hb2.block _ hsz) hb2.size
      have HE2 : Hid (Below w.heap.size w w2) := HE1.out.trans (hb2.mono (by omega))
      have CT := toldU _ b q.cap q.rule M2 v9 w2 hL2 (by have := HGD2.out.len; omega)
      have hs2 : w1.heap.size ≤ w2.heap.size := hb2.size
      clear hb2 CF hL2
      go_wp2_with fail
      go_at_call 46
      refine CT.mono ?_
      rintro e w3 ⟨a4, c4, a5, c5, a6, c6, rfl, hr, hb3⟩
      have HV : Hid (type_of% (HV2.out.below hb3)) := HV2.out.below hb3
      have HE3 : Hid (Below w.heap.size w w3) := HE2.out.trans (hb3.mono HE2.out.size)
      have HR : Hid (type_of% hr) := hr
      clear hr hb3 CT
      have y0 := HV.out.c0
      have z0 := HV.out.f0
      have y1 := HV.out.c1
      have z1 := HV.out.f1
      have y2 := HV.out.c2
      have z2 := HV.out.f2
      have y3 := HV.out.c3
      have z3 := HV.out.f3
      have y4 := HV.out.c4
      have z4 := HV.out.f4
      have y5 := HV.out.c5
      have z5 := HV.out.f5
      go_wp2_with fail
      (try simp only [Exit.inBlock, Exit.then])
      refine bodyPost_ret (v := .tuple #[.agg #[.int .i64 (tq q.cap q.rule M2).cap, .int .i64 (tq q.cap q.rule M2).rule, .int .i64 (tq q.cap q.rule M2).next, .slice a4 (tq q.cap q.rule M2).wt.length c4, .slice a5 (tq q.cap q.rule M2).hd.length c5, .slice a6 (tq q.cap q.rule M2).dr.length c6], .int .i64 no, .bool true]) ?_ rfl ?_
      · rw [rc]
        go_simp
      · rw [HQ.out]
        exact ⟨a4, c4, a5, c5, a6, c6, rfl, (HR.out.set6 (by omega)).lower (by omega), Below.set6Q HE3.out (Nat.le_succ _)⟩

set_option maxRecDepth 100000 in
set_option maxHeartbeats 4000000 in
theorem implHandQ (q : Qu) (v1 v2 v3 : Value) (w : World) (h : QuAt w w.heap.size q v1 v2 v3) :
    Calls Try.prog 24 #[q.val v1 v2 v3] w fun e w' => QuOut w w' (hnQ q).1 (fun v => e = .returned (.tuple #[v, .int .i64 (hnQ q).2.1, .bool (hnQ q).2.2])) := by
  have rc := fun (tmps : Array Value) (P : Program) (w : World) => results_cell_tmp2Q (fn := Try.f24) (p := 2) (u := 3) (v := 4) (ty := 24) rfl tmps P w
  obtain ⟨W0, hW0⟩ : ∃ W, W = (w.alloc (.cells #[.int .i64 q.cap, .int .i64 q.rule, .int .i64 q.next, v1, v2, v3] 24)).alloc (.cells #[.int .i64 0, .int .i64 0, .int .i64 0, .slice none 0 0, .slice none 0 0, .slice none 0 0] 24) := ⟨_, rfl⟩
  have hB0 : Below w.heap.size w W0 := by rw [hW0]; exact ((Below.refl _ w).alloc (Nat.le_refl _) _).alloc (by simp) _
  have V1 : Sv W0 w.heap.size (.int .i64 q.cap) (.int .i64 q.rule) (.int .i64 q.next) v1 v2 v3 := by rw [hW0]; exact (Sv.fresh w _ _ _ _ _ _ _).below ((Below.refl _ _).alloc (Nat.le_refl _) _)
  have V2 : Sv W0 (w.heap.size + 1) (.int .i64 0) (.int .i64 0) (.int .i64 0) (.slice none 0 0) (.slice none 0 0) (.slice none 0 0) := by
    have h := Sv.fresh (w.alloc (.cells #[.int .i64 q.cap, .int .i64 q.rule, .int .i64 q.next, v1, v2, v3] 24)) (.int .i64 0) (.int .i64 0) (.int .i64 0) (.slice none 0 0) (.slice none 0 0) (.slice none 0 0) 24
    rw [hW0]
    simpa using h
  have CA := afterHand q v1 v2 v3 W0 (h.below hB0)
  obtain ⟨a1, c1, a2, c2, a3, c3, rfl, rfl, rfl⟩ := h.form
  unfold Qu.val at CA ⊢
  have HB : Hid (type_of% hB0) := hB0
  have HV0 : Hid (type_of% V2) := V2
  have hsz : w.heap.size + 1 < W0.heap.size := V2.low
  have x0 := V1.c0
  have x1 := V1.c1
  have x2 := V1.c2
  have x3 := V1.c3
  have x4 := V1.c4
  have x5 := V1.c5
  clear h V1 V2 hB0
  generalize hnQ q = S at CA
  obtain ⟨F, no, K⟩ := S
  dsimp only at CA
  go_enter Try.func24, Try.ntmps24
  go_upto_region 1 with fail
  rw [← hW0]
  clear hW0
  go_wp2_with fail
  go_at_call 52
  refine CA.mono ?_
  rintro e w1 ⟨a4, c4, a5, c5, a6, c6, rfl, hr, hb1⟩
  have HV : Hid (type_of% (HV0.out.below hb1)) := HV0.out.below hb1
  have HE : Hid (Below w.heap.size w w1) := HB.out.trans (hb1.mono HB.out.size)
  have HR : Hid (type_of% hr) := hr
  clear hr hb1 CA x0 x1 x2 x3 x4 x5
  have y0 := HV.out.c0
  have z0 := HV.out.f0
  have y1 := HV.out.c1
  have z1 := HV.out.f1
  have y2 := HV.out.c2
  have z2 := HV.out.f2
  have y3 := HV.out.c3
  have z3 := HV.out.f3
  have y4 := HV.out.c4
  have z4 := HV.out.f4
  have y5 := HV.out.c5
  have z5 := HV.out.f5
  go_wp2_with fail
  (try simp only [Exit.inBlock, Exit.then])
  refine bodyPost_ret (v := .tuple #[.agg #[.int .i64 F.cap, .int .i64 F.rule, .int .i64 F.next, .slice a4 F.wt.length c4, .slice a5 F.hd.length c5, .slice a6 F.dr.length c6], .int .i64 no, .bool K]) ?_ rfl ?_
  · rw [rc]
    go_simp
  · exact ⟨a4, c4, a5, c5, a6, c6, rfl, (HR.out.set6 hsz).lower (by omega), Below.set6Q HE.out (Nat.le_succ _)⟩

end Go.Proofs.Ytfkhbbmnjndmcaa
