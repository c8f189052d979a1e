/- The model's l16Own: a queue's lists copied. -/
import Derived.Test.YtfkhbbmnjndmcaaQsB
import Derived.Test.YtfkhbbmnjndmcaaQuI
namespace Go.Proofs.Ytfkhbbmnjndmcaa
open Go.RowKit Plain Qus

theorem oneZs (l : List Int) : ∀ u ∈ zints l, u.oneCell' = true := by
  intro u hu
  unfold zints at hu
  rw [List.mem_map] at hu
  obtain ⟨x, _, rfl⟩ := hu
  rfl
/-- a list's cells as what is appended -/
theorem ZAt.news {w : World} {B : Nat} {v : Value} {l : List Int} (h : ZAt w B v l) {ao : Option Addr} {n c : Nat} (hv : v = .slice ao n c) : ∀ j u, (zints l)[j]? = some u → ∃ ad, ao = some ad ∧ w.cell? (ad.add j) = some u := fun j u hj => by
  obtain ⟨ao', c', hv', _, _, hr⟩ := h
  rw [hv'] at hv
  cases hv
  unfold zints at hj
  rw [List.getElem?_map, Option.map_eq_some_iff] at hj
  obtain ⟨x, hx, rfl⟩ := hj
  obtain ⟨g, o, hao, _, hc⟩ := hr j x hx
  exact ⟨_, hao, by rw [addr_add]; exact hc⟩

/-- append onto []int{} -/
theorem append_newQ {w : World} (W : World) {ops : Array Oper} {rest : List Oper} {o : Oper} {a : Act} {Q : Exit → Act → World → Prop} (hgd : o.guard = none) (s x : Operand)
    (ho : o.op = .call { callee := .builtin .append, args := #[s, x], argTypes := #[22, 22] }) (hW : w = W.alloc (.cells #[] 3)) (hs : a.eval s = .slice (some ⟨W.heap.size, 0, none⟩) 0 0)
    (ao : Option Addr) (m c : Nat) (l : List Int) (hx : a.eval x = .slice ao m c) (hl : l.length = m) (hnews : ∀ j u, (zints l)[j]? = some u → ∃ ad, ao = some ad ∧ w.cell? (ad.add j) = some u) (hm : m ≤ 100000)
    (h : ∀ ar cap w', ZRow w' W.heap.size (.slice ar m cap) l → Below W.heap.size W w' → cap ≤ maxLen → wpList Try.prog ops Q rest (a.put o.dst (.slice ar m cap)) w') : wpList Try.prog ops Q (o :: rest) a w := by
  obtain ⟨i0, hi, hz0, hz1, hz2⟩ := info_parts infoIntR
  subst hW
  refine wpList_append_mayT _ hgd s x 22 ho W.heap.size 3 i0 (.int .i64 0) 1 8 Try.underlying22 hi hz0 hz1 hz2 rfl (by decide) _ 0 [] hs (World.ownsRow_made W #[] 0 (Nat.le_refl _) (by unfold maxLen; omega) rfl) ao m c (zints l) hx (by simp [zints, hl]) hnews (oneZs _) (by unfold maxLen; omega) (by omega) (by simp) ?_
  intro ar cap w' hown hgrow _
  simp only [Nat.zero_add, List.nil_append] at hown ⊢
  have hb : Below W.heap.size W w' := ((Below.refl _ W).alloc (Nat.le_refl _) _).trans ⟨hgrow.os, hgrow.tape, hgrow.output, hgrow.size, fun j hj => hgrow.block j (by simp; omega) (fun e => by simp [Value.ownBlock] at e; omega)⟩
  have hz : ZRow w' W.heap.size (.slice ar m cap) l := by
    show World.ownsRow _ _ _ _ _ _ _
    rw [hl]
    exact hown
  have hcap : cap ≤ maxLen := by
    rcases hown.2 with ⟨hv, _⟩ | ⟨g, cap', cur, hv, _, _, _, hc, _⟩
    · cases hv; unfold maxLen; omega
    · cases hv; exact hc
  exact h ar cap w' hz hb hcap

set_option maxRecDepth 100000 in
set_option maxHeartbeats 8000000 in
theorem l16Own_any (q : Qu) (v1 v2 v3 : Value) (w : World) (h : QuAt w w.heap.size q v1 v2 v3) (hl : SmlQ q 1000) :
    Calls Try.prog 51 #[q.val v1 v2 v3] w fun e w' => QuOut w w' q (fun v => e = .returned v) := by
  have rc := fun (tmps : Array Value) (P : Program) (w : World) => results_cellQ (fn := Try.f51) (p := 2) (ty := 24) rfl tmps P w
  have HA : Hid (type_of% h) := h
  obtain ⟨a1, c1, a2, c2, a3, c3, rfl, rfl, rfl⟩ := h.form
  have l1 := hl.a
  have l2 := hl.b
  have l3 := hl.c
  unfold Qu.val
  obtain ⟨W0, hW0⟩ : ∃ W, W = (w.alloc (.cells #[.int .i64 q.cap, .int .i64 q.rule, .int .i64 q.next, .slice a1 q.wt.length c1, .slice a2 q.hd.length c2, .slice a3 q.dr.length c3] 24)).alloc (.cells #[.int .i64 0, .int .i64 0, .int .i64 0, .slice none 0 0, .slice none 0 0, .slice none 0 0] 24) := ⟨_, rfl⟩
  have hB0 : Below w.heap.size w W0 := by rw [hW0]; exact ((Below.refl _ w).alloc (Nat.le_refl _) _).alloc (by simp) _
  have V1 : Sv W0 w.heap.size (.int .i64 q.cap) (.int .i64 q.rule) (.int .i64 q.next) (.slice a1 q.wt.length c1) (.slice a2 q.hd.length c2) (.slice a3 q.dr.length c3) := by rw [hW0]; exact (Sv.fresh w _ _ _ _ _ _ _).below ((Below.refl _ _).alloc (Nat.le_refl _) _)
  have V2 : Sv W0 (w.heap.size + 1) (.int .i64 0) (.int .i64 0) (.int .i64 0) (.slice none 0 0) (.slice none 0 0) (.slice none 0 0) := by
    have h := Sv.fresh (w.alloc (.cells #[.int .i64 q.cap, .int .i64 q.rule, .int .i64 q.next, .slice a1 q.wt.length c1, .slice a2 q.hd.length c2, .slice a3 q.dr.length c3] 24)) (.int .i64 0) (.int .i64 0) (.int .i64 0) (.slice none 0 0) (.slice none 0 0) (.slice none 0 0) 24
    rw [hW0]
    simpa using h
  have HB : Hid (type_of% hB0) := hB0
  have HX : Hid (type_of% V1) := V1
  have HV : Hid (type_of% V2) := V2
  have hS0 : w.heap.size + 2 ≤ W0.heap.size := V2.low
  clear h hl V1 V2 hB0
  go_enter Try.func51, Try.ntmps51
  go_upto_region 1 with fail
  rw [← hW0]
  clear hW0
  have x1 := HX.out.c3
  have z1 := HX.out.f3
  have hlow1 : w.heap.size < W0.heap.size := by omega
  have HN1 : Hid (∀ o, ∀ j u, (zints q.wt)[j]? = some u → ∃ ad, a1 = some ad ∧ (W0.alloc o).cell? (ad.add j) = some u) := fun o => (HA.out.a.below (HB.out.alloc (by omega) o)).news rfl
  have S1a : ∀ o, (W0.alloc o).cell? ⟨w.heap.size, 3, none⟩ = some (.slice a1 q.wt.length c1) := fun o => (((Below.refl W0.heap.size W0).alloc (Nat.le_refl _) o).cell (p := ⟨w.heap.size, 3, none⟩) hlow1).trans x1
  go_upto_region 2 with (at_builtin; refine append_newQ W0 rfl _ _ rfl rfl rfl a1 q.wt.length c1 q.wt rfl rfl (HN1.out _) (by omega) ?_; intro ar1 cap1 w1 hr1 hb1 hcm1; have c9 : w1.cell? ⟨w.heap.size, 3, none⟩ = some (.slice a1 q.wt.length c1) := (hb1.cell (p := ⟨w.heap.size, 3, none⟩) hlow1).trans x1; have z9 : w1.frozen? ⟨w.heap.size, 3, none⟩ = false := (hb1.frozen (p := ⟨w.heap.size, 3, none⟩) hlow1).trans z1; have HBk : Hid (Below W0.heap.size W0 w1) := hb1; have HR1 : Hid (ZRow w1 W0.heap.size (.slice ar1 q.wt.length cap1) q.wt) := hr1; clear hb1 hr1 S1a)
  obtain ⟨V1, hV1⟩ : ∃ W, W = w1.setCell ⟨w.heap.size, 3, none⟩ (.slice ar1 q.wt.length cap1) := ⟨_, rfl⟩
  rw [← hV1]
  have hS1 : W0.heap.size ≤ V1.heap.size := by rw [hV1]; simp; exact HBk.out.size
  have hlt1 := World.ownsRow.lt HR1.out
  have hbV : Below w.heap.size w V1 := by rw [hV1]; exact (HB.out.trans (HBk.out.mono (by omega))).setCell (p := ⟨w.heap.size, 3, none⟩) (Nat.le_refl _) _
  have hxV := (HX.out.below HBk.out).set3 (.slice ar1 q.wt.length cap1)
  have hvV := (HV.out.below HBk.out).apart (c := w.heap.size) (k := 3) (u := .slice ar1 q.wt.length cap1) (by omega)
  have hrV := own_setCellQ HR1.out w.heap.size 3 (.slice ar1 q.wt.length cap1) (fun g hg => by have := (hlt1 g hg).1; omega)
  rw [← hV1] at hxV hvV hrV
  have HL1 : Hid (∀ g, (Value.slice ar1 q.wt.length cap1).ownBlock = some g → W0.heap.size ≤ g ∧ g < V1.heap.size) := fun g hg => by have h1 := hlt1 g hg; have h2 := (World.ownsRow.lt hrV g hg).2; exact ⟨h1.1, h2⟩
  have HB : Hid (type_of% hbV) := hbV
  have HX : Hid (type_of% hxV) := hxV
  have HV : Hid (type_of% hvV) := hvV
  have HR1 : Hid (ZRow V1 W0.heap.size (.slice ar1 q.wt.length cap1) q.wt) := hrV
  clear hV1 x1 z1 hlow1 HN1 HBk hlt1 hbV hxV hvV hrV c9 z9
  have x2 := HX.out.c4
  have z2 := HX.out.f4
  have hlow2 : w.heap.size < V1.heap.size := by omega
  have HN2 : Hid (∀ o, ∀ j u, (zints q.hd)[j]? = some u → ∃ ad, a2 = some ad ∧ (V1.alloc o).cell? (ad.add j) = some u) := fun o => (HA.out.b.below (HB.out.alloc (by omega) o)).news rfl
  have S1a : ∀ o, (V1.alloc o).cell? ⟨w.heap.size, 4, none⟩ = some (.slice a2 q.hd.length c2) := fun o => (((Below.refl V1.heap.size V1).alloc (Nat.le_refl _) o).cell (p := ⟨w.heap.size, 4, none⟩) hlow2).trans x2
  go_upto_region 3 with (at_builtin; refine append_newQ V1 rfl _ _ rfl rfl rfl a2 q.hd.length c2 q.hd rfl rfl (HN2.out _) (by omega) ?_; intro ar2 cap2 w2 hr2 hb2 hcm2; have c9 : w2.cell? ⟨w.heap.size, 4, none⟩ = some (.slice a2 q.hd.length c2) := (hb2.cell (p := ⟨w.heap.size, 4, none⟩) hlow2).trans x2; have z9 : w2.frozen? ⟨w.heap.size, 4, none⟩ = false := (hb2.frozen (p := ⟨w.heap.size, 4, none⟩) hlow2).trans z2; have HBk : Hid (Below V1.heap.size V1 w2) := hb2; have HR2 : Hid (ZRow w2 V1.heap.size (.slice ar2 q.hd.length cap2) q.hd) := hr2; clear hb2 hr2 S1a)
  obtain ⟨V2, hV2⟩ : ∃ W, W = w2.setCell ⟨w.heap.size, 4, none⟩ (.slice ar2 q.hd.length cap2) := ⟨_, rfl⟩
  rw [← hV2]
  have hS2 : V1.heap.size ≤ V2.heap.size := by rw [hV2]; simp; exact HBk.out.size
  have hlt2 := World.ownsRow.lt HR2.out
  have hbV : Below w.heap.size w V2 := by rw [hV2]; exact (HB.out.trans (HBk.out.mono (by omega))).setCell (p := ⟨w.heap.size, 4, none⟩) (Nat.le_refl _) _
  have hxV := (HX.out.below HBk.out).set4 (.slice ar2 q.hd.length cap2)
  have hvV := (HV.out.below HBk.out).apart (c := w.heap.size) (k := 4) (u := .slice ar2 q.hd.length cap2) (by omega)
  have hrV := own_setCellQ HR2.out w.heap.size 4 (.slice ar2 q.hd.length cap2) (fun g hg => by have := (hlt2 g hg).1; omega)
  have hr1V := own_setCellQ (own_belowQ HR1.out HBk.out) w.heap.size 4 (.slice ar2 q.hd.length cap2) (fun g hg => by have := HL1.out g hg; omega)
  rw [← hV2] at hxV hvV hrV hr1V
  have HL2 : Hid (∀ g, (Value.slice ar2 q.hd.length cap2).ownBlock = some g → V1.heap.size ≤ g ∧ g < V2.heap.size) := fun g hg => by have h1 := hlt2 g hg; have h2 := (World.ownsRow.lt hrV g hg).2; exact ⟨h1.1, h2⟩
  have HB : Hid (type_of% hbV) := hbV
  have HX : Hid (type_of% hxV) := hxV
  have HV : Hid (type_of% hvV) := hvV
  have HR2 : Hid (ZRow V2 V1.heap.size (.slice ar2 q.hd.length cap2) q.hd) := hrV
  have HR1 : Hid (type_of% hr1V) := hr1V
  clear hV2 x2 z2 hlow2 HN2 HBk hlt2 hbV hxV hvV hrV c9 z9 hr1V
  have x3 := HX.out.c5
  have z3 := HX.out.f5
  have hlow3 : w.heap.size < V2.heap.size := by omega
  have HN3 : Hid (∀ o, ∀ j u, (zints q.dr)[j]? = some u → ∃ ad, a3 = some ad ∧ (V2.alloc o).cell? (ad.add j) = some u) := fun o => (HA.out.c.below (HB.out.alloc (by omega) o)).news rfl
  have S1a : ∀ o, (V2.alloc o).cell? ⟨w.heap.size, 5, none⟩ = some (.slice a3 q.dr.length c3) := fun o => (((Below.refl V2.heap.size V2).alloc (Nat.le_refl _) o).cell (p := ⟨w.heap.size, 5, none⟩) hlow3).trans x3
  go_upto_region 4 with (at_builtin; refine append_newQ V2 rfl _ _ rfl rfl rfl a3 q.dr.length c3 q.dr rfl rfl (HN3.out _) (by omega) ?_; intro ar3 cap3 w3 hr3 hb3 hcm3; have c9 : w3.cell? ⟨w.heap.size, 5, none⟩ = some (.slice a3 q.dr.length c3) := (hb3.cell (p := ⟨w.heap.size, 5, none⟩) hlow3).trans x3; have z9 : w3.frozen? ⟨w.heap.size, 5, none⟩ = false := (hb3.frozen (p := ⟨w.heap.size, 5, none⟩) hlow3).trans z3; have HBk : Hid (Below V2.heap.size V2 w3) := hb3; have HR3 : Hid (ZRow w3 V2.heap.size (.slice ar3 q.dr.length cap3) q.dr) := hr3; clear hb3 hr3 S1a)
  obtain ⟨V3, hV3⟩ : ∃ W, W = w3.setCell ⟨w.heap.size, 5, none⟩ (.slice ar3 q.dr.length cap3) := ⟨_, rfl⟩
  rw [← hV3]
  have hS3 : V2.heap.size ≤ V3.heap.size := by rw [hV3]; simp; exact HBk.out.size
  have hlt3 := World.ownsRow.lt HR3.out
  have hbV : Below w.heap.size w V3 := by rw [hV3]; exact (HB.out.trans (HBk.out.mono (by omega))).setCell (p := ⟨w.heap.size, 5, none⟩) (Nat.le_refl _) _
  have hxV := (HX.out.below HBk.out).set5 (.slice ar3 q.dr.length cap3)
  have hvV := (HV.out.below HBk.out).apart (c := w.heap.size) (k := 5) (u := .slice ar3 q.dr.length cap3) (by omega)
  have hrV := own_setCellQ HR3.out w.heap.size 5 (.slice ar3 q.dr.length cap3) (fun g hg => by have := (hlt3 g hg).1; omega)
  have hr1V := own_setCellQ (own_belowQ HR1.out HBk.out) w.heap.size 5 (.slice ar3 q.dr.length cap3) (fun g hg => by have := HL1.out g hg; omega)
  have hr2V := own_setCellQ (own_belowQ HR2.out HBk.out) w.heap.size 5 (.slice ar3 q.dr.length cap3) (fun g hg => by have := HL2.out g hg; omega)
  rw [← hV3] at hxV hvV hrV hr1V hr2V
  have HL3 : Hid (∀ g, (Value.slice ar3 q.dr.length cap3).ownBlock = some g → V2.heap.size ≤ g ∧ g < V3.heap.size) := fun g hg => by have h1 := hlt3 g hg; have h2 := (World.ownsRow.lt hrV g hg).2; exact ⟨h1.1, h2⟩
  have HB : Hid (type_of% hbV) := hbV
  have HX : Hid (type_of% hxV) := hxV
  have HV : Hid (type_of% hvV) := hvV
  have HR3 : Hid (ZRow V3 V2.heap.size (.slice ar3 q.dr.length cap3) q.dr) := hrV
  have HR1 : Hid (type_of% hr1V) := hr1V
  have HR2 : Hid (type_of% hr2V) := hr2V
  clear hV3 x3 z3 hlow3 HN3 HBk hlt3 hbV hxV hvV hrV c9 z9 hr1V hr2V
  have y0 := HV.out.c0
  have g0 := HV.out.f0
  have u0 := HX.out.c0
  have y1 := HV.out.c1
  have g1 := HV.out.f1
  have u1 := HX.out.c1
  have y2 := HV.out.c2
  have g2 := HV.out.f2
  have u2 := HX.out.c2
  have y3 := HV.out.c3
  have g3 := HV.out.f3
  have u3 := HX.out.c3
  have y4 := HV.out.c4
  have g4 := HV.out.f4
  have u4 := HX.out.c4
  have y5 := HV.out.c5
  have g5 := HV.out.f5
  have u5 := HX.out.c5
  have HROW : Hid (QuRow V3 (w.heap.size + 2) q (.slice ar1 q.wt.length cap1) (.slice ar2 q.hd.length cap2) (.slice ar3 q.dr.length cap3)) := by
    have m1 := HL1.out
    have m2 := HL2.out
    have m3 := HL3.out
    refine ⟨own_raiseQ HR1.out fun g hg => by have := m1 g hg; omega, own_raiseQ HR2.out fun g hg => by have := m2 g hg; omega, own_raiseQ HR3.out fun g hg => by have := m3 g hg; omega, ?_, ?_, ?_⟩
    · intro g hg e; have h1 := m1 g hg; have h2 := m2 g e; omega
    · intro g hg e; have h1 := m1 g hg; have h2 := m3 g e; omega
    · intro g hg e; have h1 := m2 g hg; have h2 := m3 g e; omega
  clear HR1 HR2 HR3 HL1 HL2 HL3
  go_wp2_with fail
  (try simp only [Exit.inBlock, Exit.then])
  refine bodyPost_ret (v := .agg #[.int .i64 q.cap, .int .i64 q.rule, .int .i64 q.next, .slice ar1 q.wt.length cap1, .slice ar2 q.hd.length cap2, .slice ar3 q.dr.length cap3]) ?_ rfl ?_
  · rw [rc]
    go_simp
  · exact ⟨_, _, _, _, _, _, rfl, (HROW.out.set6 (by omega)).lower (by omega), Below.set6Q HB.out (Nat.le_succ _)⟩

end Go.Proofs.Ytfkhbbmnjndmcaa
