/- The law's own copies of queues; queues that came in, opened. -/
import Derived.Test.YtfkhbbmnjndmcaaQuL
namespace Go.Proofs.Ytfkhbbmnjndmcaa
open Go.RowKit Plain Qus

theorem results_cellQ {fn : Func} {p : Nat} {ty : TypeId} (h : fn.results = #[.cell p ty]) (tmps : Array Value) (P : Program) (w : World) : (results fn tmps).run P w = ((asAddr (tmps.getD p undef)).run P w).andThen fun a w₁ => (loadVar ty a).run P w₁ := by
  simp only [results, h]
  simp [Sem.run_bind, Result.andThen]

set_option maxRecDepth 100000 in
set_option maxHeartbeats 4000000 in
theorem toQueue_any (q : Qu) (v1 v2 v3 : Value) (w : World) (h1 : QuAt w w.heap.size q v1 v2 v3) (hl : SmlQ q 1048576) :
    Calls Try.prog 19 #[q.val v1 v2 v3] w fun e w' => ∃ u1 u2 u3, e = .returned (q.val u1 u2 u3) ∧ QuRow w' w.heap.size q u1 u2 u3 ∧ Below w.heap.size w w' := by
  have rc := fun (tmps : Array Value) (P : Program) (w : World) => results_cellQ (fn := Try.f19) (p := 2) (ty := 24) rfl tmps P w
  unfold Qu.val
  have HA : Hid (type_of% h1) := h1
  have HL : Hid (type_of% hl) := hl
  obtain ⟨a1, c1, a2, c2, a3, c3, rfl, rfl, rfl⟩ := h1.form
  clear h1 hl
  obtain ⟨W0, hW0⟩ : ∃ W, W = ((w.alloc (.cells #[.int .i64 q.cap, .int .i64 q.rule, .int .i64 q.next, .slice a1 q.wt.length c1, .slice a2 q.hd.length c2, .slice a3 q.dr.length c3] 30)).alloc (.cells #[.int .i64 0, .int .i64 0, .int .i64 0, .slice none 0 0, .slice none 0 0, .slice none 0 0] 24)).alloc (.cells #[.int .i64 0, .int .i64 0, .int .i64 0, .slice none 0 0, .slice none 0 0, .slice none 0 0] 24) := ⟨_, rfl⟩
  have hB0 : Below w.heap.size w W0 := by rw [hW0]; exact (((Below.refl _ w).alloc (Nat.le_refl _) _).alloc (by simp) _).alloc (by simp; omega) _
  have hs0 : W0.heap.size = w.heap.size + 3 := by rw [hW0]; simp
  have X : Sv W0 w.heap.size (.int .i64 q.cap) (.int .i64 q.rule) (.int .i64 q.next) (.slice a1 q.wt.length c1) (.slice a2 q.hd.length c2) (.slice a3 q.dr.length c3) := by
    rw [hW0]
    exact ((Sv.fresh w _ _ _ _ _ _ _).below ((Below.refl _ _).alloc (Nat.le_refl _) _)).below ((Below.refl _ _).alloc (Nat.le_refl _) _)
  have Y : Sv W0 (w.heap.size + 1) (.int .i64 0) (.int .i64 0) (.int .i64 0) (.slice none 0 0) (.slice none 0 0) (.slice none 0 0) := by
    have h := (Sv.fresh (w.alloc (.cells #[.int .i64 q.cap, .int .i64 q.rule, .int .i64 q.next, .slice a1 q.wt.length c1, .slice a2 q.hd.length c2, .slice a3 q.dr.length c3] 30)) (.int .i64 0) (.int .i64 0) (.int .i64 0) (.slice none 0 0) (.slice none 0 0) (.slice none 0 0) 24).below ((Below.refl _ _).alloc (Nat.le_refl _) (.cells #[.int .i64 0, .int .i64 0, .int .i64 0, .slice none 0 0, .slice none 0 0, .slice none 0 0] 24))
    rw [hW0]
    simpa using h
  have Z : Sv W0 (w.heap.size + 2) (.int .i64 0) (.int .i64 0) (.int .i64 0) (.slice none 0 0) (.slice none 0 0) (.slice none 0 0) := by
    have h := Sv.fresh ((w.alloc (.cells #[.int .i64 q.cap, .int .i64 q.rule, .int .i64 q.next, .slice a1 q.wt.length c1, .slice a2 q.hd.length c2, .slice a3 q.dr.length c3] 30)).alloc (.cells #[.int .i64 0, .int .i64 0, .int .i64 0, .slice none 0 0, .slice none 0 0, .slice none 0 0] 24)) (.int .i64 0) (.int .i64 0) (.int .i64 0) (.slice none 0 0) (.slice none 0 0) (.slice none 0 0) 24
    rw [hW0]
    simpa using h
  have HX : Hid (type_of% X) := X
  have HY : Hid (type_of% Y) := Y
  have HZ : Hid (type_of% Z) := Z
  have HB : Hid (type_of% hB0) := hB0
  have HS : Hid (w.heap.size + 3 ≤ W0.heap.size) := by show _ ≤ _; omega
  clear X Y Z hB0 hs0
  go_enter Try.func19, Try.ntmps19
  go_upto_region 2 with fail
  rw [← hW0]
  clear hW0
  have x0 := HX.out.c0
  have z0 := HZ.out.c0
  have f0 := HZ.out.f0
  obtain ⟨V0, hV0⟩ : ∃ W, W = W0.setCell ⟨w.heap.size + 2, 0, none⟩ (.int .i64 q.cap) := ⟨_, rfl⟩
  have HX : Hid (type_of% (HX.out.apart (c := w.heap.size + 2) (k := 0) (u := .int .i64 q.cap) (by omega))) := HX.out.apart (c := w.heap.size + 2) (k := 0) (u := .int .i64 q.cap) (by omega)
  have HY : Hid (type_of% (HY.out.apart (c := w.heap.size + 2) (k := 0) (u := .int .i64 q.cap) (by omega))) := HY.out.apart (c := w.heap.size + 2) (k := 0) (u := .int .i64 q.cap) (by omega)
  have HZ : Hid (type_of% (HZ.out.set0 (.int .i64 q.cap))) := HZ.out.set0 (.int .i64 q.cap)
  have HB : Hid (Below w.heap.size w (W0.setCell ⟨w.heap.size + 2, 0, none⟩ (.int .i64 q.cap))) := HB.out.setCell (p := ⟨w.heap.size + 2, 0, none⟩) (Nat.le_add_right _ _) _
  have HS : Hid (w.heap.size + 3 ≤ (W0.setCell ⟨w.heap.size + 2, 0, none⟩ (.int .i64 q.cap)).heap.size) := by show _ ≤ _; have := HS.out; simp; exact this
  have HT0 : Hid (W0.heap.size ≤ (W0.setCell ⟨w.heap.size + 2, 0, none⟩ (.int .i64 q.cap)).heap.size) := by show _ ≤ _; simp
  rw [← hV0] at HX HY HZ HB HS HT0
  go_upto_region 3 with fail
  rw [← hV0]
  clear hV0 x0 z0 f0
  have x1 := HX.out.c1
  have z1 := HZ.out.c1
  have f1 := HZ.out.f1
  obtain ⟨V1, hV1⟩ : ∃ W, W = V0.setCell ⟨w.heap.size + 2, 1, none⟩ (.int .i64 q.rule) := ⟨_, rfl⟩
  have HX : Hid (type_of% (HX.out.apart (c := w.heap.size + 2) (k := 1) (u := .int .i64 q.rule) (by omega))) := HX.out.apart (c := w.heap.size + 2) (k := 1) (u := .int .i64 q.rule) (by omega)
  have HY : Hid (type_of% (HY.out.apart (c := w.heap.size + 2) (k := 1) (u := .int .i64 q.rule) (by omega))) := HY.out.apart (c := w.heap.size + 2) (k := 1) (u := .int .i64 q.rule) (by omega)
  have HZ : Hid (type_of% (HZ.out.set1 (.int .i64 q.rule))) := HZ.out.set1 (.int .i64 q.rule)
  have HB : Hid (Below w.heap.size w (V0.setCell ⟨w.heap.size + 2, 1, none⟩ (.int .i64 q.rule))) := HB.out.setCell (p := ⟨w.heap.size + 2, 1, none⟩) (Nat.le_add_right _ _) _
  have HS : Hid (w.heap.size + 3 ≤ (V0.setCell ⟨w.heap.size + 2, 1, none⟩ (.int .i64 q.rule)).heap.size) := by show _ ≤ _; have := HS.out; simp; exact this
  have HT1 : Hid (V0.heap.size ≤ (V0.setCell ⟨w.heap.size + 2, 1, none⟩ (.int .i64 q.rule)).heap.size) := by show _ ≤ _; simp
  rw [← hV1] at HX HY HZ HB HS HT1
  go_upto_region 4 with fail
  rw [← hV1]
  clear hV1 x1 z1 f1
  have x2 := HX.out.c2
  have z2 := HZ.out.c2
  have f2 := HZ.out.f2
  obtain ⟨V2, hV2⟩ : ∃ W, W = V1.setCell ⟨w.heap.size + 2, 2, none⟩ (.int .i64 q.next) := ⟨_, rfl⟩
  have HX : Hid (type_of% (HX.out.apart (c := w.heap.size + 2) (k := 2) (u := .int .i64 q.next) (by omega))) := HX.out.apart (c := w.heap.size + 2) (k := 2) (u := .int .i64 q.next) (by omega)
  have HY : Hid (type_of% (HY.out.apart (c := w.heap.size + 2) (k := 2) (u := .int .i64 q.next) (by omega))) := HY.out.apart (c := w.heap.size + 2) (k := 2) (u := .int .i64 q.next) (by omega)
  have HZ : Hid (type_of% (HZ.out.set2 (.int .i64 q.next))) := HZ.out.set2 (.int .i64 q.next)
  have HB : Hid (Below w.heap.size w (V1.setCell ⟨w.heap.size + 2, 2, none⟩ (.int .i64 q.next))) := HB.out.setCell (p := ⟨w.heap.size + 2, 2, none⟩) (Nat.le_add_right _ _) _
  have HS : Hid (w.heap.size + 3 ≤ (V1.setCell ⟨w.heap.size + 2, 2, none⟩ (.int .i64 q.next)).heap.size) := by show _ ≤ _; have := HS.out; simp; exact this
  have HT2 : Hid (V1.heap.size ≤ (V1.setCell ⟨w.heap.size + 2, 2, none⟩ (.int .i64 q.next)).heap.size) := by show _ ≤ _; simp
  rw [← hV2] at HX HY HZ HB HS HT2
  go_upto_region 5 with fail
  rw [← hV2]
  clear hV2 x2 z2 f2
  have x3 := HX.out.c3
  have C := toIntS_any q.wt _ V2 (HA.out.a.below HB.out) HL.out.a
  go_wp2_with fail
  go_at_call 48
  refine C.mono ?_
  rintro e w3 ⟨u3, rfl, hr, hb⟩
  have hlt := World.ownsRow.lt hr
  have HR3B : Hid (∀ g, u3.ownBlock = some g → w.heap.size + 3 ≤ g ∧ V2.heap.size ≤ g ∧ g < w3.heap.size) := fun g hg => by have h1 := hlt g hg; have h2 := HS.out; omega
  have HX : Hid (type_of% (HX.out.below hb)) := HX.out.below hb
  have HY : Hid (type_of% (HY.out.below hb)) := HY.out.below hb
  have HZ : Hid (type_of% (HZ.out.below hb)) := HZ.out.below hb
  have HR3 : Hid (type_of% hr) := hr
  have HB : Hid (Below w.heap.size w w3) := HB.out.trans (hb.mono HB.out.size)
  have HS3 : Hid (V2.heap.size ≤ w3.heap.size) := hb.size
  have HS : Hid (w.heap.size + 3 ≤ w3.heap.size) := Nat.le_trans HS.out hb.size
  obtain ⟨d3, k3, rfl⟩ := ZRow.slice HR3.out
  clear hr hb hlt C x3
  have x4 := HX.out.c3
  have z4 := HZ.out.c3
  have f4 := HZ.out.f3
  obtain ⟨V4, hV4⟩ : ∃ W, W = w3.setCell ⟨w.heap.size + 2, 3, none⟩ (.slice d3 q.wt.length k3) := ⟨_, rfl⟩
  have HX : Hid (type_of% (HX.out.apart (c := w.heap.size + 2) (k := 3) (u := .slice d3 q.wt.length k3) (by omega))) := HX.out.apart (c := w.heap.size + 2) (k := 3) (u := .slice d3 q.wt.length k3) (by omega)
  have HY : Hid (type_of% (HY.out.apart (c := w.heap.size + 2) (k := 3) (u := .slice d3 q.wt.length k3) (by omega))) := HY.out.apart (c := w.heap.size + 2) (k := 3) (u := .slice d3 q.wt.length k3) (by omega)
  have HZ : Hid (type_of% (HZ.out.set3 (.slice d3 q.wt.length k3))) := HZ.out.set3 (.slice d3 q.wt.length k3)
  have HB : Hid (Below w.heap.size w (w3.setCell ⟨w.heap.size + 2, 3, none⟩ (.slice d3 q.wt.length k3))) := HB.out.setCell (p := ⟨w.heap.size + 2, 3, none⟩) (Nat.le_add_right _ _) _
  have HS : Hid (w.heap.size + 3 ≤ (w3.setCell ⟨w.heap.size + 2, 3, none⟩ (.slice d3 q.wt.length k3)).heap.size) := by show _ ≤ _; have := HS.out; simp; exact this
  have HT4 : Hid (w3.heap.size ≤ (w3.setCell ⟨w.heap.size + 2, 3, none⟩ (.slice d3 q.wt.length k3)).heap.size) := by show _ ≤ _; simp
  have HR3 : Hid (type_of% (own_setCellQ HR3.out (w.heap.size + 2) 3 (.slice d3 q.wt.length k3) (fun g hg => by have := HR3B.out g hg; omega))) := own_setCellQ HR3.out (w.heap.size + 2) 3 (.slice d3 q.wt.length k3) (fun g hg => by have := HR3B.out g hg; omega)
  rw [← hV4] at HX HY HZ HB HS HT4 HR3
  go_upto_region 6 with fail
  rw [← hV4]
  clear hV4 x4 z4 f4
  have x5 := HX.out.c4
  have C := toIntS_any q.hd _ V4 (HA.out.b.below HB.out) HL.out.b
  go_wp2_with fail
  go_at_call 48
  refine C.mono ?_
  rintro e w5 ⟨u5, rfl, hr, hb⟩
  have hlt := World.ownsRow.lt hr
  have HR5B : Hid (∀ g, u5.ownBlock = some g → w.heap.size + 3 ≤ g ∧ V4.heap.size ≤ g ∧ g < w5.heap.size) := fun g hg => by have h1 := hlt g hg; have h2 := HS.out; omega
  have HX : Hid (type_of% (HX.out.below hb)) := HX.out.below hb
  have HY : Hid (type_of% (HY.out.below hb)) := HY.out.below hb
  have HZ : Hid (type_of% (HZ.out.below hb)) := HZ.out.below hb
  have HR3 : Hid (type_of% (own_belowQ HR3.out hb)) := own_belowQ HR3.out hb
  have HR5 : Hid (type_of% hr) := hr
  have HB : Hid (Below w.heap.size w w5) := HB.out.trans (hb.mono HB.out.size)
  have HS5 : Hid (V4.heap.size ≤ w5.heap.size) := hb.size
  have HS : Hid (w.heap.size + 3 ≤ w5.heap.size) := Nat.le_trans HS.out hb.size
  obtain ⟨d5, k5, rfl⟩ := ZRow.slice HR5.out
  clear hr hb hlt C x5
  have x6 := HX.out.c4
  have z6 := HZ.out.c4
  have f6 := HZ.out.f4
  obtain ⟨V6, hV6⟩ : ∃ W, W = w5.setCell ⟨w.heap.size + 2, 4, none⟩ (.slice d5 q.hd.length k5) := ⟨_, rfl⟩
  have HX : Hid (type_of% (HX.out.apart (c := w.heap.size + 2) (k := 4) (u := .slice d5 q.hd.length k5) (by omega))) := HX.out.apart (c := w.heap.size + 2) (k := 4) (u := .slice d5 q.hd.length k5) (by omega)
  have HY : Hid (type_of% (HY.out.apart (c := w.heap.size + 2) (k := 4) (u := .slice d5 q.hd.length k5) (by omega))) := HY.out.apart (c := w.heap.size + 2) (k := 4) (u := .slice d5 q.hd.length k5) (by omega)
  have HZ : Hid (type_of% (HZ.out.set4 (.slice d5 q.hd.length k5))) := HZ.out.set4 (.slice d5 q.hd.length k5)
  have HB : Hid (Below w.heap.size w (w5.setCell ⟨w.heap.size + 2, 4, none⟩ (.slice d5 q.hd.length k5))) := HB.out.setCell (p := ⟨w.heap.size + 2, 4, none⟩) (Nat.le_add_right _ _) _
  have HS : Hid (w.heap.size + 3 ≤ (w5.setCell ⟨w.heap.size + 2, 4, none⟩ (.slice d5 q.hd.length k5)).heap.size) := by show _ ≤ _; have := HS.out; simp; exact this
  have HT6 : Hid (w5.heap.size ≤ (w5.setCell ⟨w.heap.size + 2, 4, none⟩ (.slice d5 q.hd.length k5)).heap.size) := by show _ ≤ _; simp
  have HR3 : Hid (type_of% (own_setCellQ HR3.out (w.heap.size + 2) 4 (.slice d5 q.hd.length k5) (fun g hg => by have := HR3B.out g hg; omega))) := own_setCellQ HR3.out (w.heap.size + 2) 4 (.slice d5 q.hd.length k5) (fun g hg => by have := HR3B.out g hg; omega)
  have HR5 : Hid (type_of% (own_setCellQ HR5.out (w.heap.size + 2) 4 (.slice d5 q.hd.length k5) (fun g hg => by have := HR5B.out g hg; omega))) := own_setCellQ HR5.out (w.heap.size + 2) 4 (.slice d5 q.hd.length k5) (fun g hg => by have := HR5B.out g hg; omega)
  rw [← hV6] at HX HY HZ HB HS HT6 HR3 HR5
  go_upto_region 7 with fail
  rw [← hV6]
  clear hV6 x6 z6 f6
  have x7 := HX.out.c5
  have C := toIntS_any q.dr _ V6 (HA.out.c.below HB.out) HL.out.c
  go_wp2_with fail
  go_at_call 48
  refine C.mono ?_
  rintro e w7 ⟨u7, rfl, hr, hb⟩
  have hlt := World.ownsRow.lt hr
  have HR7B : Hid (∀ g, u7.ownBlock = some g → w.heap.size + 3 ≤ g ∧ V6.heap.size ≤ g ∧ g < w7.heap.size) := fun g hg => by have h1 := hlt g hg; have h2 := HS.out; omega
  have HX : Hid (type_of% (HX.out.below hb)) := HX.out.below hb
  have HY : Hid (type_of% (HY.out.below hb)) := HY.out.below hb
  have HZ : Hid (type_of% (HZ.out.below hb)) := HZ.out.below hb
  have HR3 : Hid (type_of% (own_belowQ HR3.out hb)) := own_belowQ HR3.out hb
  have HR5 : Hid (type_of% (own_belowQ HR5.out hb)) := own_belowQ HR5.out hb
  have HR7 : Hid (type_of% hr) := hr
  have HB : Hid (Below w.heap.size w w7) := HB.out.trans (hb.mono HB.out.size)
  have HS7 : Hid (V6.heap.size ≤ w7.heap.size) := hb.size
  have HS : Hid (w.heap.size + 3 ≤ w7.heap.size) := Nat.le_trans HS.out hb.size
  obtain ⟨d7, k7, rfl⟩ := ZRow.slice HR7.out
  clear hr hb hlt C x7
  have x8 := HX.out.c5
  have z8 := HZ.out.c5
  have f8 := HZ.out.f5
  obtain ⟨V8, hV8⟩ : ∃ W, W = w7.setCell ⟨w.heap.size + 2, 5, none⟩ (.slice d7 q.dr.length k7) := ⟨_, rfl⟩
  have HX : Hid (type_of% (HX.out.apart (c := w.heap.size + 2) (k := 5) (u := .slice d7 q.dr.length k7) (by omega))) := HX.out.apart (c := w.heap.size + 2) (k := 5) (u := .slice d7 q.dr.length k7) (by omega)
  have HY : Hid (type_of% (HY.out.apart (c := w.heap.size + 2) (k := 5) (u := .slice d7 q.dr.length k7) (by omega))) := HY.out.apart (c := w.heap.size + 2) (k := 5) (u := .slice d7 q.dr.length k7) (by omega)
  have HZ : Hid (type_of% (HZ.out.set5 (.slice d7 q.dr.length k7))) := HZ.out.set5 (.slice d7 q.dr.length k7)
  have HB : Hid (Below w.heap.size w (w7.setCell ⟨w.heap.size + 2, 5, none⟩ (.slice d7 q.dr.length k7))) := HB.out.setCell (p := ⟨w.heap.size + 2, 5, none⟩) (Nat.le_add_right _ _) _
  have HS : Hid (w.heap.size + 3 ≤ (w7.setCell ⟨w.heap.size + 2, 5, none⟩ (.slice d7 q.dr.length k7)).heap.size) := by show _ ≤ _; have := HS.out; simp; exact this
  have HT8 : Hid (w7.heap.size ≤ (w7.setCell ⟨w.heap.size + 2, 5, none⟩ (.slice d7 q.dr.length k7)).heap.size) := by show _ ≤ _; simp
  have HR3 : Hid (type_of% (own_setCellQ HR3.out (w.heap.size + 2) 5 (.slice d7 q.dr.length k7) (fun g hg => by have := HR3B.out g hg; omega))) := own_setCellQ HR3.out (w.heap.size + 2) 5 (.slice d7 q.dr.length k7) (fun g hg => by have := HR3B.out g hg; omega)
  have HR5 : Hid (type_of% (own_setCellQ HR5.out (w.heap.size + 2) 5 (.slice d7 q.dr.length k7) (fun g hg => by have := HR5B.out g hg; omega))) := own_setCellQ HR5.out (w.heap.size + 2) 5 (.slice d7 q.dr.length k7) (fun g hg => by have := HR5B.out g hg; omega)
  have HR7 : Hid (type_of% (own_setCellQ HR7.out (w.heap.size + 2) 5 (.slice d7 q.dr.length k7) (fun g hg => by have := HR7B.out g hg; omega))) := own_setCellQ HR7.out (w.heap.size + 2) 5 (.slice d7 q.dr.length k7) (fun g hg => by have := HR7B.out g hg; omega)
  rw [← hV8] at HX HY HZ HB HS HT8 HR3 HR5 HR7
  go_upto_region 8 with fail
  rw [← hV8]
  clear hV8 x8 z8 f8
  have z0 := HZ.out.c0
  have z1 := HZ.out.c1
  have z2 := HZ.out.c2
  have z3 := HZ.out.c3
  have z4 := HZ.out.c4
  have z5 := HZ.out.c5
  have y0 := HY.out.c0
  have y1 := HY.out.c1
  have y2 := HY.out.c2
  have y3 := HY.out.c3
  have y4 := HY.out.c4
  have y5 := HY.out.c5
  have g0 := HY.out.f0
  have g1 := HY.out.f1
  have g2 := HY.out.f2
  have g3 := HY.out.f3
  have g4 := HY.out.f4
  have g5 := HY.out.f5
  have HROW : Hid (QuRow V8 (w.heap.size + 2) q (.slice d3 q.wt.length k3) (.slice d5 q.hd.length k5) (.slice d7 q.dr.length k7)) := by
    have m3 := HR3B.out
    have m5 := HR5B.out
    have m7 := HR7B.out
    have t5 := HS5.out
    have t7 := HS7.out
    have t4 := HT4.out
    have t6 := HT6.out
    refine ⟨?_, ?_, ?_, ?_, ?_, ?_⟩
    · exact own_raiseQ HR3.out fun g hg => by have := m3 g hg; omega
    · exact own_raiseQ HR5.out fun g hg => by have := m5 g hg; omega
    · exact own_raiseQ HR7.out fun g hg => by have := m7 g hg; omega
    · intro g hg e; have h1 := m3 g hg; have h2 := m5 g e; omega
    · intro g hg e; have h1 := m3 g hg; have h2 := m7 g e; omega
    · intro g hg e; have h1 := m5 g hg; have h2 := m7 g e; omega
  clear HX HZ HY HR3 HR5 HR7 HR3B HR5B HR7B HS HS3 HS5 HS7 HT0 HT1 HT2 HT4 HT6 HT8 HA HL
  go_wp2_with fail
  (try simp only [Exit.inBlock, Exit.then])
  refine bodyPost_ret (v := .agg #[.int .i64 q.cap, .int .i64 q.rule, .int .i64 q.next, .slice d3 q.wt.length k3, .slice d5 q.hd.length k5, .slice d7 q.dr.length k7]) ?_ rfl ⟨_, _, _, rfl, ?_, ?_⟩
  · rw [rc]
    go_simp
  · refine QuRow.lower ?_ (Nat.le_add_right w.heap.size 2)
    repeat' (refine QuRow.setCell ?_ _ _ _ (by omega))
    exact HROW.out
  · repeat' (refine Below.setCell ?_ (Nat.le_add_right _ _) _)
    exact HB.out

set_option maxRecDepth 100000 in
theorem open_intsQ {H : Type} {enc : TypeId × Value → H} {W : World} {m : Nat} {v0 : Value} {x : DataW H × List MemPlace}
    (hf : DataW.trod enc Try.prog W 0 (fun _ => true) true m 22 [v0] = some x) : ∃ l, ZAt W W.heap.size v0 l := by
  have c3 : Try.prog.cellsOf 3 = 1 := by kernel_rfl
  rcases DataW.trod_slice Try.underlying22 hf with ⟨hcs, _⟩ | ⟨a, len, cap, elems, rest, m2, _, hcs, _, _, hlc, hcm, hel, hcell, _⟩
  · simp at hcs
    subst hcs
    exact ⟨[], none, 0, rfl, by simp, by unfold maxLen; omega, fun i x hi => by simp at hi⟩
  · simp at hcs
    subst hcs
    rw [c3] at hcell
    have each : ∀ i, i < len → ∃ t : Int, (a = ⟨a.block, a.off, none⟩ ∧ a.block < W.heap.size) ∧ W.cell? ⟨a.block, a.off + i, none⟩ = some (.int .i64 t) := by
      intro i hi
      have h1 := hcell i hi
      rw [List.getElem?_eq_getElem (by omega), Option.bind_eq_some_iff] at h1
      obtain ⟨ci, hci, htr⟩ := h1
      obtain ⟨t, rfl, _⟩ := DataW.trod_int Try.underlying3 htr
      obtain ⟨_, _, hcc⟩ := World.cells?_some hci
      have h00 := hcell 0 (by omega)
      rw [List.getElem?_eq_getElem (by omega), Option.bind_eq_some_iff] at h00
      obtain ⟨c0, hc0, htr0⟩ := h00
      obtain ⟨t0, rfl, _⟩ := DataW.trod_int Try.underlying3 htr0
      obtain ⟨_, _, hcc0⟩ := World.cells?_some hc0
      have hz := hcc0 0 (by omega)
      have hz' : W.cell? a = some (.int .i64 t0) := by simpa [Addr.add] using hz
      have hsp := spot_none hz'
      refine ⟨t, ⟨hsp, World.block_lt_of_cell? W a hz'⟩, ?_⟩
      have h2 := hcc 0 (by omega)
      rw [show (some (Value.int .i64 t)) = [Value.int .i64 t][0]? from rfl, ← h2]
      congr 1
      rw [hsp]
      unfold Addr.add
      by_cases h0 : i * 1 = 0
      · rw [if_pos h0]; simp; omega
      · rw [if_neg h0]; simp
    obtain ⟨l, hl, hP⟩ := pick_list each
    refine ⟨l, some a, cap, by rw [hl], by omega, hcm, fun i x hi => ?_⟩
    have hil : i < l.length := (List.getElem?_eq_some_iff.1 hi).1
    have h1 := hP i (by omega)
    refine ⟨a.block, a.off, by rw [← h1.1.1], h1.1.2, ?_⟩
    rw [h1.2, List.getD_eq_getElem?_getD, hi]
    rfl

set_option maxRecDepth 100000 in
theorem open_queue {H : Type} {enc : TypeId × Value → H} {W : World} {base : Nat} {v0 : Value} {d0 : DataW H} {p0 : List MemPlace} (hok : Value.okWide Try.prog W .any base 30 v0)
    (h0 : DataW.Trod enc Try.prog W 0 (fun _ => true) true 30 v0 d0 p0) : ∃ (q : Qu) (v1 v2 v3 : Value), v0 = q.val v1 v2 v3 ∧ QuAt W W.heap.size q v1 v2 v3 := by
  unfold Value.okWide at hok
  rw [Try.underlying30] at hok
  obtain ⟨cs, rfl, hsz, _⟩ := hok
  have c24 : Try.prog.cellsOf 30 = 6 := by kernel_rfl
  have c3 : Try.prog.cellsOf 3 = 1 := by kernel_rfl
  have c22 : Try.prog.cellsOf 22 = 1 := by kernel_rfl
  rw [c24] at hsz
  obtain ⟨fuel, hf⟩ := h0
  obtain ⟨l⟩ := cs
  match l, hsz with
  | [k0, k1, k2, k3, k4, k5], _ =>
    obtain ⟨xs, m1, rfl, _, _, hn, hff⟩ := DataW.trod_struct Try.underlying30 hf
    have f0 : DataW.trod enc Try.prog W 0 (fun _ => true) true m1 3 ((([k0, k1, k2, k3, k4, k5] : List Value).drop 0).take (Try.prog.cellsOf 3)) = xs[0]? := hff 0 _ rfl
    have f1 : DataW.trod enc Try.prog W 0 (fun _ => true) true m1 3 ((([k0, k1, k2, k3, k4, k5] : List Value).drop 1).take (Try.prog.cellsOf 3)) = xs[1]? := hff 1 _ rfl
    have f2 : DataW.trod enc Try.prog W 0 (fun _ => true) true m1 3 ((([k0, k1, k2, k3, k4, k5] : List Value).drop 2).take (Try.prog.cellsOf 3)) = xs[2]? := hff 2 _ rfl
    have f3 : DataW.trod enc Try.prog W 0 (fun _ => true) true m1 22 ((([k0, k1, k2, k3, k4, k5] : List Value).drop 3).take (Try.prog.cellsOf 22)) = xs[3]? := hff 3 _ rfl
    have f4 : DataW.trod enc Try.prog W 0 (fun _ => true) true m1 22 ((([k0, k1, k2, k3, k4, k5] : List Value).drop 4).take (Try.prog.cellsOf 22)) = xs[4]? := hff 4 _ rfl
    have f5 : DataW.trod enc Try.prog W 0 (fun _ => true) true m1 22 ((([k0, k1, k2, k3, k4, k5] : List Value).drop 5).take (Try.prog.cellsOf 22)) = xs[5]? := hff 5 _ rfl
    rw [c3] at f0 f1 f2
    rw [c22] at f3 f4 f5
    match xs, hn with
    | [x0, x1, x2, x3, x4, x5], _ =>
      obtain ⟨n0, e0, _⟩ := DataW.trod_int Try.underlying3 (show DataW.trod enc Try.prog W 0 (fun _ => true) true m1 3 [k0] = some x0 from f0)
      obtain ⟨n1, e1, _⟩ := DataW.trod_int Try.underlying3 (show DataW.trod enc Try.prog W 0 (fun _ => true) true m1 3 [k1] = some x1 from f1)
      obtain ⟨n2, e2, _⟩ := DataW.trod_int Try.underlying3 (show DataW.trod enc Try.prog W 0 (fun _ => true) true m1 3 [k2] = some x2 from f2)
      obtain ⟨L3, hL3⟩ := open_intsQ (show DataW.trod enc Try.prog W 0 (fun _ => true) true m1 22 [k3] = some x3 from f3)
      obtain ⟨L4, hL4⟩ := open_intsQ (show DataW.trod enc Try.prog W 0 (fun _ => true) true m1 22 [k4] = some x4 from f4)
      obtain ⟨L5, hL5⟩ := open_intsQ (show DataW.trod enc Try.prog W 0 (fun _ => true) true m1 22 [k5] = some x5 from f5)
      simp at e0 e1 e2
      subst e0 e1 e2
      exact ⟨⟨n0, n1, n2, L3, L4, L5⟩, k3, k4, k5, rfl, ⟨hL3, hL4, hL5⟩⟩

end Go.Proofs.Ytfkhbbmnjndmcaa
