/- The law's own copies of sessions; sessions that came in, opened. -/
import Derived.Test.YtnlppeieccbhgaaSnL
namespace Go.Proofs.Ytnlppeieccbhgaa
open Go.RowKit Plain Tpc Ssn

theorem own_asideS {w w' : World} {B e size n : Nat} {v : Value} {xs : List Value} {row : Option Nat} (h : w.ownsRow B e size v n xs) (hg : w.grownBy w' row) (hne : ∀ g, v.ownBlock = some g → row ≠ some g) : w'.ownsRow B e size v n xs := by
  refine ⟨h.1, ?_⟩
  rcases h.2 with hn | ⟨g, cap, cur, hv, hB, hgg, rest⟩
  · exact .inl hn
  · exact .inr ⟨g, cap, cur, hv, hB, (hg.block g (Array.getElem?_eq_some_iff.1 hgg).1 (fun e => hne g (by rw [hv]; rfl) e.symm)).trans hgg, rest⟩

theorem own_raise {w : World} {B B' e size n : Nat} {v : Value} {xs : List Value} (h : w.ownsRow B e size v n xs) (hB : ∀ g, v.ownBlock = some g → B' ≤ g) : w.ownsRow B' e size v n xs := by
  refine ⟨h.1, ?_⟩
  rcases h.2 with hn | ⟨g, cap, cur, hv, hg, rest⟩
  · exact .inl hn
  · exact .inr ⟨g, cap, cur, hv, hB g (by rw [hv]; rfl), rest⟩

theorem own_lower {w : World} {B B' e size n : Nat} {v : Value} {xs : List Value} (h : w.ownsRow B e size v n xs) (hB : B' ≤ B) : w.ownsRow B' e size v n xs := by
  refine ⟨h.1, ?_⟩
  rcases h.2 with hn | ⟨g, cap, cur, hv, hg, rest⟩
  · exact .inl hn
  · exact .inr ⟨g, cap, cur, hv, by omega, rest⟩

theorem own_setCellS {w : World} {B e size n : Nat} {v : Value} {xs : List Value} (h : w.ownsRow B e size v n xs) (b k : Nat) (u : Value) (hb : ∀ g, v.ownBlock = some g → g ≠ b) : (w.setCell ⟨b, k, none⟩ u).ownsRow B e size v n xs := by
  refine ⟨h.1, ?_⟩
  rcases h.2 with hn | ⟨g, cap, cur, hv, hg, hgg, rest⟩
  · exact .inl hn
  · refine .inr ⟨g, cap, cur, hv, hg, ?_, rest⟩
    rw [Below.heap_setCell _ _ _ _ (hb g (by rw [hv]; rfl))]
    exact hgg

theorem SesRow.setCell {w : World} {B : Nat} {s : Ses} {vi vh vw va : Value} (h : SesRow w B s vi vh vw va) (b k : Nat) (u : Value) (hb : b < B) : SesRow (w.setCell ⟨b, k, none⟩ u) B s vi vh vw va :=
  ⟨own_setCellS h.i b k u (fun g hg => by have := (World.ownsRow.lt h.i g hg).1; omega), own_setCellS h.h b k u (fun g hg => by have := (World.ownsRow.lt h.h g hg).1; omega), own_setCellS h.y b k u (fun g hg => by have := (World.ownsRow.lt h.y g hg).1; omega), own_setCellS h.a b k u (fun g hg => by have := (World.ownsRow.lt h.a g hg).1; omega), h.ih, h.iw, h.ia, h.hw, h.ha, h.wa⟩

theorem SesRow.lower {w : World} {B B' : Nat} {s : Ses} {vi vh vw va : Value} (h : SesRow w B s vi vh vw va) (hB : B' ≤ B) : SesRow w B' s vi vh vw va :=
  ⟨own_lower h.i hB, own_lower h.h hB, own_lower h.y hB, own_lower h.a hB, h.ih, h.iw, h.ia, h.hw, h.ha, h.wa⟩

/-- made one behind the other: rows apart -/
theorem SesRow.chain {w : World} {B0 B1 B2 B3 : Nat} {s : Ses} {vi vh vw va : Value} (hi : StRow w B0 vi s.items) (hh : StRow w B1 vh s.handed) (hw : PkRow w B2 vw s.way) (ha : AkRow w B3 va s.acks) (h1 : ∀ g, vi.ownBlock = some g → g < B1) (h2 : ∀ g, vh.ownBlock = some g → g < B2) (h3 : ∀ g, vw.ownBlock = some g → g < B3) (b01 : B0 ≤ B1) (b12 : B1 ≤ B2) (b23 : B2 ≤ B3) : SesRow w B0 s vi vh vw va := by
  have l1 := World.ownsRow.lt hh
  have l2 := World.ownsRow.lt hw
  have l3 := World.ownsRow.lt ha
  exact ⟨hi, own_lower hh b01, own_lower hw (by omega), own_lower ha (by omega), fun g hg e => by have := h1 g hg; have := (l1 g e).1; omega, fun g hg e => by have := h1 g hg; have := (l2 g e).1; omega, fun g hg e => by have := h1 g hg; have := (l3 g e).1; omega, fun g hg e => by have := h2 g hg; have := (l2 g e).1; omega, fun g hg e => by have := h2 g hg; have := (l3 g e).1; omega, fun g hg e => by have := h3 g hg; have := (l3 g e).1; omega⟩

theorem results_cellS {fn : Func} {p : Nat} {ty : TypeId} (h : fn.results = #[.cell p ty]) (tmps : Array Value) (P : Program) (w : World) : (results fn tmps).run P w = ((asAddr (tmps.getD p undef)).run P w).andThen fun a w₁ => (loadVar ty a).run P w₁ := by
  simp only [results, h]
  simp [Sem.run_bind, Result.andThen]

set_option maxRecDepth 100000 in
set_option maxHeartbeats 4000000 in
theorem toSession_any (s : Ses) (vi vh vw va : Value) (w : World) (h1 : SesAt w w.heap.size s vi vh vw va) (hl : Sml s 1048576) :
    Calls Try.prog 18 #[s.val vi vh vw va] w fun e w' => ∃ ui uh uw ua, e = .returned (s.val ui uh uw ua) ∧ SesRow w' w.heap.size s ui uh uw ua ∧ Below w.heap.size w w' := by
  have rc := fun (tmps : Array Value) (P : Program) (w : World) => results_cellS (fn := Try.f18) (p := 2) (ty := 26) rfl tmps P w
  unfold Ses.val
  have HA : Hid (type_of% h1) := h1
  have HL : Hid (type_of% hl) := hl
  obtain ⟨ai, ci, ah, ch, aw, cw, aa, ca, rfl, rfl, rfl, rfl⟩ := h1.form
  clear h1 hl
  obtain ⟨W0, hW0⟩ : ∃ W, W = ((w.alloc (.cells #[.int .i64 s.ep, .slice ai s.items.length ci, .int .i64 s.base, .slice ah s.handed.length ch, .slice aw s.way.length cw, .slice aa s.acks.length ca] 35)).alloc (.cells #[.int .i64 0, .slice none 0 0, .int .i64 0, .slice none 0 0, .slice none 0 0, .slice none 0 0] 26)).alloc (.cells #[.int .i64 0, .slice none 0 0, .int .i64 0, .slice none 0 0, .slice none 0 0, .slice none 0 0] 26) := ⟨_, rfl⟩
  have hB0 : Below w.heap.size w W0 := by rw [hW0]; exact (((Below.refl _ w).alloc (Nat.le_refl _) _).alloc (by simp) _).alloc (by simp; omega) _
  have hs0 : W0.heap.size = w.heap.size + 3 := by rw [hW0]; simp
  have X : Sv W0 w.heap.size (.int .i64 s.ep) (.slice ai s.items.length ci) (.int .i64 s.base) (.slice ah s.handed.length ch) (.slice aw s.way.length cw) (.slice aa s.acks.length ca) := by
    rw [hW0]
    exact ((Sv.fresh w _ _ _ _ _ _ _).below ((Below.refl _ _).alloc (Nat.le_refl _) _)).below ((Below.refl _ _).alloc (Nat.le_refl _) _)
  have Y : Sv W0 (w.heap.size + 1) (.int .i64 0) (.slice none 0 0) (.int .i64 0) (.slice none 0 0) (.slice none 0 0) (.slice none 0 0) := by
    have h := (Sv.fresh (w.alloc (.cells #[.int .i64 s.ep, .slice ai s.items.length ci, .int .i64 s.base, .slice ah s.handed.length ch, .slice aw s.way.length cw, .slice aa s.acks.length ca] 35)) (.int .i64 0) (.slice none 0 0) (.int .i64 0) (.slice none 0 0) (.slice none 0 0) (.slice none 0 0) 26).below ((Below.refl _ _).alloc (Nat.le_refl _) (.cells #[.int .i64 0, .slice none 0 0, .int .i64 0, .slice none 0 0, .slice none 0 0, .slice none 0 0] 26))
    rw [hW0]
    simpa using h
  have Z : Sv W0 (w.heap.size + 2) (.int .i64 0) (.slice none 0 0) (.int .i64 0) (.slice none 0 0) (.slice none 0 0) (.slice none 0 0) := by
    have h := Sv.fresh ((w.alloc (.cells #[.int .i64 s.ep, .slice ai s.items.length ci, .int .i64 s.base, .slice ah s.handed.length ch, .slice aw s.way.length cw, .slice aa s.acks.length ca] 35)).alloc (.cells #[.int .i64 0, .slice none 0 0, .int .i64 0, .slice none 0 0, .slice none 0 0, .slice none 0 0] 26)) (.int .i64 0) (.slice none 0 0) (.int .i64 0) (.slice none 0 0) (.slice none 0 0) (.slice none 0 0) 26
    rw [hW0]
    simpa using h
  have HX : Hid (type_of% X) := X
  have HY : Hid (type_of% Y) := Y
  have HZ : Hid (type_of% Z) := Z
  have HB : Hid (type_of% hB0) := hB0
  have HS : Hid (w.heap.size + 3 ≤ W0.heap.size) := by show _ ≤ _; omega
  clear X Y Z hB0 hs0
  go_enter Try.func18, Try.ntmps18
  go_upto_region 2 with fail
  rw [← hW0]
  clear hW0
  have x0 := HX.out.c0
  have z0 := HZ.out.c0
  have f0 := HZ.out.f0
  obtain ⟨V0, hV0⟩ : ∃ W, W = W0.setCell ⟨w.heap.size + 2, 0, none⟩ (.int .i64 s.ep) := ⟨_, rfl⟩
  have HX : Hid (type_of% (HX.out.apart (c := w.heap.size + 2) (k := 0) (u := .int .i64 s.ep) (by omega))) := HX.out.apart (c := w.heap.size + 2) (k := 0) (u := .int .i64 s.ep) (by omega)
  have HY : Hid (type_of% (HY.out.apart (c := w.heap.size + 2) (k := 0) (u := .int .i64 s.ep) (by omega))) := HY.out.apart (c := w.heap.size + 2) (k := 0) (u := .int .i64 s.ep) (by omega)
  have HZ : Hid (type_of% (HZ.out.set0 (.int .i64 s.ep))) := HZ.out.set0 (.int .i64 s.ep)
  have HB : Hid (Below w.heap.size w (W0.setCell ⟨w.heap.size + 2, 0, none⟩ (.int .i64 s.ep))) := HB.out.setCell (p := ⟨w.heap.size + 2, 0, none⟩) (Nat.le_add_right _ _) _
  have HS : Hid (w.heap.size + 3 ≤ (W0.setCell ⟨w.heap.size + 2, 0, none⟩ (.int .i64 s.ep)).heap.size) := by show _ ≤ _; have := HS.out; simp; exact this
  have HT0 : Hid (W0.heap.size ≤ (W0.setCell ⟨w.heap.size + 2, 0, none⟩ (.int .i64 s.ep)).heap.size) := by show _ ≤ _; simp
  rw [← hV0] at HX HY HZ HB HS HT0
  go_upto_region 3 with fail
  rw [← hV0]
  clear hV0 x0 z0 f0
  have x1 := HX.out.c1
  have C := toTexts_any s.items _ V0 (HA.out.i.below HB.out) HL.out.i
  go_wp2_with fail
  go_at_call 61
  refine C.mono ?_
  rintro e w1 ⟨u1, rfl, hr, hb⟩
  have hlt := World.ownsRow.lt hr
  have HR1B : Hid (∀ g, u1.ownBlock = some g → w.heap.size + 3 ≤ g ∧ V0.heap.size ≤ g ∧ g < w1.heap.size) := fun g hg => by have h1 := hlt g hg; have h2 := HS.out; omega
  have HX : Hid (type_of% (HX.out.below hb)) := HX.out.below hb
  have HY : Hid (type_of% (HY.out.below hb)) := HY.out.below hb
  have HZ : Hid (type_of% (HZ.out.below hb)) := HZ.out.below hb
  have HR1 : Hid (type_of% hr) := hr
  have HB : Hid (Below w.heap.size w w1) := HB.out.trans (hb.mono HB.out.size)
  have HS1 : Hid (V0.heap.size ≤ w1.heap.size) := hb.size
  have HS : Hid (w.heap.size + 3 ≤ w1.heap.size) := Nat.le_trans HS.out hb.size
  obtain ⟨a1, k1, rfl⟩ := StRow.slice HR1.out
  clear hr hb hlt C x1
  have x2 := HX.out.c1
  have z2 := HZ.out.c1
  have f2 := HZ.out.f1
  obtain ⟨V2, hV2⟩ : ∃ W, W = w1.setCell ⟨w.heap.size + 2, 1, none⟩ (.slice a1 s.items.length k1) := ⟨_, rfl⟩
  have HX : Hid (type_of% (HX.out.apart (c := w.heap.size + 2) (k := 1) (u := .slice a1 s.items.length k1) (by omega))) := HX.out.apart (c := w.heap.size + 2) (k := 1) (u := .slice a1 s.items.length k1) (by omega)
  have HY : Hid (type_of% (HY.out.apart (c := w.heap.size + 2) (k := 1) (u := .slice a1 s.items.length k1) (by omega))) := HY.out.apart (c := w.heap.size + 2) (k := 1) (u := .slice a1 s.items.length k1) (by omega)
  have HZ : Hid (type_of% (HZ.out.set1 (.slice a1 s.items.length k1))) := HZ.out.set1 (.slice a1 s.items.length k1)
  have HB : Hid (Below w.heap.size w (w1.setCell ⟨w.heap.size + 2, 1, none⟩ (.slice a1 s.items.length k1))) := HB.out.setCell (p := ⟨w.heap.size + 2, 1, none⟩) (Nat.le_add_right _ _) _
  have HS : Hid (w.heap.size + 3 ≤ (w1.setCell ⟨w.heap.size + 2, 1, none⟩ (.slice a1 s.items.length k1)).heap.size) := by show _ ≤ _; have := HS.out; simp; exact this
  have HT2 : Hid (w1.heap.size ≤ (w1.setCell ⟨w.heap.size + 2, 1, none⟩ (.slice a1 s.items.length k1)).heap.size) := by show _ ≤ _; simp
  have HR1 : Hid (type_of% (own_setCellS HR1.out (w.heap.size + 2) 1 (.slice a1 s.items.length k1) (fun g hg => by have := HR1B.out g hg; omega))) := own_setCellS HR1.out (w.heap.size + 2) 1 (.slice a1 s.items.length k1) (fun g hg => by have := HR1B.out g hg; omega)
  rw [← hV2] at HX HY HZ HB HS HT2 HR1
  go_upto_region 4 with fail
  rw [← hV2]
  clear hV2 x2 z2 f2
  have x3 := HX.out.c2
  have z3 := HZ.out.c2
  have f3 := HZ.out.f2
  obtain ⟨V3, hV3⟩ : ∃ W, W = V2.setCell ⟨w.heap.size + 2, 2, none⟩ (.int .i64 s.base) := ⟨_, rfl⟩
  have HX : Hid (type_of% (HX.out.apart (c := w.heap.size + 2) (k := 2) (u := .int .i64 s.base) (by omega))) := HX.out.apart (c := w.heap.size + 2) (k := 2) (u := .int .i64 s.base) (by omega)
  have HY : Hid (type_of% (HY.out.apart (c := w.heap.size + 2) (k := 2) (u := .int .i64 s.base) (by omega))) := HY.out.apart (c := w.heap.size + 2) (k := 2) (u := .int .i64 s.base) (by omega)
  have HZ : Hid (type_of% (HZ.out.set2 (.int .i64 s.base))) := HZ.out.set2 (.int .i64 s.base)
  have HB : Hid (Below w.heap.size w (V2.setCell ⟨w.heap.size + 2, 2, none⟩ (.int .i64 s.base))) := HB.out.setCell (p := ⟨w.heap.size + 2, 2, none⟩) (Nat.le_add_right _ _) _
  have HS : Hid (w.heap.size + 3 ≤ (V2.setCell ⟨w.heap.size + 2, 2, none⟩ (.int .i64 s.base)).heap.size) := by show _ ≤ _; have := HS.out; simp; exact this
  have HT3 : Hid (V2.heap.size ≤ (V2.setCell ⟨w.heap.size + 2, 2, none⟩ (.int .i64 s.base)).heap.size) := by show _ ≤ _; simp
  have HR1 : Hid (type_of% (own_setCellS HR1.out (w.heap.size + 2) 2 (.int .i64 s.base) (fun g hg => by have := HR1B.out g hg; omega))) := own_setCellS HR1.out (w.heap.size + 2) 2 (.int .i64 s.base) (fun g hg => by have := HR1B.out g hg; omega)
  rw [← hV3] at HX HY HZ HB HS HT3 HR1
  go_upto_region 5 with fail
  rw [← hV3]
  clear hV3 x3 z3 f3
  have x4 := HX.out.c3
  have C := toTexts_any s.handed _ V3 (HA.out.h.below HB.out) HL.out.h
  go_wp2_with fail
  go_at_call 61
  refine C.mono ?_
  rintro e w4 ⟨u4, rfl, hr, hb⟩
  have hlt := World.ownsRow.lt hr
  have HR4B : Hid (∀ g, u4.ownBlock = some g → w.heap.size + 3 ≤ g ∧ V3.heap.size ≤ g ∧ g < w4.heap.size) := fun g hg => by have h1 := hlt g hg; have h2 := HS.out; omega
  have HX : Hid (type_of% (HX.out.below hb)) := HX.out.below hb
  have HY : Hid (type_of% (HY.out.below hb)) := HY.out.below hb
  have HZ : Hid (type_of% (HZ.out.below hb)) := HZ.out.below hb
  have HR1 : Hid (type_of% (own_belowY HR1.out hb)) := own_belowY HR1.out hb
  have HR4 : Hid (type_of% hr) := hr
  have HB : Hid (Below w.heap.size w w4) := HB.out.trans (hb.mono HB.out.size)
  have HS4 : Hid (V3.heap.size ≤ w4.heap.size) := hb.size
  have HS : Hid (w.heap.size + 3 ≤ w4.heap.size) := Nat.le_trans HS.out hb.size
  obtain ⟨a4, k4, rfl⟩ := StRow.slice HR4.out
  clear hr hb hlt C x4
  have x5 := HX.out.c3
  have z5 := HZ.out.c3
  have f5 := HZ.out.f3
  obtain ⟨V5, hV5⟩ : ∃ W, W = w4.setCell ⟨w.heap.size + 2, 3, none⟩ (.slice a4 s.handed.length k4) := ⟨_, rfl⟩
  have HX : Hid (type_of% (HX.out.apart (c := w.heap.size + 2) (k := 3) (u := .slice a4 s.handed.length k4) (by omega))) := HX.out.apart (c := w.heap.size + 2) (k := 3) (u := .slice a4 s.handed.length k4) (by omega)
  have HY : Hid (type_of% (HY.out.apart (c := w.heap.size + 2) (k := 3) (u := .slice a4 s.handed.length k4) (by omega))) := HY.out.apart (c := w.heap.size + 2) (k := 3) (u := .slice a4 s.handed.length k4) (by omega)
  have HZ : Hid (type_of% (HZ.out.set3 (.slice a4 s.handed.length k4))) := HZ.out.set3 (.slice a4 s.handed.length k4)
  have HB : Hid (Below w.heap.size w (w4.setCell ⟨w.heap.size + 2, 3, none⟩ (.slice a4 s.handed.length k4))) := HB.out.setCell (p := ⟨w.heap.size + 2, 3, none⟩) (Nat.le_add_right _ _) _
  have HS : Hid (w.heap.size + 3 ≤ (w4.setCell ⟨w.heap.size + 2, 3, none⟩ (.slice a4 s.handed.length k4)).heap.size) := by show _ ≤ _; have := HS.out; simp; exact this
  have HT5 : Hid (w4.heap.size ≤ (w4.setCell ⟨w.heap.size + 2, 3, none⟩ (.slice a4 s.handed.length k4)).heap.size) := by show _ ≤ _; simp
  have HR1 : Hid (type_of% (own_setCellS HR1.out (w.heap.size + 2) 3 (.slice a4 s.handed.length k4) (fun g hg => by have := HR1B.out g hg; omega))) := own_setCellS HR1.out (w.heap.size + 2) 3 (.slice a4 s.handed.length k4) (fun g hg => by have := HR1B.out g hg; omega)
  have HR4 : Hid (type_of% (own_setCellS HR4.out (w.heap.size + 2) 3 (.slice a4 s.handed.length k4) (fun g hg => by have := HR4B.out g hg; omega))) := own_setCellS HR4.out (w.heap.size + 2) 3 (.slice a4 s.handed.length k4) (fun g hg => by have := HR4B.out g hg; omega)
  rw [← hV5] at HX HY HZ HB HS HT5 HR1 HR4
  go_upto_region 6 with fail
  rw [← hV5]
  clear hV5 x5 z5 f5
  have x6 := HX.out.c4
  have C := toPacketS_any s.way _ V5 (HA.out.y.below HB.out) HL.out.y
  go_wp2_with fail
  go_at_call 62
  refine C.mono ?_
  rintro e w6 ⟨u6, rfl, hr, hb⟩
  have hlt := World.ownsRow.lt hr
  have HR6B : Hid (∀ g, u6.ownBlock = some g → w.heap.size + 3 ≤ g ∧ V5.heap.size ≤ g ∧ g < w6.heap.size) := fun g hg => by have h1 := hlt g hg; have h2 := HS.out; omega
  have HX : Hid (type_of% (HX.out.below hb)) := HX.out.below hb
  have HY : Hid (type_of% (HY.out.below hb)) := HY.out.below hb
  have HZ : Hid (type_of% (HZ.out.below hb)) := HZ.out.below hb
  have HR1 : Hid (type_of% (own_belowY HR1.out hb)) := own_belowY HR1.out hb
  have HR4 : Hid (type_of% (own_belowY HR4.out hb)) := own_belowY HR4.out hb
  have HR6 : Hid (type_of% hr) := hr
  have HB : Hid (Below w.heap.size w w6) := HB.out.trans (hb.mono HB.out.size)
  have HS6 : Hid (V5.heap.size ≤ w6.heap.size) := hb.size
  have HS : Hid (w.heap.size + 3 ≤ w6.heap.size) := Nat.le_trans HS.out hb.size
  obtain ⟨a6, k6, rfl, _, _⟩ := PkRow.slice HR6.out
  clear hr hb hlt C x6
  have x7 := HX.out.c4
  have z7 := HZ.out.c4
  have f7 := HZ.out.f4
  obtain ⟨V7, hV7⟩ : ∃ W, W = w6.setCell ⟨w.heap.size + 2, 4, none⟩ (.slice a6 s.way.length k6) := ⟨_, rfl⟩
  have HX : Hid (type_of% (HX.out.apart (c := w.heap.size + 2) (k := 4) (u := .slice a6 s.way.length k6) (by omega))) := HX.out.apart (c := w.heap.size + 2) (k := 4) (u := .slice a6 s.way.length k6) (by omega)
  have HY : Hid (type_of% (HY.out.apart (c := w.heap.size + 2) (k := 4) (u := .slice a6 s.way.length k6) (by omega))) := HY.out.apart (c := w.heap.size + 2) (k := 4) (u := .slice a6 s.way.length k6) (by omega)
  have HZ : Hid (type_of% (HZ.out.set4 (.slice a6 s.way.length k6))) := HZ.out.set4 (.slice a6 s.way.length k6)
  have HB : Hid (Below w.heap.size w (w6.setCell ⟨w.heap.size + 2, 4, none⟩ (.slice a6 s.way.length k6))) := HB.out.setCell (p := ⟨w.heap.size + 2, 4, none⟩) (Nat.le_add_right _ _) _
  have HS : Hid (w.heap.size + 3 ≤ (w6.setCell ⟨w.heap.size + 2, 4, none⟩ (.slice a6 s.way.length k6)).heap.size) := by show _ ≤ _; have := HS.out; simp; exact this
  have HT7 : Hid (w6.heap.size ≤ (w6.setCell ⟨w.heap.size + 2, 4, none⟩ (.slice a6 s.way.length k6)).heap.size) := by show _ ≤ _; simp
  have HR1 : Hid (type_of% (own_setCellS HR1.out (w.heap.size + 2) 4 (.slice a6 s.way.length k6) (fun g hg => by have := HR1B.out g hg; omega))) := own_setCellS HR1.out (w.heap.size + 2) 4 (.slice a6 s.way.length k6) (fun g hg => by have := HR1B.out g hg; omega)
  have HR4 : Hid (type_of% (own_setCellS HR4.out (w.heap.size + 2) 4 (.slice a6 s.way.length k6) (fun g hg => by have := HR4B.out g hg; omega))) := own_setCellS HR4.out (w.heap.size + 2) 4 (.slice a6 s.way.length k6) (fun g hg => by have := HR4B.out g hg; omega)
  have HR6 : Hid (type_of% (own_setCellS HR6.out (w.heap.size + 2) 4 (.slice a6 s.way.length k6) (fun g hg => by have := HR6B.out g hg; omega))) := own_setCellS HR6.out (w.heap.size + 2) 4 (.slice a6 s.way.length k6) (fun g hg => by have := HR6B.out g hg; omega)
  rw [← hV7] at HX HY HZ HB HS HT7 HR1 HR4 HR6
  go_upto_region 7 with fail
  rw [← hV7]
  clear hV7 x7 z7 f7
  have x8 := HX.out.c5
  have C := toAckS_any s.acks _ V7 (HA.out.a.below HB.out) HL.out.a
  go_wp2_with fail
  go_at_call 63
  refine C.mono ?_
  rintro e w8 ⟨u8, rfl, hr, hb⟩
  have hlt := World.ownsRow.lt hr
  have HR8B : Hid (∀ g, u8.ownBlock = some g → w.heap.size + 3 ≤ g ∧ V7.heap.size ≤ g ∧ g < w8.heap.size) := fun g hg => by have h1 := hlt g hg; have h2 := HS.out; omega
  have HX : Hid (type_of% (HX.out.below hb)) := HX.out.below hb
  have HY : Hid (type_of% (HY.out.below hb)) := HY.out.below hb
  have HZ : Hid (type_of% (HZ.out.below hb)) := HZ.out.below hb
  have HR1 : Hid (type_of% (own_belowY HR1.out hb)) := own_belowY HR1.out hb
  have HR4 : Hid (type_of% (own_belowY HR4.out hb)) := own_belowY HR4.out hb
  have HR6 : Hid (type_of% (own_belowY HR6.out hb)) := own_belowY HR6.out hb
  have HR8 : Hid (type_of% hr) := hr
  have HB : Hid (Below w.heap.size w w8) := HB.out.trans (hb.mono HB.out.size)
  have HS8 : Hid (V7.heap.size ≤ w8.heap.size) := hb.size
  have HS : Hid (w.heap.size + 3 ≤ w8.heap.size) := Nat.le_trans HS.out hb.size
  obtain ⟨a8, k8, rfl, _, _⟩ := AkRow.slice HR8.out
  clear hr hb hlt C x8
  have x9 := HX.out.c5
  have z9 := HZ.out.c5
  have f9 := HZ.out.f5
  obtain ⟨V9, hV9⟩ : ∃ W, W = w8.setCell ⟨w.heap.size + 2, 5, none⟩ (.slice a8 s.acks.length k8) := ⟨_, rfl⟩
  have HX : Hid (type_of% (HX.out.apart (c := w.heap.size + 2) (k := 5) (u := .slice a8 s.acks.length k8) (by omega))) := HX.out.apart (c := w.heap.size + 2) (k := 5) (u := .slice a8 s.acks.length k8) (by omega)
  have HY : Hid (type_of% (HY.out.apart (c := w.heap.size + 2) (k := 5) (u := .slice a8 s.acks.length k8) (by omega))) := HY.out.apart (c := w.heap.size + 2) (k := 5) (u := .slice a8 s.acks.length k8) (by omega)
  have HZ : Hid (type_of% (HZ.out.set5 (.slice a8 s.acks.length k8))) := HZ.out.set5 (.slice a8 s.acks.length k8)
  have HB : Hid (Below w.heap.size w (w8.setCell ⟨w.heap.size + 2, 5, none⟩ (.slice a8 s.acks.length k8))) := HB.out.setCell (p := ⟨w.heap.size + 2, 5, none⟩) (Nat.le_add_right _ _) _
  have HS : Hid (w.heap.size + 3 ≤ (w8.setCell ⟨w.heap.size + 2, 5, none⟩ (.slice a8 s.acks.length k8)).heap.size) := by show _ ≤ _; have := HS.out; simp; exact this
  have HT9 : Hid (w8.heap.size ≤ (w8.setCell ⟨w.heap.size + 2, 5, none⟩ (.slice a8 s.acks.length k8)).heap.size) := by show _ ≤ _; simp
  have HR1 : Hid (type_of% (own_setCellS HR1.out (w.heap.size + 2) 5 (.slice a8 s.acks.length k8) (fun g hg => by have := HR1B.out g hg; omega))) := own_setCellS HR1.out (w.heap.size + 2) 5 (.slice a8 s.acks.length k8) (fun g hg => by have := HR1B.out g hg; omega)
  have HR4 : Hid (type_of% (own_setCellS HR4.out (w.heap.size + 2) 5 (.slice a8 s.acks.length k8) (fun g hg => by have := HR4B.out g hg; omega))) := own_setCellS HR4.out (w.heap.size + 2) 5 (.slice a8 s.acks.length k8) (fun g hg => by have := HR4B.out g hg; omega)
  have HR6 : Hid (type_of% (own_setCellS HR6.out (w.heap.size + 2) 5 (.slice a8 s.acks.length k8) (fun g hg => by have := HR6B.out g hg; omega))) := own_setCellS HR6.out (w.heap.size + 2) 5 (.slice a8 s.acks.length k8) (fun g hg => by have := HR6B.out g hg; omega)
  have HR8 : Hid (type_of% (own_setCellS HR8.out (w.heap.size + 2) 5 (.slice a8 s.acks.length k8) (fun g hg => by have := HR8B.out g hg; omega))) := own_setCellS HR8.out (w.heap.size + 2) 5 (.slice a8 s.acks.length k8) (fun g hg => by have := HR8B.out g hg; omega)
  rw [← hV9] at HX HY HZ HB HS HT9 HR1 HR4 HR6 HR8
  go_upto_region 8 with fail
  rw [← hV9]
  clear hV9 x9 z9 f9
  have z0 := HZ.out.c0
  have z1 := HZ.out.c1
  have z2 := HZ.out.c2
  have z3 := HZ.out.c3
  have z4 := HZ.out.c4
  have z5 := HZ.out.c5
  have y0 := HY.out.c0
  have y1 := HY.out.c1
  have y2 := HY.out.c2
  have y3 := HY.out.c3
  have y4 := HY.out.c4
  have y5 := HY.out.c5
  have g0 := HY.out.f0
  have g1 := HY.out.f1
  have g2 := HY.out.f2
  have g3 := HY.out.f3
  have g4 := HY.out.f4
  have g5 := HY.out.f5
  have HROW : Hid (SesRow V9 (w.heap.size + 2) s (.slice a1 s.items.length k1) (.slice a4 s.handed.length k4) (.slice a6 s.way.length k6) (.slice a8 s.acks.length k8)) := by
    have m1 := HR1B.out
    have m4 := HR4B.out
    have m6 := HR6B.out
    have m8 := HR8B.out
    have t4 := HS4.out
    have t6 := HS6.out
    have t8 := HS8.out
    have t2 := HT2.out
    have t3 := HT3.out
    have t5 := HT5.out
    have t7 := HT7.out
    refine ⟨?_, ?_, ?_, ?_, ?_, ?_, ?_, ?_, ?_, ?_⟩
    · exact own_raise HR1.out fun g hg => by have := m1 g hg; omega
    · exact own_raise HR4.out fun g hg => by have := m4 g hg; omega
    · exact own_raise HR6.out fun g hg => by have := m6 g hg; omega
    · exact own_raise HR8.out fun g hg => by have := m8 g hg; omega
    · intro g hg e; have h1 := m1 g hg; have h2 := m4 g e; omega
    · intro g hg e; have h1 := m1 g hg; have h2 := m6 g e; omega
    · intro g hg e; have h1 := m1 g hg; have h2 := m8 g e; omega
    · intro g hg e; have h1 := m4 g hg; have h2 := m6 g e; omega
    · intro g hg e; have h1 := m4 g hg; have h2 := m8 g e; omega
    · intro g hg e; have h1 := m6 g hg; have h2 := m8 g e; omega
  clear HX HZ HY HR1 HR4 HR6 HR8 HR1B HR4B HR6B HR8B HS HS1 HS4 HS6 HS8 HT0 HT2 HT3 HT5 HT7 HT9 HA HL
  go_wp2_with fail
  (try simp only [Exit.inBlock, Exit.then])
  refine bodyPost_ret (v := .agg #[.int .i64 s.ep, .slice a1 s.items.length k1, .int .i64 s.base, .slice a4 s.handed.length k4, .slice a6 s.way.length k6, .slice a8 s.acks.length k8]) ?_ rfl ⟨_, _, _, _, rfl, ?_, ?_⟩
  · rw [rc]
    go_simp
  · refine SesRow.lower ?_ (Nat.le_add_right w.heap.size 2)
    repeat' (refine SesRow.setCell ?_ _ _ _ (by omega))
    exact HROW.out
  · repeat' (refine Below.setCell ?_ (Nat.le_add_right _ _) _)
    exact HB.out

set_option maxRecDepth 100000 in
theorem open_textsSn {H : Type} {enc : TypeId × Value → H} {W : World} {m : Nat} {v0 : Value} {x : DataW H × List MemPlace}
    (hf : DataW.trod enc Try.prog W 0 (fun _ => true) true m 22 [v0] = some x) : ∃ l, StAt W W.heap.size v0 l ∧ ∀ i, i < l.length → (lq l i).size ≤ 9223372036854775807 := by
  have c3 : Try.prog.cellsOf 9 = 1 := by kernel_rfl
  rcases DataW.trod_slice Try.underlying22 hf with ⟨hcs, _⟩ | ⟨a, len, cap, elems, rest, m2, _, hcs, _, _, hlc, hcm, hel, hcell, _⟩
  · simp at hcs
    subst hcs
    exact ⟨[], ⟨none, 0, rfl, by simp, by unfold maxLen; omega, fun i hi => by simp at hi⟩, fun i hi => by simp at hi⟩
  · simp at hcs
    subst hcs
    rw [c3] at hcell
    have each : ∀ i, i < len → ∃ t : ByteArray, (a = ⟨a.block, a.off, none⟩ ∧ a.block < W.heap.size) ∧ W.cell? ⟨a.block, a.off + i, none⟩ = some (.string t) ∧ t.size ≤ maxLen := by
      intro i hi
      have h1 := hcell i hi
      rw [List.getElem?_eq_getElem (by omega), Option.bind_eq_some_iff] at h1
      obtain ⟨ci, hci, htr⟩ := h1
      obtain ⟨t, rfl, _, hts⟩ := DataW.trod_string Try.underlying9 htr
      obtain ⟨_, _, hcc⟩ := World.cells?_some hci
      have h00 := hcell 0 (by omega)
      rw [List.getElem?_eq_getElem (by omega), Option.bind_eq_some_iff] at h00
      obtain ⟨c0, hc0, htr0⟩ := h00
      obtain ⟨t0, rfl, _⟩ := DataW.trod_string Try.underlying9 htr0
      obtain ⟨_, _, hcc0⟩ := World.cells?_some hc0
      have hz := hcc0 0 (by omega)
      have hz' : W.cell? a = some (.string t0) := by simpa [Addr.add] using hz
      have hsp := spot_none hz'
      refine ⟨t, ⟨hsp, World.block_lt_of_cell? W a hz'⟩, ?_, hts⟩
      have h2 := hcc 0 (by omega)
      rw [show (some (Value.string t)) = [Value.string t][0]? from rfl, ← h2]
      congr 1
      rw [hsp]
      unfold Addr.add
      by_cases h0 : i * 1 = 0
      · rw [if_pos h0]; simp; omega
      · rw [if_neg h0]; simp
    obtain ⟨l, hl, hP⟩ := pick_list each
    have el : ∀ i, i < l.length → lq l i = l.getD i default := fun i hi => by
      unfold lq
      rw [List.getD_eq_getElem?_getD, List.getD_eq_getElem?_getD, List.getElem?_eq_getElem hi]
      rfl
    refine ⟨l, ⟨some a, cap, by rw [hl], by omega, hcm, fun i hi => ?_⟩, fun i hi => ?_⟩
    · have h1 := hP i (by omega)
      refine ⟨a.block, a.off, by rw [← h1.1.1], h1.1.2, ?_⟩
      rw [h1.2.1, el i hi]
    · have h1 := (hP i (by omega)).2.2
      unfold maxLen at h1
      rw [el i hi]
      exact h1

set_option maxRecDepth 100000 in
theorem open_session {H : Type} {enc : TypeId × Value → H} {W : World} {base : Nat} {v0 : Value} {d0 : DataW H} {p0 : List MemPlace} (hok : Value.okWide Try.prog W .any base 35 v0)
    (h0 : DataW.Trod enc Try.prog W 0 (fun _ => true) true 35 v0 d0 p0) : ∃ (s : Ses) (vi vh vw va : Value), v0 = s.val vi vh vw va ∧ SesAt W W.heap.size s vi vh vw va ∧ Shr s 9223372036854775807 := by
  unfold Value.okWide at hok
  rw [Try.underlying35] at hok
  obtain ⟨cs, rfl, hsz, _⟩ := hok
  have c24 : Try.prog.cellsOf 35 = 6 := by kernel_rfl
  have c3 : Try.prog.cellsOf 3 = 1 := by kernel_rfl
  have c22 : Try.prog.cellsOf 22 = 1 := by kernel_rfl
  have c32 : Try.prog.cellsOf 32 = 1 := by kernel_rfl
  have c33 : Try.prog.cellsOf 33 = 1 := by kernel_rfl
  rw [c24] at hsz
  obtain ⟨fuel, hf⟩ := h0
  obtain ⟨l⟩ := cs
  match l, hsz with
  | [k0, k1, k2, k3, k4, k5], _ =>
    obtain ⟨xs, m1, rfl, _, _, hn, hff⟩ := DataW.trod_struct Try.underlying35 hf
    have f0 : DataW.trod enc Try.prog W 0 (fun _ => true) true m1 3 ((([k0, k1, k2, k3, k4, k5] : List Value).drop 0).take (Try.prog.cellsOf 3)) = xs[0]? := hff 0 _ rfl
    have f1 : DataW.trod enc Try.prog W 0 (fun _ => true) true m1 22 ((([k0, k1, k2, k3, k4, k5] : List Value).drop 1).take (Try.prog.cellsOf 22)) = xs[1]? := hff 1 _ rfl
    have f2 : DataW.trod enc Try.prog W 0 (fun _ => true) true m1 3 ((([k0, k1, k2, k3, k4, k5] : List Value).drop 2).take (Try.prog.cellsOf 3)) = xs[2]? := hff 2 _ rfl
    have f3 : DataW.trod enc Try.prog W 0 (fun _ => true) true m1 22 ((([k0, k1, k2, k3, k4, k5] : List Value).drop 3).take (Try.prog.cellsOf 22)) = xs[3]? := hff 3 _ rfl
    have f4 : DataW.trod enc Try.prog W 0 (fun _ => true) true m1 32 ((([k0, k1, k2, k3, k4, k5] : List Value).drop 4).take (Try.prog.cellsOf 32)) = xs[4]? := hff 4 _ rfl
    have f5 : DataW.trod enc Try.prog W 0 (fun _ => true) true m1 33 ((([k0, k1, k2, k3, k4, k5] : List Value).drop 5).take (Try.prog.cellsOf 33)) = xs[5]? := hff 5 _ rfl
    rw [c3] at f0 f2
    rw [c22] at f1 f3
    rw [c32] at f4
    rw [c33] at f5
    match xs, hn with
    | [x0, x1, x2, x3, x4, x5], _ =>
      obtain ⟨n0, e0, _⟩ := DataW.trod_int Try.underlying3 (show DataW.trod enc Try.prog W 0 (fun _ => true) true m1 3 [k0] = some x0 from f0)
      obtain ⟨L, hL, hLs⟩ := open_textsSn (show DataW.trod enc Try.prog W 0 (fun _ => true) true m1 22 [k1] = some x1 from f1)
      obtain ⟨n2, e2, _⟩ := DataW.trod_int Try.underlying3 (show DataW.trod enc Try.prog W 0 (fun _ => true) true m1 3 [k2] = some x2 from f2)
      obtain ⟨L3, hL3, hLs3⟩ := open_textsSn (show DataW.trod enc Try.prog W 0 (fun _ => true) true m1 22 [k3] = some x3 from f3)
      obtain ⟨T4, hT4, hTs4⟩ := open_PksIn (show DataW.trod enc Try.prog W 0 (fun _ => true) true m1 32 [k4] = some x4 from f4)
      obtain ⟨T5, hT5⟩ := open_AksIn (show DataW.trod enc Try.prog W 0 (fun _ => true) true m1 33 [k5] = some x5 from f5)
      simp at e0 e2
      subst e0 e2
      exact ⟨⟨n0, L, n2, L3, T4, T5⟩, k1, k3, k4, k5, rfl, ⟨hL, hL3, hT4, hT5⟩, ⟨hLs, hLs3, hTs4⟩⟩

end Go.Proofs.Ytnlppeieccbhgaa
