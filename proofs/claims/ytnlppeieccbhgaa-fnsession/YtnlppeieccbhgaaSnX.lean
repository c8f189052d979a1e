/- The model's l15Step: what is done. -/
import Derived.Test.YtnlppeieccbhgaaSnV
namespace Go.Proofs.Ytnlppeieccbhgaa
open Go.RowKit Plain Tpc Ssn

theorem SesRow.retag {w : World} {B : Nat} {s s' : Ses} {vi vh vw va : Value} (h : SesRow w B s vi vh vw va) (h1 : s'.items = s.items) (h2 : s'.handed = s.handed) (h3 : s'.way = s.way) (h4 : s'.acks = s.acks) : SesRow w B s' vi vh vw va :=
  ⟨by rw [h1]; exact h.i, by rw [h2]; exact h.h, by rw [h3]; exact h.y, by rw [h4]; exact h.a, h.ih, h.iw, h.ia, h.hw, h.ha, h.wa⟩

set_option maxRecDepth 100000 in
set_option maxHeartbeats 8000000 in
theorem stPush2 (s : Ses) (x : Sp) (B : Nat) (ai ah aw aa : Option Addr) (ci ch cw ca : Nat) (w : World) (hR : SesRow w B s (.slice ai s.items.length ci) (.slice ah s.handed.length ch) (.slice aw s.way.length cw) (.slice aa s.acks.length ca)) (hBw : B ≤ w.heap.size) (hg : Gd s) (hk : x.kind = 1) (htx : x.tx.size ≤ 9223372036854775807) (h20 : x.tx.size ≤ 20) (h30 : s.items.length < 30) :
    Calls Try.prog 71 #[.agg #[.int .i64 s.ep, .slice ai s.items.length ci, .int .i64 s.base, .slice ah s.handed.length ch, .slice aw s.way.length cw, .slice aa s.acks.length ca], .agg #[.int .i64 x.kind, .int .i64 x.kk, .string x.tx]] w fun e w' => StO w w' B (.slice ai s.items.length ci) (.slice ah s.handed.length ch) (.slice aw s.way.length cw) (.slice aa s.acks.length ca) (stS s x) (fun v => e = .returned (.tuple #[v, .bool (stK s x)])) := by
  have rc := fun (tmps : Array Value) (P : Program) (w : World) => results_cell1S (fn := Try.f71) (p := 4) (q := 5) (ty := 26) rfl tmps P w
  obtain ⟨i0, hi, hz0, hz1, hz2⟩ := info_parts infoStr
  obtain ⟨p0', hp, hpz0, hpz1, hpz2⟩ := info_parts Try.infoPk
  obtain ⟨q0, hq, hqz0, hqz1, hqz2⟩ := info_parts Try.infoAk
  have HST := Sta.begin x hR
  obtain ⟨W0, hW0⟩ : ∃ X, X = ((w.alloc (.cells #[.int .i64 s.ep, .slice ai s.items.length ci, .int .i64 s.base, .slice ah s.handed.length ch, .slice aw s.way.length cw, .slice aa s.acks.length ca] 26)).alloc (.cells #[.int .i64 x.kind, .int .i64 x.kk, .string x.tx] 48)).alloc (.cells #[.int .i64 0, .slice none 0 0, .int .i64 0, .slice none 0 0, .slice none 0 0, .slice none 0 0] 26) := ⟨_, rfl⟩
  rw [← hW0] at HST
  have HX : Hid (type_of% HST.X) := HST.X
  have HP : Hid (type_of% HST.S) := HST.S
  have HZ : Hid (type_of% HST.Z) := HST.Z
  have HR : Hid (type_of% HST.R) := HST.R
  have HT : Hid (type_of% HST.T) := HST.T
  have HnX : Hid (type_of% HST.nX) := HST.nX
  have HnP : Hid (type_of% HST.nS) := HST.nS
  have HnZ : Hid (type_of% HST.nZ) := HST.nZ
  have hil := hg.il
  have hyl := hg.yl
  have hal := hg.al
  have hhl := hg.hl
  have hb0 := hg.b0
  have hb1 := hg.b1
  have he1 := hg.e1
  have hs3 : w.heap.size + 2 < W0.heap.size := HST.Z.low
  have hsB : B ≤ W0.heap.size := by omega
  clear HST hR hg
  have HK : Hid (stK s x = true) := by
    show _ = _
    unfold stK
    rw [if_pos hk]
    unfold pushK
    rw [decide_eq_true h20, decide_eq_true h30]; rfl
  have HE : Hid (stS s x = pushS s x.tx) := by
    show _ = _
    unfold stS
    rw [HK.out, if_neg (by decide)]
    rw [if_pos hk]
  have CT := l15Text_any x.tx W0 htx
  rw [decide_eq_true h20] at CT
  have hL : ((s.items.length : Int) == 30) = false := by simp; omega
  obtain ⟨kind, kk, tx⟩ := x
  dsimp only at *
  subst hk
  go_enter Try.func71, Try.ntmps71
  go_upto_region 1 with fail
  rw [← hW0]
  clear hW0
  have k0 := HP.out.c0
  have k1 := HP.out.c1
  have k2 := HP.out.c2
  have x1 := HX.out.c1
  have g1 := HX.out.f1
  go_wp2_with fail
  go_at_call 47
  refine CT.mono ?_
  rintro e w2 ⟨rfl, hw2⟩
  have hw2 := hw2.symm
  subst hw2
  go_upto_region 6 with (at_builtin; refine wpList_append_lies _ rfl _ _ 22 rfl B 9 i0 (.string ByteArray.empty) 1 16 Try.underlying22 hi hz0 hz1 hz2 rfl (by decide) _ s.items.length _ rfl (World.ownsRow.alloc HR.out.i _) ⟨W0.heap.size, 0, none⟩ 1 1 ([Value.string tx]) rfl rfl (World.news_of_block (heap_alloc_new W0 _)) (by intro u hu; simp at hu; subst hu; rfl) (by omega) (by unfold maxLen; omega) (by omega) (by simp; omega) (W0.heap.size + 1) (by simp) ?_; intro g9 cap9 w9 hown9 hgrow9 hat9 hlt9; have hQ := SesRow.appI HR.out hown9 rfl hgrow9 hat9; have HX9 := HX.out.step hQ.2 HnX.out; have HP9 := HP.out.step hQ.2 HnP.out; have HZ9 := HZ.out.step hQ.2 HnZ.out; have HnX9 := hQ.2.avoid HX.out.low HnX.out; have HnP9 := hQ.2.avoid HP.out.low HnP.out; have HnZ9 := hQ.2.avoid HZ.out.low HnZ.out; have HQ : Hid (type_of% hQ) := hQ; have y1 := HX9.c1; have g1 := HX9.f1; have h9 : Hid (W0.heap.size ≤ w9.heap.size) := hQ.2.size; clear hown9 hgrow9 hat9 hlt9 hQ)
  obtain ⟨V1, hV1⟩ : ∃ X, X = w9.setCell ⟨w.heap.size, 1, none⟩ (.slice (some ⟨g9, 0, none⟩) (s.items.length + 1) cap9) := ⟨_, rfl⟩
  have HX : Hid (type_of% (HX9.set1 (.slice (some ⟨g9, 0, none⟩) (s.items.length + 1) cap9))) := HX9.set1 (.slice (some ⟨g9, 0, none⟩) (s.items.length + 1) cap9)
  have HP : Hid (type_of% (HP9.apart (c := w.heap.size) (k := 1) (u := (.slice (some ⟨g9, 0, none⟩) (s.items.length + 1) cap9)) (by omega))) := HP9.apart (c := w.heap.size) (k := 1) (u := (.slice (some ⟨g9, 0, none⟩) (s.items.length + 1) cap9)) (by omega)
  have HZ : Hid (type_of% (HZ9.apart (c := w.heap.size) (k := 1) (u := (.slice (some ⟨g9, 0, none⟩) (s.items.length + 1) cap9)) (by omega))) := HZ9.apart (c := w.heap.size) (k := 1) (u := (.slice (some ⟨g9, 0, none⟩) (s.items.length + 1) cap9)) (by omega)
  have HR : Hid (type_of% (HQ.out.1.setC (k := 1) (u := (.slice (some ⟨g9, 0, none⟩) (s.items.length + 1) cap9)) HnX9)) := HQ.out.1.setC (k := 1) (u := (.slice (some ⟨g9, 0, none⟩) (s.items.length + 1) cap9)) HnX9
  have HT : Hid (type_of% ((HT.out.trans HQ.out.2).setCell w.heap.size 1 (.slice (some ⟨g9, 0, none⟩) (s.items.length + 1) cap9) (Nat.le_refl _))) := (HT.out.trans HQ.out.2).setCell w.heap.size 1 (.slice (some ⟨g9, 0, none⟩) (s.items.length + 1) cap9) (Nat.le_refl _)
  have HnX : Hid (type_of% HnX9) := HnX9
  have HnP : Hid (type_of% HnP9) := HnP9
  have HnZ : Hid (type_of% HnZ9) := HnZ9
  rw [← hV1] at HX HP HZ HR HT ⊢
  have hs3 : w.heap.size + 2 < V1.heap.size := HZ.out.low
  clear hV1 HX9 HP9 HZ9 HnX9 HnP9 HnZ9 HQ y1 g1 h9
  clear x1 k0 k1 k2
  have y0 := HX.out.c0
  have z0 := HZ.out.c0
  have f0 := HZ.out.f0
  have y1 := HX.out.c1
  have z1 := HZ.out.c1
  have f1 := HZ.out.f1
  have y2 := HX.out.c2
  have z2 := HZ.out.c2
  have f2 := HZ.out.f2
  have y3 := HX.out.c3
  have z3 := HZ.out.c3
  have f3 := HZ.out.f3
  have y4 := HX.out.c4
  have z4 := HZ.out.c4
  have f4 := HZ.out.f4
  have y5 := HX.out.c5
  have z5 := HZ.out.c5
  have f5 := HZ.out.f5
  go_wp2_with fail
  (try simp only [Exit.inBlock, Exit.then])
  rw [HE.out, HK.out]
  refine bodyPost_ret (v := .tuple #[.agg #[.int .i64 s.ep, .slice (some ⟨g9, 0, none⟩) (s.items.length + 1) cap9, .int .i64 s.base, .slice ah s.handed.length ch, .slice aw s.way.length cw, .slice aa s.acks.length ca], .bool true]) ?_ rfl (StO.ret2 (.slice (some ⟨g9, 0, none⟩) (s.items.length + 1) cap9) (.slice ah s.handed.length ch) (.slice aw s.way.length cw) (.slice aa s.acks.length ca) ?_ ?_ ?_)
  · rw [rc]
    go_simp
  · rfl
  · exact HR.out.set6 HnZ.out
  · exact HT.out.set6 (by omega)

set_option maxRecDepth 100000 in
set_option maxHeartbeats 8000000 in
theorem stCut1 (s : Ses) (x : Sp) (B : Nat) (ai ah aw aa : Option Addr) (ci ch cw ca : Nat) (w : World) (hR : SesRow w B s (.slice ai s.items.length ci) (.slice ah s.handed.length ch) (.slice aw s.way.length cw) (.slice aa s.acks.length ca)) (hBw : B ≤ w.heap.size) (hg : Gd s) (hk : x.kind = 7) (h1 : s.ep < 1000) (he0 : 1 ≤ s.ep) :
    Calls Try.prog 71 #[.agg #[.int .i64 s.ep, .slice ai s.items.length ci, .int .i64 s.base, .slice ah s.handed.length ch, .slice aw s.way.length cw, .slice aa s.acks.length ca], .agg #[.int .i64 x.kind, .int .i64 x.kk, .string x.tx]] w fun e w' => StO w w' B (.slice ai s.items.length ci) (.slice ah s.handed.length ch) (.slice aw s.way.length cw) (.slice aa s.acks.length ca) (stS s x) (fun v => e = .returned (.tuple #[v, .bool (stK s x)])) := by
  have rc := fun (tmps : Array Value) (P : Program) (w : World) => results_cell1S (fn := Try.f71) (p := 4) (q := 5) (ty := 26) rfl tmps P w
  obtain ⟨i0, hi, hz0, hz1, hz2⟩ := info_parts infoStr
  obtain ⟨p0', hp, hpz0, hpz1, hpz2⟩ := info_parts Try.infoPk
  obtain ⟨q0, hq, hqz0, hqz1, hqz2⟩ := info_parts Try.infoAk
  have HST := Sta.begin x hR
  obtain ⟨W0, hW0⟩ : ∃ X, X = ((w.alloc (.cells #[.int .i64 s.ep, .slice ai s.items.length ci, .int .i64 s.base, .slice ah s.handed.length ch, .slice aw s.way.length cw, .slice aa s.acks.length ca] 26)).alloc (.cells #[.int .i64 x.kind, .int .i64 x.kk, .string x.tx] 48)).alloc (.cells #[.int .i64 0, .slice none 0 0, .int .i64 0, .slice none 0 0, .slice none 0 0, .slice none 0 0] 26) := ⟨_, rfl⟩
  rw [← hW0] at HST
  have HX : Hid (type_of% HST.X) := HST.X
  have HP : Hid (type_of% HST.S) := HST.S
  have HZ : Hid (type_of% HST.Z) := HST.Z
  have HR : Hid (type_of% HST.R) := HST.R
  have HT : Hid (type_of% HST.T) := HST.T
  have HnX : Hid (type_of% HST.nX) := HST.nX
  have HnP : Hid (type_of% HST.nS) := HST.nS
  have HnZ : Hid (type_of% HST.nZ) := HST.nZ
  have hil := hg.il
  have hyl := hg.yl
  have hal := hg.al
  have hhl := hg.hl
  have hb0 := hg.b0
  have hb1 := hg.b1
  have he1 := hg.e1
  have hs3 : w.heap.size + 2 < W0.heap.size := HST.Z.low
  have hsB : B ≤ W0.heap.size := by omega
  clear HST hR hg
  have HK : Hid (stK s x = true) := by
    show _ = _
    unfold stK
    rw [if_neg (by omega), if_neg (by omega), if_neg (by omega), if_neg (by omega), if_neg (by omega), if_neg (by omega), if_pos hk]
    unfold cutK
    exact decide_eq_true h1
  have HE : Hid (stS s x = cutS s) := by
    show _ = _
    unfold stS
    rw [HK.out, if_neg (by decide)]
    rw [if_neg (by omega), if_neg (by omega), if_neg (by omega), if_neg (by omega), if_neg (by omega), if_neg (by omega)]
  have hL : (s.ep == 1000) = false := by simp; omega
  obtain ⟨kind, kk, tx⟩ := x
  dsimp only at *
  subst hk
  go_enter Try.func71, Try.ntmps71
  go_upto_region 1 with fail
  rw [← hW0]
  clear hW0
  have k0 := HP.out.c0
  have k1 := HP.out.c1
  have k2 := HP.out.c2
  have x0 := HX.out.c0
  have g0 := HX.out.f0
  have x2 := HX.out.c2
  have g2 := HX.out.f2
  have x3 := HX.out.c3
  have g3 := HX.out.f3
  obtain ⟨V1, hV1⟩ : ∃ X, X = W0.setCell ⟨w.heap.size, 0, none⟩ (.int .i64 (s.ep + 1)) := ⟨_, rfl⟩
  have HX : Hid (type_of% (HX.out.set0 (.int .i64 (s.ep + 1)))) := HX.out.set0 (.int .i64 (s.ep + 1))
  have HP : Hid (type_of% (HP.out.apart (c := w.heap.size) (k := 0) (u := .int .i64 (s.ep + 1)) (by omega))) := HP.out.apart (c := w.heap.size) (k := 0) (u := .int .i64 (s.ep + 1)) (by omega)
  have HZ : Hid (type_of% (HZ.out.apart (c := w.heap.size) (k := 0) (u := .int .i64 (s.ep + 1)) (by omega))) := HZ.out.apart (c := w.heap.size) (k := 0) (u := .int .i64 (s.ep + 1)) (by omega)
  have HR : Hid (type_of% (HR.out.setC (k := 0) (u := .int .i64 (s.ep + 1)) HnX.out)) := HR.out.setC (k := 0) (u := .int .i64 (s.ep + 1)) HnX.out
  have HT : Hid (type_of% (HT.out.setCell w.heap.size 0 (.int .i64 (s.ep + 1)) (Nat.le_refl _))) := HT.out.setCell w.heap.size 0 (.int .i64 (s.ep + 1)) (Nat.le_refl _)
  go_upto_region 24 with fail
  rw [← hV1] at HX HP HZ HR HT ⊢
  have hs3 : w.heap.size + 2 < V1.heap.size := HZ.out.low
  have hsB : B ≤ V1.heap.size := by omega
  clear hV1 x0 x2 x3 g0 g2 g3
  have x2 := HX.out.c2
  have g2 := HX.out.f2
  have x3 := HX.out.c3
  have g3 := HX.out.f3
  obtain ⟨V2, hV2⟩ : ∃ X, X = V1.setCell ⟨w.heap.size, 2, none⟩ (.int .i64 (s.handed.length : Int)) := ⟨_, rfl⟩
  have HX : Hid (type_of% (HX.out.set2 (.int .i64 (s.handed.length : Int)))) := HX.out.set2 (.int .i64 (s.handed.length : Int))
  have HP : Hid (type_of% (HP.out.apart (c := w.heap.size) (k := 2) (u := .int .i64 (s.handed.length : Int)) (by omega))) := HP.out.apart (c := w.heap.size) (k := 2) (u := .int .i64 (s.handed.length : Int)) (by omega)
  have HZ : Hid (type_of% (HZ.out.apart (c := w.heap.size) (k := 2) (u := .int .i64 (s.handed.length : Int)) (by omega))) := HZ.out.apart (c := w.heap.size) (k := 2) (u := .int .i64 (s.handed.length : Int)) (by omega)
  have HR : Hid (type_of% (HR.out.setC (k := 2) (u := .int .i64 (s.handed.length : Int)) HnX.out)) := HR.out.setC (k := 2) (u := .int .i64 (s.handed.length : Int)) HnX.out
  have HT : Hid (type_of% (HT.out.setCell w.heap.size 2 (.int .i64 (s.handed.length : Int)) (Nat.le_refl _))) := HT.out.setCell w.heap.size 2 (.int .i64 (s.handed.length : Int)) (Nat.le_refl _)
  go_upto_region 25 with fail
  rw [← hV2] at HX HP HZ HR HT ⊢
  have hs3 : w.heap.size + 2 < V2.heap.size := HZ.out.low
  have hsB : B ≤ V2.heap.size := by omega
  clear hV2 x2 x3 g2 g3
  clear k0 k1 k2
  have HR : Hid (SesRow V2 B (cutS s) (.slice ai s.items.length ci) (.slice ah s.handed.length ch) (.slice aw s.way.length cw) (.slice aa s.acks.length ca)) := SesRow.retag HR.out rfl rfl rfl rfl
  have y0 := HX.out.c0
  have z0 := HZ.out.c0
  have f0 := HZ.out.f0
  have y1 := HX.out.c1
  have z1 := HZ.out.c1
  have f1 := HZ.out.f1
  have y2 := HX.out.c2
  have z2 := HZ.out.c2
  have f2 := HZ.out.f2
  have y3 := HX.out.c3
  have z3 := HZ.out.c3
  have f3 := HZ.out.f3
  have y4 := HX.out.c4
  have z4 := HZ.out.c4
  have f4 := HZ.out.f4
  have y5 := HX.out.c5
  have z5 := HZ.out.c5
  have f5 := HZ.out.f5
  go_wp2_with fail
  (try simp only [Exit.inBlock, Exit.then])
  rw [HE.out, HK.out]
  refine bodyPost_ret (v := .tuple #[.agg #[.int .i64 (s.ep + 1), .slice ai s.items.length ci, .int .i64 (s.handed.length : Int), .slice ah s.handed.length ch, .slice aw s.way.length cw, .slice aa s.acks.length ca], .bool true]) ?_ rfl (StO.ret2 (.slice ai s.items.length ci) (.slice ah s.handed.length ch) (.slice aw s.way.length cw) (.slice aa s.acks.length ca) ?_ ?_ ?_)
  · rw [rc]
    go_simp
  · rfl
  · exact HR.out.set6 HnZ.out
  · exact HT.out.set6 (by omega)

set_option maxRecDepth 100000 in
set_option maxHeartbeats 8000000 in
theorem stTwice0 (s : Ses) (x : Sp) (B : Nat) (ai ah aw aa : Option Addr) (ci ch cw ca : Nat) (w : World) (hR : SesRow w B s (.slice ai s.items.length ci) (.slice ah s.handed.length ch) (.slice aw s.way.length cw) (.slice aa s.acks.length ca)) (hBw : B ≤ w.heap.size) (hg : Gd s) (hk : x.kind = 5) (h1 : 0 ≤ x.kk) (h2 : x.kk < (s.way.length : Int)) (h3 : ¬ s.way.length < 12) :
    Calls Try.prog 71 #[.agg #[.int .i64 s.ep, .slice ai s.items.length ci, .int .i64 s.base, .slice ah s.handed.length ch, .slice aw s.way.length cw, .slice aa s.acks.length ca], .agg #[.int .i64 x.kind, .int .i64 x.kk, .string x.tx]] w fun e w' => StO w w' B (.slice ai s.items.length ci) (.slice ah s.handed.length ch) (.slice aw s.way.length cw) (.slice aa s.acks.length ca) (stS s x) (fun v => e = .returned (.tuple #[v, .bool (stK s x)])) := by
  have rc := fun (tmps : Array Value) (P : Program) (w : World) => results_cell1S (fn := Try.f71) (p := 4) (q := 5) (ty := 26) rfl tmps P w
  obtain ⟨i0, hi, hz0, hz1, hz2⟩ := info_parts infoStr
  obtain ⟨p0', hp, hpz0, hpz1, hpz2⟩ := info_parts Try.infoPk
  obtain ⟨q0, hq, hqz0, hqz1, hqz2⟩ := info_parts Try.infoAk
  have HST := Sta.begin x hR
  obtain ⟨W0, hW0⟩ : ∃ X, X = ((w.alloc (.cells #[.int .i64 s.ep, .slice ai s.items.length ci, .int .i64 s.base, .slice ah s.handed.length ch, .slice aw s.way.length cw, .slice aa s.acks.length ca] 26)).alloc (.cells #[.int .i64 x.kind, .int .i64 x.kk, .string x.tx] 48)).alloc (.cells #[.int .i64 0, .slice none 0 0, .int .i64 0, .slice none 0 0, .slice none 0 0, .slice none 0 0] 26) := ⟨_, rfl⟩
  rw [← hW0] at HST
  have HX : Hid (type_of% HST.X) := HST.X
  have HP : Hid (type_of% HST.S) := HST.S
  have HZ : Hid (type_of% HST.Z) := HST.Z
  have HR : Hid (type_of% HST.R) := HST.R
  have HT : Hid (type_of% HST.T) := HST.T
  have HnX : Hid (type_of% HST.nX) := HST.nX
  have HnP : Hid (type_of% HST.nS) := HST.nS
  have HnZ : Hid (type_of% HST.nZ) := HST.nZ
  have hil := hg.il
  have hyl := hg.yl
  have hal := hg.al
  have hhl := hg.hl
  have hb0 := hg.b0
  have hb1 := hg.b1
  have he1 := hg.e1
  have hs3 : w.heap.size + 2 < W0.heap.size := HST.Z.low
  have hsB : B ≤ W0.heap.size := by omega
  clear HST hR hg
  have HK : Hid (stK s x = false) := by
    show _ = _
    unfold stK
    rw [if_neg (by omega), if_neg (by omega), if_neg (by omega), if_neg (by omega), if_pos hk]
    unfold twiceK
    rw [decide_eq_false h3]; simp
  have HE : Hid (stS s x = s) := by show _ = _; unfold stS; rw [HK.out, if_pos rfl]
  have h1' : ¬ x.kk < 0 := by omega
  have h2' : ¬ (s.way.length : Int) ≤ x.kk := by omega
  have CI := l1InT x.kind 3 5 W0
  rw [decide_eq_true (by omega)] at CI
  have hL : ((s.way.length : Int) == 12) = true := by simp; omega
  obtain ⟨kn, hkn⟩ : ∃ n : Nat, x.kk = (n : Int) := ⟨x.kk.toNat, by omega⟩
  obtain ⟨_, _, hvv, _, hcw, hrow⟩ := HR.out.at.y
  simp only [Value.slice.injEq] at hvv
  obtain ⟨rfl, _, rfl⟩ := hvv
  unfold maxLen at hcw
  obtain ⟨gw, ow, rfl, hgw, hin⟩ := hrow kn (by omega)
  clear hrow
  have hkt : x.kk.toNat = kn := by omega
  obtain ⟨pp, hpp⟩ : ∃ p, pk s.way kn = p := ⟨_, rfl⟩
  rw [hpp] at hin
  obtain ⟨pe, pn, pt⟩ := pp
  obtain ⟨kind, kk, tx⟩ := x
  dsimp only at *
  subst hk hkn
  go_enter Try.func71, Try.ntmps71
  go_upto_region 1 with fail
  rw [← hW0]
  clear hW0
  have k0 := HP.out.c0
  have k1 := HP.out.c1
  have k2 := HP.out.c2
  have w4 := HX.out.c4
  obtain ⟨e0, e1, e2⟩ := hin
  go_wp2_with fail
  go_at_call 59
  refine CI.mono ?_
  rintro e w2 ⟨rfl, hw2⟩
  have hw2 := hw2.symm
  subst hw2
  obtain ⟨W1, hW1⟩ : ∃ X, X = W0.alloc (.cells #[.int .i64 pe, .int .i64 pn, .string pt] 84) := ⟨_, rfl⟩
  have hb1' : Below W0.heap.size W0 W1 := by rw [hW1]; exact (Below.refl _ _).alloc (Nat.le_refl _) _
  have HC : Hid (Cv3 W1 W0.heap.size (.int .i64 pe) (.int .i64 pn) (.string pt)) := by show Cv3 _ _ _ _ _; rw [hW1]; exact Cv3.fresh W0 _ _ _ _
  have HX : Hid (type_of% (HX.out.below hb1')) := HX.out.below hb1'
  have HP : Hid (type_of% (HP.out.below hb1')) := HP.out.below hb1'
  have HZ : Hid (type_of% (HZ.out.below hb1')) := HZ.out.below hb1'
  have HT : Hid (type_of% (HT.out.belowR hb1')) := HT.out.belowR hb1'
  have HnC : Hid (¬ P4 (.slice ai s.items.length ci) (.slice ah s.handed.length ch) (.slice (some ⟨gw, ow, none⟩) s.way.length cw) (.slice aa s.acks.length ca) W0.heap.size) := fun h => by have := (HR.out.lt4 _ h).2; omega
  have HR : Hid (type_of% (HR.out.below hb1')) := HR.out.below hb1'
  go_upto_region 29 with fail
  rw [← hW1]
  have hsz1 : W0.heap.size < W1.heap.size := HC.out.low
  have hs3 : w.heap.size + 2 < W1.heap.size := HZ.out.low
  have hsB : B ≤ W1.heap.size := by omega
  clear hW1 hb1' e0 e1 e2 w4 k0 k1 k2
  have k0 := HP.out.c0
  have k1 := HP.out.c1
  have w4 := HX.out.c4
  have y0 := HX.out.c0
  have z0 := HZ.out.c0
  have f0 := HZ.out.f0
  have y1 := HX.out.c1
  have z1 := HZ.out.c1
  have f1 := HZ.out.f1
  have y2 := HX.out.c2
  have z2 := HZ.out.c2
  have f2 := HZ.out.f2
  have y3 := HX.out.c3
  have z3 := HZ.out.c3
  have f3 := HZ.out.f3
  have y4 := HX.out.c4
  have z4 := HZ.out.c4
  have f4 := HZ.out.f4
  have y5 := HX.out.c5
  have z5 := HZ.out.c5
  have f5 := HZ.out.f5
  go_wp2_with fail
  (try simp only [Exit.inBlock, Exit.then])
  rw [HE.out, HK.out]
  refine bodyPost_ret (v := .tuple #[.agg #[.int .i64 s.ep, .slice ai s.items.length ci, .int .i64 s.base, .slice ah s.handed.length ch, .slice (some ⟨gw, ow, none⟩) s.way.length cw, .slice aa s.acks.length ca], .bool false]) ?_ rfl (StO.ret2 (.slice ai s.items.length ci) (.slice ah s.handed.length ch) (.slice (some ⟨gw, ow, none⟩) s.way.length cw) (.slice aa s.acks.length ca) ?_ ?_ ?_)
  · rw [rc]
    go_simp
  · rfl
  · exact HR.out.set6 HnZ.out
  · exact HT.out.set6 (by omega)

set_option maxRecDepth 100000 in
set_option maxHeartbeats 8000000 in
theorem stTwice1 (s : Ses) (x : Sp) (B : Nat) (ai ah aw aa : Option Addr) (ci ch cw ca : Nat) (w : World) (hR : SesRow w B s (.slice ai s.items.length ci) (.slice ah s.handed.length ch) (.slice aw s.way.length cw) (.slice aa s.acks.length ca)) (hBw : B ≤ w.heap.size) (hg : Gd s) (hk : x.kind = 5) (h1 : 0 ≤ x.kk) (h2 : x.kk < (s.way.length : Int)) (h3 : s.way.length < 12) :
    Calls Try.prog 71 #[.agg #[.int .i64 s.ep, .slice ai s.items.length ci, .int .i64 s.base, .slice ah s.handed.length ch, .slice aw s.way.length cw, .slice aa s.acks.length ca], .agg #[.int .i64 x.kind, .int .i64 x.kk, .string x.tx]] w fun e w' => StO w w' B (.slice ai s.items.length ci) (.slice ah s.handed.length ch) (.slice aw s.way.length cw) (.slice aa s.acks.length ca) (stS s x) (fun v => e = .returned (.tuple #[v, .bool (stK s x)])) := by
  have rc := fun (tmps : Array Value) (P : Program) (w : World) => results_cell1S (fn := Try.f71) (p := 4) (q := 5) (ty := 26) rfl tmps P w
  obtain ⟨i0, hi, hz0, hz1, hz2⟩ := info_parts infoStr
  obtain ⟨p0', hp, hpz0, hpz1, hpz2⟩ := info_parts Try.infoPk
  obtain ⟨q0, hq, hqz0, hqz1, hqz2⟩ := info_parts Try.infoAk
  have HST := Sta.begin x hR
  obtain ⟨W0, hW0⟩ : ∃ X, X = ((w.alloc (.cells #[.int .i64 s.ep, .slice ai s.items.length ci, .int .i64 s.base, .slice ah s.handed.length ch, .slice aw s.way.length cw, .slice aa s.acks.length ca] 26)).alloc (.cells #[.int .i64 x.kind, .int .i64 x.kk, .string x.tx] 48)).alloc (.cells #[.int .i64 0, .slice none 0 0, .int .i64 0, .slice none 0 0, .slice none 0 0, .slice none 0 0] 26) := ⟨_, rfl⟩
  rw [← hW0] at HST
  have HX : Hid (type_of% HST.X) := HST.X
  have HP : Hid (type_of% HST.S) := HST.S
  have HZ : Hid (type_of% HST.Z) := HST.Z
  have HR : Hid (type_of% HST.R) := HST.R
  have HT : Hid (type_of% HST.T) := HST.T
  have HnX : Hid (type_of% HST.nX) := HST.nX
  have HnP : Hid (type_of% HST.nS) := HST.nS
  have HnZ : Hid (type_of% HST.nZ) := HST.nZ
  have hil := hg.il
  have hyl := hg.yl
  have hal := hg.al
  have hhl := hg.hl
  have hb0 := hg.b0
  have hb1 := hg.b1
  have he1 := hg.e1
  have hs3 : w.heap.size + 2 < W0.heap.size := HST.Z.low
  have hsB : B ≤ W0.heap.size := by omega
  clear HST hR hg
  have HK : Hid (stK s x = true) := by
    show _ = _
    unfold stK
    rw [if_neg (by omega), if_neg (by omega), if_neg (by omega), if_neg (by omega), if_pos hk]
    unfold twiceK
    unfold inW
    rw [decide_eq_true h3, decide_eq_true ⟨h1, h2⟩]; rfl
  have HE : Hid (stS s x = twiceS s x.kk) := by
    show _ = _
    unfold stS
    rw [HK.out, if_neg (by decide)]
    rw [if_neg (by omega), if_neg (by omega), if_neg (by omega), if_neg (by omega), if_pos hk]
  have h1' : ¬ x.kk < 0 := by omega
  have h2' : ¬ (s.way.length : Int) ≤ x.kk := by omega
  have CI := l1InT x.kind 3 5 W0
  rw [decide_eq_true (by omega)] at CI
  have hL : ((s.way.length : Int) == 12) = false := by simp; omega
  obtain ⟨kn, hkn⟩ : ∃ n : Nat, x.kk = (n : Int) := ⟨x.kk.toNat, by omega⟩
  obtain ⟨_, _, hvv, _, hcw, hrow⟩ := HR.out.at.y
  simp only [Value.slice.injEq] at hvv
  obtain ⟨rfl, _, rfl⟩ := hvv
  unfold maxLen at hcw
  obtain ⟨gw, ow, rfl, hgw, hin⟩ := hrow kn (by omega)
  clear hrow
  have hkt : x.kk.toNat = kn := by omega
  obtain ⟨pp, hpp⟩ : ∃ p, pk s.way kn = p := ⟨_, rfl⟩
  rw [hpp] at hin
  have HE : Hid (stS s x = { s with way := s.way ++ [pp] }) := by show _ = _; rw [HE.out]; unfold twiceS; rw [hkt, hpp]
  obtain ⟨pe, pn, pt⟩ := pp
  obtain ⟨kind, kk, tx⟩ := x
  dsimp only at *
  subst hk hkn
  go_enter Try.func71, Try.ntmps71
  go_upto_region 1 with fail
  rw [← hW0]
  clear hW0
  have k0 := HP.out.c0
  have k1 := HP.out.c1
  have k2 := HP.out.c2
  have w4 := HX.out.c4
  obtain ⟨e0, e1, e2⟩ := hin
  go_wp2_with fail
  go_at_call 59
  refine CI.mono ?_
  rintro e w2 ⟨rfl, hw2⟩
  have hw2 := hw2.symm
  subst hw2
  obtain ⟨W1, hW1⟩ : ∃ X, X = W0.alloc (.cells #[.int .i64 pe, .int .i64 pn, .string pt] 84) := ⟨_, rfl⟩
  have hb1' : Below W0.heap.size W0 W1 := by rw [hW1]; exact (Below.refl _ _).alloc (Nat.le_refl _) _
  have HC : Hid (Cv3 W1 W0.heap.size (.int .i64 pe) (.int .i64 pn) (.string pt)) := by show Cv3 _ _ _ _ _; rw [hW1]; exact Cv3.fresh W0 _ _ _ _
  have HX : Hid (type_of% (HX.out.below hb1')) := HX.out.below hb1'
  have HP : Hid (type_of% (HP.out.below hb1')) := HP.out.below hb1'
  have HZ : Hid (type_of% (HZ.out.below hb1')) := HZ.out.below hb1'
  have HT : Hid (type_of% (HT.out.belowR hb1')) := HT.out.belowR hb1'
  have HnC : Hid (¬ P4 (.slice ai s.items.length ci) (.slice ah s.handed.length ch) (.slice (some ⟨gw, ow, none⟩) s.way.length cw) (.slice aa s.acks.length ca) W0.heap.size) := fun h => by have := (HR.out.lt4 _ h).2; omega
  have HR : Hid (type_of% (HR.out.below hb1')) := HR.out.below hb1'
  go_upto_region 29 with fail
  rw [← hW1]
  have hsz1 : W0.heap.size < W1.heap.size := HC.out.low
  have hs3 : w.heap.size + 2 < W1.heap.size := HZ.out.low
  have hsB : B ≤ W1.heap.size := by omega
  clear hW1 hb1' e0 e1 e2 w4 k0 k1 k2
  have k0 := HP.out.c0
  have k1 := HP.out.c1
  have w4 := HX.out.c4
  have g4 := HX.out.f4
  have q0' := HC.out.c0
  have q1 := HC.out.c1
  have q2 := HC.out.c2
  go_upto_region 33 with (at_builtin; refine wpList_append_lies _ rfl _ _ 23 rfl B 84 p0' (.agg #[.int .i64 0, .int .i64 0, .string ⟨#[]⟩]) 3 32 Try.underlying23 hp hpz0 hpz1 hpz2 rfl (by decide) _ s.way.length _ rfl (World.ownsRow.alloc HR.out.y _) ⟨W1.heap.size, 0, none⟩ 1 1 (Pk.cells ⟨pe, pn, pt⟩) rfl rfl (World.news_of_block (heap_alloc_new W1 _)) (Pk.cells_one _) (by omega) (by unfold maxLen; omega) (by omega) (by simp; omega) (W1.heap.size + 1) (by simp) ?_; intro g9 cap9 w9 hown9 hgrow9 hat9 hlt9; have hQ := SesRow.appY HR.out hown9 rfl hgrow9 hat9; have HX9 := HX.out.step hQ.2 HnX.out; have HP9 := HP.out.step hQ.2 HnP.out; have HZ9 := HZ.out.step hQ.2 HnZ.out; have HnX9 := hQ.2.avoid HX.out.low HnX.out; have HnP9 := hQ.2.avoid HP.out.low HnP.out; have HnZ9 := hQ.2.avoid HZ.out.low HnZ.out; have HQ : Hid (type_of% hQ) := hQ; have y4 := HX9.c4; have g4 := HX9.f4; have h9 : Hid (W1.heap.size ≤ w9.heap.size) := hQ.2.size; clear hown9 hgrow9 hat9 hlt9 hQ)
  obtain ⟨V1, hV1⟩ : ∃ X, X = w9.setCell ⟨w.heap.size, 4, none⟩ (.slice (some ⟨g9, 0, none⟩) (s.way.length + 1) cap9) := ⟨_, rfl⟩
  have HX : Hid (type_of% (HX9.set4 (.slice (some ⟨g9, 0, none⟩) (s.way.length + 1) cap9))) := HX9.set4 (.slice (some ⟨g9, 0, none⟩) (s.way.length + 1) cap9)
  have HP : Hid (type_of% (HP9.apart (c := w.heap.size) (k := 4) (u := (.slice (some ⟨g9, 0, none⟩) (s.way.length + 1) cap9)) (by omega))) := HP9.apart (c := w.heap.size) (k := 4) (u := (.slice (some ⟨g9, 0, none⟩) (s.way.length + 1) cap9)) (by omega)
  have HZ : Hid (type_of% (HZ9.apart (c := w.heap.size) (k := 4) (u := (.slice (some ⟨g9, 0, none⟩) (s.way.length + 1) cap9)) (by omega))) := HZ9.apart (c := w.heap.size) (k := 4) (u := (.slice (some ⟨g9, 0, none⟩) (s.way.length + 1) cap9)) (by omega)
  have HR : Hid (type_of% (HQ.out.1.setC (k := 4) (u := (.slice (some ⟨g9, 0, none⟩) (s.way.length + 1) cap9)) HnX9)) := HQ.out.1.setC (k := 4) (u := (.slice (some ⟨g9, 0, none⟩) (s.way.length + 1) cap9)) HnX9
  have HT : Hid (type_of% ((HT.out.trans HQ.out.2).setCell w.heap.size 4 (.slice (some ⟨g9, 0, none⟩) (s.way.length + 1) cap9) (Nat.le_refl _))) := (HT.out.trans HQ.out.2).setCell w.heap.size 4 (.slice (some ⟨g9, 0, none⟩) (s.way.length + 1) cap9) (Nat.le_refl _)
  have HnX : Hid (type_of% HnX9) := HnX9
  have HnP : Hid (type_of% HnP9) := HnP9
  have HnZ : Hid (type_of% HnZ9) := HnZ9
  rw [← hV1] at HX HP HZ HR HT ⊢
  have hs3 : w.heap.size + 2 < V1.heap.size := HZ.out.low
  clear hV1 HX9 HP9 HZ9 HnX9 HnP9 HnZ9 HQ y4 g4 h9
  clear w4 q0' q1 q2 k0 k1
  have y0 := HX.out.c0
  have z0 := HZ.out.c0
  have f0 := HZ.out.f0
  have y1 := HX.out.c1
  have z1 := HZ.out.c1
  have f1 := HZ.out.f1
  have y2 := HX.out.c2
  have z2 := HZ.out.c2
  have f2 := HZ.out.f2
  have y3 := HX.out.c3
  have z3 := HZ.out.c3
  have f3 := HZ.out.f3
  have y4 := HX.out.c4
  have z4 := HZ.out.c4
  have f4 := HZ.out.f4
  have y5 := HX.out.c5
  have z5 := HZ.out.c5
  have f5 := HZ.out.f5
  go_wp2_with fail
  (try simp only [Exit.inBlock, Exit.then])
  rw [HE.out, HK.out]
  refine bodyPost_ret (v := .tuple #[.agg #[.int .i64 s.ep, .slice ai s.items.length ci, .int .i64 s.base, .slice ah s.handed.length ch, .slice (some ⟨g9, 0, none⟩) (s.way.length + 1) cap9, .slice aa s.acks.length ca], .bool true]) ?_ rfl (StO.ret2 (.slice ai s.items.length ci) (.slice ah s.handed.length ch) (.slice (some ⟨g9, 0, none⟩) (s.way.length + 1) cap9) (.slice aa s.acks.length ca) ?_ ?_ ?_)
  · rw [rc]
    go_simp
  · rfl
  · exact HR.out.set6 HnZ.out
  · exact HT.out.set6 (by omega)

end Go.Proofs.Ytnlppeieccbhgaa
