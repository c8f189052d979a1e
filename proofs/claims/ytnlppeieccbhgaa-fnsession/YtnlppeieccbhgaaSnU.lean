/- The model's l15Come: a packet is taken. -/
import Derived.Test.YtnlppeieccbhgaaSnS
namespace Go.Proofs.Ytnlppeieccbhgaa
open Go.RowKit Plain Tpc Ssn

set_option maxRecDepth 100000 in
set_option maxHeartbeats 8000000 in
theorem l15Come_any (s : Ses) (p : Pk) (B : Nat) (vi vh vw va : Value) (w : World) (hR : SesRow w B s vi vh vw va) (hBw : B ≤ w.heap.size) (hl : Sml s 1000) :
    Calls Try.prog 94 #[s.val vi vh vw va, .agg #[.int .i64 p.ep, .int .i64 p.no, .string p.tx]] w fun e w' => StO w w' B vi vh vw va (come s p) (fun v => e = .returned v) := by
  have rc := fun (tmps : Array Value) (P : Program) (w : World) => results_cellS (fn := Try.f94) (p := 4) (ty := 26) rfl tmps P w
  obtain ⟨i0, hi, hz0, hz1, hz2⟩ := info_parts infoStr
  obtain ⟨q0, hq, hqz0, hqz1, hqz2⟩ := info_parts Try.infoAk
  obtain ⟨l1, l2, l3, l4⟩ := hl
  obtain ⟨ai, ci, ah, ch, aw, cw, aa, ca, rfl, rfl, rfl, rfl⟩ := hR.at.form
  have hlt4 := hR.lt4
  obtain ⟨W0, hW0⟩ : ∃ X, X = ((w.alloc (.cells #[.int .i64 s.ep, .slice ai s.items.length ci, .int .i64 s.base, .slice ah s.handed.length ch, .slice aw s.way.length cw, .slice aa s.acks.length ca] 26)).alloc (.cells #[.int .i64 p.ep, .int .i64 p.no, .string p.tx] 84)).alloc (.cells #[.int .i64 0, .slice none 0 0, .int .i64 0, .slice none 0 0, .slice none 0 0, .slice none 0 0] 26) := ⟨_, rfl⟩
  have hB0 : Below w.heap.size w W0 := by rw [hW0]; exact (((Below.refl _ w).alloc (Nat.le_refl _) _).alloc (by simp) _).alloc (by simp; omega) _
  have X : Sv W0 w.heap.size (.int .i64 s.ep) (.slice ai s.items.length ci) (.int .i64 s.base) (.slice ah s.handed.length ch) (.slice aw s.way.length cw) (.slice aa s.acks.length ca) := by
    rw [hW0]
    exact ((Sv.fresh w _ _ _ _ _ _ _).below ((Below.refl _ _).alloc (Nat.le_refl _) _)).below ((Below.refl _ _).alloc (Nat.le_refl _) _)
  have Pc : Cv3 W0 (w.heap.size + 1) (.int .i64 p.ep) (.int .i64 p.no) (.string p.tx) := by
    have h := (Cv3.fresh (w.alloc (.cells #[.int .i64 s.ep, .slice ai s.items.length ci, .int .i64 s.base, .slice ah s.handed.length ch, .slice aw s.way.length cw, .slice aa s.acks.length ca] 26)) (.int .i64 p.ep) (.int .i64 p.no) (.string p.tx) 84).below ((Below.refl _ _).alloc (Nat.le_refl _) (.cells #[.int .i64 0, .slice none 0 0, .int .i64 0, .slice none 0 0, .slice none 0 0, .slice none 0 0] 26))
    rw [hW0]
    simpa using h
  have Z : Sv W0 (w.heap.size + 2) (.int .i64 0) (.slice none 0 0) (.int .i64 0) (.slice none 0 0) (.slice none 0 0) (.slice none 0 0) := by
    have h := Sv.fresh ((w.alloc (.cells #[.int .i64 s.ep, .slice ai s.items.length ci, .int .i64 s.base, .slice ah s.handed.length ch, .slice aw s.way.length cw, .slice aa s.acks.length ca] 26)).alloc (.cells #[.int .i64 p.ep, .int .i64 p.no, .string p.tx] 84)) (.int .i64 0) (.slice none 0 0) (.int .i64 0) (.slice none 0 0) (.slice none 0 0) (.slice none 0 0) 26
    rw [hW0]
    simpa using h
  have HX : Hid (type_of% X) := X
  have HP : Hid (type_of% Pc) := Pc
  have HZ : Hid (type_of% Z) := Z
  have HR : Hid (type_of% (hR.below hB0)) := hR.below hB0
  have HT : Hid (Tch w W0 (P4 (.slice ai s.items.length ci) (.slice ah s.handed.length ch) (.slice aw s.way.length cw) (.slice aa s.acks.length ca)) (P4 (.slice ai s.items.length ci) (.slice ah s.handed.length ch) (.slice aw s.way.length cw) (.slice aa s.acks.length ca))) := Tch.of_below hB0
  have hnX : ¬ P4 (.slice ai s.items.length ci) (.slice ah s.handed.length ch) (.slice aw s.way.length cw) (.slice aa s.acks.length ca) w.heap.size := fun h => by have := (hlt4 _ h).2; omega
  have hnP : ¬ P4 (.slice ai s.items.length ci) (.slice ah s.handed.length ch) (.slice aw s.way.length cw) (.slice aa s.acks.length ca) (w.heap.size + 1) := fun h => by have := (hlt4 _ h).2; omega
  have hnZ : ¬ P4 (.slice ai s.items.length ci) (.slice ah s.handed.length ch) (.slice aw s.way.length cw) (.slice aa s.acks.length ca) (w.heap.size + 2) := fun h => by have := (hlt4 _ h).2; omega
  have HnX : Hid (type_of% hnX) := hnX
  have HnP : Hid (type_of% hnP) := hnP
  have HnZ : Hid (type_of% hnZ) := hnZ
  have hsB : B ≤ W0.heap.size := Nat.le_trans hBw hB0.size
  have hs3 : w.heap.size + 2 < W0.heap.size := Z.low
  have x0 := X.c0
  have p0 := Pc.c0
  clear X Z Pc hB0 hR hlt4 hnX hnP hnZ
  unfold Ses.val
  by_cases he : p.ep = s.ep
  case neg =>
    have hne : (p.ep != s.ep) = true := by simpa using he
    have HE : Hid (come s p = s) := by show _ = _; unfold come; rw [if_neg he]
    go_enter Try.func94, Try.ntmps94
    go_upto_region 1 with fail
    rw [← hW0]
    clear hW0
    clear x0 p0
    have p0 := HP.out.c0
    have y0 := HX.out.c0
    have z0 := HZ.out.c0
    have f0 := HZ.out.f0
    have y1 := HX.out.c1
    have z1 := HZ.out.c1
    have f1 := HZ.out.f1
    have y2 := HX.out.c2
    have z2 := HZ.out.c2
    have f2 := HZ.out.f2
    have y3 := HX.out.c3
    have z3 := HZ.out.c3
    have f3 := HZ.out.f3
    have y4 := HX.out.c4
    have z4 := HZ.out.c4
    have f4 := HZ.out.f4
    have y5 := HX.out.c5
    have z5 := HZ.out.c5
    have f5 := HZ.out.f5
    go_wp2_with fail
    (try simp only [Exit.inBlock, Exit.then])
    refine bodyPost_ret (v := .agg #[.int .i64 s.ep, .slice ai s.items.length ci, .int .i64 s.base, .slice ah s.handed.length ch, .slice aw s.way.length cw, .slice aa s.acks.length ca]) ?_ rfl (StO.ret (.slice ai s.items.length ci) (.slice ah s.handed.length ch) (.slice aw s.way.length cw) (.slice aa s.acks.length ca) ?_ ?_ ?_)
    · rw [rc]
      go_simp
    · rw [HE.out]
      rfl
    · rw [HE.out]
      exact HR.out.set6 HnZ.out
    · exact HT.out.set6 (by omega)

  case pos =>
  by_cases hno : p.no = (s.handed.length : Int)
  · by_cases h12 : s.acks.length < 12
    · have hne : (p.ep != s.ep) = false := by simp [he]
      have hno' : (p.no == (s.handed.length : Int)) = true := by simp [hno]
      have HE : Hid (come s p = { s with handed := (s.handed ++ [p.tx]), acks := (s.acks ++ [⟨s.ep, (s.handed.length : Int) + 1⟩]) }) := by show _ = _; unfold come; rw [if_pos he, if_pos hno]; dsimp only; rw [if_pos h12]; simp
      have h12' : (s.acks.length : Int) < 12 := by omega
      clear he hno h12
      go_enter Try.func94, Try.ntmps94
      go_upto_region 1 with fail
      rw [← hW0]
      clear hW0
      have p1 := HP.out.c1
      have p2 := HP.out.c2
      have x3 := HX.out.c3
      have g3 := HX.out.f3
      go_upto_region 5 with (at_builtin; refine wpList_append_lies _ rfl _ _ 22 rfl B 9 i0 (.string ByteArray.empty) 1 16 Try.underlying22 hi hz0 hz1 hz2 rfl (by decide) _ s.handed.length _ rfl (World.ownsRow.alloc HR.out.h _) ⟨W0.heap.size, 0, none⟩ 1 1 [Value.string p.tx] rfl rfl (World.news_of_block (heap_alloc_new W0 _)) (by intro u hu; simp at hu; subst hu; rfl) (by omega) (by unfold maxLen; omega) (by omega) (by simp; omega) (W0.heap.size + 1) (by simp) ?_; intro g9 cap9 w9 hown9 hgrow9 hat9 hlt9; have hQ := SesRow.appH HR.out hown9 rfl hgrow9 hat9; have HX9 := HX.out.step hQ.2 HnX.out; have HP9 := HP.out.step hQ.2 HnP.out; have HZ9 := HZ.out.step hQ.2 HnZ.out; have HnX9 := hQ.2.avoid HX.out.low HnX.out; have HnP9 := hQ.2.avoid HP.out.low HnP.out; have HnZ9 := hQ.2.avoid HZ.out.low HnZ.out; have HQ : Hid (type_of% hQ) := hQ; have y3 := HX9.c3; have g3 := HX9.f3; have y5 := HX9.c5; have h9 : Hid (W0.heap.size ≤ w9.heap.size) := hQ.2.size; clear hown9 hgrow9 hat9 hlt9 hQ)
      obtain ⟨W1, hW1⟩ : ∃ X, X = w9.setCell ⟨w.heap.size, 3, none⟩ (.slice (some ⟨g9, 0, none⟩) (s.handed.length + 1) cap9) := ⟨_, rfl⟩
      have HX : Hid (type_of% (HX9.set3 (.slice (some ⟨g9, 0, none⟩) (s.handed.length + 1) cap9))) := HX9.set3 (.slice (some ⟨g9, 0, none⟩) (s.handed.length + 1) cap9)
      have HP : Hid (type_of% (HP9.apart (c := w.heap.size) (k := 3) (u := (.slice (some ⟨g9, 0, none⟩) (s.handed.length + 1) cap9)) (by omega))) := HP9.apart (c := w.heap.size) (k := 3) (u := (.slice (some ⟨g9, 0, none⟩) (s.handed.length + 1) cap9)) (by omega)
      have HZ : Hid (type_of% (HZ9.apart (c := w.heap.size) (k := 3) (u := (.slice (some ⟨g9, 0, none⟩) (s.handed.length + 1) cap9)) (by omega))) := HZ9.apart (c := w.heap.size) (k := 3) (u := (.slice (some ⟨g9, 0, none⟩) (s.handed.length + 1) cap9)) (by omega)
      have HR : Hid (type_of% (HQ.out.1.setC (k := 3) (u := (.slice (some ⟨g9, 0, none⟩) (s.handed.length + 1) cap9)) HnX9)) := HQ.out.1.setC (k := 3) (u := (.slice (some ⟨g9, 0, none⟩) (s.handed.length + 1) cap9)) HnX9
      have HT : Hid (type_of% ((HT.out.trans HQ.out.2).setCell w.heap.size 3 (.slice (some ⟨g9, 0, none⟩) (s.handed.length + 1) cap9) (Nat.le_refl _))) := (HT.out.trans HQ.out.2).setCell w.heap.size 3 (.slice (some ⟨g9, 0, none⟩) (s.handed.length + 1) cap9) (Nat.le_refl _)
      have HnX : Hid (type_of% HnX9) := HnX9
      have HnP : Hid (type_of% HnP9) := HnP9
      have HnZ : Hid (type_of% HnZ9) := HnZ9
      have hsB : B ≤ w9.heap.size := Nat.le_trans hsB h9.out
      rw [← hW1] at HX HP HZ HR HT ⊢
      have hsB : B ≤ W1.heap.size := by rw [hW1]; simp; exact hsB
      have hs3 : w.heap.size + 2 < W1.heap.size := HZ.out.low
      clear hW1 HX9 HP9 HZ9 HnX9 HnP9 HnZ9 HQ y3 g3 y5 x3 h9
      have x0 := HX.out.c0
      have x3 := HX.out.c3
      have x5 := HX.out.c5
      have g5 := HX.out.f5
      go_upto_region 7 with (at_builtin; refine wpList_append_lies _ rfl _ _ 24 rfl B 86 q0 (.agg #[.int .i64 0, .int .i64 0]) 2 16 Try.underlying24 hq hqz0 hqz1 hqz2 rfl (by decide) _ s.acks.length _ rfl (World.ownsRow.alloc HR.out.a _) ⟨W1.heap.size, 0, none⟩ 1 1 (Ak.cells ⟨s.ep, (s.handed.length : Int) + 1⟩) rfl rfl (World.news_of_block (heap_alloc_new W1 _)) (Ak.cells_one _) (by omega) (by unfold maxLen; omega) (by omega) (by simp; omega) (W1.heap.size + 1) (by simp) ?_; intro g8 cap8 w8 hown8 hgrow8 hat8 hlt8; have hQ := SesRow.appA HR.out hown8 rfl hgrow8 hat8; have HX9 := HX.out.step hQ.2 HnX.out; have HP9 := HP.out.step hQ.2 HnP.out; have HZ9 := HZ.out.step hQ.2 HnZ.out; have HnX9 := hQ.2.avoid HX.out.low HnX.out; have HnP9 := hQ.2.avoid HP.out.low HnP.out; have HnZ9 := hQ.2.avoid HZ.out.low HnZ.out; have HQ : Hid (type_of% hQ) := hQ; have y5 := HX9.c5; have g5 := HX9.f5; have h9 : Hid (W1.heap.size ≤ w8.heap.size) := hQ.2.size; clear hown8 hgrow8 hat8 hlt8 hQ)
      obtain ⟨W2, hW2⟩ : ∃ X, X = w8.setCell ⟨w.heap.size, 5, none⟩ (.slice (some ⟨g8, 0, none⟩) (s.acks.length + 1) cap8) := ⟨_, rfl⟩
      have HX : Hid (type_of% (HX9.set5 (.slice (some ⟨g8, 0, none⟩) (s.acks.length + 1) cap8))) := HX9.set5 (.slice (some ⟨g8, 0, none⟩) (s.acks.length + 1) cap8)
      have HZ : Hid (type_of% (HZ9.apart (c := w.heap.size) (k := 5) (u := (.slice (some ⟨g8, 0, none⟩) (s.acks.length + 1) cap8)) (by omega))) := HZ9.apart (c := w.heap.size) (k := 5) (u := (.slice (some ⟨g8, 0, none⟩) (s.acks.length + 1) cap8)) (by omega)
      have HR : Hid (type_of% (HQ.out.1.setC (k := 5) (u := (.slice (some ⟨g8, 0, none⟩) (s.acks.length + 1) cap8)) HnX9)) := HQ.out.1.setC (k := 5) (u := (.slice (some ⟨g8, 0, none⟩) (s.acks.length + 1) cap8)) HnX9
      have HT : Hid (type_of% ((HT.out.trans HQ.out.2).setCell w.heap.size 5 (.slice (some ⟨g8, 0, none⟩) (s.acks.length + 1) cap8) (Nat.le_refl _))) := (HT.out.trans HQ.out.2).setCell w.heap.size 5 (.slice (some ⟨g8, 0, none⟩) (s.acks.length + 1) cap8) (Nat.le_refl _)
      have HnZ : Hid (type_of% HnZ9) := HnZ9
      rw [← hW2] at HX HZ HR HT ⊢
      have hs3 : w.heap.size + 2 < W2.heap.size := HZ.out.low
      clear hW2 HX9 HP9 HZ9 HnX9 HnP9 HnZ9 HQ y5 g5 x0 x3 x5 h9
      have y0 := HX.out.c0
      have z0 := HZ.out.c0
      have f0 := HZ.out.f0
      have y1 := HX.out.c1
      have z1 := HZ.out.c1
      have f1 := HZ.out.f1
      have y2 := HX.out.c2
      have z2 := HZ.out.c2
      have f2 := HZ.out.f2
      have y3 := HX.out.c3
      have z3 := HZ.out.c3
      have f3 := HZ.out.f3
      have y4 := HX.out.c4
      have z4 := HZ.out.c4
      have f4 := HZ.out.f4
      have y5 := HX.out.c5
      have z5 := HZ.out.c5
      have f5 := HZ.out.f5
      go_wp2_with fail
      (try simp only [Exit.inBlock, Exit.then])
      refine bodyPost_ret (v := .agg #[.int .i64 s.ep, .slice ai s.items.length ci, .int .i64 s.base, .slice (some ⟨g9, 0, none⟩) (s.handed.length + 1) cap9, .slice aw s.way.length cw, .slice (some ⟨g8, 0, none⟩) (s.acks.length + 1) cap8]) ?_ rfl (StO.ret (.slice ai s.items.length ci) (.slice (some ⟨g9, 0, none⟩) (s.handed.length + 1) cap9) (.slice aw s.way.length cw) (.slice (some ⟨g8, 0, none⟩) (s.acks.length + 1) cap8) ?_ ?_ ?_)
      · rw [rc]
        go_simp
      · rw [HE.out]
        rfl
      · rw [HE.out]
        exact HR.out.set6 HnZ.out
      · exact HT.out.set6 (by omega)

    · have hne : (p.ep != s.ep) = false := by simp [he]
      have hno' : (p.no == (s.handed.length : Int)) = true := by simp [hno]
      have HE : Hid (come s p = { s with handed := (s.handed ++ [p.tx]), acks := s.acks }) := by show _ = _; unfold come; rw [if_pos he, if_pos hno]; dsimp only; rw [if_neg h12]
      have h12' : ¬ (s.acks.length : Int) < 12 := by omega
      clear he hno h12
      go_enter Try.func94, Try.ntmps94
      go_upto_region 1 with fail
      rw [← hW0]
      clear hW0
      have p1 := HP.out.c1
      have p2 := HP.out.c2
      have x3 := HX.out.c3
      have g3 := HX.out.f3
      go_upto_region 5 with (at_builtin; refine wpList_append_lies _ rfl _ _ 22 rfl B 9 i0 (.string ByteArray.empty) 1 16 Try.underlying22 hi hz0 hz1 hz2 rfl (by decide) _ s.handed.length _ rfl (World.ownsRow.alloc HR.out.h _) ⟨W0.heap.size, 0, none⟩ 1 1 [Value.string p.tx] rfl rfl (World.news_of_block (heap_alloc_new W0 _)) (by intro u hu; simp at hu; subst hu; rfl) (by omega) (by unfold maxLen; omega) (by omega) (by simp; omega) (W0.heap.size + 1) (by simp) ?_; intro g9 cap9 w9 hown9 hgrow9 hat9 hlt9; have hQ := SesRow.appH HR.out hown9 rfl hgrow9 hat9; have HX9 := HX.out.step hQ.2 HnX.out; have HP9 := HP.out.step hQ.2 HnP.out; have HZ9 := HZ.out.step hQ.2 HnZ.out; have HnX9 := hQ.2.avoid HX.out.low HnX.out; have HnP9 := hQ.2.avoid HP.out.low HnP.out; have HnZ9 := hQ.2.avoid HZ.out.low HnZ.out; have HQ : Hid (type_of% hQ) := hQ; have y3 := HX9.c3; have g3 := HX9.f3; have y5 := HX9.c5; have h9 : Hid (W0.heap.size ≤ w9.heap.size) := hQ.2.size; clear hown9 hgrow9 hat9 hlt9 hQ)
      obtain ⟨W1, hW1⟩ : ∃ X, X = w9.setCell ⟨w.heap.size, 3, none⟩ (.slice (some ⟨g9, 0, none⟩) (s.handed.length + 1) cap9) := ⟨_, rfl⟩
      have HX : Hid (type_of% (HX9.set3 (.slice (some ⟨g9, 0, none⟩) (s.handed.length + 1) cap9))) := HX9.set3 (.slice (some ⟨g9, 0, none⟩) (s.handed.length + 1) cap9)
      have HP : Hid (type_of% (HP9.apart (c := w.heap.size) (k := 3) (u := (.slice (some ⟨g9, 0, none⟩) (s.handed.length + 1) cap9)) (by omega))) := HP9.apart (c := w.heap.size) (k := 3) (u := (.slice (some ⟨g9, 0, none⟩) (s.handed.length + 1) cap9)) (by omega)
      have HZ : Hid (type_of% (HZ9.apart (c := w.heap.size) (k := 3) (u := (.slice (some ⟨g9, 0, none⟩) (s.handed.length + 1) cap9)) (by omega))) := HZ9.apart (c := w.heap.size) (k := 3) (u := (.slice (some ⟨g9, 0, none⟩) (s.handed.length + 1) cap9)) (by omega)
      have HR : Hid (type_of% (HQ.out.1.setC (k := 3) (u := (.slice (some ⟨g9, 0, none⟩) (s.handed.length + 1) cap9)) HnX9)) := HQ.out.1.setC (k := 3) (u := (.slice (some ⟨g9, 0, none⟩) (s.handed.length + 1) cap9)) HnX9
      have HT : Hid (type_of% ((HT.out.trans HQ.out.2).setCell w.heap.size 3 (.slice (some ⟨g9, 0, none⟩) (s.handed.length + 1) cap9) (Nat.le_refl _))) := (HT.out.trans HQ.out.2).setCell w.heap.size 3 (.slice (some ⟨g9, 0, none⟩) (s.handed.length + 1) cap9) (Nat.le_refl _)
      have HnX : Hid (type_of% HnX9) := HnX9
      have HnP : Hid (type_of% HnP9) := HnP9
      have HnZ : Hid (type_of% HnZ9) := HnZ9
      have hsB : B ≤ w9.heap.size := Nat.le_trans hsB h9.out
      rw [← hW1] at HX HP HZ HR HT ⊢
      have hsB : B ≤ W1.heap.size := by rw [hW1]; simp; exact hsB
      have hs3 : w.heap.size + 2 < W1.heap.size := HZ.out.low
      clear hW1 HX9 HP9 HZ9 HnX9 HnP9 HnZ9 HQ y3 g3 y5 x3 h9
      have x0 := HX.out.c0
      have x3 := HX.out.c3
      have x5 := HX.out.c5
      have g5 := HX.out.f5
      have y0 := HX.out.c0
      have z0 := HZ.out.c0
      have f0 := HZ.out.f0
      have y1 := HX.out.c1
      have z1 := HZ.out.c1
      have f1 := HZ.out.f1
      have y2 := HX.out.c2
      have z2 := HZ.out.c2
      have f2 := HZ.out.f2
      have y3 := HX.out.c3
      have z3 := HZ.out.c3
      have f3 := HZ.out.f3
      have y4 := HX.out.c4
      have z4 := HZ.out.c4
      have f4 := HZ.out.f4
      have y5 := HX.out.c5
      have z5 := HZ.out.c5
      have f5 := HZ.out.f5
      go_wp2_with fail
      (try simp only [Exit.inBlock, Exit.then])
      refine bodyPost_ret (v := .agg #[.int .i64 s.ep, .slice ai s.items.length ci, .int .i64 s.base, .slice (some ⟨g9, 0, none⟩) (s.handed.length + 1) cap9, .slice aw s.way.length cw, .slice aa s.acks.length ca]) ?_ rfl (StO.ret (.slice ai s.items.length ci) (.slice (some ⟨g9, 0, none⟩) (s.handed.length + 1) cap9) (.slice aw s.way.length cw) (.slice aa s.acks.length ca) ?_ ?_ ?_)
      · rw [rc]
        go_simp
      · rw [HE.out]
        rfl
      · rw [HE.out]
        exact HR.out.set6 HnZ.out
      · exact HT.out.set6 (by omega)

  · by_cases h12 : s.acks.length < 12
    · have hne : (p.ep != s.ep) = false := by simp [he]
      have hno' : (p.no == (s.handed.length : Int)) = false := by simpa using hno
      have HE : Hid (come s p = { s with handed := s.handed, acks := (s.acks ++ [⟨s.ep, (s.handed.length : Int)⟩]) }) := by show _ = _; unfold come; rw [if_pos he, if_neg hno]; dsimp only; rw [if_pos h12]
      have h12' : (s.acks.length : Int) < 12 := by omega
      clear he hno h12
      go_enter Try.func94, Try.ntmps94
      go_upto_region 1 with fail
      rw [← hW0]
      clear hW0
      have p1 := HP.out.c1
      have p2 := HP.out.c2
      have x3 := HX.out.c3
      have g3 := HX.out.f3
      clear x3 g3
      have x3 := HX.out.c3
      have x0 := HX.out.c0
      have x3 := HX.out.c3
      have x5 := HX.out.c5
      have g5 := HX.out.f5
      go_upto_region 7 with (at_builtin; refine wpList_append_lies _ rfl _ _ 24 rfl B 86 q0 (.agg #[.int .i64 0, .int .i64 0]) 2 16 Try.underlying24 hq hqz0 hqz1 hqz2 rfl (by decide) _ s.acks.length _ rfl (World.ownsRow.alloc HR.out.a _) ⟨W0.heap.size, 0, none⟩ 1 1 (Ak.cells ⟨s.ep, (s.handed.length : Int)⟩) rfl rfl (World.news_of_block (heap_alloc_new W0 _)) (Ak.cells_one _) (by omega) (by unfold maxLen; omega) (by omega) (by simp; omega) (W0.heap.size + 1) (by simp) ?_; intro g8 cap8 w8 hown8 hgrow8 hat8 hlt8; have hQ := SesRow.appA HR.out hown8 rfl hgrow8 hat8; have HX9 := HX.out.step hQ.2 HnX.out; have HP9 := HP.out.step hQ.2 HnP.out; have HZ9 := HZ.out.step hQ.2 HnZ.out; have HnX9 := hQ.2.avoid HX.out.low HnX.out; have HnP9 := hQ.2.avoid HP.out.low HnP.out; have HnZ9 := hQ.2.avoid HZ.out.low HnZ.out; have HQ : Hid (type_of% hQ) := hQ; have y5 := HX9.c5; have g5 := HX9.f5; have h9 : Hid (W0.heap.size ≤ w8.heap.size) := hQ.2.size; clear hown8 hgrow8 hat8 hlt8 hQ)
      obtain ⟨W2, hW2⟩ : ∃ X, X = w8.setCell ⟨w.heap.size, 5, none⟩ (.slice (some ⟨g8, 0, none⟩) (s.acks.length + 1) cap8) := ⟨_, rfl⟩
      have HX : Hid (type_of% (HX9.set5 (.slice (some ⟨g8, 0, none⟩) (s.acks.length + 1) cap8))) := HX9.set5 (.slice (some ⟨g8, 0, none⟩) (s.acks.length + 1) cap8)
      have HZ : Hid (type_of% (HZ9.apart (c := w.heap.size) (k := 5) (u := (.slice (some ⟨g8, 0, none⟩) (s.acks.length + 1) cap8)) (by omega))) := HZ9.apart (c := w.heap.size) (k := 5) (u := (.slice (some ⟨g8, 0, none⟩) (s.acks.length + 1) cap8)) (by omega)
      have HR : Hid (type_of% (HQ.out.1.setC (k := 5) (u := (.slice (some ⟨g8, 0, none⟩) (s.acks.length + 1) cap8)) HnX9)) := HQ.out.1.setC (k := 5) (u := (.slice (some ⟨g8, 0, none⟩) (s.acks.length + 1) cap8)) HnX9
      have HT : Hid (type_of% ((HT.out.trans HQ.out.2).setCell w.heap.size 5 (.slice (some ⟨g8, 0, none⟩) (s.acks.length + 1) cap8) (Nat.le_refl _))) := (HT.out.trans HQ.out.2).setCell w.heap.size 5 (.slice (some ⟨g8, 0, none⟩) (s.acks.length + 1) cap8) (Nat.le_refl _)
      have HnZ : Hid (type_of% HnZ9) := HnZ9
      rw [← hW2] at HX HZ HR HT ⊢
      have hs3 : w.heap.size + 2 < W2.heap.size := HZ.out.low
      clear hW2 HX9 HP9 HZ9 HnX9 HnP9 HnZ9 HQ y5 g5 x0 x3 x5 h9
      have y0 := HX.out.c0
      have z0 := HZ.out.c0
      have f0 := HZ.out.f0
      have y1 := HX.out.c1
      have z1 := HZ.out.c1
      have f1 := HZ.out.f1
      have y2 := HX.out.c2
      have z2 := HZ.out.c2
      have f2 := HZ.out.f2
      have y3 := HX.out.c3
      have z3 := HZ.out.c3
      have f3 := HZ.out.f3
      have y4 := HX.out.c4
      have z4 := HZ.out.c4
      have f4 := HZ.out.f4
      have y5 := HX.out.c5
      have z5 := HZ.out.c5
      have f5 := HZ.out.f5
      go_wp2_with fail
      (try simp only [Exit.inBlock, Exit.then])
      refine bodyPost_ret (v := .agg #[.int .i64 s.ep, .slice ai s.items.length ci, .int .i64 s.base, .slice ah s.handed.length ch, .slice aw s.way.length cw, .slice (some ⟨g8, 0, none⟩) (s.acks.length + 1) cap8]) ?_ rfl (StO.ret (.slice ai s.items.length ci) (.slice ah s.handed.length ch) (.slice aw s.way.length cw) (.slice (some ⟨g8, 0, none⟩) (s.acks.length + 1) cap8) ?_ ?_ ?_)
      · rw [rc]
        go_simp
      · rw [HE.out]
        rfl
      · rw [HE.out]
        exact HR.out.set6 HnZ.out
      · exact HT.out.set6 (by omega)

    · have hne : (p.ep != s.ep) = false := by simp [he]
      have hno' : (p.no == (s.handed.length : Int)) = false := by simpa using hno
      have HE : Hid (come s p = { s with handed := s.handed, acks := s.acks }) := by show _ = _; unfold come; rw [if_pos he, if_neg hno]; dsimp only; rw [if_neg h12]
      have h12' : ¬ (s.acks.length : Int) < 12 := by omega
      clear he hno h12
      go_enter Try.func94, Try.ntmps94
      go_upto_region 1 with fail
      rw [← hW0]
      clear hW0
      have p1 := HP.out.c1
      have p2 := HP.out.c2
      have x3 := HX.out.c3
      have g3 := HX.out.f3
      clear x3 g3
      have x3 := HX.out.c3
      have x0 := HX.out.c0
      have x3 := HX.out.c3
      have x5 := HX.out.c5
      have g5 := HX.out.f5
      have y0 := HX.out.c0
      have z0 := HZ.out.c0
      have f0 := HZ.out.f0
      have y1 := HX.out.c1
      have z1 := HZ.out.c1
      have f1 := HZ.out.f1
      have y2 := HX.out.c2
      have z2 := HZ.out.c2
      have f2 := HZ.out.f2
      have y3 := HX.out.c3
      have z3 := HZ.out.c3
      have f3 := HZ.out.f3
      have y4 := HX.out.c4
      have z4 := HZ.out.c4
      have f4 := HZ.out.f4
      have y5 := HX.out.c5
      have z5 := HZ.out.c5
      have f5 := HZ.out.f5
      go_wp2_with fail
      (try simp only [Exit.inBlock, Exit.then])
      refine bodyPost_ret (v := .agg #[.int .i64 s.ep, .slice ai s.items.length ci, .int .i64 s.base, .slice ah s.handed.length ch, .slice aw s.way.length cw, .slice aa s.acks.length ca]) ?_ rfl (StO.ret (.slice ai s.items.length ci) (.slice ah s.handed.length ch) (.slice aw s.way.length cw) (.slice aa s.acks.length ca) ?_ ?_ ?_)
      · rw [rc]
        go_simp
      · rw [HE.out]
        rfl
      · rw [HE.out]
        exact HR.out.set6 HnZ.out
      · exact HT.out.set6 (by omega)

end Go.Proofs.Ytnlppeieccbhgaa
