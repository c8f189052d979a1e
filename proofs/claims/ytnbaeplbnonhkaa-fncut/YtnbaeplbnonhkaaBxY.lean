/- The model's HullOf. -/
import Derived.Test.YtnbaeplbnonhkaaBxX
import Derived.Test.YtnbaeplbnonhkaaBxS
import Derived.Test.YtnbaeplbnonhkaaBxV
import Derived.Test.YtnbaeplbnonhkaaBxD
namespace Go.Proofs.Ytnbaeplbnonhkaa
open Go.RowKit Plain Sch Bxs

set_option maxRecDepth 100000 in
set_option maxHeartbeats 8000000 in
theorem specHull (T U : List Sd) (v u : Value) (w : World) (hT : SdsAt w w.heap.size v T) (hU : SdsAt w w.heap.size u U) :
    Calls Try.prog 9 #[.agg #[v], .agg #[u]] w fun e w' => (∃ v, e = .returned (.tuple #[.agg #[v], .bool (gb T && gb U)]) ∧ SRow w' w.heap.size 58 v (hlo T U)) ∧ Below w.heap.size w w' := by
  obtain ⟨i0, hi0, hz0, hz1', hz2⟩ := info_parts Try.infoSd
  have rc := fun (tmps : Array Value) (P : Program) (w : World) => results_cell_tmpB (fn := Try.f9) (p := 4) (u := 5) (ty := 25) rfl tmps P w
  have HT : Hid (SdsAt w w.heap.size v T) := hT
  have HU : Hid (SdsAt w w.heap.size u U) := hU
  obtain ⟨ao, cap, rfl, hlc, hcm, _⟩ := hT
  obtain ⟨bo', dap, rfl, hld, hdm, _⟩ := hU
  unfold maxLen at hcm hdm
  obtain ⟨W0, hW0⟩ : ∃ W, W = ((w.alloc (.cells #[.slice ao T.length cap] 25)).alloc (.cells #[.slice bo' U.length dap] 25)).alloc (.cells #[.slice none 0 0] 25) := ⟨_, rfl⟩
  have hB0 : Below w.heap.size w W0 := by rw [hW0]; exact (((Below.refl _ w).alloc (Nat.le_refl _) _).alloc (by simp) _).alloc (by simp; omega) _
  have hs0 : Hid (W0.heap.size = w.heap.size + 3) := by show _ = _; rw [hW0]; simp
  have q0 : W0.cell? ⟨w.heap.size, 0, none⟩ = some (.slice ao T.length cap) := by rw [hW0]; go_simp
  have q1 : W0.cell? ⟨w.heap.size + 1, 0, none⟩ = some (.slice bo' U.length dap) := by rw [hW0]; go_simp
  have q2 : W0.cell? ⟨w.heap.size + 2, 0, none⟩ = some (.slice none 0 0) := by rw [hW0]; go_simp
  have qf2 : W0.frozen? ⟨w.heap.size + 2, 0, none⟩ = false := by rw [hW0]; go_simp
  have hz0' := hs0.out
  obtain ⟨R, hR⟩ : ∃ R, R = hlo T U := ⟨_, rfl⟩
  obtain ⟨G, hG⟩ : ∃ G, G = (gb T && gb U) := ⟨_, rfl⟩
  rw [← hR, ← hG]
  have HR : Hid (R = hlo T U) := hR
  have HG : Hid (G = (gb T && gb U)) := hG
  clear hR hG hs0
  have HBad : Hid ((gb T && gb U) = false → R = [] ∧ G = false) := fun h => ⟨by rw [HR.out]; unfold hlo; rw [h]; rfl, by rw [HG.out, h]⟩
  go_enter Try.func9, Try.ntmps9
  go_upto_region 1 with fail
  rw [← hW0]
  clear hW0
  go_wp2_with fail
  refine (specGoodB T _ _ (HT.out.below hB0)).mono ?_
  rintro e w2 ⟨rfl, hb2⟩
  have hB2 : Below w.heap.size w w2 := hB0.trans (hb2.mono hB0.size)
  have hzz2 := hb2.size
  have q0 := (hb2.cell (p := ⟨w.heap.size, 0, none⟩) (by show w.heap.size < _; omega)).trans q0
  have q1 := (hb2.cell (p := ⟨w.heap.size + 1, 0, none⟩) (by show w.heap.size + 1 < _; omega)).trans q1
  have q2 := (hb2.cell (p := ⟨w.heap.size + 2, 0, none⟩) (by show w.heap.size + 2 < _; omega)).trans q2
  have qf2 := (hb2.frozen (p := ⟨w.heap.size + 2, 0, none⟩) (by show w.heap.size + 2 < _; omega)).trans qf2
  clear hb2
  by_cases h1 : gb T = true
  case neg =>
    have h1' : gb T = false := by simpa using h1
    have hF : Hid (R = [] ∧ G = false) := HBad.out (by rw [h1']; rfl)
    rw [h1']
    clear h1 h1'
    go_wp2
    (try simp only [Exit.inBlock, Exit.then])
    refine bodyPost_ret (v := .tuple #[.agg #[.slice none 0 0], .bool false]) ?_ rfl ⟨⟨_, by rw [hF.out.2], by rw [hF.out.1]; exact srow_nil _ _ _⟩, ?_⟩
    · rw [rc]
      go_simp
    · exact hB2.setCell (p := ⟨w.heap.size + 2, 0, none⟩) (Nat.le_add_right _ _) _
  rw [h1]
  go_wp2_with fail
  refine (specGoodB U _ _ (HU.out.below hB2)).mono ?_
  rintro e w3 ⟨rfl, hb3⟩
  have hB3 : Below w.heap.size w w3 := hB2.trans (hb3.mono hB2.size)
  have hzz3 := hb3.size
  have q0 := (hb3.cell (p := ⟨w.heap.size, 0, none⟩) (by show w.heap.size < _; omega)).trans q0
  have q1 := (hb3.cell (p := ⟨w.heap.size + 1, 0, none⟩) (by show w.heap.size + 1 < _; omega)).trans q1
  have q2 := (hb3.cell (p := ⟨w.heap.size + 2, 0, none⟩) (by show w.heap.size + 2 < _; omega)).trans q2
  have qf2 := (hb3.frozen (p := ⟨w.heap.size + 2, 0, none⟩) (by show w.heap.size + 2 < _; omega)).trans qf2
  clear hb3
  by_cases h2 : gb U = true
  case neg =>
    have h2' : gb U = false := by simpa using h2
    have hF : Hid (R = [] ∧ G = false) := HBad.out (by rw [h2']; simp)
    rw [h2']
    clear h1 h2 h2'
    go_wp2
    (try simp only [Exit.inBlock, Exit.then])
    refine bodyPost_ret (v := .tuple #[.agg #[.slice none 0 0], .bool false]) ?_ rfl ⟨⟨_, by rw [hF.out.2], by rw [hF.out.1]; exact srow_nil _ _ _⟩, ?_⟩
    · rw [rc]
      go_simp
    · exact hB3.setCell (p := ⟨w.heap.size + 2, 0, none⟩) (Nat.le_add_right _ _) _
  have eT := (gb_good h1).1
  have eU := (gb_good h2).1
  rw [h2]
  obtain ⟨_, _, hvT, _, _, hrow⟩ := HT.out
  obtain ⟨_, _, hvU, _, _, hrow2⟩ := HU.out
  simp only [Value.slice.injEq, true_and] at hvT hvU
  obtain ⟨rfl, rfl⟩ := hvT
  obtain ⟨rfl, rfl⟩ := hvU
  have HYES : Hid (R = (hul (bx T) (bx U)).list ∧ G = true) := ⟨by rw [HR.out]; unfold hlo; rw [h1, h2]; rfl, by rw [HG.out, h1, h2]; rfl⟩
  clear h1 h2
  generalize bx T = x at eT HYES
  generalize bx U = y at eU HYES
  subst eT eU
  simp only [len_list] at *
  have HROW : Hid (∀ i, i < 3 → ∃ g o, ao = some ⟨g, o, none⟩ ∧ g < w.heap.size ∧ SdIn w g (o + i * 2) (sd x.list i)) := hrow
  have HROW2 : Hid (∀ i, i < 3 → ∃ g o, bo' = some ⟨g, o, none⟩ ∧ g < w.heap.size ∧ SdIn w g (o + i * 2) (sd y.list i)) := hrow2
  clear hrow hrow2
  obtain ⟨pre, hpre⟩ : ∃ pre : Nat → List Sd, pre = fun i => (List.range i).map fun j => hul1 (sd x.list j) (sd y.list j) := ⟨_, rfl⟩
  have HP0 : Hid (pre 0 = []) := by show _ = _; rw [hpre]; rfl
  have HPL : Hid (∀ i, (pre i).length = i) := fun i => by rw [hpre]; simp
  have HPS : Hid (∀ i, i < 3 → pre (i + 1) = pre i ++ [hul1 (sd x.list i) (sd y.list i)]) := fun i _ => by rw [hpre]; simp [List.range_succ]
  have HP3 : Hid (pre 3 = [hul1 x.a y.a, hul1 x.b y.b, hul1 x.c y.c]) := by show _ = _; rw [hpre]; rfl
  clear hpre
  obtain ⟨W1, hW1⟩ : ∃ W, W = w3.alloc (.cells #[.slice none 0 0] 25) := ⟨_, rfl⟩
  have hB31 : Below w3.heap.size w3 W1 := by rw [hW1]; exact (Below.refl _ w3).alloc (Nat.le_refl _) _
  have hB1 : Below w.heap.size w W1 := hB3.trans (hB31.mono hB3.size)
  have q0 := (hB31.cell (p := ⟨w.heap.size, 0, none⟩) (by show w.heap.size < _; omega)).trans q0
  have q1 : Hid (W1.cell? ⟨w.heap.size + 1, 0, none⟩ = some (.slice bo' 3 dap)) := (hB31.cell (p := ⟨w.heap.size + 1, 0, none⟩) (by show w.heap.size + 1 < _; omega)).trans q1
  have q2 : Hid (W1.cell? ⟨w.heap.size + 2, 0, none⟩ = some (.slice none 0 0)) := (hB31.cell (p := ⟨w.heap.size + 2, 0, none⟩) (by show w.heap.size + 2 < _; omega)).trans q2
  have qf2 : Hid (W1.frozen? ⟨w.heap.size + 2, 0, none⟩ = false) := (hB31.frozen (p := ⟨w.heap.size + 2, 0, none⟩) (by show w.heap.size + 2 < _; omega)).trans qf2
  obtain ⟨bo, hbo⟩ : ∃ b, b = w3.heap.size := ⟨_, rfl⟩
  have hV0 : Hid (BVar W1 bo (.slice none 0 0) []) := by
    show BVar _ _ _ _
    rw [hW1, hbo]
    exact BVar.made w3
  have hb2 : w.heap.size + 2 < bo := by omega
  have hz1 : bo < W1.heap.size := by rw [hW1, hbo]; simp
  go_upto_region 4 with fail
  rw [← hW1, ← hbo]
  clear hW1 hbo hB31
  go_wp2
  go_loopw [23] (fun vi wr => ∃ (i : Nat) (v : Value), i ≤ 3 ∧ vi = .int .i64 (i : Int) ∧ Hid (BVar wr bo v (pre i)) ∧ Hid (Below bo W1 wr))
    (fun vi _ => 3 - (intOf vi).toNat)
  case atStart => exact ⟨0, _, by omega, rfl, by show BVar _ _ _ _; rw [HP0.out]; exact hV0.out, Below.refl _ _⟩
  case round =>
    obtain ⟨i, v0, hi, rfl, hV, hBw⟩ := hrel
    clear hV0
    obtain ⟨av, cv, hv0⟩ := hV.out.slice
    obtain ⟨L, hL⟩ : ∃ L, L = pre i := ⟨_, rfl⟩
    have HL : Hid (L = pre i) := hL
    rw [← hL] at hV hv0
    have hLl3 : L.length ≤ 3 := by rw [hL, HPL.out i]; exact hi
    clear hL
    subst hv0
    have hB0 : Below w.heap.size w wr := hB1.trans (hBw.out.mono (by omega))
    have hbz : bo < wr.heap.size := hV.out.2.2.2
    by_cases hlt : i < 3
    · have hlt' : (i : Int) < 3 := by omega
      obtain ⟨g, o, rfl, hg, hty⟩ := HROW.out i hlt
      obtain ⟨g2, o2, rfl, hg2, hty2⟩ := HROW2.out i hlt
      have hcx := hty.below hB0 hg
      have hcy := hty2.below hB0 hg2
      obtain ⟨s, hs⟩ : ∃ s, sd x.list i = s := ⟨_, rfl⟩
      obtain ⟨t, ht⟩ : ∃ t, sd y.list i = t := ⟨_, rfl⟩
      have HS : Hid (sd x.list i = s) := hs
      have HO : Hid (sd y.list i = t) := ht
      rw [hs] at hcx
      rw [ht] at hcy
      clear hs ht hty hty2
      obtain ⟨sl, sh⟩ := s
      obtain ⟨ol, oh⟩ := t
      obtain ⟨c0, c1⟩ := hcx
      obtain ⟨d0, d1⟩ := hcy
      dsimp only at c0 c1 d0 d1
      have qr1 : wr.cell? ⟨w.heap.size + 1, 0, none⟩ = some (.slice (some ⟨g2, o2, none⟩) 3 dap) := (hBw.out.cell (p := ⟨w.heap.size + 1, 0, none⟩) (by show w.heap.size + 1 < _; omega)).trans q1.out
      obtain ⟨W4, hW4⟩ : ∃ W, W = (wr.alloc (.cells #[.int .i64 sl, .int .i64 sh] 58)).alloc (.cells #[.int .i64 ol, .int .i64 oh] 58) := ⟨_, rfl⟩
      have hA4 : Below wr.heap.size wr W4 := by rw [hW4]; exact ((Below.refl _ wr).alloc (Nat.le_refl _) _).alloc (by simp) _
      have hs4 : Hid (W4.heap.size = wr.heap.size + 2) := by show _ = _; rw [hW4]; simp
      have hl4 : wr.heap.size < W4.heap.size := by rw [hs4.out]; omega
      have hl4' : wr.heap.size + 1 < W4.heap.size := by rw [hs4.out]; omega
      have z0 : W4.cell? ⟨wr.heap.size, 0, none⟩ = some (.int .i64 sl) := by rw [hW4]; go_simp
      have z1 : W4.cell? ⟨wr.heap.size, 1, none⟩ = some (.int .i64 sh) := by rw [hW4]; go_simp
      have u0 : W4.cell? ⟨wr.heap.size + 1, 0, none⟩ = some (.int .i64 ol) := by rw [hW4]; go_simp
      have u1 : W4.cell? ⟨wr.heap.size + 1, 1, none⟩ = some (.int .i64 oh) := by rw [hW4]; go_simp
      have zf0 : W4.frozen? ⟨wr.heap.size, 0, none⟩ = false := by rw [hW4]; go_simp
      have zf1 : W4.frozen? ⟨wr.heap.size, 1, none⟩ = false := by rw [hW4]; go_simp
      have hwr : w.heap.size + 1 < wr.heap.size := by omega
      have hgr : g < wr.heap.size := by omega
      have hgr2 : g2 < wr.heap.size := by omega
      go_upto_region 8 with fail
      rw [← hW4]
      clear hW4 c0 c1 d0 d1 qr1
      by_cases k1 : ol < sl
      · by_cases k2 : sh < oh
        · have hE : Hid (hul1 ⟨sl, sh⟩ ⟨ol, oh⟩ = ⟨ol, oh⟩) := by
            show _ = _
            unfold hul1
            dsimp only
            rw [if_pos k1, if_pos k2]
          obtain ⟨W5, hW5⟩ : ∃ W, W = ((W4.setCell ⟨wr.heap.size, 0, none⟩ (.int .i64 ol)).setCell ⟨wr.heap.size, 1, none⟩ (.int .i64 oh)) := ⟨_, rfl⟩
          have hA5 : Below wr.heap.size wr W5 := by rw [hW5]; exact (hA4.setCell (p := ⟨wr.heap.size, 0, none⟩) (Nat.le_refl _) _).setCell (p := ⟨wr.heap.size, 1, none⟩) (Nat.le_refl _) _
          have n0 : W5.cell? ⟨wr.heap.size, 0, none⟩ = some (.int .i64 ol) := by rw [hW5]; go_simp
          have n1 : W5.cell? ⟨wr.heap.size, 1, none⟩ = some (.int .i64 oh) := by rw [hW5]; go_simp
          have hz5 : wr.heap.size < W5.heap.size := by rw [hW5]; simpa [World.setCell] using hl4
          go_upto_region 12 with fail
          rw [← hW5]
          clear hW5 z0 z1 u0 u1 zf0 zf1 k1 k2
          have hV5 : Hid (BVar W5 bo (.slice av L.length cv) L) := hV.out.below hA5
          have hB5 : Hid (Below bo W1 W5) := hBw.out.trans (hA5.mono (by omega))
          have c5 := hV5.out.1
          have hb5z : bo < W5.heap.size := hV5.out.2.2.2
          go_wp2_with (at_builtin; refine wpList_append_lies _ rfl _ _ 23 rfl (bo + 1) 58 i0 (.agg #[.int .i64 0, .int .i64 0]) 2 16 Try.underlying23 hi0 hz0 hz1' hz2 rfl (by decide) _ L.length _ rfl (World.ownsRow.alloc hV5.out.2.2.1 _) ⟨W5.heap.size, 0, none⟩ 1 1 [.int .i64 ol, .int .i64 oh] rfl rfl (World.news_of_block (heap_alloc_new W5 _)) (one2S _ _) (by omega) (by unfold maxLen; omega) (by omega) (by simp; omega) (W5.heap.size + 1) (by simp) ?_)
          intro g9 cap9 w9 hown9 hgrow9 hat9 hlt9
          obtain ⟨c9, f9, l9, hV9, hB9⟩ := hV5.out.next (s := ⟨ol, oh⟩) hown9 hgrow9
          have HV9 : Hid (BVar (w9.setCell ⟨bo, 0, none⟩ (.slice (some ⟨g9, 0, none⟩) (L.length + 1) cap9)) bo (.slice (some ⟨g9, 0, none⟩) (L.length + 1) cap9) (pre i ++ [⟨ol, oh⟩])) := by rw [← HL.out]; exact hV9
          have HB9 : Hid (Below bo W1 (w9.setCell ⟨bo, 0, none⟩ (.slice (some ⟨g9, 0, none⟩) (L.length + 1) cap9))) := hB5.out.trans hB9
          clear hown9 hgrow9 hat9 hlt9 hV9 hB9 hV5 hV hB5 n0 n1 c5
          go_wp2
          go_roundw
          case rel => exact ⟨i + 1, _, by omega, by go_num, by show BVar _ _ _ _; rw [HPS.out i hlt, HS.out, HO.out, hE.out]; exact HV9.out, HB9⟩
          case measure => simp [intOf]; omega
        · have hE : Hid (hul1 ⟨sl, sh⟩ ⟨ol, oh⟩ = ⟨ol, sh⟩) := by
            show _ = _
            unfold hul1
            dsimp only
            rw [if_pos k1, if_neg k2]
          obtain ⟨W5, hW5⟩ : ∃ W, W = (W4.setCell ⟨wr.heap.size, 0, none⟩ (.int .i64 ol)) := ⟨_, rfl⟩
          have hA5 : Below wr.heap.size wr W5 := by rw [hW5]; exact hA4.setCell (p := ⟨wr.heap.size, 0, none⟩) (Nat.le_refl _) _
          have n0 : W5.cell? ⟨wr.heap.size, 0, none⟩ = some (.int .i64 ol) := by rw [hW5]; go_simp
          have n1 : W5.cell? ⟨wr.heap.size, 1, none⟩ = some (.int .i64 sh) := by rw [hW5]; go_simp
          have hz5 : wr.heap.size < W5.heap.size := by rw [hW5]; simpa [World.setCell] using hl4
          go_upto_region 12 with fail
          rw [← hW5]
          clear hW5 z0 z1 u0 u1 zf0 zf1 k1 k2
          have hV5 : Hid (BVar W5 bo (.slice av L.length cv) L) := hV.out.below hA5
          have hB5 : Hid (Below bo W1 W5) := hBw.out.trans (hA5.mono (by omega))
          have c5 := hV5.out.1
          have hb5z : bo < W5.heap.size := hV5.out.2.2.2
          go_wp2_with (at_builtin; refine wpList_append_lies _ rfl _ _ 23 rfl (bo + 1) 58 i0 (.agg #[.int .i64 0, .int .i64 0]) 2 16 Try.underlying23 hi0 hz0 hz1' hz2 rfl (by decide) _ L.length _ rfl (World.ownsRow.alloc hV5.out.2.2.1 _) ⟨W5.heap.size, 0, none⟩ 1 1 [.int .i64 ol, .int .i64 sh] rfl rfl (World.news_of_block (heap_alloc_new W5 _)) (one2S _ _) (by omega) (by unfold maxLen; omega) (by omega) (by simp; omega) (W5.heap.size + 1) (by simp) ?_)
          intro g9 cap9 w9 hown9 hgrow9 hat9 hlt9
          obtain ⟨c9, f9, l9, hV9, hB9⟩ := hV5.out.next (s := ⟨ol, sh⟩) hown9 hgrow9
          have HV9 : Hid (BVar (w9.setCell ⟨bo, 0, none⟩ (.slice (some ⟨g9, 0, none⟩) (L.length + 1) cap9)) bo (.slice (some ⟨g9, 0, none⟩) (L.length + 1) cap9) (pre i ++ [⟨ol, sh⟩])) := by rw [← HL.out]; exact hV9
          have HB9 : Hid (Below bo W1 (w9.setCell ⟨bo, 0, none⟩ (.slice (some ⟨g9, 0, none⟩) (L.length + 1) cap9))) := hB5.out.trans hB9
          clear hown9 hgrow9 hat9 hlt9 hV9 hB9 hV5 hV hB5 n0 n1 c5
          go_wp2
          go_roundw
          case rel => exact ⟨i + 1, _, by omega, by go_num, by show BVar _ _ _ _; rw [HPS.out i hlt, HS.out, HO.out, hE.out]; exact HV9.out, HB9⟩
          case measure => simp [intOf]; omega
      · by_cases k2 : sh < oh
        · have hE : Hid (hul1 ⟨sl, sh⟩ ⟨ol, oh⟩ = ⟨sl, oh⟩) := by
            show _ = _
            unfold hul1
            dsimp only
            rw [if_neg k1, if_pos k2]
          obtain ⟨W5, hW5⟩ : ∃ W, W = (W4.setCell ⟨wr.heap.size, 1, none⟩ (.int .i64 oh)) := ⟨_, rfl⟩
          have hA5 : Below wr.heap.size wr W5 := by rw [hW5]; exact hA4.setCell (p := ⟨wr.heap.size, 1, none⟩) (Nat.le_refl _) _
          have n0 : W5.cell? ⟨wr.heap.size, 0, none⟩ = some (.int .i64 sl) := by rw [hW5]; go_simp
          have n1 : W5.cell? ⟨wr.heap.size, 1, none⟩ = some (.int .i64 oh) := by rw [hW5]; go_simp
          have hz5 : wr.heap.size < W5.heap.size := by rw [hW5]; simpa [World.setCell] using hl4
          go_upto_region 12 with fail
          rw [← hW5]
          clear hW5 z0 z1 u0 u1 zf0 zf1 k1 k2
          have hV5 : Hid (BVar W5 bo (.slice av L.length cv) L) := hV.out.below hA5
          have hB5 : Hid (Below bo W1 W5) := hBw.out.trans (hA5.mono (by omega))
          have c5 := hV5.out.1
          have hb5z : bo < W5.heap.size := hV5.out.2.2.2
          go_wp2_with (at_builtin; refine wpList_append_lies _ rfl _ _ 23 rfl (bo + 1) 58 i0 (.agg #[.int .i64 0, .int .i64 0]) 2 16 Try.underlying23 hi0 hz0 hz1' hz2 rfl (by decide) _ L.length _ rfl (World.ownsRow.alloc hV5.out.2.2.1 _) ⟨W5.heap.size, 0, none⟩ 1 1 [.int .i64 sl, .int .i64 oh] rfl rfl (World.news_of_block (heap_alloc_new W5 _)) (one2S _ _) (by omega) (by unfold maxLen; omega) (by omega) (by simp; omega) (W5.heap.size + 1) (by simp) ?_)
          intro g9 cap9 w9 hown9 hgrow9 hat9 hlt9
          obtain ⟨c9, f9, l9, hV9, hB9⟩ := hV5.out.next (s := ⟨sl, oh⟩) hown9 hgrow9
          have HV9 : Hid (BVar (w9.setCell ⟨bo, 0, none⟩ (.slice (some ⟨g9, 0, none⟩) (L.length + 1) cap9)) bo (.slice (some ⟨g9, 0, none⟩) (L.length + 1) cap9) (pre i ++ [⟨sl, oh⟩])) := by rw [← HL.out]; exact hV9
          have HB9 : Hid (Below bo W1 (w9.setCell ⟨bo, 0, none⟩ (.slice (some ⟨g9, 0, none⟩) (L.length + 1) cap9))) := hB5.out.trans hB9
          clear hown9 hgrow9 hat9 hlt9 hV9 hB9 hV5 hV hB5 n0 n1 c5
          go_wp2
          go_roundw
          case rel => exact ⟨i + 1, _, by omega, by go_num, by show BVar _ _ _ _; rw [HPS.out i hlt, HS.out, HO.out, hE.out]; exact HV9.out, HB9⟩
          case measure => simp [intOf]; omega
        · have hE : Hid (hul1 ⟨sl, sh⟩ ⟨ol, oh⟩ = ⟨sl, sh⟩) := by
            show _ = _
            unfold hul1
            dsimp only
            rw [if_neg k1, if_neg k2]
          obtain ⟨W5, hW5⟩ : ∃ W, W = W4 := ⟨_, rfl⟩
          have hA5 : Below wr.heap.size wr W5 := by rw [hW5]; exact hA4
          have n0 : W5.cell? ⟨wr.heap.size, 0, none⟩ = some (.int .i64 sl) := by rw [hW5]; go_simp
          have n1 : W5.cell? ⟨wr.heap.size, 1, none⟩ = some (.int .i64 sh) := by rw [hW5]; go_simp
          have hz5 : wr.heap.size < W5.heap.size := by rw [hW5]; simpa [World.setCell] using hl4
          go_upto_region 12 with fail
          rw [← hW5]
          clear hW5 z0 z1 u0 u1 zf0 zf1 k1 k2
          have hV5 : Hid (BVar W5 bo (.slice av L.length cv) L) := hV.out.below hA5
          have hB5 : Hid (Below bo W1 W5) := hBw.out.trans (hA5.mono (by omega))
          have c5 := hV5.out.1
          have hb5z : bo < W5.heap.size := hV5.out.2.2.2
          go_wp2_with (at_builtin; refine wpList_append_lies _ rfl _ _ 23 rfl (bo + 1) 58 i0 (.agg #[.int .i64 0, .int .i64 0]) 2 16 Try.underlying23 hi0 hz0 hz1' hz2 rfl (by decide) _ L.length _ rfl (World.ownsRow.alloc hV5.out.2.2.1 _) ⟨W5.heap.size, 0, none⟩ 1 1 [.int .i64 sl, .int .i64 sh] rfl rfl (World.news_of_block (heap_alloc_new W5 _)) (one2S _ _) (by omega) (by unfold maxLen; omega) (by omega) (by simp; omega) (W5.heap.size + 1) (by simp) ?_)
          intro g9 cap9 w9 hown9 hgrow9 hat9 hlt9
          obtain ⟨c9, f9, l9, hV9, hB9⟩ := hV5.out.next (s := ⟨sl, sh⟩) hown9 hgrow9
          have HV9 : Hid (BVar (w9.setCell ⟨bo, 0, none⟩ (.slice (some ⟨g9, 0, none⟩) (L.length + 1) cap9)) bo (.slice (some ⟨g9, 0, none⟩) (L.length + 1) cap9) (pre i ++ [⟨sl, sh⟩])) := by rw [← HL.out]; exact hV9
          have HB9 : Hid (Below bo W1 (w9.setCell ⟨bo, 0, none⟩ (.slice (some ⟨g9, 0, none⟩) (L.length + 1) cap9))) := hB5.out.trans hB9
          clear hown9 hgrow9 hat9 hlt9 hV9 hB9 hV5 hV hB5 n0 n1 c5
          go_wp2
          go_roundw
          case rel => exact ⟨i + 1, _, by omega, by go_num, by show BVar _ _ _ _; rw [HPS.out i hlt, HS.out, HO.out, hE.out]; exact HV9.out, HB9⟩
          case measure => simp [intOf]; omega
    · have hke : i = 3 := by omega
      subst hke
      have c3 := hV.out.1
      have HRW : Hid (SRow wr (bo + 1) 58 (.slice av L.length cv) L) := hV.out.2.2.1
      have hLe : Hid (L = (hul x y).list) := HL.out.trans HP3.out
      have o3 := (hBw.out.cell (p := ⟨w.heap.size + 2, 0, none⟩) (by show w.heap.size + 2 < _; omega)).trans q2.out
      have of3 := (hBw.out.frozen (p := ⟨w.heap.size + 2, 0, none⟩) (by show w.heap.size + 2 < _; omega)).trans qf2.out
      clear hV
      go_wp2
      (try simp only [Exit.inBlock, Exit.then])
      refine bodyPost_ret (v := .tuple #[.agg #[.slice av L.length cv], .bool true]) ?_ rfl ⟨⟨_, by rw [HYES.out.2], by rw [HYES.out.1, ← hLe.out]; exact SRow.setCell HRW.out (a := ⟨w.heap.size + 2, 0, none⟩) (by show w.heap.size + 2 < _; omega) _ (by omega)⟩, ?_⟩
      · rw [rc]
        go_simp
      · exact hB0.setCell (p := ⟨w.heap.size + 2, 0, none⟩) (Nat.le_add_right _ _) _

end Go.Proofs.Ytnbaeplbnonhkaa
