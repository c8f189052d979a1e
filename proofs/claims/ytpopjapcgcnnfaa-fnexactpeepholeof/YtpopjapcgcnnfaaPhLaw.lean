/- Proved here: at every program the law FnExactPeepholeOf answers true, that is, PeepholeOf answers as its model, its answer owns its memory, and it writes into nothing.
   Conditions: none beside the row's own. -/
import Derived.Test.YtpopjapcgcnnfaaPhI
import Derived.Test.YtpopjapcgcnnfaaPhS
import Derived.Test.YtpopjapcgcnnfaaPwK
import Derived.Test.YtpopjapcgcnnfaaPwO
import Derived.Deep.RegionWith
import Derived.Deep.DeepCutAuto
namespace Go.Proofs.Ytpopjapcgcnnfaa
open Go.RowKit Plain Sch Wan Prg

theorem peep_gp : ∀ (f : Nat) (T : List Ins), gp T = true → gp (peep f T) = true := by
  intro f
  induction f with
  | zero => intro T h; exact h
  | succ f ih =>
    intro T h
    cases hb : fstB T T.length 0 with
    | none => rw [peep_none hb]; exact h
    | some U =>
      rw [peep_some hb]
      obtain ⟨j, _, hj2, hj3⟩ := fstB_some T U T.length 0 hb
      exact ih U (bet_good h (by omega) hj3).1

theorem peo_ok (T : List Ins) : (peo T).1.length ≤ 1000 ∧ ∀ x ∈ (peo T).1, x.text.size ≤ 30 := by
  cases h : gp T with
  | false => unfold peo; rw [h]; simp
  | true =>
    rw [peo_good h]
    have h1 := peep_gp (mea T) T h
    have h2 := gp_len h1
    exact ⟨by dsimp only; omega, gp_texts h1⟩

set_option maxRecDepth 100000 in
set_option maxHeartbeats 8000000 in
theorem walkFnExactPeepholeOf (T : List Ins) (v : Value) (w : World) (hT : InsAt w w.heap.size v T) :
    Calls Try.prog 6 #[.agg #[v]] w fun e w' => e = .returned (.bool true) ∧ Below w.heap.size w w' := by
  have HT : Hid (InsAt w w.heap.size v T) := hT
  obtain ⟨ao, cap, rfl, _⟩ := hT
  obtain ⟨W1, hW1⟩ : ∃ W, W = w.alloc (.cells #[.slice ao T.length cap] 24) := ⟨_, rfl⟩
  have hB1 : Below w.heap.size w W1 := by rw [hW1]; exact (Below.refl _ w).alloc (Nat.le_refl _) _
  have HS1 : Hid (W1.heap.size = w.heap.size + 1) := by show _ = _; rw [hW1]; simp
  have Y0 : Hid (W1.cell? ⟨w.heap.size, 0, none⟩ = some (.slice ao T.length cap)) := by show _ = _; rw [hW1]; go_simp
  have C0 : Hid (∀ W : World, Below W1.heap.size W1 W → W.cell? ⟨w.heap.size, 0, none⟩ = some (.slice ao T.length cap)) := fun W hW => (hW.cell (p := ⟨w.heap.size, 0, none⟩) (by have := HS1.out; show w.heap.size < _; omega)).trans Y0.out
  have DN : Hid (∀ W : World, Below W1.heap.size W1 W → Below w.heap.size w W ∧ w.heap.size < W.heap.size) := fun W hW => ⟨hB1.trans (hW.mono hB1.size), by have h1 := HS1.out; have h2 := hW.size; omega⟩
  have y1 := Y0.out
  obtain ⟨F, ok, hR, hFl, hFn⟩ : ∃ F ok, peo T = (F, ok) ∧ F.length ≤ 1000 ∧ ∀ x ∈ F, x.text.size ≤ 30 := ⟨_, _, rfl, (peo_ok T).1, (peo_ok T).2⟩
  have HFN : Hid (∀ x ∈ F, x.text.size ≤ 30) := hFn
  have CS : Hid (∀ (w : World) (v : Value), InsAt w w.heap.size v T → Calls Try.prog 28 #[.agg #[v]] w fun e w' => ∃ aw cw, e = .returned (.tuple #[.agg #[.slice aw F.length cw], .bool ok]) ∧ IRow w' w.heap.size (.slice aw F.length cw) F ∧ Below w.heap.size w w') := fun w v h => by
    refine (specPeep T v w h).mono ?_
    rw [hR]
    rintro e w' ⟨rv, rfl, hr, hb⟩
    obtain ⟨aw, cw, rfl, _⟩ := ownSliceI hr
    exact ⟨aw, cw, rfl, hr, hb⟩
  have CI : Hid (∀ (w : World) (v : Value), InsAt w w.heap.size v T → Calls Try.prog 29 #[.agg #[v]] w fun e w' => ∃ aw cw, e = .returned (.tuple #[.agg #[.slice aw F.length cw], .bool ok]) ∧ IRow w' w.heap.size (.slice aw F.length cw) F ∧ Below w.heap.size w w') := fun w v h => by
    refine (implPeep T v w h).mono ?_
    rw [hR]
    rintro e w' ⟨rv, rfl, hr, hb⟩
    obtain ⟨aw, cw, rfl, _⟩ := ownSliceI hr
    exact ⟨aw, cw, rfl, hr, hb⟩
  have EQ : Hid (∀ (W : World) (v1 v2 : Value), InsAt W W.heap.size v1 F → InsAt W W.heap.size v2 F → Calls Try.prog 17 #[.agg #[v1], .agg #[v2]] W fun e w' => e = .returned (.bool true) ∧ Below W.heap.size W w') := fun W v1 v2 h1 h2 => eqProgram_same F v1 v2 W h1 h2 (by omega)
  clear hR hFn
  go_enter Try.func6, Try.ntmps6
  go_wp2_with fail
  rw [← hW1]
  clear hW1
  refine (szProgram_any T _ _ (HT.out.below hB1)).mono ?_
  rintro e w2 ⟨⟨r, rfl, hr0, hr1, hr2⟩, hb2⟩
  have hD2 : Below W1.heap.size W1 w2 := hb2
  have y2 := C0.out _ hD2
  have hd2 := (DN.out _ hD2).2
  clear hb2 y1
  by_cases hneg : r < 0
  · clear hr2
    go_wp2
    go_ret
    exact ⟨rfl, (DN.out _ hD2).1⟩
  obtain ⟨hlen, hnames⟩ := hr2 (by omega)
  have HN : Hid (∀ i, i < T.length → (ins T i).text.size ≤ maxLen) := fun i hi => by have := hnames i hi; unfold maxLen; omega
  have TA : Hid (∀ W : World, Below W1.heap.size W1 W → Calls Try.prog 15 #[.agg #[.slice ao T.length cap]] W fun e w' => ∃ ar capr, e = .returned (.agg #[.slice ar T.length capr]) ∧ InsAt w' w'.heap.size (.slice ar T.length capr) T ∧ IRow w' W.heap.size (.slice ar T.length capr) T ∧ Below W.heap.size W w') := fun W hW => by
    refine (toProgram_any T _ W (HT.out.below (DN.out _ hW).1) hlen).mono ?_
    rintro e w' ⟨r, rfl, ho, hb⟩
    have ht := InsAt.own ho HN.out
    obtain ⟨ar, capr, rfl, _⟩ := ownSliceI ho
    exact ⟨ar, capr, rfl, ht, ho, hb⟩
  have ET : Hid (∀ (W : World) (v1 v2 : Value), InsAt W W.heap.size v1 T → InsAt W W.heap.size v2 T → Calls Try.prog 17 #[.agg #[v1], .agg #[v2]] W fun e w' => e = .returned (.bool true) ∧ Below W.heap.size W w') := fun W v1 v2 h1 h2 => eqProgram_same T v1 v2 W h1 h2 (by omega)
  clear hr2 hnames
  go_wp2_with fail
  refine (TA.out _ hD2).mono ?_
  rintro e w3 ⟨a3, cap3, rfl, ht3, ho3, hb3⟩
  have hD3 : Below W1.heap.size W1 w3 := hD2.trans (hb3.mono hD2.size)
  have HT3 : Hid (InsAt w3 w3.heap.size (.slice a3 T.length cap3) T) := ht3
  clear ht3 ho3 hb3 y2
  go_wp2_with fail
  refine (CS.out _ _ HT3.out).mono ?_
  rintro e w4 ⟨aw, cw, rfl, how, hb4⟩
  have hD4 : Below W1.heap.size W1 w4 := hD3.trans (hb4.mono hD3.size)
  obtain ⟨W4, hW4⟩ : ∃ W, W = w4.alloc (.cells #[.slice aw F.length cw] 29) := ⟨_, rfl⟩
  have hB4 : Below w4.heap.size w4 W4 := by rw [hW4]; exact (Below.refl _ w4).alloc (Nat.le_refl _) _
  have HS4 : Hid (W4.heap.size = w4.heap.size + 1) := by show _ = _; rw [hW4]; simp
  have HC4 : Hid (W4.cell? ⟨w4.heap.size, 0, none⟩ = some (.slice aw F.length cw)) := by show _ = _; rw [hW4]; go_simp
  have HD4 : Hid (Below W1.heap.size W1 W4) := hD4.trans (hB4.mono hD4.size)
  have HRW : Hid (InsAt W4 W4.heap.size (.slice aw F.length cw) F) := (how.at HFN.out).below hB4
  have y4 := C0.out _ hD4
  have hd4 : w.heap.size < w4.heap.size := (DN.out _ hD4).2
  have hd4' : w.heap.size < W4.heap.size := (DN.out _ HD4.out).2
  clear hb4 how HT3 hD3 hD4 hD2
  go_wp2_with fail
  rw [← hW4]
  clear hW4
  refine (TA.out _ HD4.out).mono ?_
  rintro e w5 ⟨ax, cx, rfl, htx, hox, hb5⟩
  obtain ⟨W5, hW5⟩ : ∃ W, W = w5.alloc (.cells #[.slice ax T.length cx] 29) := ⟨_, rfl⟩
  have hB5 : Below w5.heap.size w5 W5 := by rw [hW5]; exact (Below.refl _ w5).alloc (Nat.le_refl _) _
  have HS5 : Hid (W5.heap.size = w5.heap.size + 1) := by show _ = _; rw [hW5]; simp
  have HX5 : Hid (W5.cell? ⟨w5.heap.size, 0, none⟩ = some (.slice ax T.length cx)) := by show _ = _; rw [hW5]; go_simp
  have HD5 : Hid (Below W4.heap.size W4 W5) := hb5.trans (hB5.mono hb5.size)
  have HTX : Hid (InsAt W5 W5.heap.size (.slice ax T.length cx) T) := htx.below hB5
  have HOX : Hid (IRow W5 W4.heap.size (.slice ax T.length cx) T) := hox.below hB5
  have HXB : Hid (∀ g, (Value.slice ax T.length cx).ownBlock = some g → W4.heap.size ≤ g ∧ g < w5.heap.size) := fun g hg => hox.lt g hg
  have hd45 : W4.heap.size ≤ w5.heap.size := hb5.size
  clear htx hox hb5 y4
  go_wp2_with fail
  rw [← hW5]
  clear hW5
  refine (CI.out _ _ HTX.out).mono ?_
  rintro e w7 ⟨ag, cg, rfl, hog, hb7⟩
  obtain ⟨W7, hW7⟩ : ∃ W, W = w7.alloc (.cells #[.slice ag F.length cg] 29) := ⟨_, rfl⟩
  have hB7 : Below w7.heap.size w7 W7 := by rw [hW7]; exact (Below.refl _ w7).alloc (Nat.le_refl _) _
  have HS7 : Hid (W7.heap.size = w7.heap.size + 1) := by show _ = _; rw [hW7]; simp
  have HG7 : Hid (W7.cell? ⟨w7.heap.size, 0, none⟩ = some (.slice ag F.length cg)) := by show _ = _; rw [hW7]; go_simp
  have HD7 : Hid (Below W5.heap.size W5 W7) := hb7.trans (hB7.mono hb7.size)
  have HD47 : Hid (Below W4.heap.size W4 W7) := HD5.out.trans (HD7.out.mono HD5.out.size)
  have HOG : Hid (IRow W7 W5.heap.size (.slice ag F.length cg) F) := hog.below hB7
  have HGB : Hid (∀ g, (Value.slice ag F.length cg).ownBlock = some g → W5.heap.size ≤ g ∧ g < w7.heap.size) := fun g hg => hog.lt g hg
  have hd57 : W5.heap.size ≤ w7.heap.size := hb7.size
  have w4c : w7.cell? ⟨w4.heap.size, 0, none⟩ = some (.slice aw F.length cw) := ((HD5.out.trans (hb7.mono HD5.out.size)).cell (p := ⟨w4.heap.size, 0, none⟩) (by have := HS4.out; show w4.heap.size < _; omega)).trans HC4.out
  have hd4w : w4.heap.size < w7.heap.size := by have h1 := HS4.out; have h2 := HS5.out; omega
  clear hog hb7
  go_wp2_with fail
  rw [← hW7]
  clear hW7
  refine (EQ.out _ _ _ (HOG.out.at HFN.out) (HRW.out.below HD47.out)).mono ?_
  rintro e w8 ⟨rfl, hb8⟩
  have HD8 : Hid (Below W7.heap.size W7 w8) := hb8
  have HD58 : Hid (Below W5.heap.size W5 w8) := HD7.out.trans (hb8.mono HD7.out.size)
  have HD18 : Hid (Below W1.heap.size W1 w8) := HD4.out.trans ((HD47.out.trans (hb8.mono HD47.out.size)).mono HD4.out.size)
  have hz8 : w7.heap.size < w8.heap.size := by have h1 := HS7.out; have h2 := hb8.size; omega
  have hz58 : w5.heap.size < w8.heap.size := by have h1 := HS5.out; omega
  have hz48 : w4.heap.size < w8.heap.size := by omega
  have hzw8 : w.heap.size < w8.heap.size := by omega
  have x8 : w8.cell? ⟨w5.heap.size, 0, none⟩ = some (.slice ax T.length cx) := (HD58.out.cell (p := ⟨w5.heap.size, 0, none⟩) (by have := HS5.out; show w5.heap.size < _; omega)).trans HX5.out
  have y8 := C0.out _ HD18.out
  have HTX8 : Hid (InsAt w8 w8.heap.size (.slice ax T.length cx) T) := HTX.out.below HD58.out
  have hD18d : Hid (Below W1.heap.size W1 w8.drew) := HD18.out.drew
  clear hb8 w4c
  go_upto_region 10 with fail
  go_cut [45] (fun s45 wx => s45 = .bool false ∧ Below w8.heap.size w8 wx)
  case first =>
    go_region_with (first
      | (go_at_call 17; refine (ET.out _ _ _ ht9 ht8).mono ?_; rintro e w10 ⟨rfl, hb10⟩; have hB10 : Below w8.heap.size w8 w10 := hB9.trans (hb10.mono hB9.size))
      | (go_at_call 15; refine (TA.out _ hD18d.out).mono ?_; rintro e w9 ⟨aq, caq, rfl, ht8, ho8, hb9⟩; clear ho8; have x9 := (hb9.cell (p := ⟨w5.heap.size, 0, none⟩) hz58).trans x8; have hB9 : Below w8.heap.size w8 w9 := (Below.refl _ w8).drew.trans hb9; have ht9 : InsAt w9 w9.heap.size (.slice ax T.length cx) T := HTX8.out.below hB9))
    all_goals
      go_wp2_with fail
      go_meet
      exact ⟨rfl, hB10⟩
  case rest =>
    obtain ⟨rfl, hbc⟩ := hcut
    have hzc := hbc.size
    have hz7c : w7.heap.size < wc.heap.size := by omega
    have hz5c : w5.heap.size < wc.heap.size := by omega
    have hz4c : w4.heap.size < wc.heap.size := by omega
    have hzwc : w.heap.size < wc.heap.size := by omega
    have HD7c : Hid (Below W7.heap.size W7 wc) := HD8.out.trans (hbc.mono HD8.out.size)
    have HD5c : Hid (Below W5.heap.size W5 wc) := HD7.out.trans (HD7c.out.mono HD7.out.size)
    have HD4c : Hid (Below W4.heap.size W4 wc) := HD47.out.trans (HD7c.out.mono HD47.out.size)
    have xc : wc.cell? ⟨w5.heap.size, 0, none⟩ = some (.slice ax T.length cx) := (HD5c.out.cell (p := ⟨w5.heap.size, 0, none⟩) (by have := HS5.out; show w5.heap.size < _; omega)).trans HX5.out
    have HGc : Hid (wc.cell? ⟨w7.heap.size, 0, none⟩ = some (.slice ag F.length cg)) := (HD7c.out.cell (p := ⟨w7.heap.size, 0, none⟩) (by have := HS7.out; show w7.heap.size < _; omega)).trans HG7.out
    have HOXc : Hid (IRow wc W4.heap.size (.slice ax T.length cx) T) := own_belowPw HOX.out HD5c.out
    have HOGc : Hid (IRow wc W5.heap.size (.slice ag F.length cg) F) := own_belowPw HOG.out HD7c.out
    clear hbc x8 y8 HTX8 hD18d HD8 HD58 HD18
    go_wp2_with fail
    refine (markProgram_any W4.heap.size T.length 1 _ _ _ HOXc.out (by omega) (by omega) (by omega)).mono ?_
    rintro e w11 ⟨rfl, ⟨ys11, hy11, hm11⟩, hg11⟩
    clear hy11 hm11
    have hs11 := hg11.size
    have HD411 : Hid (Below W4.heap.size W4 w11) := HD4c.out.grown hg11 HD4c.out.size (fun k hk => (HXB.out k hk).1)
    have HOG11 : Hid (IRow w11 W5.heap.size (.slice ag F.length cg) F) := HOGc.out.far hg11 (fun g hg e => by have h1 := (HGB.out g hg).1; have h2 := (HXB.out g e.symm).2; have h3 := HS5.out; omega)
    have g11 : w11.cell? ⟨w7.heap.size, 0, none⟩ = some (.slice ag F.length cg) := far_cellI hg11 HGc.out hz7c (fun e => by have h2 := (HXB.out _ e.symm).2; have h3 := HS5.out; omega)
    have w11c : w11.cell? ⟨w4.heap.size, 0, none⟩ = some (.slice aw F.length cw) := (HD411.out.cell (p := ⟨w4.heap.size, 0, none⟩) (by have := HS4.out; show w4.heap.size < _; omega)).trans HC4.out
    have hk11 : (0 : Int) ≤ ((1 + T.length * 6 : Nat) : Int) := by omega
    have hz711 : w7.heap.size < w11.heap.size := by omega
    have hz411 : w4.heap.size < w11.heap.size := by omega
    clear hg11 HOGc HOXc HGc xc HD7c HD5c HD4c
    go_wp2_with fail
    refine (EQ.out _ _ _ (HOG11.out.at HFN.out) (HRW.out.below HD411.out)).mono ?_
    rintro e w12 ⟨rfl, hb12⟩
    have hs12 := hb12.size
    have HD412 : Hid (Below W4.heap.size W4 w12) := HD411.out.trans (hb12.mono HD411.out.size)
    have HOG12 : Hid (IRow w12 W5.heap.size (.slice ag F.length cg) F) := own_belowPw HOG11.out hb12
    have g12 := (hb12.cell (p := ⟨w7.heap.size, 0, none⟩) hz711).trans g11
    have hz712 : w7.heap.size < w12.heap.size := by omega
    clear hb12 g11 w11c HOG11 HD411
    go_wp2_with fail
    refine (markProgram_any W5.heap.size F.length 1 _ _ _ HOG12.out (by omega) (by omega) (by omega)).mono ?_
    rintro e w13 ⟨rfl, ⟨ys13, hy13, hm13⟩, hg13⟩
    have hs13 := hg13.size
    have HM13 : Hid (MarksAtIn w13 w13.heap.size (.slice ag F.length cg) F.length 1) := MarksAtIn.own hy13 hm13 (by unfold maxLen; omega)
    have HD413 : Hid (Below W4.heap.size W4 w13) := HD412.out.grown hg13 HD412.out.size (fun k hk => by have h1 := (HGB.out k hk).1; have h3 := HS5.out; omega)
    have g13 : w13.cell? ⟨w7.heap.size, 0, none⟩ = some (.slice ag F.length cg) := far_cellI hg13 g12 hz712 (fun e => by have h2 := (HGB.out _ e.symm).2; omega)
    have hz713 : w7.heap.size < w13.heap.size := by omega
    clear hy13 hm13 hg13 g12 HOG12 HD412
    go_wp2_with fail
    refine (heldProgram_any F.length 1 _ _ HM13.out (by omega) (by omega) (by omega)).mono ?_
    rintro e w14 ⟨rfl, hb14⟩
    have hs14 := hb14.size
    have HD414 : Hid (Below W4.heap.size W4 w14) := HD413.out.trans (hb14.mono HD413.out.size)
    have HD114 : Hid (Below W1.heap.size W1 w14) := HD4.out.trans (HD414.out.mono HD4.out.size)
    have HM14 : Hid (MarksAtIn w14 w14.heap.size (.slice ag F.length cg) F.length 1) := HM13.out.below hb14
    have y14 := C0.out _ HD114.out
    have hzw14 : w.heap.size < w14.heap.size := by omega
    have hmn : (0 : Int) ≤ ((1 + F.length * 6 : Nat) : Int) := by omega
    have G14 : Hid (w14.cell? ⟨w7.heap.size, 0, none⟩ = some (.slice ag F.length cg)) := (hb14.cell (p := ⟨w7.heap.size, 0, none⟩) hz713).trans g13
    have hz714 : w7.heap.size < w14.heap.size := by omega
    clear hb14 g13 HM13 HD413
    go_wp2_with fail
    refine (TA.out _ HD114.out).mono ?_
    rintro e w15 ⟨a15, cap15, rfl, ht15, ho15, hb15⟩
    have HT15 : Hid (InsAt w15 w15.heap.size (.slice a15 T.length cap15) T) := ht15
    have HB15 : Hid (Below w14.heap.size w14 w15) := hb15
    clear ht15 ho15 hb15 y14
    go_wp2_with fail
    refine (CI.out _ _ HT15.out).mono ?_
    rintro e w16 ⟨ah, ch, rfl, hoh, hb16⟩
    have HB16 : Hid (Below w14.heap.size w14 w16) := HB15.out.trans (hb16.mono HB15.out.size)
    have HD416 : Hid (Below W4.heap.size W4 w16) := HD414.out.trans (HB16.out.mono HD414.out.size)
    have w16c : w16.cell? ⟨w4.heap.size, 0, none⟩ = some (.slice aw F.length cw) := (HD416.out.cell (p := ⟨w4.heap.size, 0, none⟩) (by have := HS4.out; show w4.heap.size < _; omega)).trans HC4.out
    have hz416 : w4.heap.size < w16.heap.size := by have := HB16.out.size; omega
    obtain ⟨W16, hW16⟩ : ∃ W, W = w16.alloc (.cells #[.slice ah F.length ch] 29) := ⟨_, rfl⟩
    have hBB16 : Below w16.heap.size w16 W16 := by rw [hW16]; exact (Below.refl _ w16).alloc (Nat.le_refl _) _
    have HOH : Hid (InsAt W16 W16.heap.size (.slice ah F.length ch) F) := (hoh.at HFN.out).below hBB16
    have HWW : Hid (InsAt W16 W16.heap.size (.slice aw F.length cw) F) := HRW.out.below (HD416.out.trans (hBB16.mono HD416.out.size))
    have HBB : Hid (Below w14.heap.size w14 W16) := HB16.out.trans (hBB16.mono HB16.out.size)
    clear hb16 hoh HT15 HB15 hBB16
    go_wp2_with fail
    rw [← hW16]
    clear hW16
    refine (EQ.out _ _ _ HOH.out HWW.out).mono ?_
    rintro e w17 ⟨rfl, hb17⟩
    have HB17 : Hid (Below w14.heap.size w14 w17) := HBB.out.trans (hb17.mono HBB.out.size)
    have g17 := (HB17.out.cell (p := ⟨w7.heap.size, 0, none⟩) hz714).trans G14.out
    have HM17 : Hid (MarksAtIn w17 w17.heap.size (.slice ag F.length cg) F.length 1) := HM14.out.below HB17.out
    have hz717 : w7.heap.size < w17.heap.size := by have := HB17.out.size; omega
    clear hb17 HOH HWW w16c
    go_wp2_with fail
    refine (heldProgram_any F.length 1 _ _ HM17.out (by omega) (by omega) (by omega)).mono ?_
    rintro e w18 ⟨rfl, hb18⟩
    have hB18 : Below w.heap.size w w18 := (DN.out _ (HD114.out.trans ((HB17.out.trans (hb18.mono HB17.out.size)).mono HD114.out.size))).1
    clear hb18 g17
    go_wp2
    go_ret
    exact ⟨rfl, hB18⟩

namespace fnExactPeepholeOf
open Go.ChangeShapes Go.WideShapes Go.ChangeAt

theorem own : ownKnob Try.prog.godebug = none := by kernel_rfl
theorem laidOut : laidOutB Try.prog = true := by kernel_rfl

set_option maxRecDepth 100000 in
theorem lifted (os : Os) (started : os.Started) (H : Type) (enc : TypeId × Value → H) :
    ReturnsInHanded {} Try.checked os 6 .any (Rows.fnExactPeepholeOfSpec.pre6 enc Try.prog Try.f6 Rows.fnExactPeepholeOfRow.domain false) (Rows.fnExactPeepholeOfSpec.post enc Try.prog Try.f6 false true false false) := by
  refine returnsInHanded_of_change (C := Try.checked) own started (by kernel_rfl) Try.func6
    (ChangeSpec.witness6 (enc := enc) (C := Try.checked) false ⟨#[], #[.agg #[.slice none 0 0]], []⟩ 8 (by kernel_rfl) (by kernel_rfl) (by kernel_rfl) (by kernel_rfl)) ?_
  intro W base args ds gs before hval0 hW hcnd _
  have hval : ∀ (j : Nat) t v, Try.f6.params[j]? = some t → args[j]? = some v → Value.okWide Try.prog W .any base t v := hval0
  have hW' := hW
  obtain ⟨p, q, hA0, hV, rfl, hfz, hnd⟩ := hW
  have hA : DataW.TrodAll enc Try.prog W 0 (fun _ => true) true Try.f6.params.toList args.toList ds p := hA0
  rw [Try.params6] at hA hval
  obtain ⟨v0, vs0, d0, ds0, p0, q0, hargs, rfl, rfl, h0, r0⟩ := trodAll_cons hA
  obtain ⟨rfl, rfl, rfl⟩ := trodAll_nil r0
  obtain rfl : args = #[v0] := by cases args; simp_all
  obtain ⟨rfl, rfl⟩ := trodVars_none hV
  have h0k := h0
  obtain ⟨v, T, rfl, hT⟩ := open_program (hval 0 24 v0 rfl rfl) h0
  clear hA0 hval0
  have hlt : ∀ x ∈ p0, x.block < W.heap.size := fun x hx => by
    have := hW'.lt x (by simp_all)
    simpa using this
  refine (walkFnExactPeepholeOf T v W hT).mono fun e W' ⟨he, hg⟩ => ?_
  subst he
  exact ⟨_, rfl, _, _, _, [], _, [], hW', trodAll_mk1 (shut_bool Try.underlying4 _), (trodAll_cons_mk (Below.trod laidOut (by kernel_rfl) (of_decide_eq_true (by kernel_rfl)) h0k hg hlt) trodAll_mk0), rfl, hg.frame _, fun h => by cases h⟩

theorem over : Rows.fnExactPeepholeOfRow.holds Try.pinned (OpenSpec.ofChange Rows.fnExactPeepholeOfSpec) :=
  OpenClaim.holds_of_wide 6 Try.f6 rfl rfl rfl rfl rfl rfl rfl ⟨rfl, rfl, rfl, rfl, rfl⟩ rfl rfl rfl rfl rfl (by kernel_rfl) Try.func6 (by kernel_rfl)
    (of_decide_eq_true (by kernel_rfl)) (by unfold Func.isWrapper; first | (rw [if_pos (by decide +kernel)]; kernel_rfl) | (rw [if_neg (by decide +kernel)]; exact ⟨rfl, rfl⟩))
    (fun os started H enc _ => lifted os started H enc)

end fnExactPeepholeOf

theorem fnExactPeepholeOf_holds : Rows.FnExactPeepholeOfSaid := fnExactPeepholeOf.over
#print axioms fnExactPeepholeOf_holds
end Go.Proofs.Ytpopjapcgcnnfaa
