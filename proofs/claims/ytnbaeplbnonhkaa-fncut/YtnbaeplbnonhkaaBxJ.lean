/- The program's sidesOfPoint, BoxHas. -/
import Derived.Test.YtnbaeplbnonhkaaBxX
import Derived.Test.YtnbaeplbnonhkaaBxC
import Derived.Test.YtnbaeplbnonhkaaBxB
import Derived.Test.YtnbaeplbnonhkaaBxD
import Derived.Test.YtnbaeplbnonhkaaZnA
namespace Go.Proofs.Ytnbaeplbnonhkaa
open Go.RowKit Plain Sch Bxs

/-- the sides of the box that has one point alone -/
def dup (p : List Int) : List Sd := p.map fun n => ⟨n, n⟩

theorem dup_len (p : List Int) : (dup p).length = p.length := by unfold dup; simp

theorem dup_take (p : List Int) (i : Nat) (x : Int) (h : p[i]? = some x) : (dup p).take (i + 1) = (dup p).take i ++ [⟨x, x⟩] := by
  rw [List.take_add_one]
  unfold dup
  rw [List.getElem?_map, h]
  rfl

set_option maxRecDepth 100000 in
set_option maxHeartbeats 4000000 in
theorem sidesOfPoint_any (p : List Int) (v : Value) (w : World) (hp : ZAt w w.heap.size v p) :
    Calls Try.prog 42 #[v] w fun e w' => e = .returned (.tuple #[(sof (dup p)).val, .bool (gb (dup p))]) ∧ Below w.heap.size w w' := by
  obtain ⟨i0, hi0, hz0, hz1', hz2⟩ := info_parts Try.infoSd
  have rc := fun (tmps : Array Value) (P : Program) (w : World) => results_cell_tmpB (fn := Try.f42) (p := 2) (u := 3) (ty := 60) rfl tmps P w
  obtain ⟨ao, cap, rfl, hlc, hcm, hrow⟩ := hp
  unfold maxLen at hcm
  have HROW : Hid (∀ i (x : Int), p[i]? = some x → ∃ g o, ao = some ⟨g, o, none⟩ ∧ g < w.heap.size ∧ w.cell? ⟨g, o + i, none⟩ = some (.int .i64 x)) := hrow
  clear hrow
  obtain ⟨R, hR⟩ : ∃ R, R = sof (dup p) := ⟨_, rfl⟩
  obtain ⟨G, hG⟩ : ∃ G, G = gb (dup p) := ⟨_, rfl⟩
  rw [← hR, ← hG]
  have HR : Hid (R = sof (dup p)) := hR
  have HG : Hid (G = gb (dup p)) := hG
  clear hR hG
  obtain ⟨W1, hW1⟩ : ∃ W, W = w.alloc zeB.obj := ⟨_, rfl⟩
  have hB1 : Below w.heap.size w W1 := by rw [hW1]; exact (Below.refl _ w).alloc (Nat.le_refl _) _
  have hA2 : Hid (ArrAt W1 w.heap.size zeB) := by rw [hW1]; exact ArrAt.made w zeB
  have hs1 : Hid (W1.heap.size = w.heap.size + 1) := by show _ = _; rw [hW1]; simp
  dsimp only [Bx.obj, zeB] at hW1
  by_cases h3 : p.length = 3
  · have h3' : ((p.length : Int) != 3) = false := by simp [h3]
    have HL3 : Hid (p.length = 3) := h3
    have hle3 : p.length ≤ 3 := by omega
    clear h3
    obtain ⟨W2, hW2⟩ : ∃ W, W = W1.alloc (.cells #[.slice none 0 0] 25) := ⟨_, rfl⟩
    have hB12 : Below W1.heap.size W1 W2 := by rw [hW2]; exact (Below.refl _ W1).alloc (Nat.le_refl _) _
    have hV0 : Hid (BVar W2 W1.heap.size (.slice none 0 0) []) := by rw [hW2]; exact BVar.made W1
    have hB2 : Below w.heap.size w W2 := hB1.trans (hB12.mono hB1.size)
    have hA22 : Hid (ArrAt W2 w.heap.size zeB) := hA2.out.below hB12 hA2.out.1
    obtain ⟨bo, hbo⟩ : ∃ b, b = W1.heap.size := ⟨_, rfl⟩
    rw [← hbo] at hV0
    have hb1 : w.heap.size < bo := by rw [hbo, hs1.out]; omega
    have hbz2 : bo < W2.heap.size := hV0.out.2.2.2
    go_enter Try.func42, Try.ntmps42
    go_upto_region 3 with fail
    rw [← hW1]
    clear hW1 hA2
    go_upto_region 4 with fail
    rw [← hW2, ← hbo]
    clear hW2 hbo hB12 hs1 hB1
    go_wp2
    go_loopw [13] (fun vi wr => ∃ (i : Nat) (v : Value), i ≤ p.length ∧ vi = .int .i64 (i : Int) ∧ Hid (BVar wr bo v ((dup p).take i)) ∧ Hid (Below bo W2 wr))
      (fun vi _ => p.length - (intOf vi).toNat)
    case atStart => exact ⟨0, _, by omega, rfl, hV0, Below.refl _ _⟩
    case round =>
      obtain ⟨i, v0, hi, rfl, hV, hBw⟩ := hrel
      clear hV0
      obtain ⟨av, cv, hv0⟩ := hV.out.slice
      obtain ⟨L, hL⟩ : ∃ L, L = (dup p).take i := ⟨_, rfl⟩
      have HL : Hid (L = (dup p).take i) := hL
      rw [← hL] at hV hv0
      have hLl3 : L.length ≤ 3 := by rw [hL, List.length_take]; omega
      clear hL
      subst hv0
      have hB0 : Below w.heap.size w wr := hB2.trans (hBw.out.mono (by omega))
      have hbz : bo < wr.heap.size := hV.out.2.2.2
      by_cases hlt : i < p.length
      · have hlt' : (i : Int) < (p.length : Int) := by omega
        obtain ⟨x, hx⟩ : ∃ x, p[i]? = some x := ⟨_, List.getElem?_eq_getElem hlt⟩
        obtain ⟨g, o, rfl, hg, hc⟩ := HROW.out i x hx
        have c0 := (hB0.cell (p := ⟨g, o + i, none⟩) hg).trans hc
        have HPS : Hid ((dup p).take (i + 1) = (dup p).take i ++ [⟨x, x⟩]) := dup_take p i x hx
        have hgr : g < wr.heap.size := by omega
        have c5 := hV.out.1
        clear hc hx
        go_wp2_with (at_builtin; refine wpList_append_lies _ rfl _ _ 23 rfl (bo + 1) 58 i0 (.agg #[.int .i64 0, .int .i64 0]) 2 16 Try.underlying23 hi0 hz0 hz1' hz2 rfl (by decide) _ L.length _ rfl (World.ownsRow.alloc hV.out.2.2.1 _) ⟨wr.heap.size, 0, none⟩ 1 1 [.int .i64 x, .int .i64 x] rfl rfl (World.news_of_block (heap_alloc_new wr _)) (one2S _ _) (by omega) (by unfold maxLen; omega) (by omega) (by simp; omega) (wr.heap.size + 1) (by simp) ?_)
        intro g9 cap9 w9 hown9 hgrow9 hat9 hlt9
        obtain ⟨c9, f9, l9, hV9, hB9⟩ := hV.out.next (s := ⟨x, x⟩) hown9 hgrow9
        have HV9 : Hid (BVar (w9.setCell ⟨bo, 0, none⟩ (.slice (some ⟨g9, 0, none⟩) (L.length + 1) cap9)) bo (.slice (some ⟨g9, 0, none⟩) (L.length + 1) cap9) ((dup p).take i ++ [⟨x, x⟩])) := by rw [← HL.out]; exact hV9
        have HB9 : Hid (Below bo W2 (w9.setCell ⟨bo, 0, none⟩ (.slice (some ⟨g9, 0, none⟩) (L.length + 1) cap9))) := hBw.out.trans hB9
        clear hown9 hgrow9 hat9 hlt9 hV9 hB9 hV hBw c5
        go_wp2
        go_roundw
        case rel => exact ⟨i + 1, _, by omega, by go_num, by show BVar _ _ _ _; rw [HPS.out]; exact HV9.out, HB9⟩
        case measure => simp [intOf]; omega
      · have hke : i = p.length := by omega
        subst hke
        have hge : ¬ ((p.length : Int) < (p.length : Int)) := by omega
        have hLe : Hid (L = dup p) := by rw [HL.out]; exact List.take_of_length_le (by rw [dup_len]; exact Nat.le_refl _)
        have HSD : Hid (SdsAt wr wr.heap.size (.slice av L.length cv) (dup p)) := by
          have h := SdsAt.own hV.out.2.2.1
          rw [hLe.out] at h ⊢
          exact h
        have c5 := hV.out.1
        have hAr : Hid (ArrAt wr w.heap.size zeB) := hA22.out.below hBw.out hb1
        clear hV
        go_wp2_with fail
        refine (sidesOf_any (dup p) _ _ HSD.out).mono ?_
        rintro e w7 ⟨rfl, hb7⟩
        have hB7 : Below w.heap.size w w7 := hB0.trans (hb7.mono hB0.size)
        obtain ⟨_, ⟨d0, d1, d2, d3, d4, d5⟩, xf⟩ := hAr.out.below hb7 hAr.out.1
        rw [← HR.out, ← HG.out]
        have xf0 := xf 0 (by omega)
        have xf1 := xf 1 (by omega)
        have xf2 := xf 2 (by omega)
        have xf3 := xf 3 (by omega)
        have xf4 := xf 4 (by omega)
        have xf5 := xf 5 (by omega)
        dsimp only [zeB, Nat.zero_add] at d0 d1 d2 d3 d4 d5
        clear xf HR HG hAr c5
        obtain ⟨⟨p0, p1⟩, ⟨p2, p3⟩, ⟨p4, p5⟩⟩ := R
        unfold Bx.val
        go_wp2
        (try simp only [Exit.inBlock, Exit.then])
        refine bodyPost_ret (v := .tuple #[.agg #[.int .i64 p0, .int .i64 p1, .int .i64 p2, .int .i64 p3, .int .i64 p4, .int .i64 p5], .bool G]) ?_ rfl ⟨rfl, ?_⟩
        · rw [rc]
          go_simp
        · exact below_six hB7 (Nat.le_refl _) _ _ _ _ _ _ _ _ _ _ _ _
  · have h3' : ((p.length : Int) != 3) = true := by simp; omega
    have hF : gb (dup p) = false := gb_len (by rw [dup_len]; exact h3)
    have HZ : Hid (R = zeB ∧ G = false) := ⟨by rw [HR.out]; unfold sof; rw [hF]; rfl, HG.out.trans hF⟩
    obtain ⟨_, ⟨x0, x1, x2, x3, x4, x5⟩, xf⟩ := hA2.out
    have xf0 := xf 0 (by omega)
    have xf1 := xf 1 (by omega)
    have xf2 := xf 2 (by omega)
    have xf3 := xf 3 (by omega)
    have xf4 := xf 4 (by omega)
    have xf5 := xf 5 (by omega)
    dsimp only [zeB, Nat.zero_add] at x0 x1 x2 x3 x4 x5
    clear xf hF HR HG
    go_enter Try.func42, Try.ntmps42
    go_upto_region 1 with fail
    rw [← hW1]
    clear hW1
    go_wp2
    (try simp only [Exit.inBlock, Exit.then])
    refine bodyPost_ret (v := .tuple #[zeB.val, .bool false]) ?_ rfl ⟨by rw [HZ.out.1, HZ.out.2], ?_⟩
    · rw [rc]
      unfold Bx.val zeB
      go_simp
    · exact below_six hB1 (Nat.le_refl _) _ _ _ _ _ _ _ _ _ _ _ _

set_option maxRecDepth 100000 in
set_option maxHeartbeats 4000000 in
theorem implHas (T : List Sd) (p : List Int) (v u : Value) (w : World) (hT : SdsAt w w.heap.size v T) (hp : ZAt w w.heap.size u p) :
    Calls Try.prog 16 #[.agg #[v], u] w fun e w' => e = .returned (.tuple #[.bool (cvo T (dup p)), .bool (gb T && gb (dup p))]) ∧ Below w.heap.size w w' := by
  have HT : Hid (SdsAt w w.heap.size v T) := hT
  have HP : Hid (ZAt w w.heap.size u p) := hp
  obtain ⟨ao, cap, rfl, _⟩ := hT
  obtain ⟨bo, dap, rfl, _⟩ := hp
  obtain ⟨W1, hW1⟩ : ∃ W, W = w.alloc (.cells #[.slice ao T.length cap] 25) := ⟨_, rfl⟩
  have hB1 : Below w.heap.size w W1 := by rw [hW1]; exact (Below.refl _ w).alloc (Nat.le_refl _) _
  have q0 : W1.cell? ⟨w.heap.size, 0, none⟩ = some (.slice ao T.length cap) := by rw [hW1]; go_simp
  obtain ⟨X, hX⟩ : ∃ X, X = sof T := ⟨_, rfl⟩
  obtain ⟨Y, hY⟩ : ∃ Y, Y = sof (dup p) := ⟨_, rfl⟩
  obtain ⟨g1, hg1⟩ : ∃ g, g = gb T := ⟨_, rfl⟩
  obtain ⟨g2, hg2⟩ : ∃ g, g = gb (dup p) := ⟨_, rfl⟩
  obtain ⟨R, hR⟩ : ∃ R, R = cvo T (dup p) := ⟨_, rfl⟩
  rw [← hR, ← hg1, ← hg2]
  have HNo : Hid ((g1 && g2) = false → R = false) := fun h => by rw [hR]; unfold cvo; rw [← hg1, ← hg2, h]; rfl
  have HYes : Hid (g1 = true → g2 = true → R = cov X Y) := fun h1 h2 => by
    rw [hR, hX, hY]
    unfold cvo sof
    rw [← hg1, ← hg2, h1, h2]
    rfl
  have S1 : Hid (∀ W v, SdsAt W W.heap.size v T → Calls Try.prog 40 #[.agg #[v]] W fun e w' => e = .returned (.tuple #[X.val, .bool g1]) ∧ Below W.heap.size W w') := fun W v h => by rw [hX, hg1]; exact sidesOf_any T v W h
  have S2 : Hid (∀ W v, ZAt W W.heap.size v p → Calls Try.prog 42 #[v] W fun e w' => e = .returned (.tuple #[Y.val, .bool g2]) ∧ Below W.heap.size W w') := fun W v h => by rw [hY, hg2]; exact sidesOfPoint_any p v W h
  clear hR hX hY hg1 hg2
  go_enter Try.func16, Try.ntmps16
  go_upto_region 1 with fail
  rw [← hW1]
  clear hW1
  go_wp2_with fail
  refine (S1.out _ _ (HT.out.below hB1)).mono ?_
  rintro e w2 ⟨rfl, hb2⟩
  have hB2 : Below w.heap.size w w2 := hB1.trans (hb2.mono hB1.size)
  obtain ⟨W3, hW3⟩ : ∃ W, W = w2.alloc X.obj := ⟨_, rfl⟩
  have hA6 : Hid (ArrAt W3 w2.heap.size X) := by rw [hW3]; exact ArrAt.made w2 X
  have hB3 : Below w.heap.size w W3 := by rw [hW3]; exact hB2.alloc hB2.size _
  have hz3 : w2.heap.size < W3.heap.size := hA6.out.1
  obtain ⟨⟨x0, x1⟩, ⟨x2, x3⟩, ⟨x4, x5⟩⟩ := X
  unfold Bx.val
  dsimp only [Bx.obj] at hW3
  dsimp only
  clear hb2 q0
  go_upto_region 2 with fail
  rw [← hW3]
  clear hW3
  go_wp2_with fail
  refine (S2.out _ _ (HP.out.below hB3)).mono ?_
  rintro e w4 ⟨rfl, hb4⟩
  have hz4 := hb4.size
  have hB4 : Below w.heap.size w w4 := hB3.trans (hb4.mono hB3.size)
  obtain ⟨W5, hW5⟩ : ∃ W, W = w4.alloc Y.obj := ⟨_, rfl⟩
  have hA8 : Hid (ArrAt W5 w4.heap.size Y) := by rw [hW5]; exact ArrAt.made w4 Y
  have hB45 : Hid (Below w4.heap.size w4 W5) := by rw [hW5]; exact (Below.refl _ w4).alloc (Nat.le_refl _) _
  have hB5 : Below w.heap.size w W5 := hB4.trans (hB45.out.mono hB4.size)
  have hA65 := (hA6.out.below hb4 (by omega)).below hB45.out (by omega)
  have hz5 : w4.heap.size < W5.heap.size := hA8.out.1
  obtain ⟨⟨y0, y1⟩, ⟨y2, y3⟩, ⟨y4, y5⟩⟩ := Y
  unfold Bx.val
  dsimp only [Bx.obj] at hW5
  dsimp only
  obtain ⟨_, ⟨c0, c1, c2, c3, c4, c5⟩, _⟩ := hA65
  obtain ⟨_, ⟨d0, d1, d2, d3, d4, d5⟩, _⟩ := hA8.out
  dsimp only [Nat.zero_add] at c0 c1 c2 c3 c4 c5 d0 d1 d2 d3 d4 d5
  clear hb4 hA6 hA8 hB45 S1 S2
  go_upto_region 3 with fail
  rw [← hW5]
  clear hW5
  cases g1 with
  | false =>
    have hF : Hid (R = false) := HNo.out rfl
    clear HNo HYes
    go_wp2
    go_ret2
    exact ⟨by rw [hF.out]; rfl, hB5⟩
  | true =>
    cases g2 with
    | false =>
      have hF : Hid (R = false) := HNo.out rfl
      clear HNo HYes
      go_wp2
      go_ret2
      exact ⟨by rw [hF.out]; rfl, hB5⟩
    | true =>
      have hF : Hid (R = cov ⟨⟨x0, x1⟩, ⟨x2, x3⟩, ⟨x4, x5⟩⟩ ⟨⟨y0, y1⟩, ⟨y2, y3⟩, ⟨y4, y5⟩⟩) := HYes.out rfl rfl
      clear HNo HYes
      go_wp2_with fail
      refine (covers_any ⟨⟨x0, x1⟩, ⟨x2, x3⟩, ⟨x4, x5⟩⟩ ⟨⟨y0, y1⟩, ⟨y2, y3⟩, ⟨y4, y5⟩⟩ _).mono ?_
      rintro e w6 ⟨rfl, hb6⟩
      have hB6 : Below w.heap.size w w6 := hB5.trans (hb6.mono hB5.size)
      rw [← hF.out]
      go_wp2
      go_ret2
      exact ⟨rfl, hB6⟩

end Go.Proofs.Ytnbaeplbnonhkaa
