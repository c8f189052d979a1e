/- The program's meetWith. -/
import Derived.Test.YtnbaeplbnonhkaaBxI
import Derived.Test.YtnbaeplbnonhkaaBxE
import Derived.RegionTactic
import Derived.BigRegion
namespace Go.Proofs.Ytnbaeplbnonhkaa
open Go.RowKit Plain Sch Bxs

/-- the common box in the making -/
def mst (x y : Bx) (i : Nat) : Bx := ⟨if 0 < i then mee1 x.a y.a else x.a, if 1 < i then mee1 x.b y.b else x.b, if 2 < i then mee1 x.c y.c else x.c⟩
def nemp (x y : Bx) (i : Nat) : Prop := (0 < i → emp (mee1 x.a y.a) = false) ∧ (1 < i → emp (mee1 x.b y.b) = false) ∧ (2 < i → emp (mee1 x.c y.c) = false)
/-- what meetWith tells -/
def mof9 (x y : Bx) : Bx := if apart x y then zeB else mee x y

theorem apart_a {x y : Bx} (h : emp (mee1 x.a y.a) = true) : apart x y = true := by unfold apart; rw [h]; rfl
theorem apart_b {x y : Bx} (h : emp (mee1 x.b y.b) = true) : apart x y = true := by unfold apart; rw [h]; simp
theorem apart_c {x y : Bx} (h : emp (mee1 x.c y.c) = true) : apart x y = true := by unfold apart; rw [h]; simp
theorem apart_no {x y : Bx} (h : nemp x y 3) : apart x y = false := by
  unfold apart
  rw [h.1 (by omega), h.2.1 (by omega), h.2.2 (by omega)]
  rfl

set_option maxRecDepth 100000 in
set_option maxHeartbeats 8000000 in
theorem meetWith_any (x y : Bx) (w : World) :
    Calls Try.prog 38 #[x.val, y.val] w fun e w' => e = .returned (.tuple #[(mof9 x y).val, .bool (!apart x y)]) ∧ Below w.heap.size w w' := by
  have rc := fun (tmps : Array Value) (P : Program) (w : World) => results_cell_tmpB (fn := Try.f38) (p := 4) (u := 5) (ty := 60) rfl tmps P w
  obtain ⟨W1, hW1⟩ : ∃ W, W = ((w.alloc x.obj).alloc y.obj).alloc zeB.obj := ⟨_, rfl⟩
  have hB1 : Below w.heap.size w W1 := by rw [hW1]; exact (((Below.refl _ w).alloc (Nat.le_refl _) _).alloc (by simp) _).alloc (by simp; omega) _
  have hA0 : Hid (ArrAt W1 w.heap.size x) := by
    show ArrAt _ _ _
    rw [hW1]
    exact ((ArrAt.made w x).kept (Below.heap_alloc _ _ _ (by simp)) (by simp)).kept (Below.heap_alloc _ _ _ (by simp; omega)) (by simp)
  have hA1 : Hid (ArrAt W1 (w.heap.size + 1) y) := by
    show ArrAt _ _ _
    rw [hW1]
    have h := ArrAt.made (w.alloc x.obj) y
    simp only [World.size_alloc] at h
    exact h.kept (Below.heap_alloc _ _ _ (by simp)) (by simp)
  have hA2 : Hid (ArrAt W1 (w.heap.size + 2) zeB) := by
    show ArrAt _ _ _
    rw [hW1]
    have h := ArrAt.made ((w.alloc x.obj).alloc y.obj) zeB
    simp only [World.size_alloc] at h
    exact h
  obtain ⟨R, hR⟩ : ∃ R, R = mof9 x y := ⟨_, rfl⟩
  obtain ⟨G, hG⟩ : ∃ G, G = !apart x y := ⟨_, rfl⟩
  rw [← hR, ← hG]
  have HAp : Hid (apart x y = true → R = zeB ∧ G = false) := fun h => by rw [hR, hG, h]; unfold mof9; rw [h]; exact ⟨rfl, rfl⟩
  have HNo : Hid (nemp x y 3 → R = mst x y 3 ∧ G = true) := fun h => by rw [hR, hG, apart_no h]; unfold mof9; rw [apart_no h]; exact ⟨rfl, rfl⟩
  clear hR hG
  obtain ⟨NE, hNE⟩ : ∃ NE, NE = nemp x y := ⟨_, rfl⟩
  have HNE : Hid (NE = nemp x y) := hNE
  have hNE0 : Hid (NE 0) := by show NE 0; rw [hNE]; exact ⟨fun h => by omega, fun h => by omega, fun h => by omega⟩
  rw [← hNE] at HNo
  clear hNE
  obtain ⟨X, hX⟩ : ∃ X, X = mst x y := ⟨_, rfl⟩
  have HX : Hid (X = mst x y) := hX
  have hX0 : Hid (ArrAt W1 w.heap.size (X 0)) := by rw [hX]; exact hA0
  clear hX hA0
  obtain ⟨⟨x0, x1⟩, ⟨x2, x3⟩, ⟨x4, x5⟩⟩ := x
  obtain ⟨⟨y0, y1⟩, ⟨y2, y3⟩, ⟨y4, y5⟩⟩ := y
  unfold Bx.val
  dsimp only [Bx.obj] at hW1
  have ix0 : ∀ w : World, (Instr.index 60 (.agg #[.int .i64 y0, .int .i64 y1, .int .i64 y2, .int .i64 y3, .int .i64 y4, .int .i64 y5]) (.int .i64 0)).run Try.prog w = .ok (.agg #[.int .i64 y0, .int .i64 y1]) w := fun _ => by kernel_rfl
  have ix1 : ∀ w : World, (Instr.index 60 (.agg #[.int .i64 y0, .int .i64 y1, .int .i64 y2, .int .i64 y3, .int .i64 y4, .int .i64 y5]) (.int .i64 1)).run Try.prog w = .ok (.agg #[.int .i64 y2, .int .i64 y3]) w := fun _ => by kernel_rfl
  have ix2 : ∀ w : World, (Instr.index 60 (.agg #[.int .i64 y0, .int .i64 y1, .int .i64 y2, .int .i64 y3, .int .i64 y4, .int .i64 y5]) (.int .i64 2)).run Try.prog w = .ok (.agg #[.int .i64 y4, .int .i64 y5]) w := fun _ => by kernel_rfl
  obtain ⟨_, ⟨c0, c1, c2, c3, c4, c5⟩, _⟩ := hA1.out
  dsimp only [Nat.zero_add] at c0 c1 c2 c3 c4 c5
  go_enter Try.func38, Try.ntmps38
  go_upto_region 1 with fail
  rw [show ((w.alloc (.cells #[.int .i64 x0, .int .i64 x1, .int .i64 x2, .int .i64 x3, .int .i64 x4, .int .i64 x5] 60)).alloc (.cells #[.int .i64 y0, .int .i64 y1, .int .i64 y2, .int .i64 y3, .int .i64 y4, .int .i64 y5] 60)).alloc (.cells #[.int .i64 0, .int .i64 0, .int .i64 0, .int .i64 0, .int .i64 0, .int .i64 0] 60) = W1 from hW1.symm]
  clear hW1
  go_wp2
  clear c0 c1 c2 c3 c4 c5
  go_loopw [9] (fun vi wr => ∃ i : Nat, i ≤ 3 ∧ vi = .int .i64 (i : Int) ∧ Hid (NE i) ∧ Hid (ArrAt wr w.heap.size (X i)) ∧ Hid (ArrAt wr (w.heap.size + 2) zeB) ∧ Hid (Below w.heap.size w wr))
    (fun vi _ => 3 - (intOf vi).toNat)
  case atStart => exact ⟨0, by omega, rfl, hNE0, hX0, hA2, hB1⟩
  case round =>
    obtain ⟨i, hi, rfl, hne, hAr, hA2r, hBw⟩ := hrel
    clear hX0 hA2 hA1 hB1 hNE0
    have hsz : w.heap.size + 2 < wr.heap.size := hA2r.out.1
    have hcase : i = 0 ∨ i = 1 ∨ i = 2 ∨ i = 3 := by omega
    rcases hcase with rfl | rfl | rfl | rfl
    · obtain ⟨W3, hW3⟩ : ∃ W, W = wr.alloc (.cells #[.int .i64 y0, .int .i64 y1] 58) := ⟨_, rfl⟩
      have hA3 : Below wr.heap.size wr W3 := by rw [hW3]; exact (Below.refl _ wr).alloc (Nat.le_refl _) _
      have z0 : W3.cell? ⟨wr.heap.size, 0, none⟩ = some (.int .i64 y0) := by rw [hW3]; go_simp
      have z1 : W3.cell? ⟨wr.heap.size, 1, none⟩ = some (.int .i64 y1) := by rw [hW3]; go_simp
      have hl3 : wr.heap.size < W3.heap.size := by rw [hW3]; simp
      have hAr3 : Hid (ArrAt W3 w.heap.size (X 0)) := hAr.out.below hA3 (by omega)
      have hA23 : Hid (ArrAt W3 (w.heap.size + 2) zeB) := hA2r.out.below hA3 (by omega)
      have hBw3 : Hid (Below w.heap.size w W3) := hBw.out.trans (hA3.mono (by omega))
      have ha0 : Hid ((X 0).a = ⟨x0, x1⟩) := by rw [HX.out]; rfl
      obtain ⟨M, hM⟩ : ∃ M, M = mee1 ⟨x0, x1⟩ ⟨y0, y1⟩ := ⟨_, rfl⟩
      have HM : Hid (M = mee1 ⟨x0, x1⟩ ⟨y0, y1⟩) := hM
      obtain ⟨W4, hW4⟩ : ∃ W, W = ((W3.setCell ⟨w.heap.size, 0, none⟩ (.int .i64 (if x0 < y0 then y0 else x0))).setCell ⟨w.heap.size, 1, none⟩ (.int .i64 (if y1 < x1 then y1 else x1))).drew := ⟨_, rfl⟩
      have HN : Hid (ArrAt W4 w.heap.size (X 1)) := by
        show ArrAt _ _ _
        rw [hW4]
        have h := hAr3.out.setA (mee1 ⟨x0, x1⟩ ⟨y0, y1⟩)
        rw [HX.out] at h ⊢
        exact h.below ((Below.refl _ _).drew) h.1
      have hm1 : Hid ((X 1).a = M) := by rw [HX.out, hM]; rfl
      have HB : Hid (Below w.heap.size w W4) := by rw [hW4]; exact ((hBw3.out.setCell (p := ⟨w.heap.size, 0, none⟩) (Nat.le_refl _) _).setCell (p := ⟨w.heap.size, 1, none⟩) (Nat.le_refl _) _).drew
      have HZ : Hid (ArrAt W4 (w.heap.size + 2) zeB) := by
        show ArrAt _ _ _
        rw [hW4]
        refine hA23.out.kept ?_ (by simp [World.setCell, World.drew])
        exact (Below.heap_setCell _ _ _ _ (by show w.heap.size + 2 ≠ w.heap.size; omega)).trans (Below.heap_setCell _ _ _ _ (by show w.heap.size + 2 ≠ w.heap.size; omega))
      obtain ⟨_, ⟨c0, c1, c2, c3, c4, c5⟩, cf⟩ := hAr3.out
      have cf0 := cf 0 (by omega)
      have cf1 := cf 1 (by omega)
      rw [ha0.out] at c0 c1
      dsimp only [Nat.zero_add] at c0 c1
      clear cf hA3 hAr3 hA23 hBw3 hAr hA2r hBw hM c2 c3 c4 c5
      go_upto_region 4 with fail
      rw [← hW3]
      clear hW3
      go_region
      rw [← hW4]
      clear hW4 cf0 cf1 c0 c1
      generalize (if x0 < y0 then y0 else x0) = q0
      generalize (if y1 < x1 then y1 else x1) = q1
      obtain ⟨_, ⟨c0, c1, c2, c3, c4, c5⟩, _⟩ := HN.out
      rw [hm1.out] at c0 c1
      (try dsimp only [Nat.zero_add] at c0 c1)
      clear hm1 c2 c3 c4 c5
      have hs4 : w.heap.size + 2 < W4.heap.size := HZ.out.1
      obtain ⟨m0, m1⟩ := M
      (try dsimp only at c0 c1)
      go_wp2_with fail
      refine (isEmpty_any m0 m1 _).mono ?_
      rintro e w5 ⟨rfl, hb5⟩
      have HN5 : Hid (ArrAt w5 w.heap.size (X 1)) := HN.out.below hb5 (by omega)
      have HZ5 : Hid (ArrAt w5 (w.heap.size + 2) zeB) := HZ.out.below hb5 (by omega)
      have HB5 : Hid (Below w.heap.size w w5) := HB.out.trans (hb5.mono (by omega))
      clear hb5 HN HZ HB c0 c1 z0 z1
      by_cases he : m1 < m0
      · have HF : Hid (R = zeB ∧ G = false) := HAp.out (apart_a (by show emp (mee1 ⟨x0, x1⟩ ⟨y0, y1⟩) = true; rw [← HM.out]; show decide (m1 < m0) = true; simpa using he))
        have d1 : decide (m1 < m0) = true := by simpa using he
        rw [d1]
        obtain ⟨_, ⟨d0, d1, d2, d3, d4, d5⟩, xf⟩ := HZ5.out
        have xf0 := xf 0 (by omega)
        have xf1 := xf 1 (by omega)
        have xf2 := xf 2 (by omega)
        have xf3 := xf 3 (by omega)
        have xf4 := xf 4 (by omega)
        have xf5 := xf 5 (by omega)
        dsimp only [zeB, Nat.zero_add] at d0 d1 d2 d3 d4 d5
        clear xf HN5 HZ5 HAp HNo
        go_wp2
        (try simp only [Exit.inBlock, Exit.then])
        refine bodyPost_ret (v := .tuple #[zeB.val, .bool false]) ?_ rfl ⟨by rw [HF.out.1, HF.out.2]; rfl, ?_⟩
        · rw [rc]
          unfold Bx.val zeB
          go_simp
        · exact below_six HB5.out (by omega) _ _ _ _ _ _ _ _ _ _ _ _
      · have HE : emp (mee1 ⟨x0, x1⟩ ⟨y0, y1⟩) = false := by rw [← HM.out]; show decide (m1 < m0) = false; simpa using he
        have HNX : Hid (NE 1) := by
          show NE 1
          have h0 := hne.out
          rw [HNE.out] at h0 ⊢
          exact ⟨fun _ => HE, fun h => by omega, fun h => by omega⟩
        have d1 : decide (m1 < m0) = false := by simpa using he
        rw [d1]
        clear d1 HE
        go_wp2
        go_roundw
        case rel => exact ⟨1, by omega, by go_num, HNX, HN5, HZ5, HB5⟩
        case measure => simp [intOf]
    · obtain ⟨W3, hW3⟩ : ∃ W, W = wr.alloc (.cells #[.int .i64 y2, .int .i64 y3] 58) := ⟨_, rfl⟩
      have hA3 : Below wr.heap.size wr W3 := by rw [hW3]; exact (Below.refl _ wr).alloc (Nat.le_refl _) _
      have z0 : W3.cell? ⟨wr.heap.size, 0, none⟩ = some (.int .i64 y2) := by rw [hW3]; go_simp
      have z1 : W3.cell? ⟨wr.heap.size, 1, none⟩ = some (.int .i64 y3) := by rw [hW3]; go_simp
      have hl3 : wr.heap.size < W3.heap.size := by rw [hW3]; simp
      have hAr3 : Hid (ArrAt W3 w.heap.size (X 1)) := hAr.out.below hA3 (by omega)
      have hA23 : Hid (ArrAt W3 (w.heap.size + 2) zeB) := hA2r.out.below hA3 (by omega)
      have hBw3 : Hid (Below w.heap.size w W3) := hBw.out.trans (hA3.mono (by omega))
      have ha0 : Hid ((X 1).b = ⟨x2, x3⟩) := by rw [HX.out]; rfl
      obtain ⟨M, hM⟩ : ∃ M, M = mee1 ⟨x2, x3⟩ ⟨y2, y3⟩ := ⟨_, rfl⟩
      have HM : Hid (M = mee1 ⟨x2, x3⟩ ⟨y2, y3⟩) := hM
      obtain ⟨W4, hW4⟩ : ∃ W, W = ((W3.setCell ⟨w.heap.size, 2, none⟩ (.int .i64 (if x2 < y2 then y2 else x2))).setCell ⟨w.heap.size, 3, none⟩ (.int .i64 (if y3 < x3 then y3 else x3))).drew := ⟨_, rfl⟩
      have HN : Hid (ArrAt W4 w.heap.size (X 2)) := by
        show ArrAt _ _ _
        rw [hW4]
        have h := hAr3.out.setB (mee1 ⟨x2, x3⟩ ⟨y2, y3⟩)
        rw [HX.out] at h ⊢
        exact h.below ((Below.refl _ _).drew) h.1
      have hm1 : Hid ((X 2).b = M) := by rw [HX.out, hM]; rfl
      have HB : Hid (Below w.heap.size w W4) := by rw [hW4]; exact ((hBw3.out.setCell (p := ⟨w.heap.size, 2, none⟩) (Nat.le_refl _) _).setCell (p := ⟨w.heap.size, 3, none⟩) (Nat.le_refl _) _).drew
      have HZ : Hid (ArrAt W4 (w.heap.size + 2) zeB) := by
        show ArrAt _ _ _
        rw [hW4]
        refine hA23.out.kept ?_ (by simp [World.setCell, World.drew])
        exact (Below.heap_setCell _ _ _ _ (by show w.heap.size + 2 ≠ w.heap.size; omega)).trans (Below.heap_setCell _ _ _ _ (by show w.heap.size + 2 ≠ w.heap.size; omega))
      obtain ⟨_, ⟨c0, c1, c2, c3, c4, c5⟩, cf⟩ := hAr3.out
      have cf0 := cf 2 (by omega)
      have cf1 := cf 3 (by omega)
      rw [ha0.out] at c2 c3
      dsimp only [Nat.zero_add] at c2 c3
      clear cf hA3 hAr3 hA23 hBw3 hAr hA2r hBw hM c0 c1 c4 c5
      go_upto_region 4 with fail
      rw [← hW3]
      clear hW3
      go_region
      rw [← hW4]
      clear hW4 cf0 cf1 c2 c3
      generalize (if x2 < y2 then y2 else x2) = q0
      generalize (if y3 < x3 then y3 else x3) = q1
      obtain ⟨_, ⟨c0, c1, c2, c3, c4, c5⟩, _⟩ := HN.out
      rw [hm1.out] at c2 c3
      (try dsimp only [Nat.zero_add] at c2 c3)
      clear hm1 c0 c1 c4 c5
      have hs4 : w.heap.size + 2 < W4.heap.size := HZ.out.1
      obtain ⟨m0, m1⟩ := M
      (try dsimp only at c2 c3)
      go_wp2_with fail
      refine (isEmpty_any m0 m1 _).mono ?_
      rintro e w5 ⟨rfl, hb5⟩
      have HN5 : Hid (ArrAt w5 w.heap.size (X 2)) := HN.out.below hb5 (by omega)
      have HZ5 : Hid (ArrAt w5 (w.heap.size + 2) zeB) := HZ.out.below hb5 (by omega)
      have HB5 : Hid (Below w.heap.size w w5) := HB.out.trans (hb5.mono (by omega))
      clear hb5 HN HZ HB c2 c3 z0 z1
      by_cases he : m1 < m0
      · have HF : Hid (R = zeB ∧ G = false) := HAp.out (apart_b (by show emp (mee1 ⟨x2, x3⟩ ⟨y2, y3⟩) = true; rw [← HM.out]; show decide (m1 < m0) = true; simpa using he))
        have d1 : decide (m1 < m0) = true := by simpa using he
        rw [d1]
        obtain ⟨_, ⟨d0, d1, d2, d3, d4, d5⟩, xf⟩ := HZ5.out
        have xf0 := xf 0 (by omega)
        have xf1 := xf 1 (by omega)
        have xf2 := xf 2 (by omega)
        have xf3 := xf 3 (by omega)
        have xf4 := xf 4 (by omega)
        have xf5 := xf 5 (by omega)
        dsimp only [zeB, Nat.zero_add] at d0 d1 d2 d3 d4 d5
        clear xf HN5 HZ5 HAp HNo
        go_wp2
        (try simp only [Exit.inBlock, Exit.then])
        refine bodyPost_ret (v := .tuple #[zeB.val, .bool false]) ?_ rfl ⟨by rw [HF.out.1, HF.out.2]; rfl, ?_⟩
        · rw [rc]
          unfold Bx.val zeB
          go_simp
        · exact below_six HB5.out (by omega) _ _ _ _ _ _ _ _ _ _ _ _
      · have HE : emp (mee1 ⟨x2, x3⟩ ⟨y2, y3⟩) = false := by rw [← HM.out]; show decide (m1 < m0) = false; simpa using he
        have HNX : Hid (NE 2) := by
          show NE 2
          have h0 := hne.out
          rw [HNE.out] at h0 ⊢
          exact ⟨fun _ => h0.1 (by omega), fun _ => HE, fun h => by omega⟩
        have d1 : decide (m1 < m0) = false := by simpa using he
        rw [d1]
        clear d1 HE
        go_wp2
        go_roundw
        case rel => exact ⟨2, by omega, by go_num, HNX, HN5, HZ5, HB5⟩
        case measure => simp [intOf]
    · obtain ⟨W3, hW3⟩ : ∃ W, W = wr.alloc (.cells #[.int .i64 y4, .int .i64 y5] 58) := ⟨_, rfl⟩
      have hA3 : Below wr.heap.size wr W3 := by rw [hW3]; exact (Below.refl _ wr).alloc (Nat.le_refl _) _
      have z0 : W3.cell? ⟨wr.heap.size, 0, none⟩ = some (.int .i64 y4) := by rw [hW3]; go_simp
      have z1 : W3.cell? ⟨wr.heap.size, 1, none⟩ = some (.int .i64 y5) := by rw [hW3]; go_simp
      have hl3 : wr.heap.size < W3.heap.size := by rw [hW3]; simp
      have hAr3 : Hid (ArrAt W3 w.heap.size (X 2)) := hAr.out.below hA3 (by omega)
      have hA23 : Hid (ArrAt W3 (w.heap.size + 2) zeB) := hA2r.out.below hA3 (by omega)
      have hBw3 : Hid (Below w.heap.size w W3) := hBw.out.trans (hA3.mono (by omega))
      have ha0 : Hid ((X 2).c = ⟨x4, x5⟩) := by rw [HX.out]; rfl
      obtain ⟨M, hM⟩ : ∃ M, M = mee1 ⟨x4, x5⟩ ⟨y4, y5⟩ := ⟨_, rfl⟩
      have HM : Hid (M = mee1 ⟨x4, x5⟩ ⟨y4, y5⟩) := hM
      obtain ⟨W4, hW4⟩ : ∃ W, W = ((W3.setCell ⟨w.heap.size, 4, none⟩ (.int .i64 (if x4 < y4 then y4 else x4))).setCell ⟨w.heap.size, 5, none⟩ (.int .i64 (if y5 < x5 then y5 else x5))).drew := ⟨_, rfl⟩
      have HN : Hid (ArrAt W4 w.heap.size (X 3)) := by
        show ArrAt _ _ _
        rw [hW4]
        have h := hAr3.out.setC (mee1 ⟨x4, x5⟩ ⟨y4, y5⟩)
        rw [HX.out] at h ⊢
        exact h.below ((Below.refl _ _).drew) h.1
      have hm1 : Hid ((X 3).c = M) := by rw [HX.out, hM]; rfl
      have HB : Hid (Below w.heap.size w W4) := by rw [hW4]; exact ((hBw3.out.setCell (p := ⟨w.heap.size, 4, none⟩) (Nat.le_refl _) _).setCell (p := ⟨w.heap.size, 5, none⟩) (Nat.le_refl _) _).drew
      have HZ : Hid (ArrAt W4 (w.heap.size + 2) zeB) := by
        show ArrAt _ _ _
        rw [hW4]
        refine hA23.out.kept ?_ (by simp [World.setCell, World.drew])
        exact (Below.heap_setCell _ _ _ _ (by show w.heap.size + 2 ≠ w.heap.size; omega)).trans (Below.heap_setCell _ _ _ _ (by show w.heap.size + 2 ≠ w.heap.size; omega))
      obtain ⟨_, ⟨c0, c1, c2, c3, c4, c5⟩, cf⟩ := hAr3.out
      have cf0 := cf 4 (by omega)
      have cf1 := cf 5 (by omega)
      rw [ha0.out] at c4 c5
      dsimp only [Nat.zero_add] at c4 c5
      clear cf hA3 hAr3 hA23 hBw3 hAr hA2r hBw hM c0 c1 c2 c3
      go_upto_region 4 with fail
      rw [← hW3]
      clear hW3
      go_region
      rw [← hW4]
      clear hW4 cf0 cf1 c4 c5
      generalize (if x4 < y4 then y4 else x4) = q0
      generalize (if y5 < x5 then y5 else x5) = q1
      obtain ⟨_, ⟨c0, c1, c2, c3, c4, c5⟩, _⟩ := HN.out
      rw [hm1.out] at c4 c5
      (try dsimp only [Nat.zero_add] at c4 c5)
      clear hm1 c0 c1 c2 c3
      have hs4 : w.heap.size + 2 < W4.heap.size := HZ.out.1
      obtain ⟨m0, m1⟩ := M
      (try dsimp only at c4 c5)
      go_wp2_with fail
      refine (isEmpty_any m0 m1 _).mono ?_
      rintro e w5 ⟨rfl, hb5⟩
      have HN5 : Hid (ArrAt w5 w.heap.size (X 3)) := HN.out.below hb5 (by omega)
      have HZ5 : Hid (ArrAt w5 (w.heap.size + 2) zeB) := HZ.out.below hb5 (by omega)
      have HB5 : Hid (Below w.heap.size w w5) := HB.out.trans (hb5.mono (by omega))
      clear hb5 HN HZ HB c4 c5 z0 z1
      by_cases he : m1 < m0
      · have HF : Hid (R = zeB ∧ G = false) := HAp.out (apart_c (by show emp (mee1 ⟨x4, x5⟩ ⟨y4, y5⟩) = true; rw [← HM.out]; show decide (m1 < m0) = true; simpa using he))
        have d1 : decide (m1 < m0) = true := by simpa using he
        rw [d1]
        obtain ⟨_, ⟨d0, d1, d2, d3, d4, d5⟩, xf⟩ := HZ5.out
        have xf0 := xf 0 (by omega)
        have xf1 := xf 1 (by omega)
        have xf2 := xf 2 (by omega)
        have xf3 := xf 3 (by omega)
        have xf4 := xf 4 (by omega)
        have xf5 := xf 5 (by omega)
        dsimp only [zeB, Nat.zero_add] at d0 d1 d2 d3 d4 d5
        clear xf HN5 HZ5 HAp HNo
        go_wp2
        (try simp only [Exit.inBlock, Exit.then])
        refine bodyPost_ret (v := .tuple #[zeB.val, .bool false]) ?_ rfl ⟨by rw [HF.out.1, HF.out.2]; rfl, ?_⟩
        · rw [rc]
          unfold Bx.val zeB
          go_simp
        · exact below_six HB5.out (by omega) _ _ _ _ _ _ _ _ _ _ _ _
      · have HE : emp (mee1 ⟨x4, x5⟩ ⟨y4, y5⟩) = false := by rw [← HM.out]; show decide (m1 < m0) = false; simpa using he
        have HNX : Hid (NE 3) := by
          show NE 3
          have h0 := hne.out
          rw [HNE.out] at h0 ⊢
          exact ⟨fun _ => h0.1 (by omega), fun _ => h0.2.1 (by omega), fun _ => HE⟩
        have d1 : decide (m1 < m0) = false := by simpa using he
        rw [d1]
        clear d1 HE
        go_wp2
        go_roundw
        case rel => exact ⟨3, by omega, by go_num, HNX, HN5, HZ5, HB5⟩
        case measure => simp [intOf]
    · obtain ⟨_, ⟨c0, c1, c2, c3, c4, c5⟩, _⟩ := hAr.out
      have HF : Hid (R = X 3 ∧ G = true) := by rw [HX.out]; exact HNo.out hne.out
      generalize X 3 = P at c0 c1 c2 c3 c4 c5 HF hAr
      obtain ⟨⟨p0, p1⟩, ⟨p2, p3⟩, ⟨p4, p5⟩⟩ := P
      obtain ⟨_, ⟨d0, d1, d2, d3, d4, d5⟩, xf⟩ := hA2r.out
      have xf0 := xf 0 (by omega)
      have xf1 := xf 1 (by omega)
      have xf2 := xf 2 (by omega)
      have xf3 := xf 3 (by omega)
      have xf4 := xf 4 (by omega)
      have xf5 := xf 5 (by omega)
      dsimp only [zeB, Nat.zero_add] at c0 c1 c2 c3 c4 c5 d0 d1 d2 d3 d4 d5
      clear xf hAr hA2r HAp HNo
      go_wp2
      (try simp only [Exit.inBlock, Exit.then])
      refine bodyPost_ret (v := .tuple #[.agg #[.int .i64 p0, .int .i64 p1, .int .i64 p2, .int .i64 p3, .int .i64 p4, .int .i64 p5], .bool true]) ?_ rfl ⟨by rw [HF.out.1, HF.out.2], ?_⟩
      · rw [rc]
        go_simp
      · exact below_six hBw.out (by omega) _ _ _ _ _ _ _ _ _ _ _ _

end Go.Proofs.Ytnbaeplbnonhkaa
